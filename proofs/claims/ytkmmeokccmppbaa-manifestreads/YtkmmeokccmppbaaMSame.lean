/- The reference's Same: are two manifests the same? -/
import Derived.Test.YtkmmeokccmppbaaMLive
import Derived.Test.YtkmmeokccmppbaaEq32
namespace Go.Proofs.Ytkmmeokccmppbaa
open Go.RowKit
/-- The first k layers are the same. -/
def sameTo (a b : List (List UInt8)) (k : Nat) : Prop := ∀ i, i < k → a[i]? = b[i]?
theorem sameTo_next {a b : List (List UInt8)} {k : Nat} (h : sameTo a b k) (hk : a[k]? = b[k]?) : sameTo a b (k + 1) := fun i hi => by
  by_cases e : i = k
  · subst e; exact hk
  · exact h i (by omega)
theorem sameTo_all {a b : List (List UInt8)} (hl : a.length = b.length) (h : sameTo a b a.length) : a = b := by
  apply List.ext_getElem?
  intro i
  by_cases hi : i < a.length
  · exact h i hi
  · rw [List.getElem?_eq_none (by omega), List.getElem?_eq_none (by omega)]
def sameM (a b : MS) : Bool := decide (a.os = b.os) && (decide (a.arch = b.arch) && decide (a.ls = b.ls))
theorem sameM_iff {a b : MS} : sameM a b = true ↔ a = b := by
  cases a; cases b; simp [sameM, MS.mk.injEq]
theorem sameM_no {a b : MS} (h : a ≠ b) : sameM a b = false := by
  cases hs : sameM a b with
  | false => rfl
  | true => exact absurd (sameM_iff.1 hs) h
set_option maxHeartbeats 1000000 in
set_option maxRecDepth 100000 in
theorem same_lists (o1 a1 o2 a2 : List UInt8) (l1 l2 : List (List UInt8)) (la lb : Option Addr) (ca cb : Nat) (w : World) (hla : layersAt w la l1) (hlb : layersAt w lb l2) (hn : l1.length ≤ 9223372036854775807) (hnb : l2.length ≤ 9223372036854775807) :
    Calls Try.prog 12 #[.agg #[str o1, str a1, .slice la l1.length ca], .agg #[str o2, str a2, .slice lb l2.length cb]] w fun e w' => e = .returned (.bool (sameM ⟨o1, a1, l1⟩ ⟨o2, a2, l2⟩)) ∧ Below w.heap.size w w' := by
  obtain ⟨n1, n2, n3, n4⟩ := new2 w (.cells #[str o1, str a1, .slice la l1.length ca] 26) (.cells #[str o2, str a2, .slice lb l2.length cb] 26)
  have HA := hid n1
  have HBk := hid n2
  have HB := hid n3
  have HLA := hid (hla.below n3)
  have HLB := hid (hlb.below n3)
  clear n1 n2 n3 n4 hla hlb
  by_cases h1 : o1 = o2
  · subst h1
    by_cases h2 : a1 = a2
    · subst h2
      by_cases h3 : l1.length = l2.length
      · have q3 : ((l1.length : Int) == (l2.length : Int)) = true := by rw [beq_iff_eq]; omega
        have q4 : ((l1.length : Int) != (l2.length : Int)) = false := by rw [bne_eq_false_iff_eq]; omega
        have H3 := hid h3
        clear h3
        go_enter Try.func12, Try.ntmps12
        go_wp2
        generalize (w.alloc (.cells #[str o1, str a1, .slice la l1.length ca] 26)).alloc (.cells #[str o1, str a1, .slice lb l2.length cb] 26) = w1 at *
        go_loopw [5] (fun i wr => ∃ k : Nat, k ≤ l1.length ∧ i = .int .i64 k ∧ Hid (sameTo l1 l2 k) ∧ Hid (Below w1.heap.size w1 wr)) (fun i _ => l1.length - (intOf i).toNat)
        case atStart => exact ⟨0, by omega, rfl, fun i hi => by omega, Below.refl _ _⟩
        case round =>
          obtain ⟨k, hk, rfl, hS, hB⟩ := hrel
          have c0 : wr.cell? ⟨w.heap.size, 2, none⟩ = some (.slice la l1.length ca) := cell_of_block ((hB.out.block _ (lt_of_heap HA.out)).trans HA.out) 2
          have c1 : wr.cell? ⟨w.heap.size + 1, 2, none⟩ = some (.slice lb l2.length cb) := cell_of_block ((hB.out.block _ (lt_of_heap HBk.out)).trans HBk.out) 2
          by_cases hlt : k < l1.length
          · have hk0 : (0 : Int) ≤ (k : Int) := by omega
            have hk1 : (k : Int) < (l1.length : Int) := by omega
            have hk2 : (k : Int) < (l2.length : Int) := by rw [← H3.out]; omega
            have hlt2 : k < l2.length := by rw [← H3.out]; exact hlt
            obtain ⟨b1, o1', rfl, _, r1⟩ := (HLA.out.below hB.out).2 k hlt
            obtain ⟨b2, o2', rfl, _, r2⟩ := (HLB.out.below hB.out).2 k hlt2
            have e1 := HLA.out.1 l1[k] (List.getElem_mem hlt)
            have e2 := HLB.out.1 l2[k] (List.getElem_mem hlt2)
            have HS : Hid (l1[k] = l2[k] → sameTo l1 l2 (k + 1)) := fun e => sameTo_next hS.out (by rw [List.getElem?_eq_getElem hlt, List.getElem?_eq_getElem hlt2, e])
            have HN : Hid (l1[k] ≠ l2[k] → sameM ⟨o1, a1, l1⟩ ⟨o1, a1, l2⟩ = false) := fun hne => sameM_no (fun e => hne (by injection e with _ _ e3; subst e3; rfl))
            generalize l1[k] = x at *
            generalize l2[k] = y at *
            have E1 := hid e1
            have E2 := hid e2
            have heq := fun W => run_eq32 x y e1 e2 W
            clear e1 e2
            by_cases hxy : x = y
            · have HS1 := hid (HS.out hxy)
              rw [decide_eq_true hxy] at heq
              clear hxy HS HN
              go_wp2
              refine wp_region_noPanic ?_
              refine wp_region_held_drew (S := fun W => W.cell? ⟨w.heap.size, 2, none⟩ = some (.slice (some ⟨b1, o1', none⟩) l1.length ca) ∧ W.cell? ⟨w.heap.size + 1, 2, none⟩ = some (.slice (some ⟨b2, o2', none⟩) l2.length cb) ∧ W.rangeAt b1 (o1' + k * 32) (x.map B) ∧ W.rangeAt b2 (o2' + k * 32) (y.map B)) (by kernel_rfl) ⟨c0, c1, r1, r2⟩ (fun hHeld => ?_)
              refine wpAnyH_take (i := 0) (v := ?_) rfl (by kernel_rfl) (by kernel_rfl) (by kernel_rfl) (fun _ _ _ h => h) (Or.inl ⟨by rfl, ?_⟩) (by assumption) ?_
              rotate_left
              · (intro W hSw; (try dsimp only at hSw); obtain ⟨s1, s2, s3, s4⟩ := hSw; go_simp; try with_reducible rfl)
              try simp only [List.getElem_toArray, List.getElem_cons_zero, Act.put, List.setIfInBounds_toArray, List.set_cons_zero, List.set_cons_succ]
              refine wpAnyH_take (i := 1) (v := ?_) rfl (by kernel_rfl) (by kernel_rfl) (by kernel_rfl) (fun _ _ _ h => h) (Or.inl ⟨by rfl, ?_⟩) (by assumption) ?_
              rotate_left
              · (intro W hSw; (try dsimp only at hSw); obtain ⟨s1, s2, s3, s4⟩ := hSw; go_simp; try with_reducible rfl)
              try simp only [List.getElem_toArray, List.getElem_cons_succ, List.getElem_cons_zero, Act.put, List.setIfInBounds_toArray, List.set_cons_zero, List.set_cons_succ]
              refine wpAnyH_take (i := 2) (v := ?_) rfl (by kernel_rfl) (by kernel_rfl) (by kernel_rfl) (fun _ _ _ h => h) (Or.inl ⟨by rfl, ?_⟩) (by assumption) ?_
              rotate_left
              · (intro W hSw; (try dsimp only at hSw); obtain ⟨s1, s2, s3, s4⟩ := hSw; go_simp; try with_reducible rfl)
              try simp only [List.getElem_toArray, List.getElem_cons_succ, List.getElem_cons_zero, Act.put, List.setIfInBounds_toArray, List.set_cons_zero, List.set_cons_succ]
              refine wpAnyH_take (i := 3) (v := ?_) rfl (by kernel_rfl) (by kernel_rfl) (by kernel_rfl) (fun _ _ _ h => h) (Or.inl ⟨by rfl, ?_⟩) (by assumption) ?_
              rotate_left
              · (intro W hSw; (try dsimp only at hSw); obtain ⟨s1, s2, s3, s4⟩ := hSw; go_simp; try with_reducible rfl)
              try simp only [List.getElem_toArray, List.getElem_cons_succ, List.getElem_cons_zero, Act.put, List.setIfInBounds_toArray, List.set_cons_zero, List.set_cons_succ]
              refine wpAnyH_take (i := 4) (v := .agg (x.map B).toArray) rfl (by kernel_rfl) (by kernel_rfl) (by kernel_rfl) (fun _ _ _ h => h) (yieldsIf_load_mid (by rfl) 40 (.tmp 37) rfl b1 (o1' + k * 32) rfl (x.map B) _ (fun _ h => h.2.2.1) Try.underlying40 rfl (infoH.trans (by rw [List.length_map, E1.out]))) (by assumption) ?_
              try simp only [List.getElem_toArray, List.getElem_cons_succ, List.getElem_cons_zero, Act.put, List.setIfInBounds_toArray, List.set_cons_zero, List.set_cons_succ]
              refine wpAnyH_take (i := 5) (v := ?_) rfl (by kernel_rfl) (by kernel_rfl) (by kernel_rfl) (fun _ _ _ h => h) (Or.inl ⟨by rfl, ?_⟩) (by assumption) ?_
              rotate_left
              · (intro W hSw; (try dsimp only at hSw); obtain ⟨s1, s2, s3, s4⟩ := hSw; go_simp; try with_reducible rfl)
              try simp only [List.getElem_toArray, List.getElem_cons_succ, List.getElem_cons_zero, Act.put, List.setIfInBounds_toArray, List.set_cons_zero, List.set_cons_succ]
              refine wpAnyH_take (i := 6) (v := ?_) rfl (by kernel_rfl) (by kernel_rfl) (by kernel_rfl) (fun _ _ _ h => h) (Or.inl ⟨by rfl, ?_⟩) (by assumption) ?_
              rotate_left
              · (intro W hSw; (try dsimp only at hSw); obtain ⟨s1, s2, s3, s4⟩ := hSw; go_simp; try with_reducible rfl)
              try simp only [List.getElem_toArray, List.getElem_cons_succ, List.getElem_cons_zero, Act.put, List.setIfInBounds_toArray, List.set_cons_zero, List.set_cons_succ]
              refine wpAnyH_take (i := 7) (v := ?_) rfl (by kernel_rfl) (by kernel_rfl) (by kernel_rfl) (fun _ _ _ h => h) (Or.inl ⟨by rfl, ?_⟩) (by assumption) ?_
              rotate_left
              · (intro W hSw; (try dsimp only at hSw); obtain ⟨s1, s2, s3, s4⟩ := hSw; go_simp; try with_reducible rfl)
              try simp only [List.getElem_toArray, List.getElem_cons_succ, List.getElem_cons_zero, Act.put, List.setIfInBounds_toArray, List.set_cons_zero, List.set_cons_succ]
              refine wpAnyH_take (i := 8) (v := ?_) rfl (by kernel_rfl) (by kernel_rfl) (by kernel_rfl) (fun _ _ _ h => h) (Or.inl ⟨by rfl, ?_⟩) (by assumption) ?_
              rotate_left
              · (intro W hSw; (try dsimp only at hSw); obtain ⟨s1, s2, s3, s4⟩ := hSw; go_simp; try with_reducible rfl)
              try simp only [List.getElem_toArray, List.getElem_cons_succ, List.getElem_cons_zero, Act.put, List.setIfInBounds_toArray, List.set_cons_zero, List.set_cons_succ]
              refine wpAnyH_take (i := 9) (v := .agg (y.map B).toArray) rfl (by kernel_rfl) (by kernel_rfl) (by kernel_rfl) (fun _ _ _ h => h) (yieldsIf_load_mid (by rfl) 40 (.tmp 42) rfl b2 (o2' + k * 32) rfl (y.map B) _ (fun _ h => h.2.2.2) Try.underlying40 rfl (infoH.trans (by rw [List.length_map, E2.out]))) (by assumption) ?_
              try simp only [List.getElem_toArray, List.getElem_cons_succ, List.getElem_cons_zero, Act.put, List.setIfInBounds_toArray, List.set_cons_zero, List.set_cons_succ]
              refine wpAnyH_take (i := 10) (v := .bool false) rfl (by kernel_rfl) (by kernel_rfl) (by kernel_rfl) (fun _ _ _ h => h) (Or.inl ⟨by rfl, ?_⟩) (by assumption) ?_
              · (intro W hSw; (try dsimp only at hSw); obtain ⟨s1, s2, s3, s4⟩ := hSw; go_simp; try first | with_reducible rfl | go_num | (rw [if_pos (by assumption)]; simp only [*]) | simp only [*])
              try simp only [List.getElem_toArray, List.getElem_cons_succ, List.getElem_cons_zero, Act.put, List.setIfInBounds_toArray, List.set_cons_zero, List.set_cons_succ]
              refine wpAnyH_done (by kernel_rfl) ?_ _
              refine NoPanic.normal ?_
              clear hHeld
              go_wp2
              exact ⟨⟨k + 1, by omega, by go_num, HS1, hB.out.drew⟩, by simp [intOf]; omega⟩
            · have HN1 := hid (HN.out hxy)
              rw [decide_eq_false hxy] at heq
              clear hxy HS HN
              have HB2 := hid (HB.out.trans (hB.out.drew.mono HB.out.size))
              go_wp2
              refine wp_region_noPanic ?_
              refine wp_region_held_drew (S := fun W => W.cell? ⟨w.heap.size, 2, none⟩ = some (.slice (some ⟨b1, o1', none⟩) l1.length ca) ∧ W.cell? ⟨w.heap.size + 1, 2, none⟩ = some (.slice (some ⟨b2, o2', none⟩) l2.length cb) ∧ W.rangeAt b1 (o1' + k * 32) (x.map B) ∧ W.rangeAt b2 (o2' + k * 32) (y.map B)) (by kernel_rfl) ⟨c0, c1, r1, r2⟩ (fun hHeld => ?_)
              refine wpAnyH_take (i := 0) (v := ?_) rfl (by kernel_rfl) (by kernel_rfl) (by kernel_rfl) (fun _ _ _ h => h) (Or.inl ⟨by rfl, ?_⟩) (by assumption) ?_
              rotate_left
              · (intro W hSw; (try dsimp only at hSw); obtain ⟨s1, s2, s3, s4⟩ := hSw; go_simp; try with_reducible rfl)
              try simp only [List.getElem_toArray, List.getElem_cons_zero, Act.put, List.setIfInBounds_toArray, List.set_cons_zero, List.set_cons_succ]
              refine wpAnyH_take (i := 1) (v := ?_) rfl (by kernel_rfl) (by kernel_rfl) (by kernel_rfl) (fun _ _ _ h => h) (Or.inl ⟨by rfl, ?_⟩) (by assumption) ?_
              rotate_left
              · (intro W hSw; (try dsimp only at hSw); obtain ⟨s1, s2, s3, s4⟩ := hSw; go_simp; try with_reducible rfl)
              try simp only [List.getElem_toArray, List.getElem_cons_succ, List.getElem_cons_zero, Act.put, List.setIfInBounds_toArray, List.set_cons_zero, List.set_cons_succ]
              refine wpAnyH_take (i := 2) (v := ?_) rfl (by kernel_rfl) (by kernel_rfl) (by kernel_rfl) (fun _ _ _ h => h) (Or.inl ⟨by rfl, ?_⟩) (by assumption) ?_
              rotate_left
              · (intro W hSw; (try dsimp only at hSw); obtain ⟨s1, s2, s3, s4⟩ := hSw; go_simp; try with_reducible rfl)
              try simp only [List.getElem_toArray, List.getElem_cons_succ, List.getElem_cons_zero, Act.put, List.setIfInBounds_toArray, List.set_cons_zero, List.set_cons_succ]
              refine wpAnyH_take (i := 3) (v := ?_) rfl (by kernel_rfl) (by kernel_rfl) (by kernel_rfl) (fun _ _ _ h => h) (Or.inl ⟨by rfl, ?_⟩) (by assumption) ?_
              rotate_left
              · (intro W hSw; (try dsimp only at hSw); obtain ⟨s1, s2, s3, s4⟩ := hSw; go_simp; try with_reducible rfl)
              try simp only [List.getElem_toArray, List.getElem_cons_succ, List.getElem_cons_zero, Act.put, List.setIfInBounds_toArray, List.set_cons_zero, List.set_cons_succ]
              refine wpAnyH_take (i := 4) (v := .agg (x.map B).toArray) rfl (by kernel_rfl) (by kernel_rfl) (by kernel_rfl) (fun _ _ _ h => h) (yieldsIf_load_mid (by rfl) 40 (.tmp 37) rfl b1 (o1' + k * 32) rfl (x.map B) _ (fun _ h => h.2.2.1) Try.underlying40 rfl (infoH.trans (by rw [List.length_map, E1.out]))) (by assumption) ?_
              try simp only [List.getElem_toArray, List.getElem_cons_succ, List.getElem_cons_zero, Act.put, List.setIfInBounds_toArray, List.set_cons_zero, List.set_cons_succ]
              refine wpAnyH_take (i := 5) (v := ?_) rfl (by kernel_rfl) (by kernel_rfl) (by kernel_rfl) (fun _ _ _ h => h) (Or.inl ⟨by rfl, ?_⟩) (by assumption) ?_
              rotate_left
              · (intro W hSw; (try dsimp only at hSw); obtain ⟨s1, s2, s3, s4⟩ := hSw; go_simp; try with_reducible rfl)
              try simp only [List.getElem_toArray, List.getElem_cons_succ, List.getElem_cons_zero, Act.put, List.setIfInBounds_toArray, List.set_cons_zero, List.set_cons_succ]
              refine wpAnyH_take (i := 6) (v := ?_) rfl (by kernel_rfl) (by kernel_rfl) (by kernel_rfl) (fun _ _ _ h => h) (Or.inl ⟨by rfl, ?_⟩) (by assumption) ?_
              rotate_left
              · (intro W hSw; (try dsimp only at hSw); obtain ⟨s1, s2, s3, s4⟩ := hSw; go_simp; try with_reducible rfl)
              try simp only [List.getElem_toArray, List.getElem_cons_succ, List.getElem_cons_zero, Act.put, List.setIfInBounds_toArray, List.set_cons_zero, List.set_cons_succ]
              refine wpAnyH_take (i := 7) (v := ?_) rfl (by kernel_rfl) (by kernel_rfl) (by kernel_rfl) (fun _ _ _ h => h) (Or.inl ⟨by rfl, ?_⟩) (by assumption) ?_
              rotate_left
              · (intro W hSw; (try dsimp only at hSw); obtain ⟨s1, s2, s3, s4⟩ := hSw; go_simp; try with_reducible rfl)
              try simp only [List.getElem_toArray, List.getElem_cons_succ, List.getElem_cons_zero, Act.put, List.setIfInBounds_toArray, List.set_cons_zero, List.set_cons_succ]
              refine wpAnyH_take (i := 8) (v := ?_) rfl (by kernel_rfl) (by kernel_rfl) (by kernel_rfl) (fun _ _ _ h => h) (Or.inl ⟨by rfl, ?_⟩) (by assumption) ?_
              rotate_left
              · (intro W hSw; (try dsimp only at hSw); obtain ⟨s1, s2, s3, s4⟩ := hSw; go_simp; try with_reducible rfl)
              try simp only [List.getElem_toArray, List.getElem_cons_succ, List.getElem_cons_zero, Act.put, List.setIfInBounds_toArray, List.set_cons_zero, List.set_cons_succ]
              refine wpAnyH_take (i := 9) (v := .agg (y.map B).toArray) rfl (by kernel_rfl) (by kernel_rfl) (by kernel_rfl) (fun _ _ _ h => h) (yieldsIf_load_mid (by rfl) 40 (.tmp 42) rfl b2 (o2' + k * 32) rfl (y.map B) _ (fun _ h => h.2.2.2) Try.underlying40 rfl (infoH.trans (by rw [List.length_map, E2.out]))) (by assumption) ?_
              try simp only [List.getElem_toArray, List.getElem_cons_succ, List.getElem_cons_zero, Act.put, List.setIfInBounds_toArray, List.set_cons_zero, List.set_cons_succ]
              refine wpAnyH_take (i := 10) (v := .bool true) rfl (by kernel_rfl) (by kernel_rfl) (by kernel_rfl) (fun _ _ _ h => h) (Or.inl ⟨by rfl, ?_⟩) (by assumption) ?_
              · (intro W hSw; (try dsimp only at hSw); obtain ⟨s1, s2, s3, s4⟩ := hSw; go_simp; try first | with_reducible rfl | go_num | (rw [if_pos (by assumption)]; simp only [*]) | simp only [*])
              try simp only [List.getElem_toArray, List.getElem_cons_succ, List.getElem_cons_zero, Act.put, List.setIfInBounds_toArray, List.set_cons_zero, List.set_cons_succ]
              refine wpAnyH_done (by kernel_rfl) ?_ _
              refine NoPanic.normal ?_
              clear hHeld
              go_wp2
              go_ret
              exact ⟨by rw [HN1.out]; rfl, HB2.out⟩
          · have hge : ¬ ((k : Int) < (l1.length : Int)) := by omega
            have HE : Hid (sameM ⟨o1, a1, l1⟩ ⟨o1, a1, l2⟩ = true) := sameM_iff.2 (by
              have hk' : k = l1.length := by omega
              have := hS.out
              rw [hk'] at this
              rw [sameTo_all H3.out this])
            have HB2 := hid (HB.out.trans (hB.out.mono HB.out.size))
            go_wp2
            go_ret
            exact ⟨by rw [HE.out]; rfl, HB2.out⟩
      · have HS : Hid (sameM ⟨o1, a1, l1⟩ ⟨o1, a1, l2⟩ = false) := sameM_no (fun e => h3 (by injection e with _ _ e3; rw [e3]))
        have q3 : ((l1.length : Int) == (l2.length : Int)) = false := beq_eq_false_iff_ne.2 (by omega)
        go_enter Try.func12, Try.ntmps12
        go_wp2
        go_ret
        exact ⟨by rw [HS.out]; rfl, HB.out⟩
    · have HS : Hid (sameM ⟨o1, a1, l1⟩ ⟨o1, a2, l2⟩ = false) := sameM_no (fun e => h2 (by injection e))
      have q2 : (a1 == a2) = false := beq_eq_false_iff_ne.2 h2
      go_enter Try.func12, Try.ntmps12
      go_wp2
      go_ret
      exact ⟨by rw [HS.out]; rfl, HB.out⟩
  · have HS : Hid (sameM ⟨o1, a1, l1⟩ ⟨o2, a2, l2⟩ = false) := sameM_no (fun e => h1 (by injection e))
    have q1 : (o1 == o2) = false := beq_eq_false_iff_ne.2 h1
    go_enter Try.func12, Try.ntmps12
    go_wp2
    go_ret
    exact ⟨by rw [HS.out]; rfl, HB.out⟩
theorem same_any (a b : MS) (la lb : Option Addr) (ca cb : Nat) (w : World) (hla : layersAt w la a.ls) (hlb : layersAt w lb b.ls) (hn : a.ls.length ≤ 9223372036854775807) (hnb : b.ls.length ≤ 9223372036854775807) :
    Calls Try.prog 12 #[.agg #[str a.os, str a.arch, .slice la a.ls.length ca], .agg #[str b.os, str b.arch, .slice lb b.ls.length cb]] w fun e w' => e = .returned (.bool (sameM a b)) ∧ Below w.heap.size w w' :=
  same_lists a.os a.arch b.os b.arch a.ls b.ls la lb ca cb w hla hlb hn hnb
end Go.Proofs.Ytkmmeokccmppbaa
