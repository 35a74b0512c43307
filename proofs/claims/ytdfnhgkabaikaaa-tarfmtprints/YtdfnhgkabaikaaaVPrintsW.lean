/- TarfmtPrints' walk. -/
import Derived.Test.YtdfnhgkabaikaaaVPrint
namespace Go.Proofs.Ytdfnhgkabaikaaa
open Go.RowKit
/-- Both Prints tell the same. -/
theorem both_print {w w1 w2 : World} {l : List (EN × Value)} {e1 e2 : Ending} (h1 : PrintTo w l e1 w1) (h2 : FPrintTo w1 l e2 w2) :
    ∃ (bs : List UInt8) (va vb : Value) (er : Int), e1 = .returned (.tuple #[va, .int .i64 er]) ∧ e2 = .returned (.tuple #[vb, .int .i64 er]) ∧ Rd w2 va bs ∧ Rd w2 vb bs := by
  obtain ⟨hB1, ⟨er, hE, rfl⟩ | ⟨g, n, hg, rfl, hT⟩⟩ := print_to h1
  · rcases h2.2 with ⟨er2, hE2, rfl⟩ | ⟨hr, h256, hsz, -⟩
    · obtain rfl := hE.uniq hE2
      exact ⟨[], _, _, er, rfl, rfl, Rd.nil _, Rd.nil _⟩
    · exact (hE.not hr h256 hsz).elim
  · rcases h2.2 with ⟨er2, hE2, rfl⟩ | ⟨hr, h256, hsz, v, rfl, hb⟩
    · rcases h1.2 with ⟨er, hE, he⟩ | ⟨hr, h256, hsz, -⟩
      · simp only [Ending.returned.injEq, Value.tuple.injEq] at he
        have := congrArg (fun a : Array Value => a[1]?) he
        simp at this
        exact absurd this.symm hE.ne
      · exact (hE2.not hr h256 hsz).elim
    · exact ⟨tarB (l.map Prod.fst), _, _, 0, rfl, rfl, (hT.up h2.1).rd, Rd.of_buf hb⟩
theorem sum_any (bs : List UInt8) (v : Value) (w : World) (hr : Rd w v bs) : Calls Try.prog 15 #[v] w fun e w' => e = .returned (.int .i64 (if bs.length = 512 then sumH bs else 0)) ∧ Below w.heap.size w w' := by
  obtain ⟨ao, cap, rfl, -⟩ := id hr
  by_cases h : bs.length = 512
  · rw [if_pos h]
    rw [h] at hr ⊢
    exact sum_rd w hr
  · rw [if_neg h]
    refine (sum_other ao bs.length cap w h).mono ?_
    rintro e w' ⟨rfl, rfl⟩
    exact ⟨rfl, Below.refl _ _⟩
set_option maxHeartbeats 4000000 in
set_option maxRecDepth 100000 in
theorem prints_walk (l : List (EN × Value)) (la : Option Addr) (lc : Nat) (hs : List UInt8) (hv : Value) (w : World) (h : entsAt w la l) (hl : l.length ≤ 1954687338212) (hh : Rd w hv hs) :
    Calls Try.prog 3 #[.slice la l.length lc, hv] w fun e w' => e = .returned (.bool true) ∧ Below w.heap.size w w' := by
  have H := hid h
  have HL := hid hl
  have HH := hid hh
  have hmx : (l.length : Int) ≤ 9223372036854775000 := by omega
  clear h hl hh
  go_enter Try.func3, Try.ntmps3
  go_wp2_with fail
  refine (print_any l la lc w H.out (by have := HL.out; omega)).mono ?_
  rintro e1 w1 h1
  have HB1 := hid h1.1
  have HP1 := hid h1
  clear h1
  obtain ⟨va, ea, rfl⟩ : ∃ va er, e1 = .returned (.tuple #[va, .int .i64 er]) := by
    rcases HP1.out.2 with ⟨er, -, rfl⟩ | ⟨-, -, -, g, -, rfl, -⟩
    · exact ⟨_, _, rfl⟩
    · exact ⟨_, _, rfl⟩
  go_wp2_with fail
  refine (fprint_any l la lc w1 (H.out.up HB1.out) HL.out).mono ?_
  rintro e2 w2 h2
  obtain ⟨bs, va', vb, er, e1, rfl, hra, hrb⟩ := both_print HP1.out h2
  simp only [Ending.returned.injEq, Value.tuple.injEq, Array.mk.injEq, List.cons.injEq, Value.int.injEq, and_true, true_and] at e1
  obtain ⟨rfl, rfl⟩ := e1
  have HB2 : Hid (Below w.heap.size w w2) := HB1.out.trans (h2.1.mono HB1.out.size)
  have HRa := hid hra
  have HRb := hid hrb
  clear h2 HP1 HB1 hra hrb
  go_wp2
  go_loopw [9, 10] (fun ok i wr => ∃ k : Nat, k ≤ l.length ∧ ok = .bool true ∧ i = .int .i64 k ∧ Hid (Below w2.heap.size w2 wr)) (fun _ i _ => l.length - (intOf i).toNat)
  case atStart => exact ⟨0, by omega, rfl, rfl, Below.refl _ _⟩
  case round =>
    obtain ⟨k, hk, rfl, rfl, hB⟩ := hrel
    by_cases hlt : k < l.length
    · have hi0 : (0 : Int) ≤ (k : Int) := by omega
      have hi1 : (k : Int) < (l.length : Int) := by omega
      have HBw : Hid (Below w.heap.size w wr) := HB2.out.trans (hB.out.mono HB2.out.size)
      obtain ⟨b, o, rfl, hbw, hrg, hrd⟩ := (H.out.up HBw.out) k hlt
      obtain ⟨da, dc, hdv, hd1, hd2, -⟩ := id hrd
      rw [hdv] at hrg
      obtain ⟨rx, hR1, hR2⟩ : ∃ rx : Int, (∀ W, Calls Try.prog 11 #[.agg #[str l[k].1.name, .int .i64 l[k].1.kind, .int .i64 l[k].1.mode, str l[k].1.link, .slice da l[k].1.data.length dc]] W fun e w' => e = .returned (.int .i64 rx) ∧ Below W.heap.size W w') ∧ (∀ W, Calls Try.prog 12 #[.agg #[str l[k].1.name, .int .i64 l[k].1.kind, .int .i64 l[k].1.mode, str l[k].1.link, .slice da l[k].1.data.length dc]] W fun e w' => e = .returned (.int .i64 rx) ∧ Below W.heap.size W w') :=
        ⟨_, fun W => right_len l[k].1.name l[k].1.link l[k].1.data l[k].1.kind l[k].1.mode da l[k].1.data.length dc W rfl (by omega), fun W => fRight_any l[k].1.name l[k].1.link l[k].1.data l[k].1.kind l[k].1.mode da l[k].1.data.length dc W rfl (by omega)⟩
      have HR1 := hid hR1
      have HR2 := hid hR2
      have hq : (rx == rx) = true := beq_self_eq_true _
      generalize l[k].1 = x at *
      clear hR1 hR2
      clear hdv hrd hd1 hd2
      go_wp2
      refine wp_region_noPanic ?_
      refine wp_region_held_drew (S := fun W => W.rangeAt b (o + k * 5) [str x.name, .int .i64 x.kind, .int .i64 x.mode, str x.link, .slice da x.data.length dc] ∧ True) (by kernel_rfl) ⟨hrg, trivial⟩ (fun hHeld => ?_)
      refine wpAnyH_take (i := 0) (v := ?_) rfl (by kernel_rfl) (by kernel_rfl) (by kernel_rfl) (fun _ _ _ h => h) (Or.inl ⟨by rfl, ?_⟩) (by assumption) ?_
      rotate_left
      · (intro W hSw; (try dsimp only at hSw); obtain ⟨s1, s2⟩ := hSw; go_simp; try with_reducible rfl)
      try simp only [List.getElem_toArray, List.getElem_cons_zero, Act.put, List.setIfInBounds_toArray, List.set_cons_zero, List.set_cons_succ]
      refine wpAnyH_take (i := 1) (v := ?_) rfl (by kernel_rfl) (by kernel_rfl) (by kernel_rfl) (fun _ _ _ h => h) (Or.inl ⟨by rfl, ?_⟩) (by assumption) ?_
      rotate_left
      · (intro W hSw; (try dsimp only at hSw); obtain ⟨s1, s2⟩ := hSw; go_simp; try with_reducible rfl)
      try simp only [List.getElem_toArray, List.getElem_cons_succ, List.getElem_cons_zero, Act.put, List.setIfInBounds_toArray, List.set_cons_zero, List.set_cons_succ]
      refine wpAnyH_take (i := 2) (v := ?_) rfl (by kernel_rfl) (by kernel_rfl) (by kernel_rfl) (fun _ _ _ h => h) (Or.inl ⟨by rfl, ?_⟩) (by assumption) ?_
      rotate_left
      · (intro W hSw; (try dsimp only at hSw); obtain ⟨s1, s2⟩ := hSw; go_simp; try with_reducible rfl)
      try simp only [List.getElem_toArray, List.getElem_cons_succ, List.getElem_cons_zero, Act.put, List.setIfInBounds_toArray, List.set_cons_zero, List.set_cons_succ]
      refine wpAnyH_take (i := 3) (v := ?_) rfl (by kernel_rfl) (by kernel_rfl) (by kernel_rfl) (fun _ _ _ h => h) (Or.inl ⟨by rfl, ?_⟩) (by assumption) ?_
      rotate_left
      · (intro W hSw; (try dsimp only at hSw); obtain ⟨s1, s2⟩ := hSw; go_simp; try with_reducible rfl)
      try simp only [List.getElem_toArray, List.getElem_cons_succ, List.getElem_cons_zero, Act.put, List.setIfInBounds_toArray, List.set_cons_zero, List.set_cons_succ]
      refine wpAnyH_take (i := 4) (v := ?_) rfl (by kernel_rfl) (by kernel_rfl) (by kernel_rfl) (fun _ _ _ h => h) (Or.inl ⟨by rfl, ?_⟩) (by assumption) ?_
      rotate_left
      · (intro W hSw; (try dsimp only at hSw); obtain ⟨s1, s2⟩ := hSw; go_simp; try with_reducible rfl)
      try simp only [List.getElem_toArray, List.getElem_cons_succ, List.getElem_cons_zero, Act.put, List.setIfInBounds_toArray, List.set_cons_zero, List.set_cons_succ]
      refine wpAnyH_take (i := 5) (v := .agg #[str x.name, .int .i64 x.kind, .int .i64 x.mode, str x.link, .slice da x.data.length dc]) rfl (by kernel_rfl) (by kernel_rfl) (by kernel_rfl) (fun _ _ _ h => h) (yieldsIf_load_mid (by rfl) 31 (.tmp 31) rfl b (o + k * 5) rfl [str x.name, .int .i64 x.kind, .int .i64 x.mode, str x.link, .slice da x.data.length dc] _ (fun _ h => h.1) Try.underlying31 rfl infoE) (by assumption) ?_
      try simp only [List.getElem_toArray, List.getElem_cons_succ, List.getElem_cons_zero, Act.put, List.setIfInBounds_toArray, List.set_cons_zero, List.set_cons_succ]
      refine wpAnyH_take (i := 7) (v := ?_) rfl (by kernel_rfl) (by kernel_rfl) (by kernel_rfl) (fun _ _ _ h => h) (Or.inl ⟨by rfl, ?_⟩) (by assumption) ?_
      rotate_left
      · (intro W hSw; (try dsimp only at hSw); obtain ⟨s1, s2⟩ := hSw; go_simp; try with_reducible rfl)
      try simp only [List.getElem_toArray, List.getElem_cons_succ, List.getElem_cons_zero, Act.put, List.setIfInBounds_toArray, List.set_cons_zero, List.set_cons_succ]
      refine wpAnyH_take (i := 8) (v := ?_) rfl (by kernel_rfl) (by kernel_rfl) (by kernel_rfl) (fun _ _ _ h => h) (Or.inl ⟨by rfl, ?_⟩) (by assumption) ?_
      rotate_left
      · (intro W hSw; (try dsimp only at hSw); obtain ⟨s1, s2⟩ := hSw; go_simp; try with_reducible rfl)
      try simp only [List.getElem_toArray, List.getElem_cons_succ, List.getElem_cons_zero, Act.put, List.setIfInBounds_toArray, List.set_cons_zero, List.set_cons_succ]
      refine wpAnyH_take (i := 9) (v := ?_) rfl (by kernel_rfl) (by kernel_rfl) (by kernel_rfl) (fun _ _ _ h => h) (Or.inl ⟨by rfl, ?_⟩) (by assumption) ?_
      rotate_left
      · (intro W hSw; (try dsimp only at hSw); obtain ⟨s1, s2⟩ := hSw; go_simp; try with_reducible rfl)
      try simp only [List.getElem_toArray, List.getElem_cons_succ, List.getElem_cons_zero, Act.put, List.setIfInBounds_toArray, List.set_cons_zero, List.set_cons_succ]
      refine wpAnyH_take (i := 10) (v := .agg #[str x.name, .int .i64 x.kind, .int .i64 x.mode, str x.link, .slice da x.data.length dc]) rfl (by kernel_rfl) (by kernel_rfl) (by kernel_rfl) (fun _ _ _ h => h) (yieldsIf_load_mid (by rfl) 31 (.tmp 36) rfl b (o + k * 5) rfl [str x.name, .int .i64 x.kind, .int .i64 x.mode, str x.link, .slice da x.data.length dc] _ (fun _ h => h.1) Try.underlying31 rfl infoE) (by assumption) ?_
      try simp only [List.getElem_toArray, List.getElem_cons_succ, List.getElem_cons_zero, Act.put, List.setIfInBounds_toArray, List.set_cons_zero, List.set_cons_succ]
      refine wpAnyH_ready (rs := [6]) (by kernel_rfl) (by simp) (AllReadyH.cons rfl (fun K hK => ?_) AllReadyH.nil)
      rw [if_pos (by rfl)]
      go_simp
      refine (HR1.out wr.drew).mono ?_
      rintro e w3 ⟨rfl, hB3⟩
      have hB3' := below_undrew hB3
      have HB3 : Hid (Below w2.heap.size w2 w3) := hB.out.trans (hB3'.mono hB.out.size)
      have HRg : Hid (w3.rangeAt b (o + k * 5) [str x.name, .int .i64 x.kind, .int .i64 x.mode, str x.link, .slice da x.data.length dc] ∧ True) := ⟨fun j v hj => (World.cell?_of_block (w := wr) (hB3'.block b hbw)).trans (hrg j v hj), trivial⟩
      have hbw3 : b < w3.heap.size := Nat.lt_of_lt_of_le hbw hB3'.size
      clear hB3 hB3' hrg hbw HR1
      go_wp2_with fail
      refine hK.out _ _ HRg.out (fun hHeld => ?_)
      clear hK K
      refine wpAnyH_ready (rs := [11]) (by kernel_rfl) (by simp) (AllReadyH.cons rfl (fun K hK => ?_) AllReadyH.nil)
      rw [if_pos (by rfl)]
      go_simp
      refine (HR2.out w3).mono ?_
      rintro e w4 ⟨rfl, hB4⟩
      have HB4 : Hid (Below w2.heap.size w2 w4) := HB3.out.trans (hB4.mono HB3.out.size)
      have HRg4 : Hid (w4.rangeAt b (o + k * 5) [str x.name, .int .i64 x.kind, .int .i64 x.mode, str x.link, .slice da x.data.length dc] ∧ True) := ⟨fun j v hj => (World.cell?_of_block (w := w3) (hB4.block b hbw3)).trans (HRg.out.1 j v hj), trivial⟩
      clear hB4 HB3 HR2 HRg
      go_wp2_with fail
      refine hK.out _ _ HRg4.out (fun hHeld => ?_)
      clear hK K
      refine wpAnyH_take (i := 12) (v := ?_) rfl (by kernel_rfl) (by kernel_rfl) (by kernel_rfl) (fun _ _ _ h => h) (Or.inl ⟨by rfl, ?_⟩) (by assumption) ?_
      rotate_left
      · (intro W hSw; (try dsimp only at hSw); obtain ⟨s1, s2⟩ := hSw; go_simp; try with_reducible rfl)
      try simp only [List.getElem_toArray, List.getElem_cons_succ, List.getElem_cons_zero, Act.put, List.setIfInBounds_toArray, List.set_cons_zero, List.set_cons_succ]
      refine wpAnyH_take (i := 13) (v := ?_) rfl (by kernel_rfl) (by kernel_rfl) (by kernel_rfl) (fun _ _ _ h => h) (Or.inl ⟨by rfl, ?_⟩) (by assumption) ?_
      rotate_left
      · (intro W hSw; (try dsimp only at hSw); obtain ⟨s1, s2⟩ := hSw; go_simp; try with_reducible rfl)
      try simp only [List.getElem_toArray, List.getElem_cons_succ, List.getElem_cons_zero, Act.put, List.setIfInBounds_toArray, List.set_cons_zero, List.set_cons_succ]
      refine wpAnyH_take (i := 14) (v := ?_) rfl (by kernel_rfl) (by kernel_rfl) (by kernel_rfl) (fun _ _ _ h => h) (Or.inl ⟨by rfl, ?_⟩) (by assumption) ?_
      rotate_left
      · (intro W hSw; (try dsimp only at hSw); obtain ⟨s1, s2⟩ := hSw; go_simp; try with_reducible rfl)
      try simp only [List.getElem_toArray, List.getElem_cons_succ, List.getElem_cons_zero, Act.put, List.setIfInBounds_toArray, List.set_cons_zero, List.set_cons_succ]
      refine wpAnyH_done (by kernel_rfl) ?_ _
      refine NoPanic.normal ?_
      clear hHeld
      go_wp2
      exact ⟨⟨k + 1, by omega, rfl, by go_num, HB4⟩, by simp [intOf]; omega⟩
    · have hge : ¬ ((k : Int) < (l.length : Int)) := by omega
      have HB3 : Hid (Below w.heap.size w wr) := HB2.out.trans (hB.out.mono HB2.out.size)
      have HRa3 := hid (HRa.out.up hB.out)
      have HRb3 := hid (HRb.out.up hB.out)
      clear HRa HRb hB HB2
      go_wp2_with fail
      refine (tlive_any wr).mono ?_
      rintro e w4 ⟨rfl, hB4⟩
      have HB4 : Hid (Below w.heap.size w w4) := HB3.out.trans (hB4.mono HB3.out.size)
      have HRa4 := hid (HRa3.out.up hB4)
      have HRb4 := hid (HRb3.out.up hB4)
      clear hB4 HB3 HRa3 HRb3
      go_wp2_with fail
      refine (same_rd bs va vb w4 HRa4.out HRb4.out).mono ?_
      rintro e w5 ⟨rfl, hB5⟩
      have HB5 : Hid (Below w.heap.size w w5) := HB4.out.trans (hB5.mono HB4.out.size)
      clear hB5 HB4 HRa4 HRb4
      have hq : (ea == ea) = true := beq_self_eq_true _
      go_wp2_with fail
      refine (sum_any hs hv w5 (HH.out.up HB5.out)).mono ?_
      rintro e w6 ⟨rfl, hB6⟩
      have HB6 : Hid (Below w.heap.size w w6) := HB5.out.trans (hB6.mono HB5.out.size)
      have HF := hid (fSum_any hs hv w6 (HH.out.up HB6.out))
      clear hB6 HB5
      generalize (if hs.length = 512 then sumH hs else 0) = sm at *
      have hq2 : (sm == sm) = true := beq_self_eq_true _
      go_wp2_with fail
      refine HF.out.mono ?_
      rintro e w7 ⟨rfl, rfl⟩
      go_wp2
      go_ret
      exact ⟨rfl, HB6.out⟩
end Go.Proofs.Ytdfnhgkabaikaaa
