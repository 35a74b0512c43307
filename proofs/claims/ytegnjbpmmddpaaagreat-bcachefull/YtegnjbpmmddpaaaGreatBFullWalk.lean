/- The walk of BcacheFull. -/
import Derived.Test.YtegnjbpmmddpaaaGreatBErr
import Derived.Test.YtegnjbpmmddpaaaGreatBLive
namespace Go.Proofs.YtegnjbpmmddpaaaGreat
open Go.RowKit
/-- A cache whose first m pages were written. -/
def FullAt (w0 w : World) (c k m : Nat) : Prop := m ≤ k ∧ Below w0.heap.size w0 w ∧ ∃ L C, CacheAt w c L C ∧ C.size = k ∧ C.N = 11 ∧ C.S.ops = [] ∧ (∀ n : Int, (C.dirty n).isSome = decide (0 ≤ n ∧ n < (m : Int))) ∧ ∀ j, L.foot c j → w0.heap.size ≤ j
theorem keys_upto {C : CS} {m : Nat} (hN : C.N = 11) (hm : m < 12) (h : ∀ n : Int, (C.dirty n).isSome = decide (0 ≤ n ∧ n < (m : Int))) : C.dirtyKeys.length = m := by
  have e : C.dirtyKeys = ((List.range 11).map (fun k : Nat => (k : Int))).filter (fun n => decide (0 ≤ n ∧ n < (m : Int))) := by
    unfold CS.dirtyKeys
    rw [hN]
    exact List.filter_congr (fun n _ => h n)
  rw [e]
  exact (by decide : ∀ m : Nat, m < 12 → (((List.range 11).map (fun k : Nat => (k : Int))).filter (fun n => decide (0 ≤ n ∧ n < (m : Int)))).length = m) m hm
theorem FullAt.below {w0 w w' : World} {c k m : Nat} (h : FullAt w0 w c k m) (hb : Below w.heap.size w w') : FullAt w0 w' c k m := by
  obtain ⟨h1, h2, L, C, h3, h4, h5, h6, h7, h8⟩ := h
  exact ⟨h1, h2.trans (hb.mono h2.size), L, C, h3.below hb, h4, h5, h6, h7, h8⟩
section
variable {w0 w : World} {c k m : Nat}
theorem FullAt.wrote (h : FullAt w0 w c k m) (hk : k ≤ 10) (n : Nat) (hn : n < 11) (hnm : n < m ∨ (n = m ∧ m < k)) (l : List UInt8) (ad : Addr) (cp : Nat) (hl : l.length = 512) (hb : bytesAt w ad l) :
    Calls Tryz.prog 29 #[.pointer (some ⟨c, 0, none⟩), .int .i64 n, .slice (some ad) 512 cp] w fun e w' => e = .returned (.int .i64 0) ∧ FullAt w0 w' c k (if n < m then m else m + 1) := by
  obtain ⟨h1, h2, L, C, h3, h4, h5, h6, h7, h8⟩ := h
  have hkl := keys_upto h5 (by omega) h7
  refine (bwrite_ok n l ad cp w h3 (by rw [h5]; exact hn) hl hb ?_).mono ?_
  · rcases hnm with h | ⟨h, h'⟩
    · exact .inl (by rw [h7]; exact decide_eq_true ⟨by omega, by omega⟩)
    · exact .inr (by rw [hkl, h4]; omega)
  · rintro e w' ⟨rfl, g, cap, Dd, Du, hg, hC, hK⟩
    refine ⟨rfl, by split <;> omega, h2.trans (hK.below h2.size (fun i hi => h8 i (hi.elim (fun e => .inr (.inr (.inl e))) (fun e => .inr (.inr (.inr e)))))), _, _, hC, h4, h5, h6, fun x => ?_, h8⟩
    simp only [updD]
    by_cases e : x = (n : Int)
    · rw [if_pos e]
      subst e
      symm
      rw [Option.isSome_some, decide_eq_true_iff]
      rcases hnm with h | ⟨h, h'⟩
      · rw [if_pos h]; omega
      · rw [if_neg (by omega)]; omega
    · rw [if_neg e, h7]
      apply decide_eq_decide.2
      rcases hnm with h | ⟨h, h'⟩
      · rw [if_pos h]
      · rw [if_neg (by omega)]; omega
theorem FullAt.refused (h : FullAt w0 w c k k) (hk : k ≤ 10) (n : Nat) (hn : n < 11) (hnm : k ≤ n) (ad : Option Addr) (cp : Nat) :
    Calls Tryz.prog 29 #[.pointer (some ⟨c, 0, none⟩), .int .i64 n, .slice ad 512 cp] w fun e w' => e = .returned (.int .i64 7) ∧ FullAt w0 w' c k k := by
  have h' := h
  obtain ⟨h1, h2, L, C, h3, h4, h5, h6, h7, h8⟩ := h
  have hkl := keys_upto h5 (by omega) h7
  refine (bwrite_full n ad cp w h3 (by rw [h5]; exact hn) ?_ (by rw [hkl, h4]; omega)).mono ?_
  · have := h7 (n : Int)
    rw [decide_eq_false (by omega)] at this
    cases hd : C.dirty (n : Int) with
    | none => rfl
    | some b => rw [hd] at this; cases this
  · rintro e w' ⟨rfl, hb⟩
    exact ⟨rfl, h'.below hb⟩
theorem FullAt.commit (h : FullAt w0 w c k m) (hk : k ≤ 10) :
    Calls Tryz.prog 31 #[.pointer (some ⟨c, 0, none⟩)] w fun e w' => e = .returned (.int .i64 0) ∧ Below w0.heap.size w0 w' ∧ Calls Tryz.prog 17 #[.pointer (some ⟨c, 0, none⟩)] w' fun e w2 => e = .returned (.int .i64 (k : Int)) ∧ Below w'.heap.size w' w2 := by
  obtain ⟨h1, h2, L, C, h3, h4, h5, h6, h7, h8⟩ := h
  have hkl := keys_upto h5 (by omega) h7
  refine (bcommit_any w h3 (by rw [hkl, h4]; omega) (by rw [h6]; simp)).mono ?_
  rintro e w' ⟨rfl, d', F', hF1, hF2, hC, hK⟩
  refine ⟨rfl, h2.trans (hK.below h2.size (fun i hi => h8 i (hi.elim .inl (fun e => .inr (.inr (.inl e)))))), ?_⟩
  have := broom_any w' hC
  rw [CS.dirtyKeys_none rfl] at this
  refine this.mono ?_
  rintro e w2 ⟨rfl, hb⟩
  refine ⟨?_, hb⟩
  have e1 : (((min C.size 100 : Nat) : Int) - (([] : List Int).length : Int)) = (k : Int) := by rw [h4]; simp; omega
  exact congrArg (fun x : Int => Ending.returned (.int .i64 x)) e1
end
set_option maxRecDepth 100000 in
set_option maxHeartbeats 4000000 in
theorem bcacheFull_walk (x : Int) (hx0 : 0 ≤ x) (hx1 : x ≤ 255) (y : Int) (hy0 : 0 ≤ y) (hy1 : y ≤ 255) (w : World) :
    Calls Tryz.prog 8 #[.int .u8 x, .int .u8 y] w fun e w' => e = .returned (.bool true) ∧ Below w.heap.size w w' := by
  obtain ⟨N, hN⟩ : ∃ N : Nat, (N : Int) = x % 10 + 1 := ⟨(x % 10 + 1).toNat, by omega⟩
  obtain ⟨M, hM⟩ : ∃ M : Nat, (M : Int) = y % 11 := ⟨(y % 11).toNat, by omega⟩
  have hN1 : 1 ≤ N := by omega
  have hN2 : N ≤ 10 := by omega
  have hM2 : M ≤ 10 := by omega
  go_enter Tryz.func8, Tryz.ntmps8
  go_wp2_with fail
  rw [← hN]
  clear hN
  refine (b4open_ok N 4 hN1 (by omega) (by omega) (by omega) w).mono ?_
  rintro e w1 ⟨hb1, c, L1, q, m, r, fv, Rd, rfl, hc, hdv, hft, hC1, -, -, -, -⟩
  have HA1 : Hid (FullAt w w1 c N 0) := ⟨by omega, hb1, _, _, hC1, rfl, by show pagesS (freshN (N + 12)) N = 11; unfold pagesS; rw [freshN_len]; omega, rfl, fun n => (by symm; apply decide_eq_false; omega), hft⟩
  clear hb1 hdv hft hC1 hc
  go_wp2_with fail
  refine (b4live_any w1).mono ?_
  rintro e w2 ⟨rfl, hb2⟩
  have HA2 := hid (HA1.out.below hb2)
  clear hb2 HA1
  go_wp2
  go_loopw [9] (fun i wr => ∃ k : Nat, k ≤ M ∧ i = .int .i64 k ∧ Hid (FullAt w wr c N (min k N))) (fun i _ => M - (intOf i).toNat)
  case atStart => exact ⟨0, by omega, rfl, by rw [Nat.zero_min]; exact HA2⟩
  case round =>
    obtain ⟨k, hk, rfl, hA⟩ := hrel
    clear HA2
    by_cases hlt : k < M
    · have hlt' : (k : Int) < y % 11 := by omega
      have hkm : ((UInt8.ofNat k).toNat : Int) = (k : Int) := by rw [UInt8.toNat_ofNat']; omega
      have HBk := hid (b4bytes_any false 0 0 (UInt8.ofNat k) wr)
      rw [hkm] at HBk
      go_wp2_with fail
      refine HBk.out.mono ?_
      clear HBk
      rintro e w3 ⟨hb3, rfl, hby3⟩
      have hl3 : (dbytes false (UInt8.ofNat k)).length = 512 := length_dbytes _ _
      generalize dbytes false (UInt8.ofNat k) = l at *
      have HA3 := hid (hA.out.below hb3)
      have HBy3 := hid hby3
      have HL3 := hid hl3
      obtain ⟨b3, hb3e⟩ : ∃ b3, b3 = wr.heap.size + 1 := ⟨_, rfl⟩
      rw [← hb3e] at HBy3
      rw [← hb3e]
      clear hb3 hby3 hl3 hA hb3e hkm
      by_cases hkn : k < N
      · have hkn' : (k : Int) < (N : Int) := by omega
        have HW := hid (HA3.out.wrote hN2 k (by omega) (.inr ⟨by omega, by omega⟩) l ⟨b3, 0, none⟩ 512 HL3.out HBy3.out.at)
        go_wp2_with fail
        refine HW.out.mono ?_
        clear HW
        rintro e w4 ⟨rfl, hA4⟩
        rw [if_neg (by omega)] at hA4
        have HA4 := hid hA4
        have HB4 := hid (b4bytes_any false 0 0 1 w4)
        clear hA4 HA3 HBy3 HL3
        go_wp2_with fail
        refine HB4.out.mono ?_
        clear HB4
        rintro e w5 ⟨hb5, rfl, hby5⟩
        have hl5 : (dbytes false 1).length = 512 := length_dbytes _ _
        generalize dbytes false 1 = l5 at *
        have HA5 := hid (HA4.out.below hb5)
        obtain ⟨b5, hb5e⟩ : ∃ b5, b5 = w4.heap.size + 1 := ⟨_, rfl⟩
        rw [← hb5e] at hby5
        rw [← hb5e]
        have HW5 := hid (HA5.out.wrote hN2 0 (by omega) (.inl (by omega)) l5 ⟨b5, 0, none⟩ 512 hl5 hby5.at)
        clear hb5 hby5 hl5 hb5e HA4
        go_wp2_with fail
        refine HW5.out.mono ?_
        clear HW5
        rintro e w6 ⟨rfl, hA6⟩
        rw [if_pos (by omega)] at hA6
        have HA6 := hid hA6
        clear hA6 HA5
        go_wp2
        exact ⟨⟨k + 1, by omega, by go_num, by rw [show min (k + 1) N = min k N + 1 by omega]; exact HA6⟩, by simp [intOf]; omega⟩
      · have hkn' : ¬ ((k : Int) < (N : Int)) := by omega
        have hmin : min k N = N := by omega
        rw [hmin] at HA3
        have HW := hid (HA3.out.refused hN2 k (by omega) (by omega) (some ⟨b3, 0, none⟩) 512)
        go_wp2_with fail
        refine HW.out.mono ?_
        clear HW
        rintro e w4 ⟨rfl, hA4⟩
        have HA4 := hid hA4
        have HB4 := hid (b4bytes_any false 0 0 1 w4)
        clear hA4 HA3 HBy3 HL3
        go_wp2_with fail
        refine HB4.out.mono ?_
        clear HB4
        rintro e w5 ⟨hb5, rfl, hby5⟩
        have hl5 : (dbytes false 1).length = 512 := length_dbytes _ _
        generalize dbytes false 1 = l5 at *
        have HA5 := hid (HA4.out.below hb5)
        obtain ⟨b5, hb5e⟩ : ∃ b5, b5 = w4.heap.size + 1 := ⟨_, rfl⟩
        rw [← hb5e] at hby5
        rw [← hb5e]
        have HW5 := hid (HA5.out.wrote hN2 0 (by omega) (.inl (by omega)) l5 ⟨b5, 0, none⟩ 512 hl5 hby5.at)
        clear hb5 hby5 hl5 hb5e HA4
        go_wp2_with fail
        refine HW5.out.mono ?_
        clear HW5
        rintro e w6 ⟨rfl, hA6⟩
        rw [if_pos (by omega)] at hA6
        have HA6 := hid hA6
        clear hA6 HA5
        go_wp2
        exact ⟨⟨k + 1, by omega, by go_num, by rw [show min (k + 1) N = N by omega]; exact HA6⟩, by simp [intOf]; omega⟩
    · have hge : ¬ ((k : Int) < y % 11) := by omega
      have HC := hid (hA.out.commit hN2)
      clear hA
      go_wp2_with fail
      refine HC.out.mono ?_
      clear HC
      rintro e w3 ⟨rfl, hb3, hR3⟩
      have HB3 := hid hb3
      have HR3 := hid hR3
      clear hb3 hR3
      go_wp2_with fail
      refine HR3.out.mono ?_
      clear HR3
      rintro e w4 ⟨rfl, hb4⟩
      have HB4 := hid (HB3.out.trans (hb4.mono HB3.out.size))
      clear hb4
      go_wp2
      go_ret
      exact ⟨rfl, HB4.out⟩
end Go.Proofs.YtegnjbpmmddpaaaGreat
