/- The walk of DiskCuts. -/
import Derived.Test.YtpkjpkjcdpgaaaaCut
import Derived.Test.YtpkjpkjcdpgaaaaRCut
import Derived.Test.YtpkjpkjcdpgaaaaRCrash
namespace Go.Proofs.Ytpkjpkjcdpgaaaa
open Go.RowKit
theorem okS_doOp {S : DiskS} {o : OpS} {N : Nat} (h : okS S) (ho : okOp N o) : okS (doOp S o) := by
  cases o with
  | write n s =>
    refine ⟨h.1, fun m u hu => ?_⟩
    by_cases e : m = n
    · subst e
      simp only [doOp, DiskS.wrote, upd_same, List.mem_append, List.mem_singleton] at hu
      rcases hu with hu | rfl
      · exact h.2 _ _ hu
      · exact ho.2.2
    · simp only [doOp, DiskS.wrote] at hu
      rw [upd_other _ _ e] at hu
      exact h.2 m u hu
  | flush =>
    refine ⟨fun s hs => ?_, fun n s hs => by simp [doOp, DiskS.flushed] at hs⟩
    obtain ⟨k, hk, rfl⟩ := List.mem_map.1 hs
    exact ok_seen h k (List.mem_range.1 hk)
theorem okS_doOps {N : Nat} : ∀ (l : List OpS) (S : DiskS), okS S → (∀ o ∈ l, okOp N o) → okS (doOps S l)
  | [], _, h, _ => h
  | o :: l, S, h, hl => okS_doOps l (doOp S o) (okS_doOp h (hl o (by simp))) (fun o' ho => hl o' (by simp [ho]))
theorem Told.okS {S : DiskS} {R : RefS} (h : Told S R) : okS S := by
  rw [h.made]
  exact okS_doOps S.ops _ ⟨h.size, fun n s hs => by simp [freshS] at hs⟩ h.ok
theorem crashL_512 (waits : Int → List ByteArray) (hw : ∀ n, ∀ s ∈ waits n, s.size = 512) : ∀ (nk : List (Int × Int)) (left : List ByteArray), (∀ p ∈ nk, 0 < p.2 → p.2 ≤ ((waits p.1).length : Int)) → (∀ s ∈ left, s.size = 512) → ∀ s ∈ crashL waits left nk, s.size = 512
  | [], left, _, hl => hl
  | p :: r, left, hp, hl => by
    show ∀ s ∈ crashL waits (if 0 < p.2 then left.set p.1.toNat ((waits p.1).getD (p.2.toNat - 1) ⟨#[]⟩) else left) r, s.size = 512
    refine crashL_512 waits hw r _ (fun q hq => hp q (by simp [hq])) ?_
    intro s hs
    split at hs
    · rename_i h0
      have hle := hp p (by simp) h0
      have hlt : p.2.toNat - 1 < (waits p.1).length := by omega
      rcases List.mem_or_eq_of_mem_set hs with h1 | h1
      · exact hl s h1
      · rw [h1, List.getD_eq_getElem?_getD, List.getElem?_eq_getElem hlt]
        exact hw _ _ (List.getElem_mem hlt)
    · exact hl s hs
/-- Behind a crash both are alike. -/
theorem alike_crash {S : DiskS} {R : RefS} (hA : Alike S R) (hS : okS S) {keep : List Int} (hg : goodKeep S.waits S.safe.length keep) :
    Alike (freshS (crashL S.waits S.safe ((waitKeys S.waits S.safe.length).zip keep))) ⟨bytesOf (crashL S.waits S.safe ((waitKeys S.waits S.safe.length).zip keep)), []⟩ := by
  refine doOps_alike _ (by rw [length_crashL, hA.len]; exact hA.ok.1) (crashL_512 S.waits hS.2 _ _ (fun p hp h0 => ?_) hS.1) [] (fun o ho => by simp at ho)
  obtain ⟨j, hj, rfl⟩ := List.getElem_of_mem hp
  rw [List.getElem_zip]
  simp only [List.length_zip] at hj
  exact (hg.2 j (by omega) (by omega)).2
theorem rcrash_nil (v : Value) (w : World) : Calls Try.prog 18 #[.pointer none, v] w fun e w' => e = .returned (.tuple #[.pointer none, .int .i64 1]) ∧ w' = w := by
  go_enter Try.func18, Try.ntmps18
  go_wp2
  go_returns
  exact ⟨rfl, rfl⟩
set_option maxRecDepth 100000 in
set_option maxHeartbeats 4000000 in
theorem cuts_walk (ds : List DeedS) (a : Option Addr) (c : Nat) (hlen : ds.length ≤ 9223372036854775807) (k : Int) (keep : List Int) (ka : Option Addr) (kc : Nat) (hkm : keep.length ≤ 9223372036854775807) (w : World) (hds : deedsAt w a ds) (hks : intsAt w ka keep) :
    Calls Try.prog 4 #[.slice a ds.length c, .int .i64 k, .slice ka keep.length kc] w fun e w' => e = .returned (.bool true) ∧ Below w.heap.size w w' := by
  have HPl := hid (play_any 5 (by omega) (by omega) ds a c hlen w hds)
  have HTo := hid (told_play 5 (by omega) ds (min ds.length 40) (by omega))
  have HSz := hid (play_sizes 5 ds (min ds.length 40) (by omega))
  have HKs := hid hks
  clear hds hks
  generalize playS 5 ds (min ds.length 40) = S at *
  generalize playR 5 ds (min ds.length 40) = R at *
  go_enter Try.func4, Try.ntmps4
  go_wp2_with fail
  refine HPl.out.mono ?_
  clear HPl
  rintro e w1 ⟨d, r, rfl, fv, lv, vs, Rd, hP⟩
  have HB1 := hid hP.below
  have HP := hid hP
  clear hP
  go_wp2_with fail
  refine (live_any w1).mono ?_
  rintro e w2 ⟨rfl, hB2⟩
  have HB2 := hid (HB1.out.trans (hB2.mono HB1.out.size))
  have HP2 := hid (HP.out.grow hB2)
  clear hB2 HB1 HP
  have hRm : R.l.length ≤ 1000000 := by have := HSz.out.2.2.2; omega
  have hSm : S.ops.length ≤ 1000000 := by have := HSz.out.2.2.1; omega
  have HAl := hid HTo.out.alike
  have hops := HAl.out.ops
  by_cases hk : 0 ≤ k ∧ k ≤ S.ops.length
  · obtain ⟨n, rfl⟩ : ∃ n : Nat, k = (n : Int) := ⟨k.toNat, by omega⟩
    have HCt := hid (cut_disk d S n w2 HP2.out.D (by omega) hSm HTo.out.ok)
    have HRc := hid (fun W (hW : Below w2.heap.size w2 W) => rcut_ok r fv lv vs Rd R n W (HP2.out.Rf.below hW) (fun i hi => Nat.lt_of_lt_of_le (HP2.out.rdlt i hi) hW.size) hRm (by omega))
    have HTc := hid (HTo.out.cut n)
    have HAc := hid HTc.out.alike
    have HOc := hid HTc.out.okS
    have HRl := hid (show (cutR R n).l.length ≤ 1000000 by simp [cutR]; omega)
    have HOl := hid (show (cutS S n).ops.length ≤ opsMax by rw [HAc.out.ops]; exact Nat.le_trans HRl.out (by unfold opsMax; omega))
    generalize cutS S n = Sc at *
    generalize cutR R n = Rc at *
    go_wp2_with fail
    refine HCt.out.mono ?_
    clear HCt
    rintro e w3 ⟨hB3, dc, rfl, hDc, -, -, -⟩
    have HB3 := hid (HB2.out.trans (hB3.mono HB2.out.size))
    have HP3 := hid (HP2.out.grow hB3)
    have HDc := hid hDc.rd
    have HRc3 := hid (HRc.out w3 hB3)
    clear hB3 hDc HRc HP2 HB2
    go_wp2_with fail
    refine HRc3.out.mono ?_
    clear HRc3
    rintro e w4 ⟨hB4, rc, lvc, vsc, Rdc, rfl, hRc⟩
    have HB4 := hid (HB3.out.trans (hB4.mono HB3.out.size))
    have HP4 := hid (HP3.out.grow hB4)
    have HDc4 := hid (HDc.out.below hB4)
    have HRc4 := hid hRc
    have HSm := hid (same_ref dc Sc rc fv lvc vsc Rdc Rc w4 HDc4.out hRc HAc.out HRl.out)
    clear hB4 hRc HP3 HB3 HDc
    go_wp2_with fail
    refine HSm.out.mono ?_
    clear HSm
    rintro e w5 ⟨rfl, hB5⟩
    have HB5 := hid (HB4.out.trans (hB5.mono HB4.out.size))
    have HP5 := hid (HP4.out.grow hB5)
    have HDc5 := hid (HDc4.out.below hB5)
    have HRc5 := hid (HRc4.out.below hB5)
    have HKs5 := hid (HKs.out.below HB5.out)
    have HCr := hid (crash_any_rd dc Sc keep ka kc w5 HDc5.out HOl.out hkm HKs5.out)
    clear hB5 HP4 HB4 HDc4 HRc4
    go_wp2_with fail
    refine HCr.out.mono ?_
    clear HCr
    rintro e w6 ⟨hB6, h6⟩
    have HB6 := hid (HB5.out.trans (hB6.mono HB5.out.size))
    have HP6 := hid (HP5.out.grow hB6)
    have HRcr := hid (rcrash_any Sc rc fv lvc vsc Rdc Rc keep ka kc w6 (HRc5.out.below hB6) HAc.out HRl.out HOc.out hkm (HKs5.out.below hB6))
    rcases h6 with ⟨hng, rfl⟩ | ⟨hg, dx, rfl, hDx, -, -⟩
    · clear hB6 HP5 HB5 HDc5 HRc5 HKs5
      go_wp2_with fail
      refine HRcr.out.mono ?_
      clear HRcr
      rintro e w7 ⟨hB7, h7⟩
      rcases h7 with ⟨-, rfl⟩ | ⟨hg, -⟩
      rotate_left
      · exact absurd hg hng
      have HB7 := hid (HB6.out.trans (hB7.mono HB6.out.size))
      have HSr := hid (same_ref d S r fv lv vs Rd R w7 (HP6.out.D.below hB7).rd (HP6.out.Rf.below hB7) HAl.out hRm)
      clear hB7 HP6 HB6
      go_wp2_with fail
      refine HSr.out.mono ?_
      clear HSr
      rintro e w8 ⟨rfl, hB8⟩
      have HB8 := hid (HB7.out.trans (hB8.mono HB7.out.size))
      clear hB8 HB7
      go_wp2
      go_ret
      exact ⟨rfl, HB8.out⟩
    · have HDx := hid hDx
      have HAx := hid (alike_crash HAc.out HOc.out hg)
      clear hB6 HP5 HB5 HDc5 HRc5 HKs5 hDx
      go_wp2_with fail
      refine HRcr.out.mono ?_
      clear HRcr
      rintro e w7 ⟨hB7, h7⟩
      rcases h7 with ⟨hng, -⟩ | ⟨-, ry, fvy, Rdy, rfl, hRy⟩
      · exact absurd hg hng
      have HB7 := hid (HB6.out.trans (hB7.mono HB6.out.size))
      have HDx7 := hid (HDx.out.below hB7)
      have HRy := hid hRy
      have HSr := hid (same_ref d S r fv lv vs Rd R w7 (HP6.out.D.below hB7).rd (HP6.out.Rf.below hB7) HAl.out hRm)
      clear hB7 HP6 HB6 HDx hRy
      go_wp2_with fail
      refine HSr.out.mono ?_
      clear HSr
      rintro e w8 ⟨rfl, hB8⟩
      have HB8 := hid (HB7.out.trans (hB8.mono HB7.out.size))
      have HSx := hid (same_ref dx _ ry fvy (.slice none 0 0) [] Rdy _ w8 (HDx7.out.below hB8).rd (HRy.out.below hB8) HAx.out (by simp))
      clear hB8 HB7 HDx7 HRy
      go_wp2_with fail
      refine HSx.out.mono ?_
      clear HSx
      rintro e w9 ⟨rfl, hB9⟩
      have HB9 := hid (HB8.out.trans (hB9.mono HB8.out.size))
      clear hB9 HB8
      go_wp2
      go_ret
      exact ⟨rfl, HB9.out⟩
  · have HCt := hid (cut_no d S k w2 HP2.out.D hk)
    have HRc := hid (rcut_no r fv lv vs Rd R k w2 HP2.out.Rf (by omega))
    have HSr := hid (same_ref d S r fv lv vs Rd R w2 HP2.out.D.rd HP2.out.Rf HAl.out hRm)
    clear HP2 hk
    go_wp2_with fail
    refine HCt.out.mono ?_
    clear HCt
    rintro e w9 ⟨rfl, h9⟩
    obtain rfl := h9.symm
    go_wp2_with fail
    refine HRc.out.mono ?_
    clear HRc
    rintro e w9 ⟨rfl, h9⟩
    obtain rfl := h9.symm
    go_wp2_with fail
    refine (crash_nil _ _).mono ?_
    rintro e w9 ⟨rfl, h9⟩
    obtain rfl := h9.symm
    go_wp2_with fail
    refine (rcrash_nil _ _).mono ?_
    rintro e w9 ⟨rfl, h9⟩
    obtain rfl := h9.symm
    go_wp2_with fail
    refine HSr.out.mono ?_
    clear HSr
    rintro e w8 ⟨rfl, hB8⟩
    have HB8 := hid (HB2.out.trans (hB8.mono HB2.out.size))
    clear hB8 HB2
    go_wp2
    go_ret
    exact ⟨rfl, HB8.out⟩
end Go.Proofs.Ytpkjpkjcdpgaaaa
