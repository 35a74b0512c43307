/- The walk of TopAgain. -/
import Derived.Test.YtclmachgpmfjfaaTAgainP
import Derived.Test.YtclmachgpmfjfaaTCrashed
namespace Go.Proofs.Ytclmachgpmfjfaa
open Go.RowKit
/-- Numbers of 16 bits in memory. -/
def u16At (w : World) (a : Option Addr) (xs : List Int) : Prop := ∀ j, j < xs.length → ∃ b o, a = some ⟨b, o, none⟩ ∧ ∀ i (hi : i < xs.length), w.cell? ⟨b, o + i, none⟩ = some (.int .u16 xs[i]) ∧ 0 ≤ xs[i] ∧ xs[i] ≤ 65535
theorem u8_or_one (x : Nat) (hx : x < 256) : ∃ y : UInt8, bits .or .u8 (x : Int) 1 = (y.toNat : Int) ∧ y ≠ 0 := by
  have h1 : x ||| 1 < 2 ^ 8 := Nat.or_lt_two_pow hx (by decide)
  refine ⟨UInt8.ofNat (x ||| 1), ?_, fun h => ?_⟩
  · show IntKind.u8.wrap ((BitVec.ofInt 8 (x : Int) ||| BitVec.ofInt 8 ((1 : Nat) : Int)).toNat : Int) = _
    rw [BitVec.toNat_or, BitVec.ofInt_natCast, BitVec.ofInt_natCast, BitVec.toNat_ofNat, BitVec.toNat_ofNat, Nat.mod_eq_of_lt (by omega), UInt8.toNat_ofNat']
    have h2 : (x ||| 1 % 2 ^ 8) = x ||| 1 := rfl
    rw [h2]
    simp [IntKind.wrap, IntKind.bits, IntKind.signed]
  · have h2 := congrArg UInt8.toNat h
    rw [UInt8.toNat_ofNat'] at h2
    have h3 : 1 ≤ x ||| 1 := Nat.right_le_or
    have h4 : (0 : UInt8).toNat = 0 := rfl
    omega
set_option maxRecDepth 100000 in
set_option maxHeartbeats 4000000 in
theorem topAgain_walk (pg : List UInt8) (pa0 : Option Addr) (pc0 : Nat) (pl : List Int) (la : Option Addr) (lc : Nat) (ch : List UInt8) (ca : Option Addr) (cc : Nat) (w : World) (hpg : bytesIn w pa0 pg) (hpl : u16At w la pl) (hcb : bytesIn w ca ch) (hch : ch.length ≤ 9223372036854775807) :
    Calls Try.prog 3 #[.slice pa0 pg.length pc0, .slice la pl.length lc, .slice ca ch.length cc] w fun e w' => e = .returned (.bool true) ∧ Below w.heap.size w w' := by
  have HPg := hid hpg
  have HPl := hid hpl
  have HCB := hid hcb
  clear hpg hpl hcb
  obtain ⟨xv, hxv⟩ : ∃ xv : Int, xv = (pg.length : Int) % 256 := ⟨_, rfl⟩
  have hx0 : 0 ≤ xv := by omega
  have hx1 : xv ≤ 255 := by omega
  obtain ⟨y, hy, hy0⟩ := u8_or_one (pg.length % 256) (by omega)
  rw [show ((pg.length % 256 : Nat) : Int) = xv by omega] at hy
  have HY := hid hy
  have hyz : ((y.toNat : Int) == 0) = false := by
    rw [beq_eq_false_iff_ne]
    intro e
    exact hy0 (UInt8.toNat_inj.1 (by show y.toNat = 0; omega))
  have HY0 := hid hy0
  have HYn : Hid (¬ y.toNat = 0) := fun e => hy0 (UInt8.toNat_inj.1 e)
  have HYb : Hid (((y.toNat : Int) != 0) = true) := by unfold Hid; rw [bne, hyz]; rfl
  clear hy hy0 hyz
  obtain ⟨i0, hi, hz0, hz1, hz2⟩ := info_parts infoPage
  have HI := hid hi
  clear hi
  go_enter Try.func3, Try.ntmps3
  go_wp2_with fail
  rw [← hxv]
  clear hxv
  refine (new_disk 40 (by omega) (by omega) _).mono ?_
  rintro e w1 ⟨d, rfl, hD, -, -, hB⟩
  have HD : Hid (DiskIn w1 d (freshN 40)) := hD
  have HB1 := hid hB
  have HOp := hid (open_zero d (freshN 40) 12 w1 hD (by show 0 ≤ 4096; decide) (by decide) (by rw [freshN_len]; decide) (by rw [show ((0 : Int)) = ((0 : Nat) : Int) from rfl, freshN_seen 40 0 (by omega)]; exact blank_zeros))
  clear hD hB
  go_wp2_with fail
  refine HOp.out.mono ?_
  clear HOp
  rintro e w2 ⟨hb2, p, d2, rfl, hp2, hL2⟩
  have HL2 := hid hL2
  have HB2 := hid (HB1.out.trans (hb2.mono HB1.out.size))
  have hs12 := hb2.size
  have hpl2 := lt_of_heap hL2.heap
  have hs01 := HB1.out.size
  clear hb2 hL2 HD
  go_wp2_with (refine wpList_make_bools rfl (.const (.int .i64 27)) (.const (.int .i64 27)) rfl 27 rfl rfl (by omega) ?_; intro w3 hb3 hr3 hz3; have HB23 := hid hb3; have HS3 : Hid (ownBo w3 w2.heap.size (seenOf [])) := (by unfold Hid; rw [seenOf_nil]; exact hr3); have hz3' := hz3; clear hb3 hr3 hz3)
  obtain ⟨SB, hSB⟩ : ∃ SB, SB = w2.heap.size := ⟨_, rfl⟩
  rw [← hSB] at HS3 hpl2 hz3' ⊢
  have HL3 := hid (HL2.out.below HB23.out)
  have HB3 := hid (HB2.out.trans (HB23.out.mono HB2.out.size))
  have hSw : w.heap.size ≤ SB := by rw [hSB]; exact HB2.out.size
  have hz3i : SB < w3.heap.size := by omega
  clear hSB HL2 HB2 HB1 HB23 hs12 hz3'
  have HS3c := HS3
  go_loopw [12, 14] (fun v i wr => ∃ (k : Nat) (nums : List Nat) (bs : Nat → Nat), k ≤ pg.length ∧ k ≤ 12 ∧ i = .int .i64 k ∧ Hid (nums.length ≤ k) ∧ Hid (nums.Nodup) ∧ Hid (∀ n ∈ nums, n < 27) ∧ Hid (wr.ownsRow w3.heap.size 34 2 v nums.length (pageCellsS false (natsZ nums) bs nums.length)) ∧ Hid (∀ j, j < nums.length → w3.heap.size ≤ bs j ∧ ownB wr (bs j) (gbL y)) ∧ Hid (ownBo wr SB (seenOf nums)) ∧ Hid (Keeps (fun i => i = SB) w3 wr)) (fun _ i _ => 12 - (intOf i).toNat)
  case atStart => exact ⟨0, [], fun _ => 0, by omega, by omega, rfl, Nat.le_refl _, List.nodup_nil, fun n hn => absurd hn (List.not_mem_nil), World.ownsRow_nil _ _ _ _, fun j hj => absurd hj (Nat.not_lt_zero _), HS3, Keeps.refl _ _⟩
  case round =>
    obtain ⟨k, nums, bs, hk1, hk2, rfl, hnl, hnd, hn27, hO, hBs, hSe, hKp⟩ := hrel
    clear HS3
    by_cases hlt : k < pg.length ∧ k < 12
    · obtain ⟨hka, hkb⟩ := hlt
      have hk0 : (0 : Int) ≤ (k : Int) := by omega
      have hka' : (k : Int) < (pg.length : Int) := by omega
      have hkb' : (k : Int) < 12 := by omega
      obtain ⟨gb, go, rfl, hgc⟩ := HPg.out k hka
      have hck := hgc k hka
      have ck : wr.cell? ⟨gb, go + k, none⟩ = some (.int .u8 (pg[k].toNat : Int)) := hKp.out.cell ((HB3.out.cell (p := ⟨gb, go + k, none⟩) (World.block_lt_of_cell? w _ hck)).trans hck) (show ¬ (gb = SB) from fun e => by have h9 := World.block_lt_of_cell? w _ hck; have h8 : gb < w.heap.size := h9; omega)
      obtain ⟨n, hn⟩ : ∃ n : Nat, (n : Int) = (pg[k].toNat : Int) % 27 := ⟨pg[k].toNat % 27, by omega⟩
      have hnl27 : n < 27 := by omega
      have hp0 : (0 : Int) ≤ (pg[k].toNat : Int) := by omega
      have hp1 : (pg[k].toNat : Int) ≤ 255 := by have := pg[k].toNat_lt; omega
      have cs : wr.cell? ⟨SB, n, none⟩ = some (.bool (decide (n ∈ nums))) := by
        have := hSe.out.cell n (by rw [length_seenOf]; exact hnl27)
        rw [seenOf_at] at this
        exact this
      generalize (pg[k].toNat : Int) = pv at *
      clear hgc hck
      have hn0 : (0 : Int) ≤ (n : Int) := by omega
      have hn1 : (n : Int) < 27 := by omega
      by_cases hmem : n ∈ nums
      · rw [decide_eq_true hmem] at cs
        have hpn : pv % 27 = (n : Int) := hn.symm
        clear hn
        have HNl : Hid (nums.length ≤ k + 1) := Nat.le_succ_of_le hnl.out
        go_wp2
        exact ⟨⟨k + 1, nums, bs, by omega, by omega, by go_num, HNl, hnd, hn27, hO, hBs, hSe, hKp⟩, by simp [intOf]; omega⟩
      · rw [decide_eq_false hmem] at cs
        have hpn : pv % 27 = (n : Int) := hn.symm
        have fs := hSe.out.frozen n
        have hst := hSe.out.set n true
        rw [seenOf_set nums n hnl27] at hst
        have hKe : Keeps (fun i => i = SB) wr (wr.setCell ⟨SB, n, none⟩ (.bool true)) := (Keeps.refl _ _).grown (grown_setCell (grown_refl _ _) _ _) (fun i e => .inl (Option.some.inj e).symm)
        have HKS := hid (hKp.out.trans hKe (fun i hi => .inl hi))
        have HOS := hid (hKe.row hO.out (fun i hi e => by have := (hO.out.lt i hi).1; have e2 : i = SB := e; omega))
        have HBS : Hid (∀ j, j < nums.length → w3.heap.size ≤ bs j ∧ ownB (wr.setCell ⟨SB, n, none⟩ (.bool true)) (bs j) (gbL y)) := fun j hj => ⟨(hBs.out j hj).1, (hBs.out j hj).2.keep hKe (fun e => by have := (hBs.out j hj).1; have e2 : bs j = SB := e; omega)⟩
        have HSS := hid hst
        have HMem := hid hmem
        have hy := HY.out
        clear hn hst hKe hO hBs hSe hKp hmem
        go_upto_region 14 with fail
        generalize wr.setCell ⟨SB, n, none⟩ (.bool true) = wS at *
        clear cs fs ck
        go_upto_region 15 with (refine wpList_make_u8 rfl (.const (.int .i64 512)) (.const (.int .i64 512)) rfl 512 512 rfl rfl rfl (by omega) ?_; intro w4 hb4 hr4 hz4; have HK4 := hid hb4; have HR4 : Hid (ownB w4 wS.heap.size (zN 512)) := (by unfold Hid ownB; rw [hr4, rep_U8]); have hz4' := hz4; clear hb4 hr4 hz4)
        obtain ⟨B1, hB1⟩ : ∃ B1, B1 = wS.heap.size := ⟨_, rfl⟩
        rw [← hB1] at HR4 hz4' ⊢
        have hB1s : w3.heap.size ≤ B1 := by rw [hB1]; exact HKS.out.size
        obtain ⟨old3, c3⟩ : ∃ v, w4.cell? ⟨B1, 3, none⟩ = some v := ⟨_, HR4.out.cell 3 (by rw [length_zN]; decide)⟩
        have f3 := HR4.out.frozen 3
        have hset : ownB (w4.setCell ⟨B1, 3, none⟩ (.int .u8 (y.toNat : Int))) B1 (gbL y) := HR4.out.set 3 y
        have hK5 : Keeps (fun i => i = B1) w4 (w4.setCell ⟨B1, 3, none⟩ (.int .u8 (y.toNat : Int))) := (Keeps.refl _ _).grown (grown_setCell (grown_refl _ _) _ _) (fun i e => .inl (Option.some.inj e).symm)
        have hS1 := HKS.out.size
        have HO5 := hid (hK5.row (HOS.out.kept (grown_of_belowW HK4.out none) (by cases u12.ownBlock <;> simp)) (fun i hi e => by have h1 := (HOS.out.lt i hi).2; have e2 : i = B1 := e; omega))
        have HBs5 : Hid (∀ j, j < nums.length → w3.heap.size ≤ bs j ∧ ownB (w4.setCell ⟨B1, 3, none⟩ (.int .u8 (y.toNat : Int))) (bs j) (gbL y)) := fun j hj => ⟨(HBS.out j hj).1, ((HBS.out j hj).2.below HK4.out).keep hK5 (fun e => by have h1 := (HBS.out j hj).2.lt; have e2 : bs j = B1 := e; omega)⟩
        have HSe5 := hid ((HSS.out.below HK4.out).keep hK5 (fun e => by have e2 : SB = B1 := e; omega))
        have HKp5 := hid ((HKS.out.trans (Keeps.of_below (F := fun _ => False) HK4.out) (fun _ h => h.elim)).trans hK5 (fun i hi => .inr (by rw [hi]; exact hB1s)))
        have HB15 := hid hset
        clear hset hK5 HR4 HOS HBS HSS HKS HK4 hB1 hz4'
        go_upto_region 16 with fail
        generalize w4.setCell ⟨B1, 3, none⟩ (.int .u8 (y.toNat : Int)) = w5 at *
        clear c3 f3
        have hB15 : B1 < w5.heap.size := HB15.out.lt
        go_wp2_with (refine wpList_append_lies _ rfl (.tmp 66) (.tmp 70) 31 rfl w3.heap.size 34 i0 (.agg #[.int .i64 0, .slice none 0 0]) 2 32 Try.underlying31 HI.out hz0 hz1 hz2 rfl (by omega) u12 nums.length _ rfl (HO5.out.alloc _) ⟨w5.heap.size, 0, none⟩ 1 1 [.int .i64 (n : Int), .slice (some ⟨B1, 0, none⟩) 512 512] rfl rfl (World.news_of_block (cs := #[.int .i64 (n : Int), .slice (some ⟨B1, 0, none⟩) 512 512]) (block_new w5 _)) (by intro u hu; rcases List.mem_cons.1 hu with rfl | hu; rfl; rw [List.mem_singleton.1 hu]; rfl) (by omega) (by have := hnl.out; unfold maxLen; omega) (by have := hnl.out; omega) (by simp; omega) (w5.heap.size + 1) (by simp) ?_; intro g2 cap2 w6 hown hgr hat hlt2; have HOw := hid hown; have HGr := hid hgr; clear hown hgr hat hlt2)
        have hne : ∀ b L, ownB w5 b L → u12.ownBlock ≠ some b := fun b L hb e => by
          obtain ⟨cur, hc⟩ := row_type HO5.out e
          rw [hb] at hc
          simp only [Option.some.injEq, Obj.cells.injEq] at hc
          exact absurd hc.2.1 (by decide)
        have hup : ∀ b L, ownB w5 b L → ownB w6 b L := fun b L hb => grown_block HGr.out (block_alloc hb _) (fun e => hne b L hb e)
        have hK6 : Keeps (fun i => u12.ownBlock = some i) w5 w6 := (Keeps.alloc (Keeps.refl _ w5) _).grown HGr.out (fun i e => .inl e)
        have hlt6 := fun i e => HO5.out.lt i e
        refine ⟨⟨k + 1, nums ++ [n], fun j => if j = nums.length then B1 else bs j, by omega, by omega, by go_num, ?_, ?_, ?_, ?_, ?_, ?_, ?_⟩, by simp [intOf]; omega⟩
        · have := hnl.out
          show (nums ++ [n]).length ≤ k + 1
          simp; omega
        · exact List.nodup_append.2 ⟨hnd.out, by simp, fun a ha b hb => by rw [List.mem_singleton.1 hb]; exact fun e => HMem.out (e ▸ ha)⟩
        · intro q hq
          rcases List.mem_append.1 hq with h | h
          · exact hn27.out q h
          · rw [List.mem_singleton.1 h]; exact hnl27
        · unfold Hid
          rw [pageCellsS_snoc, show (nums ++ [n]).length = nums.length + 1 by simp]
          exact HOw.out
        · intro j hj
          have hj2 : j < nums.length + 1 := by simpa using hj
          by_cases e : j = nums.length
          · subst e
            simp only [if_true]
            exact ⟨hB1s, hup _ _ HB15.out⟩
          · simp only [e, if_false]
            exact ⟨(HBs5.out j (by omega)).1, hup _ _ (HBs5.out j (by omega)).2⟩
        · exact HSe5.out.keep hK6 (fun e => by have := (hlt6 SB e).1; omega)
        · exact HKp5.out.trans hK6 (fun i hi => .inr (hlt6 i hi).1)
    · have HBr := hid (HB3.out.trans (hKp.out.below HB3.out.size (fun i hi => by rw [hi]; exact hSw)))
      have hLr := HL3.out.keepBo HS3c.out (fun h => by omega) hKp.out
      obtain ⟨pa, cap, rfl, hpa⟩ := row_pages hO.out
      have hpp : pagesS (freshN 40) 12 = 27 := by unfold pagesS; rw [freshN_len]
      have hlr := hKp.out.size
      have hcm := commit_any (numPs nums bs) pa cap (fun _ => gbL y) wr hLr (fun i hi => by omega) (by rw [freshN_len]; decide) hpa (fun j hj _ => by
        have hj' : j < nums.length := by rw [length_numPs] at hj; exact hj
        rw [numPs_at nums bs j hj hj']
        obtain ⟨h1, h2⟩ := hBs.out j hj'
        exact ⟨⟨bs j, 0, none⟩, rfl, h2.at, length_gbL y, fun hf => by have h9 : w1.heap.size ≤ bs j ∧ bs j < p := hf; omega⟩) (by show 0 ≤ 800000; decide)
      rw [hpp, numPs_err nums bs hnd.out (by have := hnl.out; omega) hn27.out, length_numPs] at hcm
      have HCm := hid hcm
      clear hpa hpp hcm hLr
      have hnl2 : nums.length ≤ 12 := by have := hnl.out; omega
      by_cases hg : k < pg.length
      · have hge : ((k : Int) < (pg.length : Int)) := by omega
        have hge2 : ¬ ((k : Int) < 12) := by omega
        clear hlt hg
        go_wp2_with fail
        refine HCm.out.mono ?_
        clear HCm
        rintro e w4 ⟨rfl, d4, hL4, hK4⟩
        have HL4 := hid hL4
        have HB4 := hid (HBr.out.trans (hK4.below HBr.out.size (fun i hi => by omega)))
        have HS4 := hid (hSe.out.keep hK4 (fun h => by omega))
        have HSf := hid (safe_com 40 12 (by decide) (by decide) (numPs nums bs) (fun _ => gbL y) (fun _ => length_gbL y))
        have HTl : Hid ((comS (freshN 40) 12 (numPs nums bs) (fun _ => gbL y)).safe.length = 40) := by unfold Hid; rw [comS_len, freshN_len]
        have HTo : Hid ((comS (freshN 40) 12 (numPs nums bs) (fun _ => gbL y)).ops.length ≤ 2000) := by
          have h1 := comS_ops_le (freshN 40) 12 (numPs nums bs) (fun _ => gbL y)
          have h2 : (freshN 40).ops.length = 0 := rfl
          unfold Hid
          omega
        have HPA : Hid (∀ L, L = allL (freshN 40) 12 ∨ L = allL (comS (freshN 40) 12 (numPs nums bs) (fun _ => gbL y)) 12 → ∃ g : Bool, (∀ n, n < 27 → L.getD n [] = if g = true ∧ n ∈ nums then gbL y else zN 512) ∧ (cntTo (beta g nums y) 27 = 0 ∨ cntTo (beta g nums y) 27 = nums.length)) := fun L hL => by
          rcases hL with rfl | rfl
          · refine ⟨false, fun n hn => ?_, .inl (cnt_none nums y)⟩
            have hl : n < (allL (freshN 40) 12).length := by rw [length_allL]; unfold pagesS; rw [freshN_len]; omega
            rw [List.getD_eq_getElem?_getD, List.getElem?_eq_getElem hl, Option.getD_some, allL_at, page_fresh n hn, if_neg (fun h => Bool.noConfusion h.1)]
          · refine ⟨true, fun n hn => ?_, .inr (cnt_all nums y HY0.out hnd.out hn27.out)⟩
            have hl : n < (allL (comS (freshN 40) 12 (numPs nums bs) (fun _ => gbL y)) 12).length := by rw [length_allL]; unfold pagesS; rw [HTl.out]; omega
            rw [List.getD_eq_getElem?_getD, List.getElem?_eq_getElem hl, Option.getD_some, allL_at, page_com nums bs y hnd.out (by omega) hn27.out n hn]
            simp only [true_and]
        have hmlen : nums.length ≤ 12 := by omega
        clear hL4 hK4 hSe HBr hO hBs hKp
        generalize allL (freshN 40) 12 = LA at *
        generalize allL (comS (freshN 40) 12 (numPs nums bs) (fun _ => gbL y)) 12 = LB at *
        generalize comS (freshN 40) 12 (numPs nums bs) (fun _ => gbL y) = T at *
        go_wp2
        go_loopw [10, 17] (fun lp i wr => ∃ (k : Nat) (p : Nat) (d : DL) (T : DiskS) (F : Nat → Prop) (rec : Nat), k ≤ pl.length ∧ k ≤ 6 ∧ lp = .pointer (some ⟨p, 0, none⟩) ∧ i = .int .i64 k ∧ Hid (LogIn wr p d T 12 rec F) ∧ Hid (SafeLog T 12 LA LB) ∧ Hid (T.safe.length = 40) ∧ Hid (T.ops.length ≤ 2000) ∧ Hid (ownBo wr SB (seenOf nums)) ∧ Hid (Below w.heap.size w wr)) (fun _ i _ => 6 - (intOf i).toNat)
        case atStart => exact ⟨0, p, _, T, _, 0, by omega, by omega, rfl, rfl, HL4, HSf, HTl, HTo, HS4, HB4⟩
        case round =>
          obtain ⟨k2, p2, d2, T2, F2, rec2, hq1, hq2, rfl, rfl, hL, hSf, hTl, hTo, hS, hB⟩ := hrel
          clear HL4 HSf HTl HTo HS4 HB4
          by_cases hlt2 : k2 < pl.length ∧ k2 < 6
          · obtain ⟨hqa, hqb⟩ := hlt2
            have hqa' : (k2 : Int) < (pl.length : Int) := by omega
            have hqb' : (k2 : Int) < 6 := by omega
            have hq0 : (0 : Int) ≤ (k2 : Int) := by omega
            obtain ⟨lb, lo, rfl, hlc⟩ := HPl.out k2 hqa
            obtain ⟨hc1, hc2, hc3⟩ := hlc k2 hqa
            have HPc : Hid (∀ W, Below w.heap.size w W → W.cell? ⟨lb, lo + k2, none⟩ = some (.int .u16 pl[k2])) := fun W hW => (hW.cell (p := ⟨lb, lo + k2, none⟩) (World.block_lt_of_cell? w _ hc1)).trans hc1
            have HDk := hid (log_disk wr hL.out (by have := hTo.out; omega))
            clear hlc hc1
            generalize pl[k2] = kv at *
            go_wp2_with fail
            refine HDk.out.mono ?_
            clear HDk
            rintro e w5 ⟨hb5, d5, rfl, hC5, -⟩
            have HB5 := hid (hB.out.trans (hb5.mono hB.out.size))
            have HS5 := hid (hS.out.below hb5)
            have HO5 := hid (fun W (hW : Below w5.heap.size w5 W) => ops_disk_rd d5 T2 W (hC5.rd.below hW))
            have HCr := hid (fun q hq W (hW : Below w5.heap.size w5 W) => tcrashed_any d5 T2 q ch ca cc W (hC5.below hW) hq (by have := hTo.out; omega) hSf.out.made.ok hch (HCB.out.below (HB5.out.trans (hW.mono HB5.out.size))))
            have HSo := hid (fun q hq => safe_open hSf.out q ch hq)
            have hoT : T2.ops.length ≤ 2000 := hTo.out
            have hkc := HPc.out w5 HB5.out
            obtain ⟨oT, hoTe⟩ : ∃ oT, oT = T2.ops.length := ⟨_, rfl⟩
            rw [← hoTe] at hoT HO5 HCr HSo
            clear hoTe hb5 hC5 hL hS hB
            go_wp2_with fail
            refine wp_region_noPanic ?_
            refine wp_region_held_drew (S := fun W => W.cell? ⟨lb, lo + k2, none⟩ = some (.int .u16 kv)) (by kernel_rfl) hkc (fun hHeld => ?_)
            refine wpAnyH_take (i := 0) (v := ?_) rfl (by kernel_rfl) (by kernel_rfl) (by kernel_rfl) (fun _ _ _ h => h) (Or.inl ⟨by rfl, ?_⟩) (by assumption) ?_
            rotate_left
            · (intro W hSw; (try dsimp only at hSw); obtain s0 := hSw; go_simp; try with_reducible rfl)
            try simp only [List.getElem_toArray, List.getElem_cons_zero, Act.put, List.setIfInBounds_toArray, List.set_cons_zero, List.set_cons_succ]
            refine wpAnyH_take (i := 1) (v := ?_) rfl (by kernel_rfl) (by kernel_rfl) (by kernel_rfl) (fun _ _ _ h => h) (Or.inl ⟨by rfl, ?_⟩) (by assumption) ?_
            rotate_left
            · (intro W hSw; (try dsimp only at hSw); obtain s0 := hSw; go_simp; try with_reducible rfl)
            try simp only [List.getElem_toArray, List.getElem_cons_succ, List.getElem_cons_zero, Act.put, List.setIfInBounds_toArray, List.set_cons_zero, List.set_cons_succ]
            refine wpAnyH_take (i := 2) (v := ?_) rfl (by kernel_rfl) (by kernel_rfl) (by kernel_rfl) (fun _ _ _ h => h) (Or.inl ⟨by rfl, ?_⟩) (by assumption) ?_
            rotate_left
            · (intro W hSw; (try dsimp only at hSw); obtain s0 := hSw; go_simp; try with_reducible rfl)
            try simp only [List.getElem_toArray, List.getElem_cons_succ, List.getElem_cons_zero, Act.put, List.setIfInBounds_toArray, List.set_cons_zero, List.set_cons_succ]
            refine wpAnyH_take (i := 3) (v := ?_) rfl (by kernel_rfl) (by kernel_rfl) (by kernel_rfl) (fun _ _ _ h => h) (Or.inl ⟨by rfl, ?_⟩) (by assumption) ?_
            rotate_left
            · (intro W hSw; (try dsimp only at hSw); obtain s0 := hSw; go_simp; try with_reducible rfl)
            try simp only [List.getElem_toArray, List.getElem_cons_succ, List.getElem_cons_zero, Act.put, List.setIfInBounds_toArray, List.set_cons_zero, List.set_cons_succ]
            refine wpAnyH_take (i := 4) (v := ?_) rfl (by kernel_rfl) (by kernel_rfl) (by kernel_rfl) (fun _ _ _ h => h) (Or.inl ⟨by rfl, ?_⟩) (by assumption) ?_
            rotate_left
            · (intro W hSw; (try dsimp only at hSw); obtain s0 := hSw; go_simp; try with_reducible rfl)
            try simp only [List.getElem_toArray, List.getElem_cons_succ, List.getElem_cons_zero, Act.put, List.setIfInBounds_toArray, List.set_cons_zero, List.set_cons_succ]
            refine wpAnyH_take (i := 5) (v := ?_) rfl (by kernel_rfl) (by kernel_rfl) (by kernel_rfl) (fun _ _ _ h => h) (Or.inl ⟨by rfl, ?_⟩) (by assumption) ?_
            rotate_left
            · (intro W hSw; (try dsimp only at hSw); obtain s0 := hSw; go_simp; try with_reducible rfl)
            try simp only [List.getElem_toArray, List.getElem_cons_succ, List.getElem_cons_zero, Act.put, List.setIfInBounds_toArray, List.set_cons_zero, List.set_cons_succ]
            refine wpAnyH_take (i := 6) (v := ?_) rfl (by kernel_rfl) (by kernel_rfl) (by kernel_rfl) (fun _ _ _ h => h) (Or.inl ⟨by rfl, ?_⟩) (by assumption) ?_
            rotate_left
            · (intro W hSw; (try dsimp only at hSw); obtain s0 := hSw; go_simp; try with_reducible rfl)
            try simp only [List.getElem_toArray, List.getElem_cons_succ, List.getElem_cons_zero, Act.put, List.setIfInBounds_toArray, List.set_cons_zero, List.set_cons_succ]
            refine wpAnyH_take (i := 10) (v := ?_) rfl (by kernel_rfl) (by kernel_rfl) (by kernel_rfl) (fun _ _ _ h => h) (Or.inl ⟨by rfl, ?_⟩) (by assumption) ?_
            rotate_left
            · (intro W hSw; (try dsimp only at hSw); obtain s0 := hSw; go_simp; try with_reducible rfl)
            try simp only [List.getElem_toArray, List.getElem_cons_succ, List.getElem_cons_zero, Act.put, List.setIfInBounds_toArray, List.set_cons_zero, List.set_cons_succ]
            refine wpAnyH_ready (rs := [7]) (by kernel_rfl) (by simp) (AllReadyH.cons rfl (fun K hKK => ?_) AllReadyH.nil)
            rw [if_pos (by rfl)]
            go_simp
            refine (HO5.out w5.drew (Below.refl _ _).drew).mono ?_
            clear HO5
            rintro e w9 ⟨rfl, h9⟩
            obtain rfl := h9.symm
            go_wp2_with fail
            refine hKK.out _ _ hkc (fun hHeld => ?_)
            clear hKK K
            try simp only [List.getElem_toArray, List.getElem_cons_succ, List.getElem_cons_zero, Act.put, List.setIfInBounds_toArray, List.set_cons_zero, List.set_cons_succ]
            refine wpAnyH_take (i := 8) (v := ?_) rfl (by kernel_rfl) (by kernel_rfl) (by kernel_rfl) (fun _ _ _ h => h) (Or.inl ⟨by rfl, ?_⟩) (by assumption) ?_
            rotate_left
            · (intro W hSw; (try dsimp only at hSw); obtain s0 := hSw; go_simp; try with_reducible rfl)
            try simp only [List.getElem_toArray, List.getElem_cons_succ, List.getElem_cons_zero, Act.put, List.setIfInBounds_toArray, List.set_cons_zero, List.set_cons_succ]
            refine wpAnyH_take (i := 9) (v := .int .i64 (kv % ((oT : Int) + 1))) rfl (by kernel_rfl) (by kernel_rfl) (by kernel_rfl) (fun _ _ _ h => h) (Or.inl ⟨by rfl, ?_⟩) (by assumption) ?_
            · intro W hSw
              go_simp
              rw [IntWalk.i64_in ((oT : Int) + 1) (by omega), IntWalk.i64_in kv (by omega), if_neg (show ¬ ((oT : Int) + 1 = 0) by omega), Int.tmod_eq_emod_of_nonneg hc2]
            try simp only [List.getElem_toArray, List.getElem_cons_succ, List.getElem_cons_zero, Act.put, List.setIfInBounds_toArray, List.set_cons_zero, List.set_cons_succ]
            obtain ⟨r1, hr1⟩ : ∃ r1 : Nat, (r1 : Int) = kv % ((oT : Int) + 1) := ⟨(kv % ((oT : Int) + 1)).toNat, by have := Int.emod_nonneg kv (show (oT : Int) + 1 ≠ 0 by omega); omega⟩
            have hr1T : r1 ≤ oT := by have := Int.emod_lt_of_pos kv (show 0 < (oT : Int) + 1 by omega); omega
            rw [← hr1]
            clear hr1
            refine wpAnyH_ready (rs := [11]) (by kernel_rfl) (by simp) (AllReadyH.cons rfl (fun K hKK => ?_) AllReadyH.nil)
            rw [if_pos (by rfl)]
            go_simp
            refine (HCr.out r1 hr1T w5.drew (Below.refl _ _).drew).mono ?_
            clear HCr
            rintro e w6 ⟨hb6, d6, rfl, hD6⟩
            have hb6' := below_undrew hb6
            have HB6 := hid (HB5.out.trans (hb6'.mono HB5.out.size))
            have HS6 := hid (HS5.out.below hb6')
            have hkd := HPc.out w6 HB6.out
            have hXl := crashed_len hSf.out.made r1 ch
            have HXm := hid (crashed_made hSf.out.made r1 ch)
            rw [hTl.out] at hXl
            have HXl := hid hXl
            obtain ⟨ns, hns, hSf2, hAB⟩ := HSo.out r1 hr1T
            obtain ⟨X, hX⟩ : ∃ X, X = crashedS T2 r1 ch := ⟨_, rfl⟩
            rw [← hX] at hD6 HXl HXm hns hSf2 hAB
            have hXo : X.ops = [] := by rw [hX]; rfl
            have HOn := hid (open_any d6 X (fun i => d6.foot X.waits i) 12 w6 (.inr ⟨hD6, fun _ h => h⟩) (by rw [hXo]; decide) (by omega) (by rw [HXl.out]; omega) (fun n hn => HXm.out.sec n hn))
            have hOo : (openS X 12 ns).ops.length ≤ 2000 := by
              have := (headNums_facts hns).1
              unfold openS
              split
              · rw [hXo]; decide
              · rw [homeS_ops, hXo]; simp; omega
            have HOo := hid hOo
            have HNs := hid hns
            have HSf2 := hid hSf2
            have HAB := hid hAB
            clear hb6 hb6' hD6 hX hXo hXl hns hSf2 hAB hOo HSo HB5 HS5 hkc
            go_wp2_with fail
            refine hKK.out _ _ hkd (fun hHeld => ?_)
            clear hKK K
            try simp only [List.getElem_toArray, List.getElem_cons_succ, List.getElem_cons_zero, Act.put, List.setIfInBounds_toArray, List.set_cons_zero, List.set_cons_succ]
            refine wpAnyH_ready (rs := [12]) (by kernel_rfl) (by simp) (AllReadyH.cons rfl (fun K hKK => ?_) AllReadyH.nil)
            rw [if_pos (by rfl)]
            go_simp
            refine HOn.out.mono ?_
            clear HOn
            rintro e w7 ⟨hb7, ho7⟩
            rcases ho7 with ⟨hno, -⟩ | ⟨ns2, p7, d7, hso, rfl, hp7, hL7⟩
            · rw [HNs.out] at hno; cases hno
            obtain rfl : ns = ns2 := Option.some.inj (HNs.out.symm.trans hso)
            have HB7 := hid (HB6.out.trans (hb7.mono HB6.out.size))
            have HS7 := hid (HS6.out.below hb7)
            have hke := HPc.out w7 HB7.out
            have HL7 := hid hL7
            have HOl : Hid ((openS X 12 ns).safe.length = 40) := by unfold Hid; rw [openS_len, HXl.out]
            obtain ⟨g, hgp, hgc⟩ := HPA.out _ HAB.out
            have hpage : ∀ n, n < 27 → secL (openS X 12 ns) (1 + 12 + n) = if g = true ∧ n ∈ nums then gbL y else zN 512 := fun n hn => by
              have hl : n < (allL (openS X 12 ns) 12).length := by rw [length_allL]; unfold pagesS; rw [HOl.out]; omega
              have h1 := hgp n hn
              rw [List.getD_eq_getElem?_getD, List.getElem?_eq_getElem hl, Option.getD_some, allL_at] at h1
              exact h1
            have HPage := hid hpage
            have HCnt := hid hgc
            clear hb7 hso hL7 hp7 hgp hgc hpage HAB HB6 HS6 HXm HXl HNs hkd
            obtain ⟨O, hO⟩ : ∃ O, O = openS X 12 ns := ⟨_, rfl⟩
            rw [← hO] at HL7 HSf2 HOo HOl HPage
            clear hO
            go_wp2_with fail
            refine hKK.out _ _ hke (fun hHeld => ?_)
            clear hKK K
            try simp only [List.getElem_toArray, List.getElem_cons_succ, List.getElem_cons_zero, Act.put, List.setIfInBounds_toArray, List.set_cons_zero, List.set_cons_succ]
            refine wpAnyH_take (i := 13) (v := ?_) rfl (by kernel_rfl) (by kernel_rfl) (by kernel_rfl) (fun _ _ _ h => h) (Or.inl ⟨by rfl, ?_⟩) (by assumption) ?_
            rotate_left
            · (intro W hSw; (try dsimp only at hSw); obtain s0 := hSw; go_simp; try with_reducible rfl)
            try simp only [List.getElem_toArray, List.getElem_cons_succ, List.getElem_cons_zero, Act.put, List.setIfInBounds_toArray, List.set_cons_zero, List.set_cons_succ]
            refine wpAnyH_take (i := 14) (v := ?_) rfl (by kernel_rfl) (by kernel_rfl) (by kernel_rfl) (fun _ _ _ h => h) (Or.inl ⟨by rfl, ?_⟩) (by assumption) ?_
            rotate_left
            · (intro W hSw; (try dsimp only at hSw); obtain s0 := hSw; go_simp; try with_reducible rfl)
            try simp only [List.getElem_toArray, List.getElem_cons_succ, List.getElem_cons_zero, Act.put, List.setIfInBounds_toArray, List.set_cons_zero, List.set_cons_succ]
            refine wpAnyH_take (i := 15) (v := ?_) rfl (by kernel_rfl) (by kernel_rfl) (by kernel_rfl) (fun _ _ _ h => h) (Or.inl ⟨by rfl, ?_⟩) (by assumption) ?_
            rotate_left
            · (intro W hSw; (try dsimp only at hSw); obtain s0 := hSw; go_simp; try with_reducible rfl)
            try simp only [List.getElem_toArray, List.getElem_cons_succ, List.getElem_cons_zero, Act.put, List.setIfInBounds_toArray, List.set_cons_zero, List.set_cons_succ]
            refine wpAnyH_take (i := 16) (v := ?_) rfl (by kernel_rfl) (by kernel_rfl) (by kernel_rfl) (fun _ _ _ h => h) (Or.inl ⟨by rfl, ?_⟩) (by assumption) ?_
            rotate_left
            · (intro W hSw; (try dsimp only at hSw); obtain s0 := hSw; go_simp; try with_reducible rfl)
            try simp only [List.getElem_toArray, List.getElem_cons_succ, List.getElem_cons_zero, Act.put, List.setIfInBounds_toArray, List.set_cons_zero, List.set_cons_succ]
            refine wpAnyH_take (i := 17) (v := ?_) rfl (by kernel_rfl) (by kernel_rfl) (by kernel_rfl) (fun _ _ _ h => h) (Or.inl ⟨by rfl, ?_⟩) (by assumption) ?_
            rotate_left
            · (intro W hSw; (try dsimp only at hSw); obtain s0 := hSw; go_simp; try with_reducible rfl)
            try simp only [List.getElem_toArray, List.getElem_cons_succ, List.getElem_cons_zero, Act.put, List.setIfInBounds_toArray, List.set_cons_zero, List.set_cons_succ]
            refine wpAnyH_done (by kernel_rfl) ?_ _
            refine NoPanic.normal ?_
            clear hHeld hke
            go_wp2
            generalize ns.length = rec7 at *
            have HC0 : Hid (cntTo (beta g nums y) 0 = 0) := rfl
            go_loopw [19, 20] (fun th i wr => ∃ (n c : Nat), n ≤ 27 ∧ i = .int .i64 n ∧ th = .int .i64 c ∧ Hid (c = cntTo (beta g nums y) n) ∧ Hid (Below w7.heap.size w7 wr)) (fun _ i _ => 27 - (intOf i).toNat)
            case atStart => exact ⟨0, 0, by omega, rfl, rfl, HC0.out.symm, Below.refl _ _⟩
            case round =>
              obtain ⟨n, cv, hn27', rfl, rfl, hcv, hBi⟩ := hrel
              have hcn : cv ≤ 27 := by have h1 := cntTo_le (beta g nums y) n; have h2 := hcv.out; omega
              by_cases hnn : n < 27
              · have hn0 : (0 : Int) ≤ (n : Int) := by omega
                have hn1 : (n : Int) < 27 := by omega
                have hrd := log_read n wr (HL7.out.below hBi.out) (by rw [HOl.out]; omega) (by unfold pagesS; rw [HOl.out]; omega)
                have hsec : (seenS O.safe O.waits (1 + ((12 : Nat) : Int) + (n : Int))).data.toList = if g = true ∧ n ∈ nums then gbL y else zN 512 := by
                  rw [show (1 + ((12 : Nat) : Int) + (n : Int)) = ((1 + 12 + n : Nat) : Int) by omega]
                  exact HPage.out n hnn
                have hsz : (seenS O.safe O.waits (1 + ((12 : Nat) : Int) + (n : Int))).size = 512 := by
                  have h1 : (seenS O.safe O.waits (1 + ((12 : Nat) : Int) + (n : Int))).data.toList.length = 512 := by
                    rw [hsec]; split
                    · exact length_gbL y
                    · exact length_zN 512
                  simpa using h1
                rw [hsz, hsec] at hrd
                have HRd := hid hrd
                have hsw := (HS7.out.below hBi.out).cell n (by rw [length_seenOf]; exact hnn)
                rw [seenOf_at] at hsw
                have HSw := hid hsw
                have hSBl := (HS7.out.below hBi.out).lt
                have HCs := hid (cntTo_succ (beta g nums y) n)
                clear hrd hsec hsz hsw
                go_wp2_with fail
                refine HRd.out.mono ?_
                clear HRd
                rintro e w8 ⟨rb, rc, rfl, hrb, hat, hb8⟩
                have HB8 := hid (hBi.out.trans (hb8.mono hBi.out.size))
                have cs := (hb8.cell (p := ⟨SB, n, none⟩) hSBl).trans HSw.out
                have hy := HY.out
                by_cases hmem : g = true ∧ n ∈ nums
                · rw [if_pos hmem] at hat
                  have hb : beta g nums y n = y := by unfold beta; rw [if_pos hmem]
                  have h3 := hat 3 (by rw [length_gbL]; decide)
                  rw [Addr.add_mid, Nat.zero_add, gbL_at] at h3
                  rw [decide_eq_true hmem.2] at cs
                  have HCn : Hid (cv + 1 = cntTo (beta g nums y) (n + 1)) := by
                    unfold Hid
                    rw [HCs.out, hb, if_pos HY0.out, hcv.out]
                  have hyn := HYn.out
                  have hyb := HYb.out
                  clear hat hb8 hb hmem HCs HSw
                  go_wp2
                  exact ⟨⟨n + 1, cv + 1, by omega, by go_num, by go_num, HCn, HB8⟩, by simp [intOf]; omega⟩
                · rw [if_neg hmem] at hat
                  have hb : beta g nums y n = 0 := by unfold beta; rw [if_neg hmem]
                  have h3 := hat 3 (by rw [length_zN]; decide)
                  rw [Addr.add_mid, Nat.zero_add, show (zN 512)[3]'(by rw [length_zN]; decide) = 0 from List.getElem_replicate _] at h3
                  have h3' : w8.cell? ⟨rb, 3, none⟩ = some (.int .u8 0) := h3
                  have HCn : Hid (cv = cntTo (beta g nums y) (n + 1)) := by
                    unfold Hid
                    rw [HCs.out, hb, if_neg (by simp), Nat.add_zero, hcv.out]
                  clear hat hb8 hb hmem HCs HSw h3
                  go_wp2
                  exact ⟨⟨n + 1, cv, by omega, by go_num, by go_num, HCn, HB8⟩, by simp [intOf]; omega⟩
              · obtain rfl : n = 27 := by omega
                have hge3 : ¬ (((27 : Nat) : Int) < 27) := by omega
                have HS8 := hid (HS7.out.below hBi.out)
                have HL8 := hid (HL7.out.below hBi.out)
                have HB8 := hid (HB7.out.trans (hBi.out.mono HB7.out.size))
                have hcase : cv = 0 ∨ (cv ≠ 0 ∧ cv = nums.length) := by
                  have h1 := hcv.out
                  rcases HCnt.out with h2 | h2
                  · left; omega
                  · by_cases h0 : cv = 0
                    · exact .inl h0
                    · exact .inr ⟨h0, by omega⟩
                clear hcv HL7 HS7 HB7 HCnt hBi HPage
                rcases hcase with rfl | ⟨hc0, rfl⟩
                · go_wp2
                  exact ⟨⟨k2 + 1, p7, d7, O, _, rec7, by omega, by omega, rfl, by go_num, HL8, HSf2, HOl, HOo, HS8, HB8⟩, by simp [intOf]; omega⟩
                · have hcn1 : ¬ nums.length = 0 := hc0
                  have hcb : ((nums.length : Int) != 0) = true := by rw [bne, beq_eq_false_iff_ne.2 (show (nums.length : Int) ≠ 0 by omega)]; rfl
                  clear hc0
                  go_wp2
                  exact ⟨⟨k2 + 1, p7, d7, O, _, rec7, by omega, by omega, rfl, by go_num, HL8, HSf2, HOl, HOo, HS8, HB8⟩, by simp [intOf]; omega⟩
          · by_cases hg2 : k2 < pl.length
            · have hge3 : ((k2 : Int) < (pl.length : Int)) := by omega
              have hge4 : ¬ ((k2 : Int) < 6) := by omega
              clear hlt2 hg2
              go_wp2
              go_ret
              exact ⟨rfl, hB.out⟩
            · have hge3 : ¬ ((k2 : Int) < (pl.length : Int)) := by omega
              clear hlt2 hg2
              go_wp2
              go_ret
              exact ⟨rfl, hB.out⟩
      · have hge : ¬ ((k : Int) < (pg.length : Int)) := by omega
        clear hlt hg
        go_wp2_with fail
        refine HCm.out.mono ?_
        clear HCm
        rintro e w4 ⟨rfl, d4, hL4, hK4⟩
        have HL4 := hid hL4
        have HB4 := hid (HBr.out.trans (hK4.below HBr.out.size (fun i hi => by omega)))
        have HS4 := hid (hSe.out.keep hK4 (fun h => by omega))
        have HSf := hid (safe_com 40 12 (by decide) (by decide) (numPs nums bs) (fun _ => gbL y) (fun _ => length_gbL y))
        have HTl : Hid ((comS (freshN 40) 12 (numPs nums bs) (fun _ => gbL y)).safe.length = 40) := by unfold Hid; rw [comS_len, freshN_len]
        have HTo : Hid ((comS (freshN 40) 12 (numPs nums bs) (fun _ => gbL y)).ops.length ≤ 2000) := by
          have h1 := comS_ops_le (freshN 40) 12 (numPs nums bs) (fun _ => gbL y)
          have h2 : (freshN 40).ops.length = 0 := rfl
          unfold Hid
          omega
        have HPA : Hid (∀ L, L = allL (freshN 40) 12 ∨ L = allL (comS (freshN 40) 12 (numPs nums bs) (fun _ => gbL y)) 12 → ∃ g : Bool, (∀ n, n < 27 → L.getD n [] = if g = true ∧ n ∈ nums then gbL y else zN 512) ∧ (cntTo (beta g nums y) 27 = 0 ∨ cntTo (beta g nums y) 27 = nums.length)) := fun L hL => by
          rcases hL with rfl | rfl
          · refine ⟨false, fun n hn => ?_, .inl (cnt_none nums y)⟩
            have hl : n < (allL (freshN 40) 12).length := by rw [length_allL]; unfold pagesS; rw [freshN_len]; omega
            rw [List.getD_eq_getElem?_getD, List.getElem?_eq_getElem hl, Option.getD_some, allL_at, page_fresh n hn, if_neg (fun h => Bool.noConfusion h.1)]
          · refine ⟨true, fun n hn => ?_, .inr (cnt_all nums y HY0.out hnd.out hn27.out)⟩
            have hl : n < (allL (comS (freshN 40) 12 (numPs nums bs) (fun _ => gbL y)) 12).length := by rw [length_allL]; unfold pagesS; rw [HTl.out]; omega
            rw [List.getD_eq_getElem?_getD, List.getElem?_eq_getElem hl, Option.getD_some, allL_at, page_com nums bs y hnd.out (by omega) hn27.out n hn]
            simp only [true_and]
        have hmlen : nums.length ≤ 12 := by omega
        clear hL4 hK4 hSe HBr hO hBs hKp
        generalize allL (freshN 40) 12 = LA at *
        generalize allL (comS (freshN 40) 12 (numPs nums bs) (fun _ => gbL y)) 12 = LB at *
        generalize comS (freshN 40) 12 (numPs nums bs) (fun _ => gbL y) = T at *
        go_wp2
        go_loopw [10, 17] (fun lp i wr => ∃ (k : Nat) (p : Nat) (d : DL) (T : DiskS) (F : Nat → Prop) (rec : Nat), k ≤ pl.length ∧ k ≤ 6 ∧ lp = .pointer (some ⟨p, 0, none⟩) ∧ i = .int .i64 k ∧ Hid (LogIn wr p d T 12 rec F) ∧ Hid (SafeLog T 12 LA LB) ∧ Hid (T.safe.length = 40) ∧ Hid (T.ops.length ≤ 2000) ∧ Hid (ownBo wr SB (seenOf nums)) ∧ Hid (Below w.heap.size w wr)) (fun _ i _ => 6 - (intOf i).toNat)
        case atStart => exact ⟨0, p, _, T, _, 0, by omega, by omega, rfl, rfl, HL4, HSf, HTl, HTo, HS4, HB4⟩
        case round =>
          obtain ⟨k2, p2, d2, T2, F2, rec2, hq1, hq2, rfl, rfl, hL, hSf, hTl, hTo, hS, hB⟩ := hrel
          clear HL4 HSf HTl HTo HS4 HB4
          by_cases hlt2 : k2 < pl.length ∧ k2 < 6
          · obtain ⟨hqa, hqb⟩ := hlt2
            have hqa' : (k2 : Int) < (pl.length : Int) := by omega
            have hqb' : (k2 : Int) < 6 := by omega
            have hq0 : (0 : Int) ≤ (k2 : Int) := by omega
            obtain ⟨lb, lo, rfl, hlc⟩ := HPl.out k2 hqa
            obtain ⟨hc1, hc2, hc3⟩ := hlc k2 hqa
            have HPc : Hid (∀ W, Below w.heap.size w W → W.cell? ⟨lb, lo + k2, none⟩ = some (.int .u16 pl[k2])) := fun W hW => (hW.cell (p := ⟨lb, lo + k2, none⟩) (World.block_lt_of_cell? w _ hc1)).trans hc1
            have HDk := hid (log_disk wr hL.out (by have := hTo.out; omega))
            clear hlc hc1
            generalize pl[k2] = kv at *
            go_wp2_with fail
            refine HDk.out.mono ?_
            clear HDk
            rintro e w5 ⟨hb5, d5, rfl, hC5, -⟩
            have HB5 := hid (hB.out.trans (hb5.mono hB.out.size))
            have HS5 := hid (hS.out.below hb5)
            have HO5 := hid (fun W (hW : Below w5.heap.size w5 W) => ops_disk_rd d5 T2 W (hC5.rd.below hW))
            have HCr := hid (fun q hq W (hW : Below w5.heap.size w5 W) => tcrashed_any d5 T2 q ch ca cc W (hC5.below hW) hq (by have := hTo.out; omega) hSf.out.made.ok hch (HCB.out.below (HB5.out.trans (hW.mono HB5.out.size))))
            have HSo := hid (fun q hq => safe_open hSf.out q ch hq)
            have hoT : T2.ops.length ≤ 2000 := hTo.out
            have hkc := HPc.out w5 HB5.out
            obtain ⟨oT, hoTe⟩ : ∃ oT, oT = T2.ops.length := ⟨_, rfl⟩
            rw [← hoTe] at hoT HO5 HCr HSo
            clear hoTe hb5 hC5 hL hS hB
            go_wp2_with fail
            refine wp_region_noPanic ?_
            refine wp_region_held_drew (S := fun W => W.cell? ⟨lb, lo + k2, none⟩ = some (.int .u16 kv)) (by kernel_rfl) hkc (fun hHeld => ?_)
            refine wpAnyH_take (i := 0) (v := ?_) rfl (by kernel_rfl) (by kernel_rfl) (by kernel_rfl) (fun _ _ _ h => h) (Or.inl ⟨by rfl, ?_⟩) (by assumption) ?_
            rotate_left
            · (intro W hSw; (try dsimp only at hSw); obtain s0 := hSw; go_simp; try with_reducible rfl)
            try simp only [List.getElem_toArray, List.getElem_cons_zero, Act.put, List.setIfInBounds_toArray, List.set_cons_zero, List.set_cons_succ]
            refine wpAnyH_take (i := 1) (v := ?_) rfl (by kernel_rfl) (by kernel_rfl) (by kernel_rfl) (fun _ _ _ h => h) (Or.inl ⟨by rfl, ?_⟩) (by assumption) ?_
            rotate_left
            · (intro W hSw; (try dsimp only at hSw); obtain s0 := hSw; go_simp; try with_reducible rfl)
            try simp only [List.getElem_toArray, List.getElem_cons_succ, List.getElem_cons_zero, Act.put, List.setIfInBounds_toArray, List.set_cons_zero, List.set_cons_succ]
            refine wpAnyH_take (i := 2) (v := ?_) rfl (by kernel_rfl) (by kernel_rfl) (by kernel_rfl) (fun _ _ _ h => h) (Or.inl ⟨by rfl, ?_⟩) (by assumption) ?_
            rotate_left
            · (intro W hSw; (try dsimp only at hSw); obtain s0 := hSw; go_simp; try with_reducible rfl)
            try simp only [List.getElem_toArray, List.getElem_cons_succ, List.getElem_cons_zero, Act.put, List.setIfInBounds_toArray, List.set_cons_zero, List.set_cons_succ]
            refine wpAnyH_take (i := 3) (v := ?_) rfl (by kernel_rfl) (by kernel_rfl) (by kernel_rfl) (fun _ _ _ h => h) (Or.inl ⟨by rfl, ?_⟩) (by assumption) ?_
            rotate_left
            · (intro W hSw; (try dsimp only at hSw); obtain s0 := hSw; go_simp; try with_reducible rfl)
            try simp only [List.getElem_toArray, List.getElem_cons_succ, List.getElem_cons_zero, Act.put, List.setIfInBounds_toArray, List.set_cons_zero, List.set_cons_succ]
            refine wpAnyH_take (i := 4) (v := ?_) rfl (by kernel_rfl) (by kernel_rfl) (by kernel_rfl) (fun _ _ _ h => h) (Or.inl ⟨by rfl, ?_⟩) (by assumption) ?_
            rotate_left
            · (intro W hSw; (try dsimp only at hSw); obtain s0 := hSw; go_simp; try with_reducible rfl)
            try simp only [List.getElem_toArray, List.getElem_cons_succ, List.getElem_cons_zero, Act.put, List.setIfInBounds_toArray, List.set_cons_zero, List.set_cons_succ]
            refine wpAnyH_take (i := 5) (v := ?_) rfl (by kernel_rfl) (by kernel_rfl) (by kernel_rfl) (fun _ _ _ h => h) (Or.inl ⟨by rfl, ?_⟩) (by assumption) ?_
            rotate_left
            · (intro W hSw; (try dsimp only at hSw); obtain s0 := hSw; go_simp; try with_reducible rfl)
            try simp only [List.getElem_toArray, List.getElem_cons_succ, List.getElem_cons_zero, Act.put, List.setIfInBounds_toArray, List.set_cons_zero, List.set_cons_succ]
            refine wpAnyH_take (i := 6) (v := ?_) rfl (by kernel_rfl) (by kernel_rfl) (by kernel_rfl) (fun _ _ _ h => h) (Or.inl ⟨by rfl, ?_⟩) (by assumption) ?_
            rotate_left
            · (intro W hSw; (try dsimp only at hSw); obtain s0 := hSw; go_simp; try with_reducible rfl)
            try simp only [List.getElem_toArray, List.getElem_cons_succ, List.getElem_cons_zero, Act.put, List.setIfInBounds_toArray, List.set_cons_zero, List.set_cons_succ]
            refine wpAnyH_take (i := 10) (v := ?_) rfl (by kernel_rfl) (by kernel_rfl) (by kernel_rfl) (fun _ _ _ h => h) (Or.inl ⟨by rfl, ?_⟩) (by assumption) ?_
            rotate_left
            · (intro W hSw; (try dsimp only at hSw); obtain s0 := hSw; go_simp; try with_reducible rfl)
            try simp only [List.getElem_toArray, List.getElem_cons_succ, List.getElem_cons_zero, Act.put, List.setIfInBounds_toArray, List.set_cons_zero, List.set_cons_succ]
            refine wpAnyH_ready (rs := [7]) (by kernel_rfl) (by simp) (AllReadyH.cons rfl (fun K hKK => ?_) AllReadyH.nil)
            rw [if_pos (by rfl)]
            go_simp
            refine (HO5.out w5.drew (Below.refl _ _).drew).mono ?_
            clear HO5
            rintro e w9 ⟨rfl, h9⟩
            obtain rfl := h9.symm
            go_wp2_with fail
            refine hKK.out _ _ hkc (fun hHeld => ?_)
            clear hKK K
            try simp only [List.getElem_toArray, List.getElem_cons_succ, List.getElem_cons_zero, Act.put, List.setIfInBounds_toArray, List.set_cons_zero, List.set_cons_succ]
            refine wpAnyH_take (i := 8) (v := ?_) rfl (by kernel_rfl) (by kernel_rfl) (by kernel_rfl) (fun _ _ _ h => h) (Or.inl ⟨by rfl, ?_⟩) (by assumption) ?_
            rotate_left
            · (intro W hSw; (try dsimp only at hSw); obtain s0 := hSw; go_simp; try with_reducible rfl)
            try simp only [List.getElem_toArray, List.getElem_cons_succ, List.getElem_cons_zero, Act.put, List.setIfInBounds_toArray, List.set_cons_zero, List.set_cons_succ]
            refine wpAnyH_take (i := 9) (v := .int .i64 (kv % ((oT : Int) + 1))) rfl (by kernel_rfl) (by kernel_rfl) (by kernel_rfl) (fun _ _ _ h => h) (Or.inl ⟨by rfl, ?_⟩) (by assumption) ?_
            · intro W hSw
              go_simp
              rw [IntWalk.i64_in ((oT : Int) + 1) (by omega), IntWalk.i64_in kv (by omega), if_neg (show ¬ ((oT : Int) + 1 = 0) by omega), Int.tmod_eq_emod_of_nonneg hc2]
            try simp only [List.getElem_toArray, List.getElem_cons_succ, List.getElem_cons_zero, Act.put, List.setIfInBounds_toArray, List.set_cons_zero, List.set_cons_succ]
            obtain ⟨r1, hr1⟩ : ∃ r1 : Nat, (r1 : Int) = kv % ((oT : Int) + 1) := ⟨(kv % ((oT : Int) + 1)).toNat, by have := Int.emod_nonneg kv (show (oT : Int) + 1 ≠ 0 by omega); omega⟩
            have hr1T : r1 ≤ oT := by have := Int.emod_lt_of_pos kv (show 0 < (oT : Int) + 1 by omega); omega
            rw [← hr1]
            clear hr1
            refine wpAnyH_ready (rs := [11]) (by kernel_rfl) (by simp) (AllReadyH.cons rfl (fun K hKK => ?_) AllReadyH.nil)
            rw [if_pos (by rfl)]
            go_simp
            refine (HCr.out r1 hr1T w5.drew (Below.refl _ _).drew).mono ?_
            clear HCr
            rintro e w6 ⟨hb6, d6, rfl, hD6⟩
            have hb6' := below_undrew hb6
            have HB6 := hid (HB5.out.trans (hb6'.mono HB5.out.size))
            have HS6 := hid (HS5.out.below hb6')
            have hkd := HPc.out w6 HB6.out
            have hXl := crashed_len hSf.out.made r1 ch
            have HXm := hid (crashed_made hSf.out.made r1 ch)
            rw [hTl.out] at hXl
            have HXl := hid hXl
            obtain ⟨ns, hns, hSf2, hAB⟩ := HSo.out r1 hr1T
            obtain ⟨X, hX⟩ : ∃ X, X = crashedS T2 r1 ch := ⟨_, rfl⟩
            rw [← hX] at hD6 HXl HXm hns hSf2 hAB
            have hXo : X.ops = [] := by rw [hX]; rfl
            have HOn := hid (open_any d6 X (fun i => d6.foot X.waits i) 12 w6 (.inr ⟨hD6, fun _ h => h⟩) (by rw [hXo]; decide) (by omega) (by rw [HXl.out]; omega) (fun n hn => HXm.out.sec n hn))
            have hOo : (openS X 12 ns).ops.length ≤ 2000 := by
              have := (headNums_facts hns).1
              unfold openS
              split
              · rw [hXo]; decide
              · rw [homeS_ops, hXo]; simp; omega
            have HOo := hid hOo
            have HNs := hid hns
            have HSf2 := hid hSf2
            have HAB := hid hAB
            clear hb6 hb6' hD6 hX hXo hXl hns hSf2 hAB hOo HSo HB5 HS5 hkc
            go_wp2_with fail
            refine hKK.out _ _ hkd (fun hHeld => ?_)
            clear hKK K
            try simp only [List.getElem_toArray, List.getElem_cons_succ, List.getElem_cons_zero, Act.put, List.setIfInBounds_toArray, List.set_cons_zero, List.set_cons_succ]
            refine wpAnyH_ready (rs := [12]) (by kernel_rfl) (by simp) (AllReadyH.cons rfl (fun K hKK => ?_) AllReadyH.nil)
            rw [if_pos (by rfl)]
            go_simp
            refine HOn.out.mono ?_
            clear HOn
            rintro e w7 ⟨hb7, ho7⟩
            rcases ho7 with ⟨hno, -⟩ | ⟨ns2, p7, d7, hso, rfl, hp7, hL7⟩
            · rw [HNs.out] at hno; cases hno
            obtain rfl : ns = ns2 := Option.some.inj (HNs.out.symm.trans hso)
            have HB7 := hid (HB6.out.trans (hb7.mono HB6.out.size))
            have HS7 := hid (HS6.out.below hb7)
            have hke := HPc.out w7 HB7.out
            have HL7 := hid hL7
            have HOl : Hid ((openS X 12 ns).safe.length = 40) := by unfold Hid; rw [openS_len, HXl.out]
            obtain ⟨g, hgp, hgc⟩ := HPA.out _ HAB.out
            have hpage : ∀ n, n < 27 → secL (openS X 12 ns) (1 + 12 + n) = if g = true ∧ n ∈ nums then gbL y else zN 512 := fun n hn => by
              have hl : n < (allL (openS X 12 ns) 12).length := by rw [length_allL]; unfold pagesS; rw [HOl.out]; omega
              have h1 := hgp n hn
              rw [List.getD_eq_getElem?_getD, List.getElem?_eq_getElem hl, Option.getD_some, allL_at] at h1
              exact h1
            have HPage := hid hpage
            have HCnt := hid hgc
            clear hb7 hso hL7 hp7 hgp hgc hpage HAB HB6 HS6 HXm HXl HNs hkd
            obtain ⟨O, hO⟩ : ∃ O, O = openS X 12 ns := ⟨_, rfl⟩
            rw [← hO] at HL7 HSf2 HOo HOl HPage
            clear hO
            go_wp2_with fail
            refine hKK.out _ _ hke (fun hHeld => ?_)
            clear hKK K
            try simp only [List.getElem_toArray, List.getElem_cons_succ, List.getElem_cons_zero, Act.put, List.setIfInBounds_toArray, List.set_cons_zero, List.set_cons_succ]
            refine wpAnyH_take (i := 13) (v := ?_) rfl (by kernel_rfl) (by kernel_rfl) (by kernel_rfl) (fun _ _ _ h => h) (Or.inl ⟨by rfl, ?_⟩) (by assumption) ?_
            rotate_left
            · (intro W hSw; (try dsimp only at hSw); obtain s0 := hSw; go_simp; try with_reducible rfl)
            try simp only [List.getElem_toArray, List.getElem_cons_succ, List.getElem_cons_zero, Act.put, List.setIfInBounds_toArray, List.set_cons_zero, List.set_cons_succ]
            refine wpAnyH_take (i := 14) (v := ?_) rfl (by kernel_rfl) (by kernel_rfl) (by kernel_rfl) (fun _ _ _ h => h) (Or.inl ⟨by rfl, ?_⟩) (by assumption) ?_
            rotate_left
            · (intro W hSw; (try dsimp only at hSw); obtain s0 := hSw; go_simp; try with_reducible rfl)
            try simp only [List.getElem_toArray, List.getElem_cons_succ, List.getElem_cons_zero, Act.put, List.setIfInBounds_toArray, List.set_cons_zero, List.set_cons_succ]
            refine wpAnyH_take (i := 15) (v := ?_) rfl (by kernel_rfl) (by kernel_rfl) (by kernel_rfl) (fun _ _ _ h => h) (Or.inl ⟨by rfl, ?_⟩) (by assumption) ?_
            rotate_left
            · (intro W hSw; (try dsimp only at hSw); obtain s0 := hSw; go_simp; try with_reducible rfl)
            try simp only [List.getElem_toArray, List.getElem_cons_succ, List.getElem_cons_zero, Act.put, List.setIfInBounds_toArray, List.set_cons_zero, List.set_cons_succ]
            refine wpAnyH_take (i := 16) (v := ?_) rfl (by kernel_rfl) (by kernel_rfl) (by kernel_rfl) (fun _ _ _ h => h) (Or.inl ⟨by rfl, ?_⟩) (by assumption) ?_
            rotate_left
            · (intro W hSw; (try dsimp only at hSw); obtain s0 := hSw; go_simp; try with_reducible rfl)
            try simp only [List.getElem_toArray, List.getElem_cons_succ, List.getElem_cons_zero, Act.put, List.setIfInBounds_toArray, List.set_cons_zero, List.set_cons_succ]
            refine wpAnyH_take (i := 17) (v := ?_) rfl (by kernel_rfl) (by kernel_rfl) (by kernel_rfl) (fun _ _ _ h => h) (Or.inl ⟨by rfl, ?_⟩) (by assumption) ?_
            rotate_left
            · (intro W hSw; (try dsimp only at hSw); obtain s0 := hSw; go_simp; try with_reducible rfl)
            try simp only [List.getElem_toArray, List.getElem_cons_succ, List.getElem_cons_zero, Act.put, List.setIfInBounds_toArray, List.set_cons_zero, List.set_cons_succ]
            refine wpAnyH_done (by kernel_rfl) ?_ _
            refine NoPanic.normal ?_
            clear hHeld hke
            go_wp2
            generalize ns.length = rec7 at *
            have HC0 : Hid (cntTo (beta g nums y) 0 = 0) := rfl
            go_loopw [19, 20] (fun th i wr => ∃ (n c : Nat), n ≤ 27 ∧ i = .int .i64 n ∧ th = .int .i64 c ∧ Hid (c = cntTo (beta g nums y) n) ∧ Hid (Below w7.heap.size w7 wr)) (fun _ i _ => 27 - (intOf i).toNat)
            case atStart => exact ⟨0, 0, by omega, rfl, rfl, HC0.out.symm, Below.refl _ _⟩
            case round =>
              obtain ⟨n, cv, hn27', rfl, rfl, hcv, hBi⟩ := hrel
              have hcn : cv ≤ 27 := by have h1 := cntTo_le (beta g nums y) n; have h2 := hcv.out; omega
              by_cases hnn : n < 27
              · have hn0 : (0 : Int) ≤ (n : Int) := by omega
                have hn1 : (n : Int) < 27 := by omega
                have hrd := log_read n wr (HL7.out.below hBi.out) (by rw [HOl.out]; omega) (by unfold pagesS; rw [HOl.out]; omega)
                have hsec : (seenS O.safe O.waits (1 + ((12 : Nat) : Int) + (n : Int))).data.toList = if g = true ∧ n ∈ nums then gbL y else zN 512 := by
                  rw [show (1 + ((12 : Nat) : Int) + (n : Int)) = ((1 + 12 + n : Nat) : Int) by omega]
                  exact HPage.out n hnn
                have hsz : (seenS O.safe O.waits (1 + ((12 : Nat) : Int) + (n : Int))).size = 512 := by
                  have h1 : (seenS O.safe O.waits (1 + ((12 : Nat) : Int) + (n : Int))).data.toList.length = 512 := by
                    rw [hsec]; split
                    · exact length_gbL y
                    · exact length_zN 512
                  simpa using h1
                rw [hsz, hsec] at hrd
                have HRd := hid hrd
                have hsw := (HS7.out.below hBi.out).cell n (by rw [length_seenOf]; exact hnn)
                rw [seenOf_at] at hsw
                have HSw := hid hsw
                have hSBl := (HS7.out.below hBi.out).lt
                have HCs := hid (cntTo_succ (beta g nums y) n)
                clear hrd hsec hsz hsw
                go_wp2_with fail
                refine HRd.out.mono ?_
                clear HRd
                rintro e w8 ⟨rb, rc, rfl, hrb, hat, hb8⟩
                have HB8 := hid (hBi.out.trans (hb8.mono hBi.out.size))
                have cs := (hb8.cell (p := ⟨SB, n, none⟩) hSBl).trans HSw.out
                have hy := HY.out
                by_cases hmem : g = true ∧ n ∈ nums
                · rw [if_pos hmem] at hat
                  have hb : beta g nums y n = y := by unfold beta; rw [if_pos hmem]
                  have h3 := hat 3 (by rw [length_gbL]; decide)
                  rw [Addr.add_mid, Nat.zero_add, gbL_at] at h3
                  rw [decide_eq_true hmem.2] at cs
                  have HCn : Hid (cv + 1 = cntTo (beta g nums y) (n + 1)) := by
                    unfold Hid
                    rw [HCs.out, hb, if_pos HY0.out, hcv.out]
                  have hyn := HYn.out
                  have hyb := HYb.out
                  clear hat hb8 hb hmem HCs HSw
                  go_wp2
                  exact ⟨⟨n + 1, cv + 1, by omega, by go_num, by go_num, HCn, HB8⟩, by simp [intOf]; omega⟩
                · rw [if_neg hmem] at hat
                  have hb : beta g nums y n = 0 := by unfold beta; rw [if_neg hmem]
                  have h3 := hat 3 (by rw [length_zN]; decide)
                  rw [Addr.add_mid, Nat.zero_add, show (zN 512)[3]'(by rw [length_zN]; decide) = 0 from List.getElem_replicate _] at h3
                  have h3' : w8.cell? ⟨rb, 3, none⟩ = some (.int .u8 0) := h3
                  have HCn : Hid (cv = cntTo (beta g nums y) (n + 1)) := by
                    unfold Hid
                    rw [HCs.out, hb, if_neg (by simp), Nat.add_zero, hcv.out]
                  clear hat hb8 hb hmem HCs HSw h3
                  go_wp2
                  exact ⟨⟨n + 1, cv, by omega, by go_num, by go_num, HCn, HB8⟩, by simp [intOf]; omega⟩
              · obtain rfl : n = 27 := by omega
                have hge3 : ¬ (((27 : Nat) : Int) < 27) := by omega
                have HS8 := hid (HS7.out.below hBi.out)
                have HL8 := hid (HL7.out.below hBi.out)
                have HB8 := hid (HB7.out.trans (hBi.out.mono HB7.out.size))
                have hcase : cv = 0 ∨ (cv ≠ 0 ∧ cv = nums.length) := by
                  have h1 := hcv.out
                  rcases HCnt.out with h2 | h2
                  · left; omega
                  · by_cases h0 : cv = 0
                    · exact .inl h0
                    · exact .inr ⟨h0, by omega⟩
                clear hcv HL7 HS7 HB7 HCnt hBi HPage
                rcases hcase with rfl | ⟨hc0, rfl⟩
                · go_wp2
                  exact ⟨⟨k2 + 1, p7, d7, O, _, rec7, by omega, by omega, rfl, by go_num, HL8, HSf2, HOl, HOo, HS8, HB8⟩, by simp [intOf]; omega⟩
                · have hcn1 : ¬ nums.length = 0 := hc0
                  have hcb : ((nums.length : Int) != 0) = true := by rw [bne, beq_eq_false_iff_ne.2 (show (nums.length : Int) ≠ 0 by omega)]; rfl
                  clear hc0
                  go_wp2
                  exact ⟨⟨k2 + 1, p7, d7, O, _, rec7, by omega, by omega, rfl, by go_num, HL8, HSf2, HOl, HOo, HS8, HB8⟩, by simp [intOf]; omega⟩
          · by_cases hg2 : k2 < pl.length
            · have hge3 : ((k2 : Int) < (pl.length : Int)) := by omega
              have hge4 : ¬ ((k2 : Int) < 6) := by omega
              clear hlt2 hg2
              go_wp2
              go_ret
              exact ⟨rfl, hB.out⟩
            · have hge3 : ¬ ((k2 : Int) < (pl.length : Int)) := by omega
              clear hlt2 hg2
              go_wp2
              go_ret
              exact ⟨rfl, hB.out⟩
end Go.Proofs.Ytclmachgpmfjfaa
