/- The walk of DiskLast. -/
import Derived.Test.YtpdpmcibeliocaaAlonePlain
import Derived.Test.YtpdpmcibeliocaaSameAll
namespace Go.Proofs.Ytpdpmcibeliocaa
open Go.RowKit
/-- What is read behind a write. -/
theorem img_put (S : DiskS) (n : Int) (l : List UInt8) (j : Nat) : seenS (S.put n l).safe (S.put n l).waits (j : Int) = if errW S n l = 0 ∧ (j : Int) = n then ⟨l.toArray⟩ else seenS S.safe S.waits (j : Int) := by
  by_cases e : errW S n l = 0
  · have ep : S.put n l = S.wrote n ⟨l.toArray⟩ := by rw [DiskS.put, if_pos e]
    rw [ep]
    by_cases hn : (j : Int) = n
    · rw [if_pos ⟨e, hn⟩, hn]
      simp [seenS, DiskS.wrote, upd_same]
    · rw [if_neg (fun h => hn h.2)]
      simp [seenS, DiskS.wrote, upd_other _ _ hn]
  · rw [if_neg (fun h => e h.1), DiskS.put, if_neg e]
theorem errW_zero (S : DiskS) (n : Int) (l : List UInt8) : errW S n l = 0 ↔ (0 ≤ n ∧ n < S.safe.length ∧ l.length = 512) := by
  unfold errW
  by_cases h1 : 0 ≤ n ∧ n < S.safe.length
  · by_cases h2 : l.length = 512
    · simp [h1, h2]
    · simp [h1, h2]
  · simp only [h1, not_false_eq_true, if_true]
    constructor
    · intro e; cases e
    · rintro ⟨a, b, _⟩; exact absurd ⟨a, b⟩ h1
set_option maxRecDepth 100000 in
set_option maxHeartbeats 4000000 in
theorem last_walk (ds : List DeedS) (a : Option Addr) (c : Nat) (hlen : ds.length ≤ 9223372036854775807) (f1 : Bool) (n1 l1 x1 : Int) (s0 : 0 ≤ x1) (s1 : x1 ≤ 255) (w : World) (hds : deedsAt w a ds) :
    Calls Try.prog 8 #[.slice a ds.length c, .agg #[.bool f1, .int .i64 n1, .int .i64 l1, .int .u8 x1]] w fun e w' => e = .returned (.bool true) ∧ Below w.heap.size w w' := by
  have HZ := hid (play_sizes 5 ds (min ds.length 40) (Nat.min_le_left _ _))
  have H40 : Hid (min ds.length 40 ≤ 40) := Nat.min_le_right _ _
  have hds2 : deedsAt (w.alloc (.cells #[.bool f1, .int .i64 n1, .int .i64 l1, .int .u8 x1] 51)) a ds := fun j hj => by
    obtain ⟨b, o, e, hc⟩ := hds j hj
    refine ⟨b, o, e, fun i hi => ?_⟩
    obtain ⟨h0, h1, h2, h3, h4⟩ := hc i hi
    have hb : b < w.heap.size := World.block_lt_of_cell? w _ h0
    have hcell : ∀ q, (w.alloc (.cells #[.bool f1, .int .i64 n1, .int .i64 l1, .int .u8 x1] 51)).cell? ⟨b, q, none⟩ = w.cell? ⟨b, q, none⟩ := fun q => World.cell?_alloc_lt _ _ _ hb
    exact ⟨by rw [hcell]; exact h0, by rw [hcell]; exact h1, by rw [hcell]; exact h2, by rw [hcell]; exact h3, h4⟩
  have HDS := hid hds2
  have HX := hid (block_new w (.cells #[.bool f1, .int .i64 n1, .int .i64 l1, .int .u8 x1] 51))
  have HA := hid ((Below.refl w.heap.size w).alloc (Nat.le_refl _) (.cells #[.bool f1, .int .i64 n1, .int .i64 l1, .int .u8 x1] 51))
  clear hds hds2
  go_enter Try.func8, Try.ntmps8
  go_wp2_with fail
  generalize w.alloc (.cells #[.bool f1, .int .i64 n1, .int .i64 l1, .int .u8 x1] 51) = wA at *
  refine (play_any 5 (by omega) (by omega) ds a c hlen wA HDS.out).mono ?_
  rintro e w1 ⟨d, r, rfl, fv, lv, vs, Rd, hP⟩
  have hwA := lt_of_heap HX.out
  have HD := hid hP.D
  have HB := hid (HA.out.trans (hP.below.mono HA.out.size))
  have HX1 := hid (below_block hP.below HX.out hwA)
  have HF : Hid (∀ i, d.foot (playS 5 ds (min ds.length 40)).waits i → wA.heap.size ≤ i) := fun i hi => (hP.fd i hi).1
  have HSL : Hid ((playS 5 ds (min ds.length 40)).safe.length = 5) := HZ.out.1
  have HOps : Hid ((playS 5 ds (min ds.length 40)).ops.length < opsMax) := Nat.lt_of_le_of_lt (Nat.le_trans HZ.out.2.2.1 H40.out) (by decide)
  have HOk : Hid (okS (playS 5 ds (min ds.length 40))) := ok_play 5 ds _ (Nat.min_le_left _ _)
  clear hP HZ H40 HDS HX
  generalize playS 5 ds (min ds.length 40) = S at *
  go_wp2_with fail
  refine (live_any w1).mono ?_
  rintro e w2 ⟨rfl, hb2⟩
  have HD2 := hid (HD.out.below hb2)
  have HFlt := hid (fun i hi => HD2.out.foot_lt (i := i) hi)
  have HB2 := hid (HB.out.trans (hb2.mono HB.out.size))
  have HX2 := hid (below_block hb2 HX1.out (lt_of_heap HX1.out))
  have him := image_disk d S w2 HD2.out
  rw [HSL.out] at him
  have HIm := hid him
  clear hb2 HD HB HX1 him
  go_wp2_with fail
  refine HIm.out.mono ?_
  clear HIm
  rintro e w3 ⟨g3, rfl, hr3, hg3, hb3⟩
  have hs23 := hb3.size
  have HD3 := hid (HD2.out.below hb3)
  have HB3 := hid (HB2.out.trans (hb3.mono HB2.out.size))
  have HX3 := hid (below_block hb3 HX2.out (lt_of_heap HX2.out))
  have HR3 := hid hr3
  have hsa := safe_disk d S w3 HD3.out
  rw [HSL.out] at hsa
  have HSa := hid hsa
  clear hb3 HD2 HB2 HX2 hr3 hsa
  go_wp2_with fail
  refine HSa.out.mono ?_
  clear HSa
  rintro e w4 ⟨g4, rfl, hr4, hg4, hb4⟩
  have hs34 := hb4.size
  have HD4 := hid (HD3.out.below hb4)
  have HB4 := hid (HB3.out.trans (hb4.mono HB3.out.size))
  have HX4 := hid (below_block hb4 HX3.out (lt_of_heap HX3.out))
  have HR3b := hid (HR3.out.below hb4)
  have HR4 := hid hr4
  have z0 := cell_of_block HX4.out 0
  have z1 := cell_of_block HX4.out 1
  have z2 := cell_of_block HX4.out 2
  have z3 := cell_of_block HX4.out 3
  clear hb4 HD3 HB3 HX3 hr4 HR3
  go_wp2_with fail
  refine (deed_full f1 n1 l1 x1 w4 s0 s1).mono ?_
  rintro e w5 ⟨g5, rfl, hg5, hl5, hby5, hb5⟩
  have HD5 := hid (HD4.out.below hb5)
  have HB5 := hid (HB4.out.trans (hb5.mono HB4.out.size))
  have HX5 := hid (below_block hb5 HX4.out (lt_of_heap HX4.out))
  have HR35 := hid (HR3b.out.below hb5)
  have HR45 := hid (HR4.out.below hb5)
  have HW := hid (write_any d S n1 (fullS (deedLen l1) x1) ⟨g5, 0, none⟩ (deedLen l1) (deedLen l1) w5 HD5.out HOps.out (length_full _ _) hby5)
  have hfl : ∀ i, d.foot S.waits i → i < w2.heap.size := fun i hi => HFlt.out i hi
  have hb24 : w2.heap.size ≤ w4.heap.size := by omega
  have z1' : w5.cell? ⟨w.heap.size, 1, none⟩ = some (.int .i64 n1) := cell_of_block HX5.out 1
  clear z0 z1 z2 z3 hb5 HD4 HB4 HX4 HR3b HR4
  go_wp2_with fail
  refine HW.out.mono ?_
  clear HW
  rintro e w6 ⟨rfl, d6, hD6, e1, e2, hf6, hK6⟩
  have HX6 := hid (hK6.heap HX5.out (fun e => by have := HF.out _ e; omega))
  have HB6 : Hid (Below w.heap.size w w6) := HB5.out.trans (hK6.below HB5.out.size (fun i hi => by have := HF.out i hi; have := HA.out.size; omega))
  have HR36 := hid (HR35.out.keep hK6 hfl)
  have HR46 := hid (HR45.out.keep hK6 (fun i hi => by have := hfl i hi; omega))
  have HBy6 : Hid (bytesIn w6 (some ⟨g5, 0, none⟩) (fullS (deedLen l1) x1)) := (bytesIn_of_at hby5).keep (Rd := fun i => i = g5) hK6 (fun ad e => by rw [← Option.some.inj e]) (fun i hi hn => by have := hfl i hn; omega)
  have him := image_disk d6 (S.put n1 (fullS (deedLen l1) x1)) w6 hD6
  rw [e1, put_safe, HSL.out] at him
  have HIm := hid him
  have HD6 := hid hD6
  have HE6 := hid e1
  have HErr := hid (errW_zero S n1 (fullS (deedLen l1) x1))
  have HImg := hid (fun j => img_put S n1 (fullS (deedLen l1) x1) j)
  have HSf := hid (put_safe S n1 (fullS (deedLen l1) x1))
  rw [HSL.out, length_full] at HErr
  clear him hD6 e1 e2 hf6 hK6 hby5 HD5 HB5 HX5 HR35 HR45 z1'
  go_wp2_with fail
  refine HIm.out.mono ?_
  clear HIm
  rintro e w7 ⟨g7, rfl, hr7, hg7, hb7⟩
  have HD7 := hid (HD6.out.below hb7)
  have HX7 := hid (below_block hb7 HX6.out (lt_of_heap HX6.out))
  have HB7 := hid (HB6.out.trans (hb7.mono HB6.out.size))
  have HR37 := hid (HR36.out.below hb7)
  have HR47 := hid (HR46.out.below hb7)
  have HBy7 := hid (HBy6.out.below hb7)
  have HR7 := hid hr7
  clear hr7 hb7 HD6 HX6 HB6 HR36 HR46 HBy6
  go_wp2
  have HRow : Hid (∀ l ∈ bytesOf S.safe, l.length < 4611686018427387904) := fun l hl => by
    obtain ⟨s, hs, rfl⟩ := List.mem_map.1 hl
    have := HOk.out.1 s hs
    show s.data.toList.length < _
    have e : s.data.toList.length = 512 := by simpa using this
    rw [e]; decide
  have HSeen := hid (fun (j : Nat) (hj : j < S.safe.length) => ok_seen HOk.out j hj)
  have HLI := hid (length_imgS S)
  have HLP := hid (length_imgS (S.put n1 (fullS (deedLen l1) x1)))
  have HAt := hid (fun (j : Nat) (hj : j < (imgS S).length) => imgS_at S j hj)
  have HAtP := hid (fun (j : Nat) (hj : j < (imgS (S.put n1 (fullS (deedLen l1) x1))).length) => imgS_at (S.put n1 (fullS (deedLen l1) x1)) j hj)
  rw [put_safe, HSL.out] at HLP
  rw [HSL.out] at HLI HSeen
  generalize hPut : S.put n1 (fullS (deedLen l1) x1) = P at *
  clear hPut
  generalize hev : errW S n1 (fullS (deedLen l1) x1) = ev at *
  clear hev
  have HLf := hid (length_full (deedLen l1) x1)
  generalize hlf : fullS (deedLen l1) x1 = lf at *
  clear hlf
  generalize hm : deedLen l1 = mm at *
  clear hm
  go_loopw [13] (fun i wr => ∃ j : Nat, j ≤ 5 ∧ i = .int .i64 j ∧ Hid (Below w7.heap.size w7 wr)) (fun i _ => 5 - (intOf i).toNat)
  case atStart => exact ⟨0, by omega, rfl, Below.refl _ _⟩
  case round =>
    obtain ⟨j, hj, rfl, hB⟩ := hrel
    have q1 : wr.cell? ⟨w.heap.size, 1, none⟩ = some (.int .i64 n1) := (hB.out.cell (p := ⟨w.heap.size, 1, none⟩) (lt_of_heap HX7.out)).trans (cell_of_block HX7.out 1)
    by_cases hlt : j < 5
    · have hj0 : (0 : Int) ≤ (j : Int) := by omega
      have hj5 : (j : Int) < 5 := by omega
      have hjI : j < (imgS S).length := by rw [HLI.out]; exact hlt
      have hjP : j < (imgS P).length := by rw [HLP.out]; exact hlt
      have hjA : j < (bytesOf (imgS S)).length := by rw [length_bytesOf]; exact hjI
      have hjB : j < (bytesOf (imgS P)).length := by rw [length_bytesOf]; exact hjP
      obtain ⟨bA, oA, eA, _, hcA⟩ := HR37.out j hjA
      simp only [Option.some.injEq, Addr.mk.injEq, and_true] at eA
      obtain ⟨rfl, rfl⟩ := eA
      obtain ⟨bB, oB, eB, _, hcB⟩ := HR7.out j hjB
      simp only [Option.some.injEq, Addr.mk.injEq, and_true] at eB
      obtain ⟨rfl, rfl⟩ := eB
      obtain ⟨aA, cA, kA, iA, _⟩ := hcA j hjA
      obtain ⟨aB, cB, kB, iB, _⟩ := hcB j hjB
      rw [Nat.zero_add] at kA kB
      have hA512 : ((bytesOf (imgS S))[j]).length = 512 := by
        have h1 := HSeen.out j hlt
        have h2 := HAt.out j hjI
        have h3 : (bytesOf (imgS S))[j] = ((imgS S)[j]).data.toList := by simp [bytesOf]
        rw [h3, h2]; simpa using h1
      have hPj := HImg.out j
      rw [← HAtP.out j hjP, ← HAt.out j hjI] at hPj
      have hbP : (bytesOf (imgS P))[j] = ((imgS P)[j]).data.toList := by simp [bytesOf]
      have hbS : (bytesOf (imgS S))[j] = ((imgS S)[j]).data.toList := by simp [bytesOf]
      have tA : wr.cell? ⟨g3, j, none⟩ = some (.slice aA ((bytesOf (imgS S))[j]).length cA) := (hB.out.cell (p := ⟨g3, j, none⟩) (World.block_lt_of_cell? w7 _ kA)).trans kA
      have tB : wr.cell? ⟨g7, j, none⟩ = some (.slice aB ((bytesOf (imgS P))[j]).length cB) := (hB.out.cell (p := ⟨g7, j, none⟩) (World.block_lt_of_cell? w7 _ kB)).trans kB
      by_cases hc : ev = 0 ∧ (j : Int) = n1
      · rw [if_pos hc] at hPj
        have hbl : (bytesOf (imgS P))[j] = lf := by rw [hbP, hPj]
        have h512 : mm = 512 := (HErr.out.1 hc.1).2.2
        obtain ⟨rfl, rfl⟩ := hc
        rw [hbl] at tB iB kB
        have hs := same_bytes lf lf aB (some ⟨g5, 0, none⟩) cB mm wr (iB.below hB.out) (HBy7.out.below hB.out) (by rw [HLf.out, h512]; decide)
        rw [decide_eq_true rfl, HLf.out] at hs
        rw [HLf.out] at tB
        have HS := hid hs
        generalize ((bytesOf (imgS S))[j]).length = nA at *
        clear hs kA kB iA iB hcA hcB hbl hbP hbS hPj h512 hA512
        go_wp2_with fail
        refine HS.out.mono ?_
        clear HS
        rintro e w8 ⟨rfl, hb8⟩
        have HB8 := hid (hB.out.trans (hb8.mono hB.out.size))
        clear hb8
        go_wp2
        exact ⟨⟨j + 1, by omega, by go_num, HB8⟩, by simp [intOf]; omega⟩
      · rw [if_neg hc] at hPj
        have hbl : (bytesOf (imgS P))[j] = (bytesOf (imgS S))[j] := by rw [hbP, hbS, hPj]
        rw [hbl] at tB iB kB
        have hs := same_bytes ((bytesOf (imgS S))[j]) ((bytesOf (imgS S))[j]) aB aA cB cA wr (iB.below hB.out) (iA.below hB.out) (by rw [hA512]; decide)
        rw [decide_eq_true rfl] at hs
        have HS := hid hs
        generalize ((bytesOf (imgS S))[j]).length = nA at *
        clear hs kA kB iA iB hcA hcB hbl hbP hbS hPj hA512
        by_cases he : ev = 0
        · have hjn : ((j : Int) == n1) = false := by rw [beq_eq_false_iff_ne]; exact fun e => hc ⟨he, e⟩
          clear hc
          subst he
          go_wp2_with fail
          refine HS.out.mono ?_
          clear HS
          rintro e w8 ⟨rfl, hb8⟩
          have HB8 := hid (hB.out.trans (hb8.mono hB.out.size))
          clear hb8
          go_wp2
          exact ⟨⟨j + 1, by omega, by go_num, HB8⟩, by simp [intOf]; omega⟩
        · have hen : (ev == 0) = false := by rw [beq_eq_false_iff_ne]; exact he
          clear hc he
          go_wp2_with fail
          refine HS.out.mono ?_
          clear HS
          rintro e w8 ⟨rfl, hb8⟩
          have HB8 := hid (hB.out.trans (hb8.mono hB.out.size))
          clear hb8
          go_wp2
          exact ⟨⟨j + 1, by omega, by go_num, HB8⟩, by simp [intOf]; omega⟩
    · obtain rfl : j = 5 := by omega
      have hsa := safe_disk d6 P wr (HD7.out.below hB.out)
      rw [HE6.out, HSf.out, HSL.out] at hsa
      have HSa := hid hsa
      have HR4r := hid (HR47.out.below hB.out)
      have HBr := hid (HB7.out.trans (hB.out.mono HB7.out.size))
      have h5 : (bytesOf S.safe).length = 5 := by rw [length_bytesOf]; exact HSL.out
      have HAll := hid (fun u v c c' W h1 h2 => same_all (bytesOf S.safe) (bytesOf S.safe) u v c c' W h1 h2 (by rw [h5]; decide) HRow.out)
      rw [decide_eq_true rfl, h5] at HAll
      clear hsa h5
      have hcase : (0 ≤ n1 ∧ n1 < 5 ∧ mm = 512 ∧ ev = 0) ∨ ((n1 < 0 ∨ (0 ≤ n1 ∧ 5 ≤ n1) ∨ (0 ≤ n1 ∧ n1 < 5 ∧ mm ≠ 512)) ∧ ev ≠ 0) := by
        by_cases h : 0 ≤ n1 ∧ n1 < 5 ∧ mm = 512
        · exact .inl ⟨h.1, h.2.1, h.2.2, HErr.out.2 h⟩
        · exact .inr ⟨by omega, fun e => h (HErr.out.1 e)⟩
      rcases hcase with ⟨h1, h2, h3, h4⟩ | ⟨h, h4⟩
      · subst h3 h4
        go_wp2_with fail
        refine HSa.out.mono ?_
        clear HSa
        rintro e w8 ⟨g8, rfl, hr8, hg8, hb8⟩
        have HA8 := hid (HAll.out (some ⟨g8, 0, none⟩) (some ⟨g4, 0, none⟩) 5 5 w8 hr8.at (HR4r.out.below hb8).at)
        have HB8 := hid (HBr.out.trans (hb8.mono HBr.out.size))
        clear hr8 hb8 HAll
        go_wp2_with fail
        refine HA8.out.mono ?_
        clear HA8
        rintro e w9 ⟨rfl, hb9⟩
        have HB9 := hid (HB8.out.trans (hb9.mono HB8.out.size))
        clear hb9
        go_wp2
        go_ret
        exact ⟨rfl, HB9.out⟩
      · have hen : (ev == 0) = false := by rw [beq_eq_false_iff_ne]; exact h4
        clear h4
        rcases h with h | ⟨h, h'⟩ | ⟨h, h', h''⟩
        · go_wp2_with fail
          refine HSa.out.mono ?_
          clear HSa
          rintro e w8 ⟨g8, rfl, hr8, hg8, hb8⟩
          have HA8 := hid (HAll.out (some ⟨g8, 0, none⟩) (some ⟨g4, 0, none⟩) 5 5 w8 hr8.at (HR4r.out.below hb8).at)
          have HB8 := hid (HBr.out.trans (hb8.mono HBr.out.size))
          clear hr8 hb8 HAll
          go_wp2_with fail
          refine HA8.out.mono ?_
          clear HA8
          rintro e w9 ⟨rfl, hb9⟩
          have HB9 := hid (HB8.out.trans (hb9.mono HB8.out.size))
          clear hb9
          go_wp2
          go_ret
          exact ⟨rfl, HB9.out⟩
        · have h2 : ¬ (n1 < 5) := by omega
          go_wp2_with fail
          refine HSa.out.mono ?_
          clear HSa
          rintro e w8 ⟨g8, rfl, hr8, hg8, hb8⟩
          have HA8 := hid (HAll.out (some ⟨g8, 0, none⟩) (some ⟨g4, 0, none⟩) 5 5 w8 hr8.at (HR4r.out.below hb8).at)
          have HB8 := hid (HBr.out.trans (hb8.mono HBr.out.size))
          clear hr8 hb8 HAll
          go_wp2_with fail
          refine HA8.out.mono ?_
          clear HA8
          rintro e w9 ⟨rfl, hb9⟩
          have HB9 := hid (HB8.out.trans (hb9.mono HB8.out.size))
          clear hb9
          go_wp2
          go_ret
          exact ⟨rfl, HB9.out⟩
        · have h2 : ((mm : Int) == 512) = false := by rw [beq_eq_false_iff_ne]; omega
          go_wp2_with fail
          refine HSa.out.mono ?_
          clear HSa
          rintro e w8 ⟨g8, rfl, hr8, hg8, hb8⟩
          have HA8 := hid (HAll.out (some ⟨g8, 0, none⟩) (some ⟨g4, 0, none⟩) 5 5 w8 hr8.at (HR4r.out.below hb8).at)
          have HB8 := hid (HBr.out.trans (hb8.mono HBr.out.size))
          clear hr8 hb8 HAll
          go_wp2_with fail
          refine HA8.out.mono ?_
          clear HA8
          rintro e w9 ⟨rfl, hb9⟩
          have HB9 := hid (HB8.out.trans (hb9.mono HB8.out.size))
          clear hb9
          go_wp2
          go_ret
          exact ⟨rfl, HB9.out⟩
end Go.Proofs.Ytpdpmcibeliocaa
