/- The walk of TopTorn. -/
import Derived.Test.YtllkkfeechojoaaDoorTornSame
import Derived.Test.YtllkkfeechojoaaDoorPst
import Derived.Test.YtllkkfeechojoaaDoorSEq32
namespace Go.Proofs.YtllkkfeechojoaaDoor
open Go.RowKit
set_option maxRecDepth 100000 in
set_option maxHeartbeats 4000000 in
theorem topTorn_walk (xs ch : List UInt8) (xa ca : Option Addr) (xc cc : Nat) (n : Int) (n0 : 0 ≤ n) (n1 : n ≤ 255) (hlx : xs.length ≤ 9223372036854775807) (hch : ch.length ≤ 9223372036854775807) (w : World) (hK : Sh.Kat w) (hS : Sh.Sat w) (hx : Sh.Bytes w (.slice xa xs.length xc) xs) (hcb : bytesIn w ca ch) :
    Calls Tryd.prog 4 #[.slice xa xs.length xc, .int .u8 n, .slice ca ch.length cc] w fun e w' => e = .returned (.bool true) ∧ Below w.heap.size w w' := by
  have hsz2 := hK.lt
  have HX := hid hx
  have HCB := hid hcb
  have HK := hid hK
  have HS := hid hS
  clear hx hcb hK hS
  go_enter Tryd.func4, Tryd.ntmps4
  go_wp2_with fail
  refine (new_disk 8 (by omega) (by omega) _).mono ?_
  rintro e w1 ⟨d, rfl, hD, hF, hFv, hB⟩
  have HD : Hid (DiskIn w1 d (tornS [] 0)) := hD
  have HF : Hid (∀ i, d.foot (tornS [] 0).waits i → w.heap.size ≤ i) := hF
  have HB := hid hB
  have hsz1 := hB.size
  have HFl : Hid (∀ i, d.foot (tornS [] 0).waits i → i < w1.heap.size) := fun i hi => hD.foot_lt hi
  have HFv : Hid (∀ i, d.fv.ownBlock = some i → i < w1.heap.size) := fun i hi => hD.fv_lt hi
  clear hD hF hFv hB
  by_cases hbig : 3584 < xs.length
  · have hbig' : (3584 : Int) < (xs.length : Int) := by omega
    go_wp2
    go_ret
    exact ⟨rfl, HB.out⟩
  have hbig' : ¬ ((3584 : Int) < (xs.length : Int)) := by omega
  have HXs := hid (by omega : xs.length ≤ 3584)
  go_wp2_with (first
    | (refine wpList_mk_big rfl (.const (.int .i64 3584)) (.const (.int .i64 3584)) rfl rfl rfl ?_; intro w2 hb2 hr2; have HB2 := hid (HB.out.trans (hb2.mono hsz1)); have HR2 := hid hr2; have HD2 := hid (HD.out.below hb2); clear hb2 hr2 HD HB)
    | (refine wpList_copy_bytes rfl (.tmp 31) (.tmp 32) rfl w1.heap.size 3584 zbig xs _ rfl rfl HR2.out (HX.out.up HB2.out) ?_; intro r3 w3 hr3 hk3; have HR3 := hid hr3; have HB3 := hid (HB2.out.trans (hk3.below HB2.out.size (fun i e => by subst e; omega))); have HD3 := hid (HD2.out.keep hk3 (fun i hi e => by have := HFl.out i hi; omega) (fun i hi e => by have := HFv.out i hi; omega)); clear hr3 hk3 HR2 HD2 HB2))
  have HL : Hid ((List.take 3584 xs ++ List.drop (min xs.length 3584) zbig).length = 3584) := HR3.out.1
  generalize List.take 3584 xs ++ List.drop (min xs.length 3584) zbig = L at *
  have HD0 : Hid (DiskIn w3 d (tornS L 0)) := HD3.out
  have HF0 : Hid (∀ i, d.foot (tornS L 0).waits i → w.heap.size ≤ i) := HF.out
  clear HD3 HF HFl HFv HX HXs
  obtain ⟨ab, hab⟩ : ∃ ab, ab = w1.heap.size := ⟨_, rfl⟩
  rw [← hab] at HR3
  rw [← hab] at hsz1
  rw [← hab]
  clear hab
  go_loopw [10] (fun i wr => ∃ (j : Nat) (dj : DL), j ≤ 7 ∧ i = .int .i64 j ∧ Hid (dj.p = d.p) ∧ Hid (DiskIn wr dj (tornS L j)) ∧ Hid (∀ i, dj.foot (tornS L j).waits i → w.heap.size ≤ i) ∧ Hid (ownBy wr ab 3584 L) ∧ Hid (Below w.heap.size w wr)) (fun i _ => 7 - (intOf i).toNat)
  case atStart => exact ⟨0, d, by omega, rfl, rfl, HD0, HF0, HR3, HB3⟩
  case round =>
    obtain ⟨j, dj, hj, rfl, hp, hD, hF, hR, hB⟩ := hrel
    by_cases hlt : j < 7
    · have hj0 : (0 : Int) ≤ (j : Int) := by omega
      have hj7 : (j : Int) < 7 := by omega
      have hpc : j * 512 + 512 ≤ L.length := by rw [HL.out]; omega
      have hw := write_any dj (tornS L j) (j : Int) (pieceS L j) ⟨ab, j * 512, none⟩ 512 (3584 - j * 512) wr hD.out (by rw [tornS_opsLen]; exact Nat.lt_of_le_of_lt hj (by decide)) (length_piece L j hpc) (hR.out.piece j hpc)
      rw [(tornS_put L j HL.out hlt).1, (tornS_put L j HL.out hlt).2, hp.out] at hw
      have HW := hid hw
      have HO := hid (hR.out.off hD.out)
      clear hw hpc
      go_wp2_with fail
      rw [show (j + 1) * 512 - j * 512 = 512 by omega]
      refine HW.out.mono ?_
      clear HW
      rintro e w4 ⟨rfl, d4, hD4, e4, -, hf4, hK4⟩
      have HR4 := hid (hR.out.keep hK4 HO.out)
      have HF4 : Hid (∀ i, d4.foot (tornS L (j + 1)).waits i → w.heap.size ≤ i) := fun i hi => (hf4 i hi).elim (hF.out i) (fun h => Nat.le_trans hB.out.size h)
      have HB4 := hid (hB.out.trans (hK4.below hB.out.size (fun i e => hF.out i e)))
      have HD4 := hid hD4
      have HP4 : Hid (d4.p = d.p) := e4
      clear hD4 e4 hf4 hK4
      go_wp2
      exact ⟨⟨j + 1, d4, by omega, by go_num, HP4, HD4, HF4, HR4, HB4⟩, by simp [intOf]; omega⟩
    · obtain rfl : j = 7 := by omega
      have hge : ¬ (((7 : Nat) : Int) < 7) := by omega
      obtain ⟨q, hq⟩ : ∃ q : Nat, n % 8 = (q : Int) := ⟨(n % 8).toNat, by omega⟩
      have hq7 : q ≤ 7 := by omega
      have hc := crashed_any dj (tornS L 7) q ch ca cc wr hD.out (by rw [tornS_opsLen]; exact hq7) (by rw [tornS_opsLen]; decide) (tornS_ok L HL.out) hch (HCB.out.below hB.out)
      rw [hp.out] at hc
      have HC := hid hc
      clear hc
      go_wp2_with fail
      refine HC.out.mono ?_
      clear HC
      rintro e w5 ⟨hb5, dC, rfl, hDC⟩
      have HDC := hid hDC
      have HB5 := hid (hB.out.trans (hb5.mono hB.out.size))
      have HR5 := hid (hR.out.below hb5)
      have HN := hid (Sh.new_any w5 (HS.out.below HB5.out (by omega)))
      have hs5 := HB5.out.size
      clear hDC hb5 hD hF hR hB hp HD0 HF0 HR3 HB3
      go_wp2_with fail
      refine HN.out.mono ?_
      clear HN
      rintro e w6 ⟨rfl, hH6, hb6, hz6⟩
      have HP6 : Hid (Sh.Pst w5 w6 (.slice none 0 0) (tornGot L q ch 0) (tornGot L q ch 0)) := ⟨World.ownsRow_nil _ _ _ _, hH6, hb6⟩
      have HTC := hid (fun i hi => torn_cases L q ch i hq7 hi)
      have HTL := hid (fun i hi => torn_length L q ch i HL.out hq7 hi)
      have HGL := hid (fun i hi => length_tornGot L q ch HL.out hq7 i hi)
      have HCL := hid (crashed_len L q ch hq7)
      clear hH6 hb6 hz6
      go_wp2
      go_loopw [13, 14] (fun v i wr => ∃ j : Nat, j ≤ 7 ∧ i = .int .i64 j ∧ Hid (Sh.Pst w5 wr v (tornGot L q ch j) (tornGot L q ch j))) (fun _ i _ => 7 - (intOf i).toNat)
      case atStart => exact ⟨0, by omega, rfl, HP6⟩
      case round =>
        obtain ⟨j, hj, rfl, hP⟩ := hrel
        by_cases hlt : j < 7
        · have hj0 : (0 : Int) ≤ (j : Int) := by omega
          have hj7 : (j : Int) < 7 := by omega
          have hr := read_cap dC (crashedS (tornS L 7) q ch) (j : Int) wr (HDC.out.below hP.out.below) hj0 (by rw [HCL.out]; omega)
          have h512 : (tornAt L q ch j).length = 512 := HTL.out j (by omega)
          have hsz : (seenS (crashedS (tornS L 7) q ch).safe (crashedS (tornS L 7) q ch).waits (j : Int)).size = 512 := by
            have : (seenS (crashedS (tornS L 7) q ch).safe (crashedS (tornS L 7) q ch).waits (j : Int)).data.toList.length = 512 := h512
            simpa using this
          have hda : (seenS (crashedS (tornS L 7) q ch).safe (crashedS (tornS L 7) q ch).waits (j : Int)).data.toList = tornAt L q ch j := rfl
          rw [hsz, hda] at hr
          have HR := hid hr
          have HC5 := hid h512
          have HCs := hid (HTC.out j (by omega))
          have HG5 : Hid (tornGot L q ch (j + 1) = tornGot L q ch j ++ tornAt L q ch j) := rfl
          have hgl := HGL.out j (by omega)
          have HGl := hid hgl
          clear hr hsz hda h512 hgl
          generalize tornAt L q ch j = T at *
          go_wp2_with fail
          refine HR.out.mono ?_
          clear HR
          rintro e w7 ⟨xb, xcap, rfl, hxc, hxb, hat, hb7⟩
          have HAt := hid hat
          have HP7 := hid (hP.out.up hb7)
          have HR7 := hid ((HR5.out.below hP.out.below).below hb7)
          have hpc : j * 512 + 512 ≤ L.length := by rw [HL.out]; omega
          have HPl := hid (length_piece L j hpc)
          have HPa := hid (HR7.out.piece j hpc)
          clear hat hb7 hpc
          go_wp2_with fail
          rw [show (j + 1) * 512 - j * 512 = 512 by omega]
          refine (top_same T (pieceS L j) ⟨xb, 0, none⟩ ⟨ab, j * 512, none⟩ xcap _ w7 HC5.out HPl.out HAt.out HPa.out).mono ?_
          rintro e w8 ⟨rfl, h8⟩
          obtain rfl := h8.symm
          have HAt7 := HAt
          by_cases hT : T = pieceS L j
          · rw [decide_eq_true hT]
            clear hT
            by_cases hlq : j < q
            · have hjq : (j : Int) < (q : Int) := by omega
              have HAtz := HAt7
              have HPz := HP7
              have HBy := hid (HAtz.out.bytes HC5.out hxc)
              have hxw : xb < w7.heap.size := by
                have h0 := HAtz.out 0 (by rw [HC5.out]; decide)
                have := World.block_lt_of_cell? w7 _ h0
                rwa [add_block] at this
              have hng : ∀ k, u13.ownBlock = some k → k ≠ xb := fun k hk => by have := (hP.out.own.lt k hk).2; omega
              have HNg := hid hng
              clear hng
              go_wp2_with (refine Sh.wpList_append_bytes rfl (.tmp 103) (.tmp 104) rfl (w5.heap.size + 1) u13 (tornGot L q ch j) T _ rfl HPz.out.own rfl HBy.out (by rw [HGl.out, HC5.out]; omega) (by have := HPz.out.has.lt; omega) ?_; intro v9 w9 ho9 hg9; have HP9 := hid (HPz.out.appended ho9 hg9); have HAt9 := hid (HAtz.out.keeps (Keeps.of_grown (F := fun i => u13.ownBlock = some i) hg9 (fun i e => e)) (fun e => HNg.out _ e rfl)); clear ho9 hg9)
              have HB9 := hid (HB5.out.trans (HP9.out.below.mono hs5))
              have hpl := hP.out.has.lt
              have hw9 := Sh.write_any w5.heap.size (tornGot L q ch j) T (.slice (some ⟨xb, 0, none⟩) 512 xcap) w9 (HK.out.below HB9.out hsz2) (by omega) HP9.out.has ⟨some ⟨xb, 0, none⟩, xcap, by rw [HC5.out], by rw [HC5.out]; exact hxc, fun i x hi => by
                obtain ⟨hi', ei⟩ := List.getElem?_eq_some_iff.1 hi
                have hc' := HAt9.out i hi'
                rw [Addr.add_mid, ei] at hc'
                exact ⟨xb, 0, rfl, by omega, World.block_lt_of_cell? w9 _ hc', hc'⟩⟩ (by rw [HGl.out, HC5.out]; omega)
              have HW9 := hid hw9
              clear hw9 hpl
              refine HW9.out.mono ?_
              clear HW9
              rintro e w10 ⟨rfl, hg10, hh10⟩
              have HPt := hid (HP9.out.wrote hg10 hh10)
              clear hg10 hh10
              go_wp2
              exact ⟨⟨j + 1, by omega, by go_num, by rw [HG5.out]; exact HPt⟩, by simp [intOf]; omega⟩
            · have hqj : (q : Int) ≤ (j : Int) := by omega
              have hZ : T = zerosL := HCs.out.elim id (fun h => absurd h.1 hlq)
              have HZ := hid hZ
              have hmk := run_mk_row w7
              clear hZ
              go_wp2_with fail
              refine (top_same T zerosL ⟨xb, 0, none⟩ ⟨w7.heap.size, 0, none⟩ xcap 512 (w7.alloc (.cells zcells 5)) HC5.out length_zerosL (HAt7.out.up ((Below.refl _ _).alloc (Nat.le_refl _) _)) (ownRow_new w7).at).mono ?_
              rw [decide_eq_true HZ.out]
              rintro e wq7 ⟨rfl, hq7⟩
              obtain rfl := hq7.symm
              have HAt7b := hid (HAt7.out.up (w' := (w7.alloc (.cells zcells 5))) ((Below.refl _ _).alloc (Nat.le_refl _) _))
              have HP7b := hid (HP7.out.up (w2 := (w7.alloc (.cells zcells 5))) ((Below.refl _ _).alloc (Nat.le_refl _) _))
              clear hmk
              have HAtz := HAt7b
              have HPz := HP7b
              generalize (w7.alloc (.cells zcells 5)) = wz at *
              have HBy := hid (HAtz.out.bytes HC5.out hxc)
              have hxw : xb < wz.heap.size := by
                have h0 := HAtz.out 0 (by rw [HC5.out]; decide)
                have := World.block_lt_of_cell? wz _ h0
                rwa [add_block] at this
              have hng : ∀ k, u13.ownBlock = some k → k ≠ xb := fun k hk => by have := (hP.out.own.lt k hk).2; omega
              have HNg := hid hng
              clear hng
              go_wp2_with (refine Sh.wpList_append_bytes rfl (.tmp 103) (.tmp 104) rfl (w5.heap.size + 1) u13 (tornGot L q ch j) T _ rfl HPz.out.own rfl HBy.out (by rw [HGl.out, HC5.out]; omega) (by have := HPz.out.has.lt; omega) ?_; intro v9 w9 ho9 hg9; have HP9 := hid (HPz.out.appended ho9 hg9); have HAt9 := hid (HAtz.out.keeps (Keeps.of_grown (F := fun i => u13.ownBlock = some i) hg9 (fun i e => e)) (fun e => HNg.out _ e rfl)); clear ho9 hg9)
              have HB9 := hid (HB5.out.trans (HP9.out.below.mono hs5))
              have hpl := hP.out.has.lt
              have hw9 := Sh.write_any w5.heap.size (tornGot L q ch j) T (.slice (some ⟨xb, 0, none⟩) 512 xcap) w9 (HK.out.below HB9.out hsz2) (by omega) HP9.out.has ⟨some ⟨xb, 0, none⟩, xcap, by rw [HC5.out], by rw [HC5.out]; exact hxc, fun i x hi => by
                obtain ⟨hi', ei⟩ := List.getElem?_eq_some_iff.1 hi
                have hc' := HAt9.out i hi'
                rw [Addr.add_mid, ei] at hc'
                exact ⟨xb, 0, rfl, by omega, World.block_lt_of_cell? w9 _ hc', hc'⟩⟩ (by rw [HGl.out, HC5.out]; omega)
              have HW9 := hid hw9
              clear hw9 hpl
              refine HW9.out.mono ?_
              clear HW9
              rintro e w10 ⟨rfl, hg10, hh10⟩
              have HPt := hid (HP9.out.wrote hg10 hh10)
              clear hg10 hh10
              go_wp2
              exact ⟨⟨j + 1, by omega, by go_num, by rw [HG5.out]; exact HPt⟩, by simp [intOf]; omega⟩
          · rw [decide_eq_false hT]
            have hZ : T = zerosL := HCs.out.elim id (fun h => absurd h.2 hT)
            have HZ := hid hZ
            clear hT hZ
            have hmk := run_mk_row w7
            go_wp2_with fail
            refine (top_same T zerosL ⟨xb, 0, none⟩ ⟨w7.heap.size, 0, none⟩ xcap 512 (w7.alloc (.cells zcells 5)) HC5.out length_zerosL (HAt7.out.up ((Below.refl _ _).alloc (Nat.le_refl _) _)) (ownRow_new w7).at).mono ?_
            rw [decide_eq_true HZ.out]
            rintro e wq7 ⟨rfl, hq7⟩
            obtain rfl := hq7.symm
            have HAt7b := hid (HAt7.out.up (w' := (w7.alloc (.cells zcells 5))) ((Below.refl _ _).alloc (Nat.le_refl _) _))
            have HP7b := hid (HP7.out.up (w2 := (w7.alloc (.cells zcells 5))) ((Below.refl _ _).alloc (Nat.le_refl _) _))
            clear hmk
            generalize (w7.alloc (.cells zcells 5)) = wy at *
            have HAt8 := HAt7b
            have HP8 := HP7b
            by_cases hlq : j < q
            · have hjq : (j : Int) < (q : Int) := by omega
              have HAtz := HAt8
              have HPz := HP8
              have HBy := hid (HAtz.out.bytes HC5.out hxc)
              have hxw : xb < wy.heap.size := by
                have h0 := HAtz.out 0 (by rw [HC5.out]; decide)
                have := World.block_lt_of_cell? wy _ h0
                rwa [add_block] at this
              have hng : ∀ k, u13.ownBlock = some k → k ≠ xb := fun k hk => by have := (hP.out.own.lt k hk).2; omega
              have HNg := hid hng
              clear hng
              go_wp2_with (refine Sh.wpList_append_bytes rfl (.tmp 103) (.tmp 104) rfl (w5.heap.size + 1) u13 (tornGot L q ch j) T _ rfl HPz.out.own rfl HBy.out (by rw [HGl.out, HC5.out]; omega) (by have := HPz.out.has.lt; omega) ?_; intro v9 w9 ho9 hg9; have HP9 := hid (HPz.out.appended ho9 hg9); have HAt9 := hid (HAtz.out.keeps (Keeps.of_grown (F := fun i => u13.ownBlock = some i) hg9 (fun i e => e)) (fun e => HNg.out _ e rfl)); clear ho9 hg9)
              have HB9 := hid (HB5.out.trans (HP9.out.below.mono hs5))
              have hpl := hP.out.has.lt
              have hw9 := Sh.write_any w5.heap.size (tornGot L q ch j) T (.slice (some ⟨xb, 0, none⟩) 512 xcap) w9 (HK.out.below HB9.out hsz2) (by omega) HP9.out.has ⟨some ⟨xb, 0, none⟩, xcap, by rw [HC5.out], by rw [HC5.out]; exact hxc, fun i x hi => by
                obtain ⟨hi', ei⟩ := List.getElem?_eq_some_iff.1 hi
                have hc' := HAt9.out i hi'
                rw [Addr.add_mid, ei] at hc'
                exact ⟨xb, 0, rfl, by omega, World.block_lt_of_cell? w9 _ hc', hc'⟩⟩ (by rw [HGl.out, HC5.out]; omega)
              have HW9 := hid hw9
              clear hw9 hpl
              refine HW9.out.mono ?_
              clear HW9
              rintro e w10 ⟨rfl, hg10, hh10⟩
              have HPt := hid (HP9.out.wrote hg10 hh10)
              clear hg10 hh10
              go_wp2
              exact ⟨⟨j + 1, by omega, by go_num, by rw [HG5.out]; exact HPt⟩, by simp [intOf]; omega⟩
            · have hqj : (q : Int) ≤ (j : Int) := by omega
              have hmk := run_mk_row wy
              go_wp2_with fail
              refine (top_same T zerosL ⟨xb, 0, none⟩ ⟨wy.heap.size, 0, none⟩ xcap 512 (wy.alloc (.cells zcells 5)) HC5.out length_zerosL (HAt8.out.up ((Below.refl _ _).alloc (Nat.le_refl _) _)) (ownRow_new wy).at).mono ?_
              rw [decide_eq_true HZ.out]
              rintro e wq8 ⟨rfl, hq8⟩
              obtain rfl := hq8.symm
              have HAt8b := hid (HAt8.out.up (w' := (wy.alloc (.cells zcells 5))) ((Below.refl _ _).alloc (Nat.le_refl _) _))
              have HP8b := hid (HP8.out.up (w2 := (wy.alloc (.cells zcells 5))) ((Below.refl _ _).alloc (Nat.le_refl _) _))
              clear hmk
              have HAtz := HAt8b
              have HPz := HP8b
              generalize (wy.alloc (.cells zcells 5)) = wz at *
              have HBy := hid (HAtz.out.bytes HC5.out hxc)
              have hxw : xb < wz.heap.size := by
                have h0 := HAtz.out 0 (by rw [HC5.out]; decide)
                have := World.block_lt_of_cell? wz _ h0
                rwa [add_block] at this
              have hng : ∀ k, u13.ownBlock = some k → k ≠ xb := fun k hk => by have := (hP.out.own.lt k hk).2; omega
              have HNg := hid hng
              clear hng
              go_wp2_with (refine Sh.wpList_append_bytes rfl (.tmp 103) (.tmp 104) rfl (w5.heap.size + 1) u13 (tornGot L q ch j) T _ rfl HPz.out.own rfl HBy.out (by rw [HGl.out, HC5.out]; omega) (by have := HPz.out.has.lt; omega) ?_; intro v9 w9 ho9 hg9; have HP9 := hid (HPz.out.appended ho9 hg9); have HAt9 := hid (HAtz.out.keeps (Keeps.of_grown (F := fun i => u13.ownBlock = some i) hg9 (fun i e => e)) (fun e => HNg.out _ e rfl)); clear ho9 hg9)
              have HB9 := hid (HB5.out.trans (HP9.out.below.mono hs5))
              have hpl := hP.out.has.lt
              have hw9 := Sh.write_any w5.heap.size (tornGot L q ch j) T (.slice (some ⟨xb, 0, none⟩) 512 xcap) w9 (HK.out.below HB9.out hsz2) (by omega) HP9.out.has ⟨some ⟨xb, 0, none⟩, xcap, by rw [HC5.out], by rw [HC5.out]; exact hxc, fun i x hi => by
                obtain ⟨hi', ei⟩ := List.getElem?_eq_some_iff.1 hi
                have hc' := HAt9.out i hi'
                rw [Addr.add_mid, ei] at hc'
                exact ⟨xb, 0, rfl, by omega, World.block_lt_of_cell? w9 _ hc', hc'⟩⟩ (by rw [HGl.out, HC5.out]; omega)
              have HW9 := hid hw9
              clear hw9 hpl
              refine HW9.out.mono ?_
              clear HW9
              rintro e w10 ⟨rfl, hg10, hh10⟩
              have HPt := hid (HP9.out.wrote hg10 hh10)
              clear hg10 hh10
              go_wp2
              exact ⟨⟨j + 1, by omega, by go_num, by rw [HG5.out]; exact HPt⟩, by simp [intOf]; omega⟩
        · obtain rfl : j = 7 := by omega
          have hge : ¬ (((7 : Nat) : Int) < 7) := by omega
          have hgl := HGL.out 7 (by omega)
          have HGl := hid hgl
          have HBr := hid (HB5.out.trans (hP.out.below.mono hs5))
          obtain ⟨ga, gc, rfl⟩ := hP.out.shape
          have hs0 := Sh.hsum_any w5.heap.size (tornGot L q ch 7) wr (HK.out.below HBr.out hsz2) hP.out.has (by rw [hgl]; decide)
          have HS0 := hid hs0
          clear hs0 hgl
          rw [HGl.out]
          generalize hG : tornGot L q ch 7 = G at *
          have heq : ∀ W, (Op.equalIn 10000 33 (.agg ((Sh.sumS G).map Sh.B).toArray) (.agg ((Sh.sumS G).map Sh.B).toArray)).run Tryd.prog W = .ok true W := fun W => by rw [Sh.run_eq32 _ _ (Sh.length_sumS G) (Sh.length_sumS G) W]; simp
          clear hG
          go_wp2_with fail
          refine HS0.out.mono ?_
          clear HS0
          rintro e wa ⟨rfl, hba⟩
          have HPa := hid (hP.out.up hba)
          have HBa := hid (HBr.out.trans (hba.mono HBr.out.size))
          have hby := HPa.out.bytes
          rw [HGl.out] at hby
          have HBy := hid hby
          clear hba hby
          go_wp2_with fail
          refine (Sh.sum_any G _ wa (HK.out.below HBa.out hsz2) (HS.out.below HBa.out (by omega)) HBy.out (by rw [HGl.out]; decide)).mono ?_
          rintro e wb ⟨rfl, hbb⟩
          have HPb := hid (HPa.out.up hbb)
          have HBb := hid (HBa.out.trans (hbb.mono HBa.out.size))
          have hln := Sh.len_any wb w5.heap.size G HPb.out.has
          rw [HGl.out] at hln
          have HLn := hid hln
          clear hbb hln
          go_wp2_with fail
          refine HLn.out.mono ?_
          rintro e wc ⟨rfl, hc⟩
          obtain rfl := hc.symm
          go_wp2
          go_ret
          exact ⟨rfl, HBb.out⟩
end Go.Proofs.YtllkkfeechojoaaDoor
