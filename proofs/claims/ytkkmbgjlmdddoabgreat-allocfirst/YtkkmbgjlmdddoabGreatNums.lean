/- wal.layout.numbers of whatever head. -/
import Derived.Test.YtkkmbgjlmdddoabGreatBaseD
import Derived.Test.YtkkmbgjlmdddoabGreatBaseB
namespace Go.Proofs.YtkkmbgjlmdddoabGreat
open Go.RowKit
set_option maxRecDepth 100000 in
set_option maxHeartbeats 1000000 in
/-- Read, and how much room there is behind what it tells. -/
theorem read_room (d : DL) (S : DiskS) (n : Int) (w : World) (h : DiskRd w d S) (h0 : 0 ≤ n) (h1 : n < S.safe.length) :
    Calls Tryz.prog 90 #[.pointer (some ⟨d.p, 0, none⟩), .int .i64 n] w fun e w' => ∃ b c, e = .returned (.tuple #[.slice (some ⟨b, 0, none⟩) (seenS S.safe S.waits n).size c, .int .i64 0]) ∧ (seenS S.safe S.waits n).size ≤ c ∧ w.heap.size ≤ b ∧ bytesAt w' ⟨b, 0, none⟩ (seenS S.safe S.waits n).data.toList ∧ Below w.heap.size w w' := by
  have c2 : w.cell? ⟨d.p, 2, none⟩ = some (.slice (some ⟨d.L.g, 0, none⟩) S.safe.length d.L.cap) := by rw [cell_of_block h.heap]; rfl
  have c3 : w.cell? ⟨d.p, 3, none⟩ = some (.map (some d.L.m)) := by rw [cell_of_block h.heap]; rfl
  have HD := hid (decide_eq_true (And.intro h0 h1))
  have HC2 := hid c2
  have HS := hid (seen_any d.p d.L S.safe S.waits S.ops.length n w c2 c3 h.plates h0 h1)
  clear h c2 c3
  generalize seenS S.safe S.waits n = s at *
  have hconv := fun W => run_bytes_of_string (P := Tryz.prog) W 116 57 5 s Tryz.underlying116 Tryz.underlying57 Tryz.underlying5
  go_enter Tryz.func90, Tryz.ntmps90
  go_wp2_with fail
  refine (has_any d.p 2 _ _ _ _ _ HC2.out).mono ?_
  rintro e w9 ⟨rfl, h9⟩
  obtain rfl := h9.symm
  rw [HD.out]
  go_wp2_with fail
  refine HS.out.mono ?_
  rintro e w9 ⟨rfl, h9⟩
  obtain rfl := h9.symm
  go_wp2
  go_returns
  refine ⟨w.heap.size, grownCap w s.size 0 5, rfl, grownCap_ge _ _ _ _, Nat.le_refl _, fun j hj => ?_, ((Below.refl _ w).alloc (Nat.le_refl _) _).drew⟩
  have hj' : j < s.data.size := by simpa using hj
  rw [Addr.add_mid, Nat.zero_add]
  refine (cell_of_block (block_new w _) j).trans ?_
  rw [bytesRow_at s _ j hj']
  simp
/-- The number in the two bytes from i on. -/
def two (b : List UInt8) (i : Nat) : Nat := numS ((b.drop i).take 2)
theorem two_lt (b : List UInt8) (i : Nat) : two b i < 65536 := by
  have h := numS_lt ((b.drop i).take 2)
  have h2 : ((b.drop i).take 2).length ≤ 2 := by rw [List.length_take]; omega
  have h3 : 256 ^ ((b.drop i).take 2).length ≤ 256 ^ 2 := Nat.pow_le_pow_right (by decide) h2
  unfold two
  omega
def numsL (b : List UInt8) (c : Nat) : List Nat := (List.range c).map (fun i => two b (4 + 2 * i))
theorem length_numsL (b : List UInt8) (c : Nat) : (numsL b c).length = c := by simp [numsL]
theorem numsL_at (b : List UInt8) (c i : Nat) (h : i < (numsL b c).length) : (numsL b c)[i] = two b (4 + 2 * i) := by simp [numsL]
/-- The first c numbers rise, and are of pages. -/
def rises (b : List UInt8) (N c : Nat) : Prop := ∀ i, i < c → two b (4 + 2 * i) < N ∧ (0 < i → two b (4 + 2 * (i - 1)) < two b (4 + 2 * i))
instance (b : List UInt8) (N c : Nat) : Decidable (rises b N c) := by unfold rises; exact inferInstance
/-- The numbers that a head tells; none, if it is no head. -/
def headNums (b : List UInt8) (size N : Nat) : Option (List Nat) :=
  if b = zN 512 then some [] else if min size 100 < two b 2 then none else if rises b N (two b 2) ∧ b = headS (numsL b (two b 2)) then some (numsL b (two b 2)) else none
set_option maxRecDepth 100000 in
theorem number_in_c (b i c : Nat) (w : World) (hi : 4 + 2 * i + 2 ≤ 512) (hc : 512 ≤ c) :
    Calls Tryz.prog 103 #[.slice (some ⟨b, 0, none⟩) 512 c, .int .i64 i] w fun e w' => e = .returned (.slice (some ⟨b, 4 + 2 * i, none⟩) 2 (c - (4 + 2 * i))) ∧ w' = w := by
  have h0 : (0 : Int) ≤ (i : Int) := by omega
  have h1 : (i : Int) ≤ 253 := by omega
  have h2 : (512 : Int) ≤ (c : Int) := by omega
  go_enter Tryz.func103, Tryz.ntmps103
  go_wp2
  go_ret
  exact ⟨rfl, rfl⟩
theorem two_bytes {w : World} {b : Nat} {L : List UInt8} (h : bytesAt w ⟨b, 0, none⟩ L) (i : Nat) (hi : i + 2 ≤ L.length) : bytesIn w (some ⟨b, i, none⟩) ((L.drop i).take 2) := fun _ _ => ⟨b, i, rfl, fun k hk => by
  have hk2 : k < 2 := by simp [List.length_take] at hk; omega
  have := h (i + k) (by omega)
  rw [Addr.add_mid, Nat.zero_add] at this
  rw [this]
  simp⟩
theorem len_two {L : List UInt8} (i : Nat) (hi : i + 2 ≤ L.length) : ((L.drop i).take 2).length = 2 := by simp [List.length_take, List.length_drop]; omega
/-- The row of numbers behind k of c rounds. -/
def numsTo (b : List UInt8) (c k : Nat) : List Int := natsZ (numsL b k) ++ List.replicate (c - k) 0
theorem numsTo_zero (b : List UInt8) (c : Nat) : numsTo b c 0 = List.replicate c 0 := by simp [numsTo, numsL]
theorem numsTo_full (b : List UInt8) (c : Nat) : numsTo b c c = natsZ (numsL b c) := by simp [numsTo]
theorem length_numsTo (b : List UInt8) (c k : Nat) (h : k ≤ c) : (numsTo b c k).length = c := by simp [numsTo, numsL]; omega
theorem numsTo_succ (b : List UInt8) (c k : Nat) (h : k < c) : (numsTo b c k).set k (two b (4 + 2 * k) : Nat) = numsTo b c (k + 1) := by
  have e : c - k = (c - (k + 1)) + 1 := by omega
  have hl : (natsZ (numsL b k)).length = k := by simp [numsL]
  rw [numsTo, List.set_append_right _ _ (by rw [hl]; exact Nat.le_refl _), hl, Nat.sub_self, e, List.replicate_succ, List.set_cons_zero, numsTo, numsL, numsL, List.range_succ]
  simp
def intsRow (w : World) (g : Nat) (xs : List Int) : Prop := w.heap[g]? = some (.cells (xs.map encZ).toArray 3 (0, 0))
theorem intsRow.cell {w : World} {g : Nat} {xs : List Int} (h : intsRow w g xs) (j : Nat) (hj : j < xs.length) : w.cell? ⟨g, j, none⟩ = some (.int .i64 xs[j]) := by
  rw [cell_of_block h]; simp [hj]
theorem intsRow.set {w : World} {g : Nat} {xs : List Int} (h : intsRow w g xs) (j : Nat) (x : Int) : intsRow (w.setCell ⟨g, j, none⟩ (.int .i64 x)) g (xs.set j x) := by
  have h1 := block_setCell h j (.int .i64 x)
  rw [List.setIfInBounds_toArray] at h1
  unfold intsRow
  rw [h1, List.map_set]
theorem intsRow_zero {w : World} {g T : Nat} (B : List UInt8) (h : w.heap[g]? = some (.cells (List.replicate T (Value.int .i64 0)).toArray 3 (0, 0))) : intsRow w g (numsTo B T 0) := by
  unfold intsRow
  rw [h, numsTo_zero, List.map_replicate]
set_option maxRecDepth 100000 in
set_option maxHeartbeats 4000000 in
theorem numbers_any (d : DL) (S : DiskS) (size : Nat) (B : List UInt8) (w : World) (h : DiskRd w d S) (hs : size + 2 ≤ S.safe.length) (hB : (seenS S.safe S.waits 0).data.toList = B) (hl : B.length = 512) :
    Calls Tryz.prog 75 #[layV d.p size] w fun e w' => Below w.heap.size w w' ∧ ((∃ v, e = .returned (.tuple #[v, .bool false]) ∧ headNums B size (pagesS S size) = none) ∨
      ∃ ns a c, e = .returned (.tuple #[.slice a ns.length c, .bool true]) ∧ headNums B size (pagesS S size) = some ns ∧ intsAt w' a (natsZ ns) ∧ (∀ ad, a = some ad → w.heap.size ≤ ad.block)) := by
  have hm := h.plates.most
  by_cases hz : B = zN 512
  · refine (numbers_zero d S size w h (by rw [hB, hz])).mono ?_
    rintro e w' ⟨rfl, hb⟩
    exact ⟨hb, .inr ⟨[], none, 0, rfl, by rw [headNums, if_pos hz], fun j hj => by simp at hj, fun ad e => by cases e⟩⟩
  have hsz : (seenS S.safe S.waits 0).size = 512 := by
    have : (seenS S.safe S.waits 0).data.toList.length = 512 := by rw [hB]; exact hl
    simpa using this
  have HR := hid (fun W hW => read_room d S 0 W (h.below (w' := W) hW) (by omega) (by have := h.plates.pos; omega))
  have HHas := hid (fun (n : Int) W hW => lay_has d S size n W (h.below (w' := W) hW) (by omega))
  have HCp := hid (fun W => lay_capacity d.p size W (by omega))
  rw [hsz, hB] at HR
  have hpm : pagesS S size ≤ 4096 := by unfold pagesS; omega
  have HHN : Hid (headNums B size (pagesS S size) = if min size 100 < two B 2 then none else if rises B (pagesS S size) (two B 2) ∧ B = headS (numsL B (two B 2)) then some (numsL B (two B 2)) else none) := by unfold Hid headNums; rw [if_neg hz]
  have HZ := hid hz
  have HLn := hid hl
  have hq : min size 100 ≤ 100 := by omega
  clear h hsz hB hz hs hm
  generalize pagesS S size = N at *
  generalize min size 100 = q at *
  have htw := two_lt B 2
  clear hl
  unfold layV at HHas HCp ⊢
  have HA := hid ((Below.refl w.heap.size w).alloc (Nat.le_refl _) (.cells #[.pointer (some ⟨d.p, 0, none⟩), .int .i64 size] 98))
  have Hb := hid (block_new w (.cells #[.pointer (some ⟨d.p, 0, none⟩), .int .i64 size] 98))
  go_enter Tryz.func75, Tryz.ntmps75
  go_wp2_with fail
  generalize w.alloc (.cells #[.pointer (some ⟨d.p, 0, none⟩), .int .i64 size] 98) = wA at *
  refine (HR.out _ HA.out).mono ?_
  clear HR
  rintro e w1 ⟨b, c, rfl, hc5, hb, hat, hb1⟩
  have HAt := hid hat
  have HB1 := hid (HA.out.trans (hb1.mono HA.out.size))
  have Hb1 := hid (below_block hb1 Hb.out (lt_of_heap Hb.out))
  have hbl : b < w1.heap.size := World.block_lt_of_cell? w1 _ (hat 0 (by rw [HLn.out]; omega))
  have hsA := HA.out.size
  clear hat hb1 Hb HA
  go_wp2_with (refine wpList_make_u8 rfl (.const (.int .i64 512)) (.const (.int .i64 512)) rfl 512 512 rfl rfl rfl (by omega) ?_; intro w2 hb2 hr2 hz2; have HB2 := hid (HB1.out.trans (hb2.mono HB1.out.size)); have HR2 : Hid (ownB w2 w1.heap.size (zN 512)) := (by unfold Hid ownB; rw [hr2, rep_U8]); have HK2 := hid hb2; clear hb2 hr2 hz2)
  have hat2 : bytesAt w2 ⟨b, 0, none⟩ B := fun j hj => (HK2.out.cell (World.block_lt_of_cell? w1 _ (HAt.out j hj))).trans (HAt.out j hj)
  have he := equal_any B (zN 512) ⟨b, 0, none⟩ ⟨w1.heap.size, 0, none⟩ c 512 w2 hat2 HR2.out.at
  rw [length_zN, HLn.out, decide_eq_false HZ.out] at he
  have HE := hid he
  have HAt2 := hid hat2
  have Hb2 := hid (below_block HK2.out Hb1.out (lt_of_heap Hb1.out))
  have hbl2 := Nat.lt_of_lt_of_le hbl HK2.out.size
  clear he hat2 HAt Hb1 HR2
  refine HE.out.mono ?_
  clear HE
  rintro e w3 ⟨rfl, h3⟩
  obtain rfl := h3.symm
  have hnu := number_any ((B.drop 2).take 2) (some ⟨b, 2, none⟩) (c - 2) w2 (two_bytes HAt2.out 2 (by rw [HLn.out]; omega)) (by rw [len_two 2 (by rw [HLn.out]; omega)]; decide)
  rw [len_two 2 (by rw [HLn.out]; omega)] at hnu
  have HNu : Hid (Calls Tryz.prog 61 #[.slice (some ⟨b, 2, none⟩) 2 (c - 2)] w2 fun e w' => e = .returned (.int .i64 (two B 2 : Nat)) ∧ w' = w2) := hnu
  have hc5' : (512 : Int) ≤ (c : Int) := by omega
  clear hnu
  go_wp2_with fail
  refine HNu.out.mono ?_
  clear HNu
  rintro e w3 ⟨rfl, h3⟩
  obtain rfl := h3.symm
  have d0 : w2.cell? ⟨w.heap.size, 0, none⟩ = some (.pointer (some ⟨d.p, 0, none⟩)) := cell_of_block Hb2.out 0
  have d1 : w2.cell? ⟨w.heap.size, 1, none⟩ = some (.int .i64 size) := cell_of_block Hb2.out 1
  obtain ⟨T, hT⟩ : ∃ T, T = two B 2 := ⟨_, rfl⟩
  rw [← hT] at HHN htw ⊢
  have HT := hid hT
  clear hT
  go_wp2_with fail
  refine (HCp.out w2).mono ?_
  clear HCp
  rintro e w3 ⟨rfl, hb3⟩
  have HB3 := hid (HB2.out.trans (hb3.mono HB2.out.size))
  have HAt3 : Hid (bytesAt w3 ⟨b, 0, none⟩ B) := fun j hj => (hb3.cell (World.block_lt_of_cell? w2 _ (HAt2.out j hj))).trans (HAt2.out j hj)
  have Hb3 := hid (below_block hb3 Hb2.out (lt_of_heap Hb2.out))
  have hs3 := hb3.size
  have hs2 := HK2.out.size
  clear hb3 HAt2 Hb2 d0 d1 HB2 HB1 HK2
  by_cases hTq : q < T
  · have hgt : ((q : Int) < (T : Int)) := by omega
    have HNone : Hid (headNums B size N = none) := by unfold Hid; rw [HHN.out, if_pos hTq]
    clear hTq
    go_wp2
    go_returns
    exact ⟨HB3.out, .inl ⟨_, rfl, HNone.out⟩⟩
  · have hgt : ¬ ((q : Int) < (T : Int)) := by omega
    have HHN2 : Hid (headNums B size N = if rises B N T ∧ B = headS (numsL B T) then some (numsL B T) else none) := by unfold Hid; rw [HHN.out, if_neg hTq]
    have hT100 : T ≤ 100 := by omega
    clear hTq HHN
    go_wp2_with (refine wpList_make_ints rfl (.tmp 27) (.tmp 27) rfl T rfl rfl (by omega) ?_; intro w4 hb4 hr4 hz4; have HB4 := hid (HB3.out.trans (hb4.mono HB3.out.size)); have HR4 := hid (intsRow_zero B hr4); have HK4 := hid hb4; clear hb4 hr4)
    have HAt4 : Hid (bytesAt w4 ⟨b, 0, none⟩ B) := fun j hj => (HK4.out.cell (World.block_lt_of_cell? w3 _ (HAt3.out j hj))).trans (HAt3.out j hj)
    have Hb4 := hid (below_block HK4.out Hb3.out (lt_of_heap Hb3.out))
    obtain ⟨G, hG⟩ : ∃ G, G = w3.heap.size := ⟨_, rfl⟩
    rw [← hG] at HR4 ⊢
    have hGb : b < G := by omega
    have hGw : w.heap.size < G := by have := lt_of_heap Hb3.out; omega
    clear HK4 HAt3 Hb3 HB3 hG hz4 hs3 hs2 hbl hbl2
    have HRi : Hid (rises B N 0) := fun i hi => by omega
    go_loopw [8, 31] (fun la i wr => ∃ (k : Nat) (L : Int), k ≤ T ∧ i = .int .i64 k ∧ la = .int .i64 L ∧ Hid (L = if k = 0 then -1 else ((two B (4 + 2 * (k - 1)) : Nat) : Int)) ∧ Hid (rises B N k) ∧ Hid (intsRow wr G (numsTo B T k)) ∧ Hid (bytesAt wr ⟨b, 0, none⟩ B) ∧ Hid (wr.heap[w.heap.size]? = some (.cells #[.pointer (some ⟨d.p, 0, none⟩), .int .i64 size] 98 (0, 0))) ∧ Hid (Below w.heap.size w wr)) (fun _ i _ => T - (intOf i).toNat)
    case atStart => exact ⟨0, -1, by omega, rfl, rfl, rfl, HRi, HR4, HAt4, Hb4, HB4⟩
    case round =>
      obtain ⟨k, L, hk, rfl, rfl, HL, hRs, hIr, hBy, hHp, hBl⟩ := hrel
      clear HRi HR4 HAt4 Hb4 HB4
      by_cases hlt : k < T
      · have hk0 : (0 : Int) ≤ (k : Int) := by omega
        have hk1 : (k : Int) < (T : Int) := by omega
        have hll := HLn.out
        obtain ⟨o4, ho4⟩ : ∃ o4, o4 = 4 + 2 * k := ⟨_, rfl⟩
        obtain ⟨cc, hcc⟩ : ∃ cc, cc = c - o4 := ⟨_, rfl⟩
        have hni := number_in_c b k c wr (by omega) hc5
        rw [← ho4, ← hcc] at hni
        have HNi := hid hni
        have hnu := number_any ((B.drop o4).take 2) (some ⟨b, o4, none⟩) cc wr (two_bytes hBy.out o4 (by omega)) (by rw [len_two _ (by omega)]; decide)
        rw [len_two _ (by omega)] at hnu
        obtain ⟨X, hX⟩ : ∃ X, X = two B (4 + 2 * k) := ⟨_, rfl⟩
        have hx := two_lt B (4 + 2 * k)
        rw [← hX] at hx
        have hnu2 : Calls Tryz.prog 61 #[.slice (some ⟨b, o4, none⟩) 2 cc] wr fun e w' => e = .returned (.int .i64 (X : Nat)) ∧ w' = wr := by
          rw [hX, ← ho4]; exact hnu
        have HNu := hid hnu2
        have HX := hid hX
        clear hnu hnu2 hni ho4 hcc hX hll
        go_wp2_with fail
        refine HNi.out.mono ?_
        clear HNi
        rintro e w9 ⟨rfl, h9⟩
        obtain rfl := h9.symm
        go_wp2_with fail
        refine HNu.out.mono ?_
        clear HNu
        rintro e w9 ⟨rfl, h9⟩
        obtain rfl := h9.symm
        by_cases hle : (X : Int) ≤ L
        · have HNone : Hid (headNums B size N = none) := by
            unfold Hid
            rw [HHN2.out, if_neg]
            rintro ⟨hr, -⟩
            have h1 := hr k hlt
            have h2 := HL.out
            have h3 := HX.out
            by_cases e : k = 0
            · rw [if_pos e] at h2; omega
            · rw [if_neg e] at h2
              have := h1.2 (by omega)
              omega
          go_wp2
          go_returns
          exact ⟨hBl.out, .inl ⟨_, rfl, HNone.out⟩⟩
        · have c0 : wr.cell? ⟨w.heap.size, 0, none⟩ = some (.pointer (some ⟨d.p, 0, none⟩)) := cell_of_block hHp.out 0
          have c1 : wr.cell? ⟨w.heap.size, 1, none⟩ = some (.int .i64 size) := cell_of_block hHp.out 1
          go_wp2_with fail
          refine (HHas.out (X : Int) wr hBl.out).mono ?_
          rintro e w5 ⟨rfl, hb5⟩
          have hB5 := hBl.out.trans (hb5.mono hBl.out.size)
          have hI5 : intsRow w5 G (numsTo B T k) := below_block hb5 hIr.out (lt_of_heap hIr.out)
          have HBy5 : Hid (bytesAt w5 ⟨b, 0, none⟩ B) := fun j hj => (hb5.cell (World.block_lt_of_cell? wr _ (hBy.out j hj))).trans (hBy.out j hj)
          have HHp5 := hid (below_block hb5 hHp.out (lt_of_heap hHp.out))
          have HB5 := hid hB5
          have hs5 := hb5.size
          clear hb5 hB5 c0 c1 hIr hBy hHp hBl
          by_cases hN : X < N
          · have hd : decide (0 ≤ (X : Int) ∧ (X : Int) < (N : Int)) = true := decide_eq_true ⟨by omega, by omega⟩
            rw [hd]
            have HRs : Hid (rises B N (k + 1)) := fun i hi => by
              by_cases e : i = k
              · subst e
                have h2 := HL.out
                have h3 := HX.out
                refine ⟨by omega, fun h0 => ?_⟩
                rw [if_neg (by omega)] at h2
                omega
              · exact hRs.out i (by omega)
            have hst := hI5.set k (X : Int)
            rw [HX.out, numsTo_succ B T k hlt, ← HX.out] at hst
            have HSt := hid hst
            obtain ⟨old, cl⟩ : ∃ v, w5.cell? ⟨G, k, none⟩ = some v := ⟨_, hI5.cell k (by rw [length_numsTo _ _ _ hk]; exact hlt)⟩
            have fl : w5.frozen? ⟨G, k, none⟩ = false := frozen_of_block hI5 _
            have HKe : Hid (Keeps (fun i => i = G) w5 (w5.setCell ⟨G, k, none⟩ (.int .i64 X))) := (Keeps.refl _ _).grown (grown_setCell (grown_refl _ _) _ _) (fun i e => .inl (Option.some.inj e).symm)
            clear hst hI5 hd
            go_wp2
            refine ⟨⟨k + 1, (X : Int), by omega, by go_num, rfl, ?_, HRs, HSt, fun j hj => ?_, HKe.out.heap HHp5.out (by omega), HB5.out.trans (HKe.out.below HB5.out.size (fun i e => by omega))⟩, by simp [intOf]; omega⟩
            · unfold Hid
              rw [if_neg (by omega), Nat.add_sub_cancel, HX.out]
            · exact HKe.out.cell (HBy5.out j hj) (by rw [add_block]; show ¬ (b = G); omega)
          · have hd : decide (0 ≤ (X : Int) ∧ (X : Int) < (N : Int)) = false := decide_eq_false (by omega)
            rw [hd]
            have HNone : Hid (headNums B size N = none) := by
              unfold Hid
              rw [HHN2.out, if_neg]
              rintro ⟨hr, -⟩
              have h1 := (hr k hlt).1
              have h3 := HX.out
              omega
            clear hd
            go_wp2
            go_returns
            exact ⟨HB5.out, .inl ⟨_, rfl, HNone.out⟩⟩
      · obtain rfl : k = T := by omega
        have hge : ¬ ((k : Int) < (k : Int)) := by omega
        have hI := hIr.out
        rw [numsTo_full] at hI
        have hin := ints_of_block hI
        have hho := head_of (numsL B k) (some ⟨G, 0, none⟩) k wr hin (by rw [length_numsL]; exact hT100) (fun n hn => by
          obtain ⟨i, hi, rfl⟩ := List.mem_iff_getElem.1 hn
          rw [numsL_at]; exact two_lt _ _)
        rw [length_numsL] at hho
        have HHo := hid hho
        have HIn := hid hin
        have hGl := lt_of_heap hI
        clear hho hin hI hlt
        go_wp2_with fail
        refine HHo.out.mono ?_
        clear HHo
        rintro e w5 ⟨g, rfl, hg, how, hb5⟩
        have hBy5 : bytesAt w5 ⟨b, 0, none⟩ B := fun j hj => (hb5.cell (World.block_lt_of_cell? wr _ (hBy.out j hj))).trans (hBy.out j hj)
        have he := equal_any B (headS (numsL B k)) ⟨b, 0, none⟩ ⟨g, 0, none⟩ c 512 w5 hBy5 how.at
        rw [HLn.out, show (headS (numsL B k)).length = 512 from length_headTo _ _ (Nat.le_refl _) (by rw [length_numsL]; omega)] at he
        have HE := hid he
        have HIn5 := hid (HIn.out.below hb5)
        have HB5 := hid (hBl.out.trans (hb5.mono hBl.out.size))
        clear he hb5 how hBy5
        go_wp2_with fail
        refine HE.out.mono ?_
        clear HE
        rintro e w9 ⟨rfl, h9⟩
        obtain rfl := h9.symm
        by_cases hEq : B = headS (numsL B k)
        · rw [decide_eq_true hEq]
          have HSome : Hid (headNums B size N = some (numsL B k)) := by unfold Hid; rw [HHN2.out, if_pos ⟨hRs.out, hEq⟩]
          have hll := length_numsL B k
          clear hEq
          go_wp2
          go_returns
          refine ⟨HB5.out, .inr ⟨numsL B k, some ⟨G, 0, none⟩, k, ?_, HSome.out, HIn5.out, fun ad e => by cases e; show w.heap.size ≤ G; omega⟩⟩
          rw [hll]; rfl
        · rw [decide_eq_false hEq]
          have HNone : Hid (headNums B size N = none) := by unfold Hid; rw [HHN2.out, if_neg (fun h => hEq h.2)]
          clear hEq
          go_wp2
          go_returns
          exact ⟨HB5.out, .inl ⟨_, rfl, HNone.out⟩⟩
end Go.Proofs.YtkkmbgjlmdddoabGreat
