/- Several of my texts in one: InMake, InLive2, InBytes, InRd, InRead, InStR, InStS, InModes, InReadV, InStZ, InStY, InStX, InErr, InFree, TFullP, InStV, InAny, KeepB, InHeld, R6Edit, R6App. -/
import Derived.Test.YtamfgnfclamamaaGreatJoined6
import Derived.Test.YtamfgnfclamamaaGreatJoined4
import Derived.Test.YtamfgnfclamamaaGreatJoined2
import Derived.Test.YtamfgnfclamamaaGreatJoined1
namespace Go.Proofs.YtamfgnfclamamaaGreat
section
open Go.RowKit
theorem clr_at : ∀ (n : Nat) (l : List UInt8) (o k : Nat), k < o \/ o + n <= k -> (clr l o n)[k]? = l[k]?
 | 0, _, _, _, _ => rfl
 | n + 1, l, o, k, h => by
  show (clr (l.set o 0) (o + 1) n)[k]? = l[k]?
  rw [clr_at n _ _ k (by omega), List.getElem?_set_ne (by omega)]
theorem inoL_clr {L : List UInt8} {q k : Nat} (h : k % 8 ≠ q % 8) : inoL (clr L (q % 8 * 64) 64) k = inoL L k := by
 unfold inoL
 refine List.ext_getElem? (fun j => ?_)
 by_cases hj : j < 64
 ·rw [List.getElem?_take_of_lt hj, List.getElem?_take_of_lt hj, List.getElem?_drop, List.getElem?_drop]
  exact clr_at 64 L _ _ (by omega)
 ·rw [List.getElem?_eq_none (by rw [List.length_take]; omega), List.getElem?_eq_none (by rw [List.length_take]; omega)]
def newA (k mode : Nat) : FileA := ⟨k, mode, 1, List.replicate 139 0, 0, []⟩
theorem newA_slot (k mode j : Nat) : (newA k mode).slot j = 0 := by
 unfold newA FileA.slot
 rw [List.getD_eq_getElem?_getD]
 by_cases h : j < 139
 ·rw [List.getElem?_eq_getElem (by rw [List.length_replicate]; exact h), List.getElem_replicate]; rfl
 ·rw [List.getElem?_eq_none (by rw [List.length_replicate]; omega)]; rfl
theorem needN_zero : needN 0 = 0 := rfl
theorem newA_ok {k mode a N : Nat} (hk : k <= 3) (hm : mode <= 4095) : (newA k mode).ok a N :=
 ⟨hk, hm, by show 1 <= 65535; omega, by show 0 <= 70656; omega, rfl, by show 0 <= 139; omega, by show needN 0 <= 0; rw [needN_zero]; exact Nat.le_refl _, fun j hj => absurd hj (Nat.not_lt_zero j), fun j _ => newA_slot k mode j⟩
section
variable {N ino : Nat} {Pg : Nat -> List UInt8} {fs : Nat -> Option FileA}
theorem inoP_one (q : Nat) : inoP Pg q 1 = flipL (Pg 1) q := by
 unfold inoP
 split
 ·unfold updP; exact if_pos rfl
 ·unfold updP; rw [if_neg (by omega)]; exact if_pos rfl
theorem inoP_other {q p : Nat} (h1 : p ≠ 1) (h2 : p ≠ 3 + q / 8) : inoP Pg q p = Pg p := by
 unfold inoP
 split
 ·unfold updP; exact if_neg h1
 ·unfold updP; rw [if_neg h2]; exact if_neg h1
theorem inoP_tab (q : Nat) : inoP Pg q (3 + q / 8) = clr (Pg (3 + q / 8)) (q % 8 * 64) 64 := by
 unfold inoP
 split
 ·rename_i e
  unfold updP
  rw [if_neg (by omega)]
  exact e.symm
 ·unfold updP
  rw [if_pos rfl]; rfl
theorem inoP_ino {q k : Nat} (h : k ≠ q) : inoL (inoP Pg q (3 + k / 8)) k = inoL (Pg (3 + k / 8)) k := by
 by_cases e : k / 8 = q / 8
 ·rw [e, inoP_tab, inoL_clr (by omega)]
 ·rw [inoP_other (by omega) (by omega)]
theorem makP_two {q k mode : Nat} : makP Pg q k mode 2 = Pg 2 := by
 have hmk : makP Pg q k mode = tabP (inoP Pg q) q (newN k mode) := rfl
 rw [hmk, tabP_other (by omega), inoP_other (by omega) (by omega)]
theorem GoodX.make (h : GoodX noSk N ino Pg fs) {q : Nat} {rest : List Nat} (hq : freeTo (Pg 1) 1 ino 4096 = q :: rest) {k mode : Nat} (hk : k <= 3) (hm : mode <= 4095) : GoodX noSk N ino (makP Pg q k mode) (updA fs q (some (newA k mode))) := by
 obtain ⟨q1, q2, q3⟩ := freeTo_first hq
 have hnf := h.nf
 have hn4 := h.n4
 have hi5 := h.i5
 have hl1 := h.len 1 (by omega)
 have hnone : ∀ g, fs q ≠ some g := fun g hg => by
  have := (h.ibit q q2).2 (.inr (by rw [hg]; rfl))
  rw [q3] at this; cases this
 have htq := h.tabLt q2
 have hmk : makP Pg q k mode = tabP (inoP Pg q) q (newN k mode) := rfl
 have hno : (newN k mode).ok := newN_ok k mode hk hm
 have hL : (inoP Pg q (3 + q / 8)).length = 512 := by rw [inoP_tab, length_clr]; exact h.len _ (by omega)
 have hup : ∀ p, 3 + ino / 8 <= p -> makP Pg q k mode p = Pg p := fun p hp => by rw [hmk, tabP_other (by omega), inoP_other (by omega) (by omega)]
 have h2 : makP Pg q k mode 2 = Pg 2 := makP_two
 have h1 : makP Pg q k mode 1 = flipL (Pg 1) q := by rw [hmk, tabP_other (by omega), inoP_one]
 have hino : ∀ j, inoL (makP Pg q k mode (3 + j / 8)) j = if j = q then encL (newN k mode) else inoL (Pg (3 + j / 8)) j := fun j => by
  rw [hmk, tabP_ino hno hL]
  by_cases e : j = q
  ·rw [if_pos e, if_pos e]
  ·rw [if_neg e, if_neg e, inoP_ino e]
 refine ⟨h.n4, h.nf, h.h8, h.i5, fun p hp => ?_, fun j hj => ?_, fun j g hg => ?_, fun j g hg => ?_, fun j g hg => ?_, fun j g hg hns => ?_, fun j g hg x hx => ?_, fun p hp1 hp2 => ?_, fun j g x j' g' x' hg hg' hx hx' e => ?_⟩
 ·rw [hmk]
  by_cases e : p = 3 + q / 8
  ·rw [e, tabP_self]; exact length_putT hL q (length_encTo _ 11 (Nat.le_refl _) hno.pages)
  ·rw [tabP_other e]
   by_cases e1 : p = 1
   ·rw [e1, inoP_one, length_flipL]; exact hl1
   ·rw [inoP_other e1 e]; exact h.len p hp
 ·rw [h1, bitL_flipL _ _ _ (by omega)]
  by_cases e : j = q
  ·rw [if_pos e, q3, e, updA_self]; simp
  ·rw [if_neg e, updA_ne e]; exact h.ibit j hj
 ·rcases updA_cases hg with ⟨rfl, -⟩ | ⟨-, hg⟩
  ·exact ⟨q1, q2⟩
  ·exact h.out j g hg
 ·rcases updA_cases hg with ⟨rfl, e⟩ | ⟨-, hg⟩
  ·cases e; exact newA_ok hk hm
  ·exact h.file j g hg
 ·unfold tabOk
  rw [hino j]
  rcases updA_cases hg with ⟨rfl, -⟩ | ⟨hne, hg⟩
  ·rw [if_pos rfl]; exact ⟨_, hno, rfl⟩
  ·rw [if_neg hne]; exact h.tab j g hg
 ·rw [hino j]
  rcases updA_cases hg with ⟨rfl, e⟩ | ⟨hne, hg⟩
  ·cases e
   rw [if_pos rfl]
   exact ⟨rfl, needN_zero.symm, fun hb => absurd hb (by show ¬ 5120 < 0; omega)⟩
  ·obtain ⟨a1, a2, a3⟩ := h.node j g hg hns
   rw [if_neg hne]
   refine ⟨a1, a2, fun hb => ?_⟩
   have := need_far hb (h.file j g hg).size
   rw [hup _ ((h.file j g hg).in_ 10 (by omega)).1]
   exact a3 hb
 ·rcases updA_cases hg with ⟨rfl, e⟩ | ⟨-, hg⟩
  ·cases e; exact absurd hx (Nat.not_lt_zero x)
  ·rw [hup _ ((h.file j g hg).in_ _ (h.at_ hg hx).1).1]
   exact h.data j g hg x hx
 ·rw [h2, h.pbit p hp1 hp2]
  constructor
  ·rintro ⟨j, g, x, hg, hx, e⟩
   exact ⟨j, g, x, (updA_ne (fun e' => hnone g (by rw [<- e']; exact hg))).trans hg, hx, e⟩
  ·rintro ⟨j, g, x, hg, hx, e⟩
   rcases updA_cases hg with ⟨rfl, e'⟩ | ⟨-, hg⟩
   ·cases e'; exact absurd hx (Nat.not_lt_zero x)
   ·exact ⟨j, g, x, hg, hx, e⟩
 ·rcases updA_cases hg with ⟨rfl, e'⟩ | ⟨-, hg⟩
  ·cases e'; exact absurd hx (Nat.not_lt_zero x)
  ·rcases updA_cases hg' with ⟨rfl, e'⟩ | ⟨-, hg'⟩
   ·cases e'; exact absurd hx' (Nat.not_lt_zero x')
   ·exact h.apart j g x j' g' x' hg hg' hx hx' e
end
section
variable {w w' : World} {s m c ino : Nat} {F : Nat -> Prop} {N : Nat} {Pg Cm : Nat -> List UInt8} {fs : Nat -> Option FileA} {o u : Nat}
theorem iMake_st (h : St w s m c F N ino Pg Cm fs o u) (k mode q : Nat) (rest : List Nat) (hk1 : 1 <= k) (hk3 : k <= 3) (hm : mode <= 4095) (hq : freeTo (Pg 1) 1 ino 4096 = q :: rest) (hN : N <= 97) (hu : u < 900000) :
  Calls Tryz.prog 8 #[.pointer (some ⟨s, 0, none⟩), .int .i64 k, .int .i64 mode] w fun e w' => e = .returned (.tuple #[.int .i64 q, .int .i64 0]) /\ Keeps F w w' /\ St w' s m c F N ino (makP Pg q k mode) Cm (updA fs q (some (newA k mode))) o (u + 3) := by
 obtain ⟨D, hp⟩ := h.pc
 refine (iMake_ok h.map h.mF h.store h.sF h.good.i5 h.good.h8 h.good.nf k mode q rest hk1 hk3 hm hq (by have := dkD_le N D; omega) (by omega) hp).mono ?_
 rintro e w' ⟨rfl, hk, hp'⟩
 exact ⟨rfl, hk, h.map.keep hk h.mF, h.store.keep hk h.sF, h.mF, h.sF, h.few, ⟨_, hp'⟩, h.good.make hq hk3 hm⟩
end
end
section
set_option maxRecDepth 100000
set_option maxHeartbeats 4000000
open Go.RowKit
theorem bits1_first (ino : Nat) (h : 1 < ino) (h4 : ino <= 4096) : ∃ rest, freeTo (bitsTo 1) 1 ino 4096 = 1 :: rest := by
 cases hf : freeTo (bitsTo 1) 1 ino 4096 with
 | nil => have := freeBits (k := 1) (a := 1) (z := ino) (by omega) (by omega) h4; rw [hf] at this; simp at this; omega
 | cons q rest => exact ⟨rest, by rw [freeBitsIs h (by omega) h4 hf]⟩
theorem need_5121 : needN 5121 = 12 := rfl
theorem l6live_any (w : World) : Calls Tryz.prog 7 #[] w fun e w' => e = .returned (.bool true) /\ Below w.heap.size w w' := by
 go_enter Tryz.func7, Tryz.ntmps7
 go_wp2_with fail
 refine (l6opened_any 40 (by omega) (by omega) (by decide) w).mono ?_
 rintro e w1 ⟨s, m, c, F, r, Pg, rfl, hF, hb1, hst1, hp1, hp2, -⟩
 obtain ⟨rest, hfr⟩ := bits1_first 16 (by omega) (by omega)
 rw [<- hp1] at hfr
 have HMk := hid (iMake_st hst1 1 420 1 rest (by omega) (by omega) (by omega) hfr (by omega) (by omega))
 have HF := hid hF
 have HB1 := hid hb1
 have HP2 := hid hp2
 have HFl := hid hst1.lt
 clear hst1 hfr hp1 hp2 hF hb1
 go_wp2_with fail
 refine HMk.out.mono ?_
 clear HMk
 rintro e w2 ⟨rfl, hk2, hst2⟩
 have HK2 := hid hk2
 have HS2 := hid hst2
 clear hk2 hst2
 go_wp2_with fail
 obtain ⟨w3, hw3⟩ : ∃ w3, w3 = w2.alloc (.cells #[.int .u8 97] 5) := ⟨_, rfl⟩
 have hb3 : Below w2.heap.size w2 w3 := by rw [hw3]; exact (Below.refl _ w2).alloc (Nat.le_refl _) _
 have hc3 : w3.heap[w2.heap.size]? = some (.cells #[.int .u8 97] 5 (0, 0)) := by rw [hw3]; exact block_new w2 _
 have hby : bytesAt w3 ⟨w2.heap.size, 0, none⟩ [97] := fun j hj => by
  have h0 : j = 0 := by simp at hj; omega
  subst h0
  exact cell_of_block hc3 0
 rw [<- hw3]
 have hk2 := HK2.out.size
 have hfr : needN 5121 - 0 <= (freeTo (makP Pg 1 1 420 2) (3 + 16 / 8) 40 4096).length := by
  rw [makP_two, HP2.out, freeBits (by omega) (by omega) (by omega), need_5121]
  decide
 have HWr := hid (iWrite_grow (HS2.out.below hb3) (updA_self _ _ _) (by omega) 5120 5121 [97] w2.heap.size 0 1 hby (by simp) (fun hh => by have := HFl.out _ hh; omega) (lt_of_heap hc3) rfl (by simp) (by omega) hfr)
 have HB3 := hid hb3
 clear hw3 hb3 hc3 hby hk2 hfr
 refine HWr.out.mono ?_
 clear HWr
 rintro e w4 ⟨rfl, hk4, Pg4, f4, h41, h42, h43, h44, hst4⟩
 rw [updA_twice] at hst4
 have hl4 : f4.data.length = 5121 := by rw [h44, length_wrD]; rfl
 have HGt := hid (iGet_st hst4 (updA_self _ _ _) (by omega))
 have hok4 := hst4.good.file 1 f4 (updA_self _ _ _)
 have HN4 : Hid ((nodeC f4.node).length = 15) := by unfold Hid nodeC; rw [List.length_append, List.length_map, (hok4.node (by omega) (by omega)).pages]; rfl
 have HN3 : Hid ((nodeC f4.node)[3]? = some (.int .i64 5121)) := by unfold Hid nodeC FileA.node; rw [hl4]; rfl
 have HK4 := hid hk4
 have HL4 := hid hl4
 have hnc1 := nodeC_one f4.node
 unfold nodeV at HGt
 clear hst4 hk4 h41 h42 h43 h44 hl4 hok4
 generalize nodeC f4.node = nc at *
 have HN1 := hid hnc1
 clear hnc1
 go_wp2_with fail
 refine HGt.out.mono ?_
 clear HGt
 rintro e w5 ⟨rfl, hk5, hst5⟩
 have HPg := hid (fun W (hW : Below w5.heap.size w5 W) => iPages_st (hst5.below hW) (updA_self _ _ _) (by omega))
 have HK5 := hid hk5
 clear hk5 hst5
 go_wp2_with (refine wpList_store_block rfl 51 (.tmp 7) (.tmp 27) rfl w5.heap.size nc.toArray rfl rfl _ _ (block_new w5 _) (by rw [List.size_toArray, HN4.out]; rfl) (by rw [List.size_toArray, HN4.out]; kernel_rfl) HN1.out ?_; intro w6 hg6 hb6 hz6)
 have hb56 : Below w5.heap.size w5 w6 := ((Below.refl _ w5).alloc (Nat.le_refl _) _).grown hg6 (by simp) (fun k e => by cases e; exact Nat.le_refl _)
 have HP6 := hid (HPg.out w6 hb56)
 have HB56 := hid hb56
 have HR6 := hid hb6
 clear hb56 hg6 hb6 hz6 HPg
 refine HP6.out.mono ?_
 clear HP6
 rintro e w7 ⟨v, rfl, hr7, hk7, hst7⟩
 obtain ⟨av, cv, hv⟩ := hr7.form
 have hpl : (pgAll (f4.S 1 f4.data.length)).length = 12 := by
  unfold pgAll pgL
  have e1 : (f4.S 1 f4.data.length).size = 5121 := HL4.out
  rw [e1, if_pos (by omega), List.length_append, List.length_map, length_upTo]
  rfl
 rw [hpl] at hv
 subst hv
 have hk4 := HK4.out.size
 have hk5 := HK5.out.size
 have hk2 := HK2.out.size
 have hb3 := HB3.out.size
 have hr7 := hk7.heap HR6.out (fun hh => by have := HFl.out _ hh; omega)
 have c3 : w7.cell? ⟨w5.heap.size, 3, none⟩ = some (.int .i64 5121) := by
  rw [cell_of_block hr7, List.getElem?_toArray]; exact HN3.out
 have HNd := hid (iNeed_any 5121 w7)
 have HBe : Hid (Below w.heap.size w w7) := by
  have k27 : Keeps F w1 w7 := ((((HK2.out.trans (Keeps.of_below HB3.out : Keeps F w2 w3) (fun i e => .inl e)).trans HK4.out (fun i e => .inl e)).trans HK5.out (fun i e => .inl e)).trans (Keeps.of_below HB56.out : Keeps F w5 w6) (fun i e => .inl e)).trans hk7 (fun i e => .inl e)
  exact HB1.out.trans (k27.below HB1.out.size (fun i hi => HF.out i hi))
 clear hr7 hk7 hst7 hpl hk4 hk5 hk2 hb3
 go_wp2_with fail
 refine HNd.out.mono ?_
 clear HNd
 rintro e w8 ⟨rfl, h8⟩
 obtain rfl := h8.symm
 clear h8
 have hn12 : needZ 5121 = 12 := rfl
 rw [hn12]
 go_wp2
 go_ret
 exact ⟨rfl, HBe.out⟩
end
section
set_option maxRecDepth 100000
set_option maxHeartbeats 1000000
open Go.RowKit
def bLen (n : Int) : Nat := if n < 0 \/ 8000 < n then 8000 else n.toNat
theorem bLen_le (n : Int) : bLen n <= 8000 := by unfold bLen; split <;> omega
def bAt (x : UInt8) (k : Nat) : UInt8 := x + UInt8.ofNat (k % 251)
def bL (x : UInt8) (n : Nat) : List UInt8 := (List.range n).map (bAt x)
theorem length_bL (x : UInt8) (n : Nat) : (bL x n).length = n := by simp [bL]
def bTo (n : Nat) (x : UInt8) (k : Nat) : List UInt8 := bL x k ++ zN (n - k)
theorem bTo_zero (n : Nat) (x : UInt8) : bTo n x 0 = zN n := by simp [bTo, bL]
theorem bTo_full (n : Nat) (x : UInt8) : bTo n x n = bL x n := by
 rw [bTo, Nat.sub_self]; exact List.append_nil _
theorem length_bTo (n : Nat) (x : UInt8) (k : Nat) (h : k <= n) : (bTo n x k).length = n := by
 rw [bTo, List.length_append, length_bL, length_zN]; omega
theorem bTo_succ (n : Nat) (x : UInt8) (k : Nat) (h : k < n) : (bTo n x k).set k (bAt x k) = bTo n x (k + 1) := by
 have e : n - k = (n - (k + 1)) + 1 := by omega
 rw [bTo, bTo, List.set_append_right _ _ (by rw [length_bL]; exact Nat.le_refl _), length_bL, Nat.sub_self, e, zN, List.replicate_succ, List.set_cons_zero]
 unfold bL
 rw [List.range_succ, List.map_append, List.append_assoc]
 rfl
theorem u8_wrap (n : Int) : IntKind.u8.wrap n = n % 256 := by
 rw [IntKind.wrap_u8]
theorem bAt_toNat (x : UInt8) (k : Nat) : ((bAt x k).toNat : Int) = IntKind.u8.wrap ((x.toNat : Int) + (k : Int) % 251) := by
 unfold bAt
 rw [UInt8.toNat_add, UInt8.toNat_ofNat', Nat.mod_eq_of_lt (show k % 251 < 2 ^ 8 by omega), u8_wrap]
 omega
theorem wpList_make_u8L {w : World} {ops : Array Oper} {rest : List Oper} {o : Oper} {a : Act} {Q : Exit -> Act -> World -> Prop} (hg : o.guard = none) (l c : Operand) (hop : o.op = Op.makeSlice 42 l c)
  (n : Nat) (x : Int) (hx : x = n) (hl : a.eval l = .int .i64 x) (hc : a.eval c = .int .i64 x) (hm : n <= 10000)
  (h : ∀ w1 : World, Below w.heap.size w w1 -> w1.heap[w.heap.size]? = some (.cells (List.replicate n (Value.int .u8 0)).toArray 5 (0, 0)) -> w1.heap.size = w.heap.size + 1 ->
   wpList Tryz.prog ops Q rest (a.put o.dst (.slice (some ⟨w.heap.size, 0, none⟩) n n)) w1) : wpList Tryz.prog ops Q (o :: rest) a w := by
 subst hx
 obtain ⟨i, hi, hz, hs, hb⟩ := info_parts infoU8
 refine wpList_plain hg fun K hK' => ?_
 have hrun := run_make (P := Tryz.prog) w 42 5 i (.int .u8 0) Tryz.underlying42 hi hz .i64 .i64 n n (by omega) (by omega) (by rw [hb]; omega) (by omega)
 unfold Oper.wp
 simp only [Int.toNat_natCast, hs, madeU8] at hrun
 generalize (List.replicate n (Value.int .u8 0)).toArray = Z at *
 simp [execOp, hop, hl, hc, hrun, Result.andThen]
 exact hK' _ _ (h _ ((Below.refl _ _).alloc (Nat.le_refl _) _) (block_new _ _) (by simp))
theorem l6bytes_any (kd ii aa n nd md lk : Int) (x : UInt8) (w : World) :
  Calls Tryz.prog 17 #[.agg #[.int .i64 kd, .int .i64 ii, .int .i64 aa, .int .i64 n, .int .i64 nd, .int .i64 md, .int .i64 lk, .int .u8 (x.toNat : Int)]] w fun e w' => Below w.heap.size w w' /\ ∃ g, w.heap.size <= g /\ e = .returned (.slice (some ⟨g, 0, none⟩) (bLen n) (bLen n)) /\ ownB w' g (bL x (bLen n)) := by
 obtain ⟨wA, hA⟩ : ∃ wA, wA = w.alloc (.cells #[.int .i64 kd, .int .i64 ii, .int .i64 aa, .int .i64 n, .int .i64 nd, .int .i64 md, .int .i64 lk, .int .u8 (x.toNat : Int)] 25) := ⟨_, rfl⟩
 have hsA : wA.heap.size = w.heap.size + 1 := by rw [hA]; simp
 have HB0 : Hid (Below w.heap.size w wA) := by rw [hA]; exact (Below.refl _ w).alloc (Nat.le_refl _) _
 have Hb0 : Hid (wA.heap[w.heap.size]? = some (.cells #[.int .i64 kd, .int .i64 ii, .int .i64 aa, .int .i64 n, .int .i64 nd, .int .i64 md, .int .i64 lk, .int .u8 (x.toNat : Int)] 25 (0, 0))) := by rw [hA]; exact block_new w _
 have c3 : wA.cell? ⟨w.heap.size, 3, none⟩ = some (.int .i64 n) := cell_of_block Hb0.out 3
 have HSA := hid hsA
 clear hsA
 by_cases h0 : n < 0
 ·obtain ⟨k, hk⟩ : ∃ k : Nat, (k : Int) = 8000 := ⟨8000, rfl⟩
  have hL : bLen n = k := by unfold bLen; rw [if_pos (.inl h0)]; omega
  rw [hL]
  have hk8 : k <= 8000 := by omega
  have HK := hid hk
  clear hL hk
  go_enter Tryz.func17, Tryz.ntmps17
  go_upto_region 1 with (fail)
  rw [<- hA]
  clear hA
  go_wp2_with (refine wpList_make_u8L rfl (.tmp 14) (.tmp 14) rfl k 8000 HK.out.symm rfl rfl (by omega) ?_; intro w1 hb1 hr1 hz1; have HB1 := hid hb1; have HR1 : Hid (ownB w1 wA.heap.size (zN k)) := (by unfold Hid ownB; rw [hr1, rep_U8]); clear hb1 hr1 hz1)
  rw [HSA.out] at *
  have HM1 := hid (below_block HB1.out Hb0.out (by rw [HSA.out]; omega))
  clear c3
  go_loopw [5] (fun i wr => ∃ q : Nat, q <= k /\ i = .int .i64 q /\ Hid (ownB wr (w.heap.size + 1) (bTo k x q)) /\ Hid (Keeps (fun i => i = w.heap.size + 1) w1 wr)) (fun i _ => k - (intOf i).toNat)
  case atStart => exact ⟨0, by omega, rfl, by rw [bTo_zero]; exact HR1, Keeps.refl _ _⟩
  case round =>
   obtain ⟨q, hq, rfl, hOw, hKi⟩ := hrel
   have hMi := hKi.out.heap HM1.out (fun e => by omega)
   have d7 : wr.cell? ⟨w.heap.size, 7, none⟩ = some (.int .u8 (x.toNat : Int)) := cell_of_block hMi 7
   clear hMi
   by_cases hq5 : q < k
   ·have hq0 : (0 : Int) <= (q : Int) := by omega
    have hq1 : (q : Int) < (k : Nat) := by omega
    have hq2 : (q : Int) < 8000 := by (have := HK.out; omega)
    obtain ⟨old, cl⟩ : ∃ v, wr.cell? ⟨w.heap.size + 1, q, none⟩ = some v := ⟨_, hOw.out.cell q (by rw [length_bTo _ _ _ hq]; exact hq5)⟩
    have fl := hOw.out.frozen q
    have hs := hOw.out.set q (bAt x q)
    rw [bTo_succ k x q hq5, bAt_toNat x q] at hs
    have HSt := hid hs
    have hcv : IntKind.u8.wrap ((q : Int) % 251) = (q : Int) % 251 := by rw [u8_wrap]; omega
    clear hs
    go_wp2
    exact ⟨⟨q + 1, by omega, by go_num, HSt, hKi.out.grown (grown_setCell (grown_refl _ _) _ _) (fun i e => .inl (Option.some.inj e).symm)⟩, by simp [intOf]; omega⟩
   ·have hqk : k = q := by omega
    subst hqk
    have hge : ¬ (((k : Nat) : Int) < 8000) := by (have := HK.out; omega)
    have hOf := hOw.out
    rw [bTo_full] at hOf
    have HOf := hid hOf
    have HBf : Hid (Below w.heap.size w wr) := by
     have hbb := HB0.out.trans (HB1.out.mono (Nat.le_succ _))
     exact hbb.trans (hKi.out.below hbb.size (fun i e => by omega))
    clear hOf hOw
    go_wp2
    go_ret
    exact ⟨HBf.out, w.heap.size + 1, Nat.le_succ _, rfl, HOf.out⟩
 ·by_cases h8 : 8000 < n
  ·obtain ⟨k, hk⟩ : ∃ k : Nat, (k : Int) = 8000 := ⟨8000, rfl⟩
   have hL : bLen n = k := by unfold bLen; rw [if_pos (.inr h8)]; omega
   rw [hL]
   have hk8 : k <= 8000 := by omega
   have HK := hid hk
   clear hL hk
   go_enter Tryz.func17, Tryz.ntmps17
   go_upto_region 1 with (fail)
   rw [<- hA]
   clear hA
   go_wp2_with (refine wpList_make_u8L rfl (.tmp 14) (.tmp 14) rfl k 8000 HK.out.symm rfl rfl (by omega) ?_; intro w1 hb1 hr1 hz1; have HB1 := hid hb1; have HR1 : Hid (ownB w1 wA.heap.size (zN k)) := (by unfold Hid ownB; rw [hr1, rep_U8]); clear hb1 hr1 hz1)
   rw [HSA.out] at *
   have HM1 := hid (below_block HB1.out Hb0.out (by rw [HSA.out]; omega))
   clear c3
   go_loopw [5] (fun i wr => ∃ q : Nat, q <= k /\ i = .int .i64 q /\ Hid (ownB wr (w.heap.size + 1) (bTo k x q)) /\ Hid (Keeps (fun i => i = w.heap.size + 1) w1 wr)) (fun i _ => k - (intOf i).toNat)
   case atStart => exact ⟨0, by omega, rfl, by rw [bTo_zero]; exact HR1, Keeps.refl _ _⟩
   case round =>
    obtain ⟨q, hq, rfl, hOw, hKi⟩ := hrel
    have hMi := hKi.out.heap HM1.out (fun e => by omega)
    have d7 : wr.cell? ⟨w.heap.size, 7, none⟩ = some (.int .u8 (x.toNat : Int)) := cell_of_block hMi 7
    clear hMi
    by_cases hq5 : q < k
    ·have hq0 : (0 : Int) <= (q : Int) := by omega
     have hq1 : (q : Int) < (k : Nat) := by omega
     have hq2 : (q : Int) < 8000 := by (have := HK.out; omega)
     obtain ⟨old, cl⟩ : ∃ v, wr.cell? ⟨w.heap.size + 1, q, none⟩ = some v := ⟨_, hOw.out.cell q (by rw [length_bTo _ _ _ hq]; exact hq5)⟩
     have fl := hOw.out.frozen q
     have hs := hOw.out.set q (bAt x q)
     rw [bTo_succ k x q hq5, bAt_toNat x q] at hs
     have HSt := hid hs
     have hcv : IntKind.u8.wrap ((q : Int) % 251) = (q : Int) % 251 := by rw [u8_wrap]; omega
     clear hs
     go_wp2
     exact ⟨⟨q + 1, by omega, by go_num, HSt, hKi.out.grown (grown_setCell (grown_refl _ _) _ _) (fun i e => .inl (Option.some.inj e).symm)⟩, by simp [intOf]; omega⟩
    ·have hqk : k = q := by omega
     subst hqk
     have hge : ¬ (((k : Nat) : Int) < 8000) := by (have := HK.out; omega)
     have hOf := hOw.out
     rw [bTo_full] at hOf
     have HOf := hid hOf
     have HBf : Hid (Below w.heap.size w wr) := by
      have hbb := HB0.out.trans (HB1.out.mono (Nat.le_succ _))
      exact hbb.trans (hKi.out.below hbb.size (fun i e => by omega))
     clear hOf hOw
     go_wp2
     go_ret
     exact ⟨HBf.out, w.heap.size + 1, Nat.le_succ _, rfl, HOf.out⟩
  ·obtain ⟨k, rfl⟩ : ∃ k : Nat, n = (k : Int) := ⟨n.toNat, by omega⟩
   have hL : bLen (k : Int) = k := by unfold bLen; rw [if_neg (by omega)]; rfl
   rw [hL]
   have hk8 : k <= 8000 := by omega
   clear hL
   go_enter Tryz.func17, Tryz.ntmps17
   go_upto_region 1 with (fail)
   rw [<- hA]
   clear hA
   go_wp2_with (refine wpList_make_u8L rfl (.tmp 14) (.tmp 14) rfl k (k : Int) rfl rfl rfl (by omega) ?_; intro w1 hb1 hr1 hz1; have HB1 := hid hb1; have HR1 : Hid (ownB w1 wA.heap.size (zN k)) := (by unfold Hid ownB; rw [hr1, rep_U8]); clear hb1 hr1 hz1)
   rw [HSA.out] at *
   have HM1 := hid (below_block HB1.out Hb0.out (by rw [HSA.out]; omega))
   clear c3
   go_loopw [5] (fun i wr => ∃ q : Nat, q <= k /\ i = .int .i64 q /\ Hid (ownB wr (w.heap.size + 1) (bTo k x q)) /\ Hid (Keeps (fun i => i = w.heap.size + 1) w1 wr)) (fun i _ => k - (intOf i).toNat)
   case atStart => exact ⟨0, by omega, rfl, by rw [bTo_zero]; exact HR1, Keeps.refl _ _⟩
   case round =>
    obtain ⟨q, hq, rfl, hOw, hKi⟩ := hrel
    have hMi := hKi.out.heap HM1.out (fun e => by omega)
    have d7 : wr.cell? ⟨w.heap.size, 7, none⟩ = some (.int .u8 (x.toNat : Int)) := cell_of_block hMi 7
    clear hMi
    by_cases hq5 : q < k
    ·have hq0 : (0 : Int) <= (q : Int) := by omega
     have hq1 : (q : Int) < (k : Nat) := by omega
     have hq2 : (q : Int) < (k : Int) := by omega
     obtain ⟨old, cl⟩ : ∃ v, wr.cell? ⟨w.heap.size + 1, q, none⟩ = some v := ⟨_, hOw.out.cell q (by rw [length_bTo _ _ _ hq]; exact hq5)⟩
     have fl := hOw.out.frozen q
     have hs := hOw.out.set q (bAt x q)
     rw [bTo_succ k x q hq5, bAt_toNat x q] at hs
     have HSt := hid hs
     have hcv : IntKind.u8.wrap ((q : Int) % 251) = (q : Int) % 251 := by rw [u8_wrap]; omega
     clear hs
     go_wp2
     exact ⟨⟨q + 1, by omega, by go_num, HSt, hKi.out.grown (grown_setCell (grown_refl _ _) _ _) (fun i e => .inl (Option.some.inj e).symm)⟩, by simp [intOf]; omega⟩
    ·have hqk : k = q := by omega
     subst hqk
     have hge : ¬ (((k : Nat) : Int) < (k : Int)) := by omega
     have hOf := hOw.out
     rw [bTo_full] at hOf
     have HOf := hid hOf
     have HBf : Hid (Below w.heap.size w wr) := by
      have hbb := HB0.out.trans (HB1.out.mono (Nat.le_succ _))
      exact hbb.trans (hKi.out.below hbb.size (fun i e => by omega))
     clear hOf hOw
     go_wp2
     go_ret
     exact ⟨HBf.out, w.heap.size + 1, Nat.le_succ _, rfl, HOf.out⟩
end
section
set_option maxRecDepth 100000
open Go.RowKit
def PcB (w : World) (B c : Nat) (F : Nat -> Prop) (size N : Nat) (Pg Cm : Nat -> List UInt8) (D : Int -> Bool) (o u : Nat) : Prop := ∃ L C, PcIn w c F size N Pg Cm D o u L C /\ c < B /\ L.um < B /\ B <= w.heap.size /\ ∀ W, Keeps (fun i => B <= i) w W -> CacheAt W c L C
section
variable {w w' : World} {B m c ino : Nat} {F : Nat -> Prop} {size N : Nat} {Pg Cm : Nat -> List UInt8} {D : Int -> Bool} {o u : Nat}
theorem PcB.start (h : Pc w c F size N Pg Cm D o u) : PcB w w.heap.size c F size N Pg Cm D o u := by
 obtain ⟨L, C, h⟩ := h
 obtain ⟨es, k, hu⟩ := h.at_.umap
 exact ⟨L, C, h, lt_of_heap h.at_.heap, lt_of_heap hu, Nat.le_refl _, fun W hW => h.at_.below (hW.below (Nat.le_refl _) (fun i e => e))⟩
theorem PcB.keep (h : PcB w B c F size N Pg Cm D o u) (k : Keeps (fun i => B <= i) w w') : PcB w' B c F size N Pg Cm D o u := by
 obtain ⟨L, C, h, h1, h2, h3, h4⟩ := h
 exact ⟨L, C, ⟨h4 w' k, h.sz, h.nn, h.made, h.ops, h.uses, h.pg, h.cm, h.dirty, h.room, h.foot, fun i hi => Nat.lt_of_lt_of_le (h.lt i hi) k.size, Nat.lt_of_lt_of_le h.p0 k.size, h.sep.mono k.size, h.quiet⟩, h1, h2, Nat.le_trans h3 k.size, fun W hW => h4 W (k.trans hW (fun i e => .inl e))⟩
theorem PcB.pc (h : PcB w B c F size N Pg Cm D o u) : Pc w c F size N Pg Cm D o u := by
 obtain ⟨L, C, h, -⟩ := h
 exact ⟨L, C, h⟩
theorem PcB.le (h : PcB w B c F size N Pg Cm D o u) : B <= w.heap.size := by
 obtain ⟨L, C, -, -, -, h, -⟩ := h
 exact h
theorem PcB.step {L L' : CLay} {C C' : CS} (hB : ∀ W, Keeps (fun i => B <= i) w W -> CacheAt W c L C) (hc : c < B) (hu : L.um < B) (hBs : B <= w.heap.size) (hk : Keeps (fun i => i = c \/ i = L.um) w w') (h' : CacheAt w' c L' C')
  (hL : L' = { L with Du := L'.Du }) (hC : C' = { C with uses := C'.uses, used := C'.used }) : ∀ W, Keeps (fun i => B <= i) w' W -> CacheAt W c L' C' := fun V hV => by
 have h0 := hB w (Keeps.refl _ _)
 obtain ⟨es, kk, hum⟩ := h0.umap
 have hcw := h0.heap
 obtain ⟨W, hW⟩ : ∃ W : World, W = { V with heap := (V.heap.setIfInBounds c (.cells #[.pointer (some ⟨L.p, 0, none⟩), .map (some L.dm), .int .i64 C.most, .int .i64 C.uses, .map (some L.um)] 105 (0, 0))).setIfInBounds L.um (.map es kk) } := ⟨_, rfl⟩
 have hs1 := hk.size
 have hs2 := hV.size
 have hWs : W.heap.size = V.heap.size := by rw [hW]; simp
 have hne : ∀ k, k ≠ c -> k ≠ L.um -> W.heap[k]? = V.heap[k]? := fun k h1 h2 => by
  rw [hW]
  show ((V.heap.setIfInBounds c _).setIfInBounds L.um _)[k]? = V.heap[k]?
  rw [Array.getElem?_setIfInBounds_ne (fun e => h2 e.symm), Array.getElem?_setIfInBounds_ne (fun e => h1 e.symm)]
 have hcu : c ≠ L.um := fun e => by rw [e, hum] at hcw; cases hcw
 have hWc : W.heap[c]? = w.heap[c]? := by
  rw [hcw, hW]
  show ((V.heap.setIfInBounds c _).setIfInBounds L.um _)[c]? = _
  rw [Array.getElem?_setIfInBounds_ne (fun e => hcu e.symm), Array.getElem?_setIfInBounds_self_of_lt (by omega)]
 have hWu : W.heap[L.um]? = w.heap[L.um]? := by
  rw [hum, hW]
  show ((V.heap.setIfInBounds c _).setIfInBounds L.um _)[L.um]? = _
  rw [Array.getElem?_setIfInBounds_self_of_lt (by rw [Array.size_setIfInBounds]; omega)]
 have kW : Keeps (fun i => B <= i) w W := by
  refine ⟨?_, ?_, ?_, by omega, fun k hk1 hk2 => ?_⟩
  ·rw [hW]; exact hV.os.trans hk.os
  ·rw [hW]; exact hV.tape.trans hk.tape
  ·rw [hW]; exact hV.output.trans hk.output
  ·by_cases e1 : k = c
   ·rw [e1]; exact hWc
   ·by_cases e2 : k = L.um
    ·rw [e2]; exact hWu
    ·rw [hne k e1 e2, hV.block k (by omega) hk2, hk.block k hk1 (fun hh => hh.elim e1 e2)]
 have kV : Keeps (fun i => i = c \/ i = L.um) W V := by
  refine ⟨by rw [hW], by rw [hW], by rw [hW], by omega, fun k _ hk2 => (hne k (fun e => hk2 (.inl e)) (fun e => hk2 (.inr e))).symm⟩
 have hA := hB W kW
 have hG : ∀ i, (i = c \/ i = L.um) -> i = c \/ i = L.dm \/ i = L.um := fun i hi => hi.elim .inl (fun e => .inr (.inr e))
 have eum : L'.um = L.um := by rw [hL]
 have hcV : V.heap[c]? = w'.heap[c]? := hV.block c (by omega) (fun e => by omega)
 rw [hL, hC] at h' ⊢
 exact {
  heap := hcV.trans h'.heap
  log := hA.logKeep hG kV
  lt := fun i hi => Nat.lt_of_lt_of_le (h'.lt i hi) hV.size
  dirty := hA.dirty.keep kV (fun e => e.elim (fun e => hA.cd e.symm) (fun e => hA.ne e))
  bytes := hA.bytesKeep hG kV
  clean := h'.clean
  used := h'.used.keep hV (fun e => by have e' : B <= L.um := e; omega)
  offc := h'.offc
  offd := h'.offd
  offu := h'.offu
  ne := h'.ne
  pages := h'.pages
  fits := h'.fits
  few := h'.few
  ub := h'.ub }
theorem PcB.read (h : PcB w B c F size N Pg Cm D o u) (n : Nat) (hn : n < N) (hu : u < 1000000) :
  Calls Tryz.prog 140 #[.pointer (some ⟨c, 0, none⟩), .int .i64 n] w fun e w' => ∃ g cap, e = .returned (.tuple #[.slice (some ⟨g, 0, none⟩) 512 cap, .int .i64 0]) /\ 512 <= cap /\ w.heap.size <= g /\ rowU w' g (Pg n) /\ Keeps F w w' /\ PcB w' B c F size N Pg Cm D o (u + 1) := by
 obtain ⟨L, C, h, h1, h2, h3, h4⟩ := h
 refine (bread_row n w h.at_ (Below.refl _ w) h.made (by have := h.uses; omega) (by rw [h.nn]; exact hn)).mono ?_
 rintro e w' ⟨g, cap, D', u', k, rfl, hc, hg, hr, hk, hW, hK⟩
 have hf : ∀ i, (i = c \/ i = L.um) -> F i := fun i hi => h.foot i (hi.elim (fun e => .inr (.inl e)) (fun e => .inr (.inr (.inr e))))
 have hA := hW w' (Keeps.refl _ _)
 refine ⟨g, cap, rfl, hc, hg, by rw [<- h.pg n hn]; exact hr, hK.mono hf, { L with Du := D' }, { C with uses := C.uses + k, used := u' }, ⟨hA, h.sz, h.nn, h.made, h.ops, by show C.uses + k <= u + 1; have := h.uses; omega, h.pg, h.cm, h.dirty, h.room, h.foot, fun i hi => Nat.lt_of_lt_of_le (h.lt i hi) hK.size, Nat.lt_of_lt_of_le h.p0 hK.size, h.sep.mono hK.size, h.quiet⟩, h1, h2, Nat.le_trans h3 hK.size, PcB.step h4 h1 h2 h3 hK hA rfl rfl⟩
theorem ipage_pb (h : mapB w m c ino) (n : Nat) (hn : n < N) (hu : u < 1000000) (hp : PcB w B c F size N Pg Cm D o u) :
  Calls Tryz.prog 88 #[gV m, .int .i64 n] w fun e w' => ∃ g, e = .returned (.slice (some ⟨g, 0, none⟩) 512 512) /\ w.heap.size <= g /\ ownB w' g (Pg n) /\ Keeps F w w' /\ PcB w' B c F size N Pg Cm D o (u + 1) := by
 unfold gV
 have HLen := hid (hp.pc.len n hn)
 have HFl := hid hp.pc.lt
 have hBl := hp.le
 have hal : Below w.heap.size w (w.alloc (.cells #[.pointer (some ⟨m, 0, none⟩)] 83)) := (Below.refl _ w).alloc (Nat.le_refl _) _
 have HAl : Hid ((w.alloc (.cells #[.pointer (some ⟨m, 0, none⟩)] 83)).heap[w.heap.size]? = some (.cells #[.pointer (some ⟨m, 0, none⟩)] 83 (0, 0))) := block_new w _
 have HBa := hid hal
 have HP := hid hp
 have HM := hid h
 clear h hp hal
 go_enter Tryz.func88, Tryz.ntmps88
 go_wp2_with (refine wpList_make_u8 rfl (.const (.int .i64 512)) (.const (.int .i64 512)) rfl 512 512 rfl rfl rfl (by omega) ?_; intro w1 hb1 hr1 hz1; have hB1 := HBa.out.trans (hb1.mono HBa.out.size); have HB1 := hid hB1; have c0 : w1.cell? ⟨w.heap.size, 0, none⟩ = some (.pointer (some ⟨m, 0, none⟩)) := (cell_of_block (below_block hb1 HAl.out (lt_of_heap HAl.out)) 0); have HO1 : Hid (ownB w1 (w.heap.size + 1) (zN 512)) := (by unfold Hid ownB; rw [<- rep_U8]; simpa using hr1); have HCa := hid (amCache_any (HM.out.below hB1)); have HRd := hid ((HP.out.keep (Keeps.of_below hB1)).read n hn hu); clear hb1 hr1 hz1 hB1)
 refine HCa.out.mono ?_
 clear HCa
 rintro e w2 ⟨rfl, h2⟩
 obtain rfl := h2.symm
 clear h2
 go_wp2_with fail
 refine HRd.out.mono ?_
 clear HRd
 rintro e w3 ⟨g, cap, rfl, hcap, hg, hrow, hk, hW⟩
 have HO3 := hid (HO1.out.keep hk (fun hf => by have := HFl.out _ hf; omega))
 have HRow := hid hrow
 have HK : Hid (Keeps F w w3) := (Keeps.of_below HB1.out : Keeps F w w1).trans hk (fun i e => .inl e)
 have HW := hid hW
 have HSz : Hid (w.heap.size + 1 < w3.heap.size) := lt_of_heap HO3.out
 clear hrow hk hW hg HO1 c0
 go_wp2_with (refine wpList_copy_own8 rfl (.tmp 17) (.tmp 18) rfl (w.heap.size + 1) 0 512 512 ⟨g, 0, none⟩ 512 cap rfl rfl (zN 512) (Pg n) HO3.out HRow.out.1 (by rw [HLen.out]; rfl) (by rw [HLen.out, length_zN]; omega) ?_; intro w4 hk4 ho4 hz4; have HO4 := hid ho4; have HK4 := hid hk4; clear hk4 ho4 hz4)
 go_ret
 have ho := HO4.out
 rw [List.take_zero, List.nil_append, Nat.zero_add, HLen.out, drop_zN, show zN (512 - 512) = [] from rfl, List.append_nil] at ho
 have k34 : Keeps (fun i => B <= i) w3 w4 := HK4.out.mono (fun i e => by have e' : i = w.heap.size + 1 := e; show B <= i; omega)
 have k35 : Keeps (fun i => w.heap.size <= i) w3 w4 := HK4.out.mono (fun i e => by have e' : i = w.heap.size + 1 := e; show w.heap.size <= i; omega)
 exact ⟨w.heap.size + 1, rfl, by omega, ho, HK.out.trans k35 (fun i e => .inr e), HW.out.keep k34⟩
end
end
section
set_option maxRecDepth 100000
set_option maxHeartbeats 4000000
open Go.RowKit Go.Shelf
attribute [local go_sem] Oper.semAt_some
def rowY (w : World) (base : Nat) (v : Value) (xs : List UInt8) : Prop := w.ownsRow base 5 1 v xs.length (xs.map U8)
def boxY (w : World) (b base : Nat) (xs : List UInt8) : Prop := ∃ v, w.heap[b]? = some (.cells #[v] 42 (0, 0)) /\ rowY w base v xs
def partL (sl : List Nat) (a z : Nat) (Pg : Nat -> List UInt8) (k : Nat) : List UInt8 := ((Pg (sl.getD (dslot k) 0)).drop (a - k * 512)).take (min (z - k * 512) 512 - (a - k * 512))
def partsL (sl : List Nat) (a z : Nat) (Pg : Nat -> List UInt8) (ks : List Nat) : List UInt8 := ks.flatMap (partL sl a z Pg)
theorem infoU8r : (Tryz.prog.info? 5).map (fun i => (i.zero, i.size, i.bytes)) = some (some (.int .u8 0), 1, 1) := by kernel_rfl
theorem wp_append_bytes {w : World} {base : Nat} {v : Value} {xs : List UInt8} {o : Oper} {a : Act} {K : Act -> World -> Prop} {Q : Exit -> Act -> World -> Prop} (s x : Operand)
  (ho : o.op = .call { callee := .builtin .append, args := #[s, x], argTypes := #[42, 42] }) (hs : a.eval s = v) (ad : Addr) (m c : Nat) (hx : a.eval x = .slice (some ad) m c)
  (h : rowY w base v xs) (news : List UInt8) (hl : news.length = m) (hb : bytesAt w ad news) (hn : xs.length + m <= 100000) (hbase : base <= w.heap.size)
  (k : ∀ ag n cap w', rowY w' base (.slice ag n cap) (xs ++ news) -> w.grownBy w' v.ownBlock -> K (a.put o.dst (.slice ag n cap)) w') : Oper.wp Tryz.prog o a w K Q := by
 obtain ⟨i0, hi, hz0, hz1, hz2⟩ := info_parts infoU8r
 rcases Nat.eq_zero_or_pos m with rfl | h0
 ·obtain rfl : news = [] := List.eq_nil_of_length_eq_zero hl
  rw [List.append_nil] at k
  have hrun : (Builtin.append_ #[42, 42] o.type #[v, .slice (some ad) 0 c]).run Tryz.prog w = .ok v w /\ ∃ ag n cap, v = .slice ag n cap := by
   rcases h.2 with ⟨rfl, -⟩ | ⟨g, cap, cur, rfl, -, -, hle, -⟩
   ·exact ⟨run_append_noneP 42 o.type 5 i0 Tryz.underlying42 hi _ c, _, _, _, rfl⟩
   ·exact ⟨run_append_more 42 o.type 5 i0 Tryz.underlying42 hi _ _ cap hle _ c, _, _, _, rfl⟩
  obtain ⟨hrun, ag, n, cap, rfl⟩ := hrun
  unfold Oper.wp
  simp [execOp, ho, resolve, invoke, builtin, hs, hx, hrun, Result.andThen]
  exact k _ _ _ w h (grown_refl _ _)
 ·have hnews : ∀ j y, (news.map U8)[j]? = some y -> w.cell? (ad.add j) = some y := fun j y hy => by
   have hj : j < news.length := by simpa using (List.getElem?_eq_some_iff.1 hy).1
   rw [List.getElem?_map, List.getElem?_eq_getElem hj] at hy
   rw [hb j hj]; exact hy
  have h1 : ∀ y ∈ news.map U8, y.oneCell' = true := fun y hy => by
   obtain ⟨x, -, rfl⟩ := List.mem_map.1 hy
   rfl
  obtain ⟨g, cap, w', hr, h2, h3, -, -⟩ := run_append_lies (P := Tryz.prog) w 42 o.type base 5 i0 (.int .u8 0) 1 1 Tryz.underlying42 hi hz0 hz1 hz2 rfl (by omega) v xs.length (xs.map U8) h ad m c (news.map U8) (by rw [List.length_map]; omega) hnews h1 h0 (by unfold maxLen; omega) (by omega) hbase w.heap.size rfl
  unfold Oper.wp
  simp [execOp, ho, resolve, invoke, builtin, hs, hx, hr, Result.andThen]
  refine k _ _ cap w' ?_ h3
  unfold rowY
  rw [List.length_append, hl, List.map_append]
  exact h2
theorem results_ifread {w : World} {tmps : Array Value} {x : Value} (h1 : tmps.getD 6 undef = x) : (results Tryz.f53 tmps).run Tryz.prog w = .ok x w := by
 have h1' : tmps[6]?.getD undef = x := by simpa using h1
 simp only [results, Tryz.results53]
 simp [go_sem, h1']
theorem rowY.down {w : World} {base b' : Nat} {v : Value} {xs : List UInt8} (h : rowY w base v xs) (hb : b' <= base) : rowY w b' v xs := by
 refine ⟨h.1, ?_⟩
 rcases h.2 with h1 | ⟨g0, cap0, cur, e, h1, h2⟩
 ·exact .inl h1
 ·exact .inr ⟨g0, cap0, cur, e, Nat.le_trans hb h1, h2⟩
theorem rowY.ge {w : World} {base : Nat} {v : Value} {xs : List UInt8} (h : rowY w base v xs) {g : Nat} (hg : v.ownBlock = some g) : base <= g /\ ∃ cs, w.heap[g]? = some (.cells cs 5 (0, 0)) := by
 rcases h.2 with ⟨e, -⟩ | ⟨g0, cap0, cur, e, h1, h2, -⟩
 ·rw [e] at hg; cases hg
 ·rw [e] at hg; cases hg; exact ⟨h1, _, h2⟩
section
variable {w : World} {f m c ino : Nat} {F : Nat -> Prop} {size N : Nat} {Pg Cm : Nat -> List UInt8} {D : Int -> Bool} {o u : Nat} {S : FileS}
theorem ifread_any (a z : Nat) (h : mapB w m c ino) (hmF : ¬ F m) (hf : fileB w f m S) (hfF : ¬ F f) (hS : S.slots.length = 139) (haz : a <= z) (hz : z <= 70656) (hu : u < 990000) (hsl : ∀ k, a / 512 <= k -> k < fillN z -> S.slots.getD (dslot k) 0 < N) (hp : Pc w c F size N Pg Cm D o u) :
  Calls Tryz.prog 53 #[.pointer (some ⟨f, 0, none⟩), .int .i64 a, .int .i64 z] w fun e w' => ∃ v, e = .returned v /\ rowY w' w.heap.size v (partsL S.slots a z Pg (upTo (a / 512) (fillN z))) /\ Keeps F w w' /\ Pc w' c F size N Pg Cm D o (u + 138) := by
 refine (callsIn_wide (n := 8)).1 ?_
 obtain ⟨wA, hA⟩ : ∃ wA, wA = (w.alloc (.cells #[.pointer (some ⟨f, 0, none⟩)] 112)).alloc (.cells #[.slice none 0 0] 42) := ⟨_, rfl⟩
 have hAB : Below w.heap.size w wA := by rw [hA]; exact ((Below.refl _ w).alloc (Nat.le_refl _) _).alloc (by simp) _
 have hA0 : wA.heap[w.heap.size]? = some (.cells #[.pointer (some ⟨f, 0, none⟩)] 112 (0, 0)) := by rw [hA]; exact block_alloc (block_new w _) _
 have hA1 : wA.heap[w.heap.size + 1]? = some (.cells #[.slice none 0 0] 42 (0, 0)) := by
  have h1 := block_new (w.alloc (.cells #[.pointer (some ⟨f, 0, none⟩)] 112)) (.cells #[.slice none 0 0] 42)
  rw [World.size_alloc] at h1
  rw [hA]; exact h1
 have hAs : wA.heap.size = w.heap.size + 2 := by rw [hA]; simp
 have hfA := hf.below hAB
 have HF := hid hfA
 have HMp := hid (h.below hAB)
 have HPc := hid ((PcB.start hp).keep (Keeps.of_below hAB))
 have HFl := hid hp.lt
 have HA0 := hid hA0
 have HA1 := hid hA1
 have HAB := hid hAB
 have HAs := hid hAs
 have HS := hid hS
 have HSl := hid hsl
 have hfl : f < w.heap.size := hf.lt
 have hml : m < w.heap.size := lt_of_heap h
 clear hf hfA hA0 hA1 hAB hAs hS h hp hsl
 refine callsIn_of_wp_marks Tryz.func53 rfl trivial ?_ rfl
 simp only [Tryz.ntmps53, List.size_toArray, List.length_cons, List.length_nil, Nat.reduceAdd, Nat.reduceSub, Array.replicate_succ, Array.replicate_zero, List.push_toArray, List.append_toArray, List.nil_append, List.cons_append]
 have hf2 : Fence.wide.fn 105 := trivial
 have hf4 : Fence.wide.fn 88 := trivial
 gi_wp2
 rw [<- hA]
 clear hA
 refine (callsIn_wide.2 (iparts_any f a z wA)).mono ?_
 rintro e wD ⟨rfl, hD⟩
 have hDB : Below wA.heap.size wA wD := by rw [hD]; exact (((Below.refl _ wA).alloc (Nat.le_refl _) _).alloc (by simp) _).alloc (by simp; omega) _
 have hsD : wD.heap.size = wA.heap.size + 3 := by rw [hD]; simp
 have x0 : wD.cell? ⟨wA.heap.size, 0, none⟩ = some (.pointer (some ⟨f, 0, none⟩)) := by rw [hD]; exact cell_of_block (block_alloc (block_alloc (block_new wA _) _) _) 0
 have x1 : wD.cell? ⟨wA.heap.size + 1, 0, none⟩ = some (.int .i64 a) := by
  have h1 := block_new (wA.alloc (.cells #[.pointer (some ⟨f, 0, none⟩)] 112)) (.cells #[.int .i64 a] 3)
  rw [World.size_alloc] at h1
  rw [hD]; exact cell_of_block (block_alloc h1 _) 0
 have x2 : wD.cell? ⟨wA.heap.size + 1 + 1, 0, none⟩ = some (.int .i64 z) := by
  have h1 := block_new ((wA.alloc (.cells #[.pointer (some ⟨f, 0, none⟩)] 112)).alloc (.cells #[.int .i64 a] 3)) (.cells #[.int .i64 z] 3)
  rw [World.size_alloc, World.size_alloc] at h1
  rw [hD]; exact cell_of_block h1 0
 have HDB := hid hDB
 have HsD := hid hsD
 have hws := HAs.out
 have HFD := hid (HF.out.below hDB)
 have HMD := hid (HMp.out.below hDB)
 have HPD := hid (HPc.out.keep (Keeps.of_below hDB))
 have HR0 := hid (below_block hDB HA0.out (lt_of_heap HA0.out))
 have HR1 := hid (below_block hDB HA1.out (lt_of_heap HA1.out))
 have HSt := hid (iparts_stops 7 (by omega) wA.heap.size (wA.heap.size + 1) (wA.heap.size + 1 + 1) f m a z S HS.out (fun i => F i \/ i = w.heap.size + 1 \/ wD.heap.size <= i) hz (by omega) wD
  (fun hh => by rcases hh with hh | hh | hh; (have := HFl.out _ hh; omega); omega; omega) (fun hh => by rcases hh with hh | hh | hh; (have := HFl.out _ hh; omega); omega; omega) (fun hh => by rcases hh with hh | hh | hh; (have := HFl.out _ hh; omega); omega; omega)
  (fun hh => by rcases hh with hh | hh | hh; exact hfF hh; omega; omega) HFD.out x0 x1 x2 (fillN z - a / 512) rfl)
 clear hD hDB hsD x0 x1 x2 HF HMp HPc HA0 HA1 hws
 gi_wp2
 generalize hM : fillN z - a / 512 = M at *
 have HMM := hid hM
 clear hM
 refine wpIn_rangeFunc_ownH rfl (by omega) (gf := 153) (lb := #[.pointer (some ⟨wA.heap.size + 1, 0, none⟩), .pointer (some ⟨wA.heap.size + 1 + 1, 0, none⟩), .pointer (some ⟨wA.heap.size, 0, none⟩)]) rfl trivial (enters_of Tryz.func153 (by kernel_rfl) rfl)
  HSt.out (fun h k => keepsK_t h k) (keepsK_b (fun i h => .inr (.inr h))) (Below.refl _ _) (fun _ => rfl)
  (fun pre W => Hid (fileB W f m S) /\ Hid (mapB W m c ino) /\ Hid (PcB W w.heap.size c F size N Pg Cm D o (u + pre.length)) /\
   Hid (boxY W (w.heap.size + 1) wD.heap.size (partsL S.slots a z Pg (pre.map (fun x : Fin M => a / 512 + x.val)))) /\ Hid (Keeps (fun i => F i \/ i = w.heap.size + 1) wD W))
  (fun _ _ _ => False)
  (fun s A B row hs hgr hr => ⟨grown_block hgr hs.1.out (fun e => by obtain ⟨-, ob, h1, h2⟩ := hr _ e; have h3 := hs.1.out; unfold fileB at h3; rw [h3] at h1; cases h1; cases h2), grown_block hgr hs.2.1.out (fun e => by obtain ⟨-, ob, h1, h2⟩ := hr _ e; have h3 := hs.2.1.out; unfold mapB at h3; rw [h3] at h1; cases h1; cases h2), ?own1, ?own2, ?own3⟩)
  (fun cd s A B row hs hgr hr => hs)
  ⟨HFD, HMD, HPD, ?st, Keeps.refl _ _⟩
  (fun x a' W => ∃ pb, wD.heap.size <= pb /\ a' = { tmps := #[.pointer (some ⟨f, 0, none⟩), .int .i64 a, .int .i64 z, .pointer (some ⟨w.heap.size, 0, none⟩), undef, undef, .slice none 0 0, .pointer (some ⟨w.heap.size + 1, 0, none⟩), .int .i64 (S.slots.getD (dslot (a / 512 + x.val)) 0 : Nat), .pointer (some ⟨pb, 0, none⟩), .pointer (some ⟨f, 0, none⟩), .int .i64 a, .int .i64 z, .func (.func 153) #[] #[.pointer (some ⟨wA.heap.size + 1, 0, none⟩), .pointer (some ⟨wA.heap.size + 1 + 1, 0, none⟩), .pointer (some ⟨wA.heap.size, 0, none⟩)], .int .i64 (S.slots.getD (dslot (a / 512 + x.val)) 0 : Nat), .agg #[.int .i64 (a - (a / 512 + x.val) * 512 : Nat), .int .i64 (min (z - (a / 512 + x.val) * 512) 512 : Nat)], undef, undef, undef, undef, undef, undef, undef, undef, undef, undef, undef, undef, undef, undef], defers := [] } /\ W.heap[pb]? = some (.cells #[.int .i64 (a - (a / 512 + x.val) * 512 : Nat), .int .i64 (min (z - (a / 512 + x.val) * 512) 512 : Nat)] 171 (0, 0))) (fun x a' s A B row hs hgr hr => ?own4) ?assign ?body ?done ?stop
 case assign =>
  rintro l1 pre x W K hI hK
  have HK := hid hK
  have HI := hid hI
  clear hK hI
  unfold partV
  obtain ⟨a1, ha1⟩ : ∃ a1 : Int, a1 = ((S.slots.getD (dslot (a / 512 + x.val)) 0 : Nat) : Int) := ⟨_, rfl⟩
  obtain ⟨a2, ha2⟩ : ∃ a2 : Int, a2 = ((a - (a / 512 + x.val) * 512 : Nat) : Int) := ⟨_, rfl⟩
  obtain ⟨a3, ha3⟩ : ∃ a3 : Int, a3 = ((min (z - (a / 512 + x.val) * 512) 512 : Nat) : Int) := ⟨_, rfl⟩
  rw [<- ha1, <- ha2, <- ha3]
  have HA123 := hid (And.intro ha1 (And.intro ha2 ha3))
  clear ha1 ha2 ha3
  gi_wp2
  obtain ⟨rfl, rfl, rfl⟩ := HA123.out
  obtain ⟨i1, i2, i3, i4, i5⟩ := HI.out
  have hwD := i5.out.size
  have hba : Below W.heap.size W (W.alloc (.cells #[.int .i64 (a - (a / 512 + x.val) * 512 : Nat), .int .i64 (min (z - (a / 512 + x.val) * 512) 512 : Nat)] 171)) := (Below.refl _ W).alloc (Nat.le_refl _) _
  refine HK.out _ _ ⟨by simp, fun i ob hi ho _ => block_alloc ho _⟩ (Keeps.of_below hba) ⟨i1.out.below hba, i2.out.below hba, i3.out.keep (Keeps.of_below hba), ?_, i5.out.trans (Keeps.of_below hba : Keeps (fun _ => False) W _) (fun i e => e.elim)⟩ ⟨W.heap.size, hwD, rfl, block_new W _⟩
  obtain ⟨v, h1, h2⟩ := i4.out
  exact ⟨v, below_block hba h1 (lt_of_heap h1), (Keeps.of_below hba : Keeps (fun _ => False) W _).row h2 (fun _ _ h => h)⟩
 case body =>
  rintro l1 pre x a' W hl1 hrec ⟨HFw, HMw, HPw, HBw, HKw⟩ ⟨pb, hpb, rfl, hpW⟩ hlt
  obtain ⟨v, hv1, hv2⟩ := HBw.out
  have hsD := HsD.out
  have hsA := HAs.out
  have hx := x.isLt
  have hMM := HMM.out
  have hnw : ∀ i, w.heap.size <= i -> ¬ F i := fun i hi hh => by have := HFl.out i hh; omega
  have c0b := HKw.out.heap HR0.out (fun hh => hh.elim (hnw _ (Nat.le_refl _)) (fun e => by omega))
  obtain ⟨pn, hpn⟩ : ∃ pn, pn = S.slots.getD (dslot (a / 512 + x.val)) 0 := ⟨_, rfl⟩
  obtain ⟨fa, hfa⟩ : ∃ fa, fa = a - (a / 512 + x.val) * 512 := ⟨_, rfl⟩
  obtain ⟨fz, hfz⟩ : ∃ fz, fz = min (z - (a / 512 + x.val) * 512) 512 := ⟨_, rfl⟩
  have hpN : pn < N := by rw [hpn]; exact HSl.out _ (by omega) (by omega)
  have HNx : Hid (partsL S.slots a z Pg ((pre ++ [x]).map (fun x : Fin M => a / 512 + x.val)) = partsL S.slots a z Pg (pre.map (fun x : Fin M => a / 512 + x.val)) ++ ((Pg pn).drop fa).take (fz - fa)) := by
   unfold Hid partsL
   rw [List.map_append, List.flatMap_append, List.map_singleton, List.flatMap_singleton]
   unfold partL
   rw [hpn, hfa, hfz]
  obtain ⟨xs, hxs⟩ : ∃ xs, xs = partsL S.slots a z Pg (pre.map (fun x : Fin M => a / 512 + x.val)) := ⟨_, rfl⟩
  rw [<- hpn, <- hfa, <- hfz]
  rw [<- hfa, <- hfz] at hpW
  rw [<- hxs] at HNx hv2
  have hk1 : (a / 512 + x.val) * 512 < z := by unfold fillN at hMM; omega
  have hq1 : fa <= fz := by omega
  have hq2 : fz <= 512 := by omega
  have hq3 : (fz : Int) <= 512 := by omega
  have hq4 : ¬ (512 = fa) := by omega
  have hxl : xs.length <= 512 * pre.length := by
   rw [hxs]; unfold partsL
   clear hxs hv2 HNx hlt HPw HBw hv1
   induction pre with
   | nil => simp
   | cons y ys ih =>
    rw [List.map_cons, List.flatMap_cons, List.length_append, List.length_cons]
    have h1 : (partL S.slots a z Pg (a / 512 + y.val)).length <= 512 := by unfold partL; rw [List.length_take]; omega
    have h2 := ih
    omega
  have hM1 : M <= 138 := by unfold fillN at hMM; omega
  have HPg := hid (fun V (hV : Below W.heap.size W V) => ipage_pb (HMw.out.below hV) pn hpN (show u + pre.length < 1000000 by omega) (HPw.out.keep (Keeps.of_below hV)))
  have HLn := hid (HPw.out.pc.len pn hpN)
  have HV1 := hid hv1
  have HV2 := hid hv2
  have HC0 := hid c0b
  have HPW := hid hpW
  have HXl := hid hxl
  have HM1 := hid hM1
  have HLt := hid hlt
  have hbd : Below W.heap.size W W.drew := (Below.refl _ W).drew
  have q0 : W.drew.cell? ⟨w.heap.size + 1, 0, none⟩ = some v := cell_of_block (below_block hbd hv1 (lt_of_heap hv1)) 0
  have q1 : W.drew.cell? ⟨w.heap.size, 0, none⟩ = some (.pointer (some ⟨f, 0, none⟩)) := cell_of_block (below_block hbd c0b (lt_of_heap c0b)) 0
  obtain ⟨q2, -⟩ := (HFw.out.below hbd).head
  have q3 : W.drew.cell? ⟨pb, 0, none⟩ = some (.int .i64 fa) := cell_of_block (below_block hbd hpW (lt_of_heap hpW)) 0
  have q4 : W.drew.cell? ⟨pb, 1, none⟩ = some (.int .i64 fz) := cell_of_block (below_block hbd hpW (lt_of_heap hpW)) 1
  have hpbW := lt_of_heap hpW
  have HBd := hid hbd
  have HPg2 := hid (HPg.out W.drew hbd)
  unfold gV at HPg2
  clear HPg hbd hpW c0b hv1 hv2 hxs hpn hfa hfz hMM hx hxl hM1 hk1 hsD hlt HBw
  refine wpIn_block ?_
  refine wpInR_drewL 13 (S := fun V => V.cell? ⟨w.heap.size + 1, 0, none⟩ = some v /\ V.cell? ⟨w.heap.size, 0, none⟩ = some (.pointer (some ⟨f, 0, none⟩)) /\ V.cell? ⟨f, 0, none⟩ = some (.pointer (some ⟨m, 0, none⟩)) /\ V.cell? ⟨pb, 0, none⟩ = some (.int .i64 fa) /\ V.cell? ⟨pb, 1, none⟩ = some (.int .i64 fz)) (by kernel_rfl) (by kernel_rfl) ⟨q0, q1, q2, q3, q4⟩ (fun hHeld => ?_)
  generalize W.drew = wd at *
  refine wpAnyL_take (hwt := by kernel_rfl) (i := 0) (v := ?_) rfl (by kernel_rfl) (by kernel_rfl) (by kernel_rfl) (fun _ _ _ h => h) (Or.inl ⟨by rfl, ?_⟩) (by assumption) ?_
  rotate_left
  ·(intro W h; (try dsimp only at h); obtain ⟨s0, s1, s2, s3, s4⟩ := h; go_simp; try with_reducible rfl)
  try simp only [tS]
  refine wpAnyL_take (hwt := by kernel_rfl) (i := 1) (v := ?_) rfl (by kernel_rfl) (by kernel_rfl) (by kernel_rfl) (fun _ _ _ h => h) (Or.inl ⟨by rfl, ?_⟩) (by assumption) ?_
  rotate_left
  ·(intro W h; (try dsimp only at h); obtain ⟨s0, s1, s2, s3, s4⟩ := h; go_simp; try with_reducible rfl)
  try simp only [tS]
  refine wpAnyL_take (hwt := by kernel_rfl) (i := 2) (v := ?_) rfl (by kernel_rfl) (by kernel_rfl) (by kernel_rfl) (fun _ _ _ h => h) (Or.inl ⟨by rfl, ?_⟩) (by assumption) ?_
  rotate_left
  ·(intro W h; (try dsimp only at h); obtain ⟨s0, s1, s2, s3, s4⟩ := h; go_simp; try with_reducible rfl)
  try simp only [tS]
  refine wpAnyL_take (hwt := by kernel_rfl) (i := 3) (v := ?_) rfl (by kernel_rfl) (by kernel_rfl) (by kernel_rfl) (fun _ _ _ h => h) (Or.inl ⟨by rfl, ?_⟩) (by assumption) ?_
  rotate_left
  ·(intro W h; (try dsimp only at h); obtain ⟨s0, s1, s2, s3, s4⟩ := h; go_simp; try with_reducible rfl)
  try simp only [tS]
  refine wpAnyL_take (hwt := by kernel_rfl) (i := 4) (v := ?_) rfl (by kernel_rfl) (by kernel_rfl) (by kernel_rfl) (fun _ _ _ h => h) (Or.inl ⟨by rfl, ?_⟩) (by assumption) ?_
  rotate_left
  ·(intro W h; (try dsimp only at h); obtain ⟨s0, s1, s2, s3, s4⟩ := h; go_simp; try with_reducible rfl)
  try simp only [tS]
  refine wpAnyL_take (hwt := by kernel_rfl) (i := 5) (v := ?_) rfl (by kernel_rfl) (by kernel_rfl) (by kernel_rfl) (fun _ _ _ h => h) (Or.inl ⟨by rfl, ?_⟩) (by assumption) ?_
  rotate_left
  ·(intro W h; (try dsimp only at h); obtain ⟨s0, s1, s2, s3, s4⟩ := h; go_simp; try with_reducible rfl)
  try simp only [tS]
  refine wpAnyL_take (hwt := by kernel_rfl) (i := 7) (v := ?_) rfl (by kernel_rfl) (by kernel_rfl) (by kernel_rfl) (fun _ _ _ h => h) (Or.inl ⟨by rfl, ?_⟩) (by assumption) ?_
  rotate_left
  ·(intro W h; (try dsimp only at h); obtain ⟨s0, s1, s2, s3, s4⟩ := h; go_simp; try with_reducible rfl)
  try simp only [tS]
  refine wpAnyL_take (hwt := by kernel_rfl) (i := 8) (v := ?_) rfl (by kernel_rfl) (by kernel_rfl) (by kernel_rfl) (fun _ _ _ h => h) (Or.inl ⟨by rfl, ?_⟩) (by assumption) ?_
  rotate_left
  ·(intro W h; (try dsimp only at h); obtain ⟨s0, s1, s2, s3, s4⟩ := h; go_simp; try with_reducible rfl)
  try simp only [tS]
  refine wpAnyL_take (hwt := by kernel_rfl) (i := 9) (v := ?_) rfl (by kernel_rfl) (by kernel_rfl) (by kernel_rfl) (fun _ _ _ h => h) (Or.inl ⟨by rfl, ?_⟩) (by assumption) ?_
  rotate_left
  ·(intro W h; (try dsimp only at h); obtain ⟨s0, s1, s2, s3, s4⟩ := h; go_simp; try with_reducible rfl)
  try simp only [tS]
  refine wpAnyL_take (hwt := by kernel_rfl) (i := 10) (v := ?_) rfl (by kernel_rfl) (by kernel_rfl) (by kernel_rfl) (fun _ _ _ h => h) (Or.inl ⟨by rfl, ?_⟩) (by assumption) ?_
  rotate_left
  ·(intro W h; (try dsimp only at h); obtain ⟨s0, s1, s2, s3, s4⟩ := h; go_simp; try with_reducible rfl)
  try simp only [tS]
  refine wpAnyL_one (i := 6) (by kernel_rfl) rfl (fun K hK => ?_)
  rw [if_pos (by rfl)]
  go_simp
  refine HPg2.out.mono ?_
  clear HPg2
  rintro e W2 ⟨g, rfl, hg, ho2, hk2, hp2⟩
  have hsD := HsD.out
  have hWD := HKw.out.size
  have hdW := HBd.out.size
  have kW2 : Keeps F W W2 := (Keeps.of_below HBd.out : Keeps F W wd).trans hk2 (fun i e => .inl e)
  have v2 := kW2.heap HV1.out (hnw _ (by omega))
  have r0 : W2.cell? ⟨w.heap.size + 1, 0, none⟩ = some v := cell_of_block v2 0
  have r1 : W2.cell? ⟨w.heap.size, 0, none⟩ = some (.pointer (some ⟨f, 0, none⟩)) := cell_of_block (kW2.heap HC0.out (hnw _ (Nat.le_refl _))) 0
  obtain ⟨r2, -⟩ := (HFw.out.keep kW2 hfF).head
  have p2 := kW2.heap HPW.out (hnw _ (by omega))
  have r3 : W2.cell? ⟨pb, 0, none⟩ = some (.int .i64 fa) := cell_of_block p2 0
  have r4 : W2.cell? ⟨pb, 1, none⟩ = some (.int .i64 fz) := cell_of_block p2 1
  have hrow2 : rowY W2 wD.heap.size v xs := kW2.row HV2.out (fun i e hh => hnw i (by have := (rowY.ge HV2.out e).1; omega) hh)
  have HRo2 := hid hrow2
  have HV2b := hid v2
  have HP2 := hid hp2
  have HO2 := hid ho2
  have HK2 := hid kW2
  have HPb2 := hid p2
  clear hk2 kW2 v2 p2 hrow2 ho2 hp2 q0 q1 q2 q3 q4
  go_wp2_with fail
  refine hK.out _ _ (fun _ => ⟨r0, r1, r2, r3, r4⟩) (fun hHeld6 => ?_)
  have hHeld := hHeld6 (by decide)
  clear hK K hHeld6
  try simp only [tS]
  refine wpAnyL_take (hwt := by kernel_rfl) (i := 11) (v := .slice (some ⟨g, fa, none⟩) (fz - fa) (512 - fa)) rfl (by kernel_rfl) (by kernel_rfl) (by kernel_rfl) (fun _ _ _ h => h) (Or.inl ⟨by rfl, ?_⟩) (by assumption) ?_
  ·(intro W h; (try dsimp only at h); obtain ⟨s0, s1, s2, s3, s4⟩ := h; go_simp; try first | with_reducible rfl | go_num | (rw [if_pos (by assumption)]; simp only [*]) | simp only [*])
  try simp only [tS]
  refine wpAnyL_one (i := 12) (by kernel_rfl) rfl (fun K hK => ?_)
  rw [if_pos (by rfl)]
  have hby : bytesAt W2 ⟨g, fa, none⟩ (((Pg pn).drop fa).take (fz - fa)) := fun j hj => by
   have hj1 : j < fz - fa := by rw [List.length_take] at hj; omega
   have h1 := HO2.out.cell (fa + j) (by rw [HLn.out]; omega)
   rw [Addr.add_mid, h1, List.getElem_take, List.getElem_drop]
  refine wp_append_bytes (.tmp 16) (.tmp 27) rfl rfl ⟨g, fa, none⟩ (fz - fa) (512 - fa) rfl HRo2.out _ (by rw [List.length_take, List.length_drop, HLn.out]; omega) hby (by have h1 := HXl.out; have h2 := HM1.out; have h3 := HLt.out; omega) (by have := HK2.out.size; omega) ?_
  intro ag9 n9 cap9 w9 hr9 hg9
  have k9 : Keeps (fun i => v.ownBlock = some i) W2 w9 := Keeps.of_grown hg9 (fun i e => e)
  have hge : ∀ i, v.ownBlock = some i -> wD.heap.size <= i := fun i e => (rowY.ge HRo2.out e).1
  have hv9 := k9.heap HV2b.out (fun e => by have := hge _ e; omega)
  have t0 : w9.cell? ⟨w.heap.size + 1, 0, none⟩ = some v := cell_of_block hv9 0
  have f9 : w9.frozen? ⟨w.heap.size + 1, 0, none⟩ = false := frozen_of_block hv9 0
  have t1 := k9.cell r1 (fun e => by have e' : v.ownBlock = some w.heap.size := e; have := hge _ e'; omega)
  have t2 := k9.cell r2 (fun e => by have e' : v.ownBlock = some f := e; have := hge _ e'; omega)
  have hnpb : ¬ v.ownBlock = some pb := fun e => by
   obtain ⟨cs, h1⟩ := (rowY.ge HRo2.out e).2
   rw [HPb2.out] at h1
   simp only [Option.some.injEq, Obj.cells.injEq] at h1
   exact absurd h1.2.1 (by decide)
  have t3 := k9.cell r3 (fun e => hnpb e)
  have t4 := k9.cell r4 (fun e => hnpb e)
  have HV9 := hid hv9
  have HR9 := hid hr9
  have HK9 := hid k9
  have HGe := hid hge
  clear hv9 hr9 hg9 k9 r0 r1 r2 r3 r4 hby hge
  refine hK.out _ _ (fun _ => ⟨t0, t1, t2, t3, t4⟩) (fun hHeld8 => ?_)
  have hHeld := hHeld8 (by decide)
  clear hK K hHeld8
  try simp only [tS]
  refine wpAnyL_one (i := 13) (by kernel_rfl) rfl (fun K hK => ?_)
  rw [if_pos (by rfl)]
  go_simp
  refine hK.out _ _ (fun hne => absurd rfl hne) (fun _ => ?_)
  clear hK K
  refine wpAnyL_done (by kernel_rfl) ?_ _
  refine JustN.normal ?_
  have kb : Keeps (fun i => i = w.heap.size + 1) w9 (w9.setCell ⟨w.heap.size + 1, 0, none⟩ (.slice ag9 n9 cap9)) := (Keeps.refl _ _).grown (grown_setCell (grown_refl _ _) _ _) (fun i e => .inl (Option.some.inj e).symm)
  have hvb := block_setCell HV9.out 0 (.slice ag9 n9 cap9)
  generalize w9.setCell ⟨w.heap.size + 1, 0, none⟩ (.slice ag9 n9 cap9) = wF at *
  have k2F : Keeps (fun i => v.ownBlock = some i \/ i = w.heap.size + 1) W2 wF := (HK9.out.mono (fun i e => .inl e)).trans kb (fun i e => .inl (.inr e))
  have k2B : Keeps (fun i => w.heap.size <= i) W2 wF := k2F.mono (fun i e => e.elim (fun e => by have := HGe.out i e; show w.heap.size <= i; omega) (fun e => by show w.heap.size <= i; omega))
  have kWF : Keeps (fun i => F i \/ v.ownBlock = some i \/ i = w.heap.size + 1) W wF := (HK2.out.mono (fun i e => .inl e)).trans k2F (fun i e => .inl (.inr e))
  have hnf : ∀ j, j < w.heap.size -> ¬ F j -> ¬ (F j \/ v.ownBlock = some j \/ j = w.heap.size + 1) := fun j hj hF hh => by
   rcases hh with hh | hh | hh
   ·exact hF hh
   ·have := HGe.out j hh; omega
   ·omega
  refine ⟨⟨kWF.size, fun i ob hi ho hn => ?_⟩, kWF.mono (fun i e => by rcases e with e | e | e; exact .inl e; exact .inr (.inr (HGe.out i e)); exact .inr (.inl e)), HFw.out.keep kWF (hnf f hfl hfF), HMw.out.keep kWF (hnf m hml hmF), ?_, ?_, HKw.out.trans kWF (fun i e => by rcases e with e | e | e; exact .inl (.inl e); exact .inr (HGe.out i e); exact .inl (.inr e))⟩
  ·refine kWF.heap ho (fun hh => ?_)
   rcases hh with hh | hh | hh
   ·exact hnw i (by omega) hh
   ·obtain ⟨cs, h1⟩ := (rowY.ge HV2.out hh).2
    rw [ho] at h1; cases h1; cases hn
   ·omega
  ·have h1 := HP2.out.keep k2B
   rw [show u + (pre ++ [x]).length = u + pre.length + 1 by rw [List.length_append, List.length_singleton, Nat.add_assoc]]
   exact h1
  ·unfold Hid boxY
   rw [HNx.out]
   exact ⟨_, hvb, kb.row HR9.out (fun i e => by have h1 := (rowY.ge HR9.out e).1; show ¬ i = w.heap.size + 1; omega)⟩
 case own1 => exact hs.2.2.1.out.keep (Keeps.of_grown hgr (fun i e => by have h1 := (hr i e).1; have h2 := HsD.out; have h3 := HAs.out; show w.heap.size <= i; omega))
 case own2 =>
  obtain ⟨v, h1, h2⟩ := hs.2.2.2.1.out
  have kk : Keeps (fun i => row = some i) A B := Keeps.of_grown hgr (fun i e => e)
  have hne : ∀ {i : Nat} {cs : Array Value} {t : TypeId} {fr : Nat × Nat}, A.heap[i]? = some (.cells cs t fr) -> ¬ row = some i := fun {i cs t fr} hc e => by
   obtain ⟨-, ob, h4, h5⟩ := hr _ e
   rw [hc] at h4; cases h4; cases h5
  refine ⟨v, kk.heap h1 (hne h1), kk.row h2 (fun i hi => ?_)⟩
  obtain ⟨cs, hb⟩ := (rowY.ge h2 hi).2
  exact hne hb
 case own3 => exact hs.2.2.2.2.out.trans (Keeps.of_grown hgr (F := fun i => row = some i) (fun i e => e)) (fun i e => .inr (hr i e).1)
 case st => exact ⟨_, HR1.out, World.ownsRow_nil _ _ _ _⟩
 case own4 =>
  obtain ⟨pb, h1, h2, h3⟩ := hs
  exact ⟨pb, h1, h2, grown_block hgr h3 (fun e => by obtain ⟨-, ob, h4, h5⟩ := hr _ e; rw [h3] at h4; cases h4; cases h5)⟩
 case done =>
  rintro D1 ys W hD1 hys ⟨HFw, HMw, HPw, HBw, HKw⟩ hK1
  have hyl : ys.length = M := by
   have h1 := congrArg List.length hys
   rw [List.length_map, length_upTo, HMM.out] at h1
   exact h1
  rw [hys] at HBw
  rw [hyl] at HPw
  obtain ⟨v, hv1, hv2⟩ := HBw.out
  have c0 : W.cell? ⟨w.heap.size + 1, 0, none⟩ = some v := cell_of_block hv1 0
  have HV2 := hid hv2
  have HKD := hid hK1
  have HHD := hid hD1
  clear hys hyl hv1 hv2 hK1 HBw HSt hD1
  gi_wp2
  have hD1 := HHD.out
  have hWD := HKw.out.size
  have hsA := HAs.out
  have hsD := HsD.out
  have hM1 : M <= 138 := by have := HMM.out; unfold fillN at this; omega
  have hg5 := grownBy_putObj' W D1 (.deferred none)
  have k5 : Keeps (fun i => some D1 = some i) W (W.putObj D1 (.deferred none)) := Keeps.of_grown hg5 (fun i e => e)
  have hb0 : Below w.heap.size w wD := HAB.out.trans (HDB.out.mono HAB.out.size)
  have hr5 := k5.row HV2.out (fun i e e2 => by
   cases e2
   obtain ⟨cs, h1⟩ := (rowY.ge HV2.out e).2
   rw [HKD.out] at h1; cases h1)
  refine ⟨by simp, .inl ⟨_, _, rfl, run_takeDeferred HKD.out, ?_⟩⟩
  refine ⟨_, results_ifread rfl, ?_⟩
  refine ⟨_, rfl, rowY.down hr5 (by have h1 := hb0.size; omega), ?_, ?_⟩
  ·exact (((Keeps.of_below hb0 : Keeps F w wD).trans HKw.out (fun i e => e.elim .inl (fun e => .inr (by omega)))).trans k5 (fun i e => .inr (by cases e; omega)))
  ·exact (HPw.out.keep (k5.mono (fun i e => by cases e; show w.heap.size <= D1; omega))).pc.more (Nat.le_refl _) (by omega)
 case stop =>
  intro D c pre W hD hpre hx
  exact hx.elim
end
end
section
set_option maxRecDepth 100000
open Go.RowKit
theorem getD_partL {sl : List Nat} {a z k : Nat} {Pg : Nat -> List UInt8} (j : Nat) (hj : j < min (z - k * 512) 512 - (a - k * 512)) : (partL sl a z Pg k).getD j 0 = (Pg (sl.getD (dslot k) 0)).getD (a - k * 512 + j) 0 := by
 unfold partL
 rw [getD_take _ _ _ hj, getD_drop]
theorem length_partL {sl : List Nat} {a z k : Nat} {Pg : Nat -> List UInt8} (hL : (Pg (sl.getD (dslot k) 0)).length = 512) : (partL sl a z Pg k).length = min (z - k * 512) 512 - (a - k * 512) := by
 unfold partL
 rw [List.length_take, List.length_drop, hL]
 omega
section
variable {sk : Nat -> Prop} {N ino : Nat} {Pg : Nat -> List UInt8} {fs : Nat -> Option FileA} {i : Nat} {f : FileA}
theorem GoodX.parts (h : GoodX sk N ino Pg fs) (hf : fs i = some f) (a z : Nat) (haz : a < z) (hz : z <= f.data.length) : ∀ d, a / 512 + d <= fillN z -> partsL f.slots a z Pg (upTo (a / 512) (a / 512 + d)) = (f.data.drop a).take (min z ((a / 512 + d) * 512) - a)
 | 0, _ => by
  rw [Nat.add_zero, upTo_none, show min z (a / 512 * 512) - a = 0 by omega, List.take_zero]
  rfl
 | d + 1, hd => by
  have ih := GoodX.parts h hf a z haz hz d (by omega)
  have hok := h.file i f hf
  have hkz : (a / 512 + d) * 512 < z := by unfold fillN at hd; omega
  have hat := h.at_ hf (k := (a / 512 + d) * 512) (by omega)
  rw [Nat.mul_div_cancel _ (by omega)] at hat
  have hL : (Pg (f.slots.getD (dslot (a / 512 + d)) 0)).length = 512 := h.len _ (hok.in_ _ hat.1).2
  rw [<- Nat.add_assoc, upTo_succ (by omega)]
  have e1 : partsL f.slots a z Pg (upTo (a / 512) (a / 512 + d) ++ [a / 512 + d]) = partsL f.slots a z Pg (upTo (a / 512) (a / 512 + d)) ++ partL f.slots a z Pg (a / 512 + d) := by
   unfold partsL; rw [List.flatMap_append, List.flatMap_singleton]
  rw [e1, ih]
  have hl1 : ((f.data.drop a).take (min z ((a / 512 + d) * 512) - a)).length = (a / 512 + d) * 512 - a := by rw [List.length_take, List.length_drop]; omega
  have hl2 := length_partL (z := z) (a := a) hL
  refine List.ext_getElem (by rw [List.length_append, hl1, hl2, List.length_take, List.length_drop]; omega) (fun j h1 h2 => ?_)
  have hj : j < min z ((a / 512 + d + 1) * 512) - a := by rw [List.length_take, List.length_drop] at h2; omega
  rw [List.getElem_take, List.getElem_drop]
  by_cases hc : j < (a / 512 + d) * 512 - a
  ·rw [List.getElem_append_left (by rw [hl1]; exact hc), List.getElem_take, List.getElem_drop]
  ·rw [List.getElem_append_right (by rw [hl1]; omega)]
   have hq : j - ((a / 512 + d) * 512 - a) < min (z - (a / 512 + d) * 512) 512 - (a - (a / 512 + d) * 512) := by omega
   have g1 := getD_partL (sl := f.slots) (Pg := Pg) (k := a / 512 + d) (z := z) (a := a) (j - ((a / 512 + d) * 512 - a)) hq
   have hlt : j - ((f.data.drop a).take (min z ((a / 512 + d) * 512) - a)).length < (partL f.slots a z Pg (a / 512 + d)).length := by rw [hl1, hl2]; exact hq
   have g2 : (partL f.slots a z Pg (a / 512 + d))[j - ((f.data.drop a).take (min z ((a / 512 + d) * 512) - a)).length] = (partL f.slots a z Pg (a / 512 + d)).getD (j - ((a / 512 + d) * 512 - a)) 0 := by
    rw [List.getD_eq_getElem?_getD, List.getElem?_eq_getElem (by rw [hl2]; exact hq)]
    simp only [hl1, Option.getD_some]
   rw [g2, g1]
   have hda := h.data i f hf (a + j) (by omega)
   have e2 : (a + j) / 512 = a / 512 + d := by omega
   have e3 : (a + j) % 512 = a - (a / 512 + d) * 512 + (j - ((a / 512 + d) * 512 - a)) := by omega
   rw [e2, e3] at hda
   unfold FileA.slot at hda
   rw [hda, List.getD_eq_getElem?_getD, List.getElem?_eq_getElem (by omega)]
   rfl
end
section
variable {w w' : World} {s m c ino : Nat} {F : Nat -> Prop} {N : Nat} {Pg Cm : Nat -> List UInt8} {fs : Nat -> Option FileA} {o u : Nat} {i : Nat} {f : FileA}
theorem iRead_none (h : St w s m c F N ino Pg Cm fs o u) (hf : fs i = some f) (hu : u < 900000) (a n : Nat) (ha : f.data.length <= a) :
  Calls Tryz.prog 16 #[.pointer (some ⟨s, 0, none⟩), .int .i64 i, .int .i64 a, .int .i64 n] w fun e w' => e = .returned (.tuple #[.slice none 0 0, .int .i64 0]) /\ Keeps F w w' /\ St w' s m c F N ino Pg Cm fs o (u + 2) := by
 have HGt := hid (iGet_st h hf (by omega))
 have hok := h.good.file i f hf
 have hnf := h.good.nf
 have HNl : Hid ((nodeC f.node).length = 15) := by unfold Hid nodeC; rw [List.length_append, List.length_map, (hok.node (by omega) h.good.n4).pages]; rfl
 have HN3 : Hid ((nodeC f.node)[3]? = some (.int .i64 f.data.length)) := rfl
 have HFl := hid h.lt
 have ha0 : ¬ ((a : Int) < 0) := by omega
 have hn0 : ¬ ((n : Int) < 0) := by omega
 have hz : (f.data.length : Int) <= (a : Int) := by omega
 unfold nodeV at HGt
 clear h hf hok hnf
 have hnc1 := nodeC_one f.node
 generalize nodeC f.node = nc at *
 have HN1 := hid hnc1
 clear hnc1
 go_enter Tryz.func16, Tryz.ntmps16
 go_wp2_with fail
 refine HGt.out.mono ?_
 clear HGt
 rintro e w1 ⟨rfl, hk1, hs1⟩
 have HS1 := hid hs1
 have HK1 := hid hk1
 clear hk1 hs1
 go_wp2_with (refine wpList_store_block rfl 51 (.tmp 10) (.tmp 16) rfl w1.heap.size nc.toArray rfl rfl _ _ (block_new w1 _) (by rw [List.size_toArray, HNl.out]; rfl) (by rw [List.size_toArray, HNl.out]; kernel_rfl) HN1.out ?_; intro w2 hg2 hb2 hz2; have c3 : w2.cell? ⟨w1.heap.size, 3, none⟩ = some (.int .i64 f.data.length) := (by rw [cell_of_block hb2, List.getElem?_toArray]; exact HN3.out); have hb12 : Below w1.heap.size w1 w2 := ((Below.refl _ w1).alloc (Nat.le_refl _) _).grown hg2 (by simp) (fun k e => by cases e; exact Nat.le_refl _); have HB12 := hid hb12; have HR2 := hid hb2; clear hg2 hb2 hz2 hb12)
 go_returns
 exact ⟨rfl, HK1.out.trans (Keeps.of_below HB12.out : Keeps F w1 w2) (fun i e => .inl e), HS1.out.below HB12.out⟩
theorem iRead_st (h : St w s m c F N ino Pg Cm fs o u) (hf : fs i = some f) (hu : u < 900000) (a n : Nat) (ha : a < f.data.length) :
  Calls Tryz.prog 16 #[.pointer (some ⟨s, 0, none⟩), .int .i64 i, .int .i64 a, .int .i64 n] w fun e w' => ∃ v, e = .returned (.tuple #[v, .int .i64 0]) /\ rowY w' w.heap.size v ((f.data.drop a).take n) /\ Keeps F w w' /\ St w' s m c F N ino Pg Cm fs o (u + 141) := by
 obtain ⟨z, hz⟩ : ∃ z, z = a + min n (f.data.length - a) := ⟨_, rfl⟩
 have hok := h.good.file i f hf
 have hnf := h.good.nf
 have hsz := hok.size
 have hgp : partsL f.slots a z Pg (upTo (a / 512) (fillN z)) = (f.data.drop a).take n := by
  by_cases hn : n = 0
  ·subst hn
   rw [List.take_zero]
   unfold partsL
   refine List.flatMap_eq_nil_iff.2 (fun k _ => ?_)
   unfold partL
   rw [hz, show min (a + min 0 (f.data.length - a) - k * 512) 512 - (a - k * 512) = 0 by omega, List.take_zero]
  ·have hgp := h.good.parts hf a z (by omega) (by omega) (fillN z - a / 512) (by unfold fillN; omega)
   rw [show a / 512 + (fillN z - a / 512) = fillN z by unfold fillN; omega, show min z (fillN z * 512) - a = min n (f.data.length - a) by unfold fillN; omega] at hgp
   have hgp2 : (f.data.drop a).take (min n (f.data.length - a)) = (f.data.drop a).take n := by
    rw [show min n (f.data.length - a) = min n (f.data.drop a).length by rw [List.length_drop], List.take_eq_take_min.symm]
   rw [hgp2] at hgp
   exact hgp
 have HGt := hid (iGet_st h hf (by omega))
 have HOp := hid (fun W D (hm : mapB W m c ino) (hp : Pc W c F 100 N Pg Cm D o (u + 2)) => iopen_good hm hp h.good hf (by omega))
 have HRd := hid (fun W p D (hm : mapB W m c ino) (hW : fileB W p m (f.S i f.data.length)) (hpF : ¬ F p) (hp : Pc W c F 100 N Pg Cm D o (u + 3)) => ifread_any a z hm h.mF hW hpF hok.len (by omega) (by omega) (by omega) (fun k _ hk => hok.lt (by omega) (dslot k)) hp)
 have HGp : Hid (partsL (f.S i f.data.length).slots a z Pg (upTo (a / 512) (fillN z)) = (f.data.drop a).take n) := hgp
 have HNl : Hid ((nodeC f.node).length = 15) := by unfold Hid nodeC; rw [List.length_append, List.length_map, (hok.node (by omega) h.good.n4).pages]; rfl
 have HN3 : Hid ((nodeC f.node)[3]? = some (.int .i64 f.data.length)) := rfl
 have HFl := hid h.lt
 have HGd := hid h.good
 have HFw := hid h.few
 have ha0 : ¬ ((a : Int) < 0) := by omega
 have hn0 : ¬ ((n : Int) < 0) := by omega
 obtain ⟨sz, hszd⟩ : ∃ sz, sz = f.data.length := ⟨_, rfl⟩
 rw [<- hszd] at HN3 ha hsz hz
 have hlt : ¬ ((sz : Int) <= (a : Int)) := by omega
 have hmn : min (n : Int) ((sz : Int) - (a : Int)) = ((min n (sz - a) : Nat) : Int) := by omega
 have hzz : (a : Int) + ((min n (sz - a) : Nat) : Int) = (z : Int) := by omega
 have hsz7 : (sz : Int) <= 70656 := by omega
 have hz7 : (z : Int) <= 70656 := by omega
 have HMn := hid hmn
 have HZz := hid hzz
 unfold nodeV at HGt HOp
 unfold gV at HOp
 clear h hf hok hnf hgp hz hmn hzz hszd
 have hnc1 := nodeC_one f.node
 generalize nodeC f.node = nc at *
 have HN1 := hid hnc1
 clear hnc1
 go_enter Tryz.func16, Tryz.ntmps16
 go_wp2_with fail
 refine HGt.out.mono ?_
 clear HGt
 rintro e w1 ⟨rfl, hk1, hs1⟩
 have c1 := hs1.store.cell
 have HS1 := hid hs1
 have HK1 := hid hk1
 clear hk1 hs1
 go_wp2_with (refine wpList_store_block rfl 51 (.tmp 10) (.tmp 16) rfl w1.heap.size nc.toArray rfl rfl _ _ (block_new w1 _) (by rw [List.size_toArray, HNl.out]; rfl) (by rw [List.size_toArray, HNl.out]; kernel_rfl) HN1.out ?_; intro w2 hg2 hb2 hz2; have c3 : w2.cell? ⟨w1.heap.size, 3, none⟩ = some (.int .i64 sz) := (by rw [cell_of_block hb2, List.getElem?_toArray]; exact HN3.out); have hb12 : Below w1.heap.size w1 w2 := ((Below.refl _ w1).alloc (Nat.le_refl _) _).grown hg2 (by simp) (fun k e => by cases e; exact Nat.le_refl _); have HB12 := hid hb12; have HR2 := hid hb2; clear hg2 hb2 hz2 hb12)
 have hs2 := HS1.out.below HB12.out
 have hbd : Below w2.heap.size w2 w2.drew := (Below.refl _ w2).drew
 have hs3 := hs2.below hbd
 have hr3 := below_block hbd HR2.out (lt_of_heap HR2.out)
 have d0 := hs3.store.cell
 have d3 := (hbd.cell (World.block_lt_of_cell? w2 _ c3)).trans c3
 have HBd := hid hbd
 have HS3 := hid hs3
 have HR3 := hid hr3
 obtain ⟨D, hp3⟩ := hs3.pc
 have HO3 := hid (HOp.out w2.drew D hs3.map hp3)
 clear hbd hs2 hs3 hp3 HOp c1 c3
 refine wp_region_noPanic ?_
 refine wp_region_held_drew (S := fun W => W.cell? ⟨s, 0, none⟩ = some (.pointer (some ⟨m, 0, none⟩)) /\ W.heap[w1.heap.size]? = some (.cells nc.toArray 51 (0, 0)) /\ W.cell? ⟨w1.heap.size, 3, none⟩ = some (.int .i64 sz)) (by kernel_rfl) ⟨d0, hr3, d3⟩ (fun hHeld => ?_)
 clear hr3
 generalize w2.drew = wd at *
 refine tq 0 _ ?_
 try simp only [tS]
 refine tq 1 _ ?_
 try simp only [tS]
 refine tq 2 _ ?_
 try simp only [tS]
 refine tq 3 _ ?_
 try simp only [tS]
 refine tq 4 _ ?_
 try simp only [tS]
 refine wpAnyH_take (i := 5) (v := .agg nc.toArray) rfl (by kernel_rfl) (by kernel_rfl) (by kernel_rfl) (fun _ _ _ h => h) (yieldsIf_load_mid (by rfl) 51 (.tmp 10) rfl w1.heap.size 0 rfl nc _ (fun W hW => by have := range_of_block hW.2.1; exact this) Tryz.underlying51 rfl (by rw [HNl.out]; kernel_rfl)) (by assumption) ?_
 try simp only [tS]
 refine tq 7 _ ?_
 try simp only [tS]
 refine tq 8 _ ?_
 try simp only [tS]
 refine tq 9 _ ?_
 try simp only [tS]
 refine tq 10 _ ?_
 try simp only [tS]
 refine tq 11 _ ?_
 try simp only [tS]
 refine tq 12 _ ?_
 try simp only [tS]
 have hw1 : IntKind.i64.wrap ((sz : Int) - (a : Int)) = (sz : Int) - (a : Int) := IntWalk.i64_in _ (by omega)
 refine tq 13 (.int .i64 ((sz : Int) - (a : Int))) ?_
 try simp only [tS]
 have hmn := HMn.out
 refine tq 14 (.int .i64 (min n (sz - a) : Nat)) ?_
 try simp only [tS]
 have hzz := HZz.out
 have hw2 : IntKind.i64.wrap (z : Int) = (z : Int) := IntWalk.i64_in _ (by omega)
 refine tq 15 (.int .i64 (z : Int)) ?_
 try simp only [tS]
 clear hw1 hmn hzz hw2
 refine wpAnyH_ready (rs := [6]) (by kernel_rfl) (by simp) (AllReadyH.cons rfl (fun K hK => ?_) AllReadyH.nil)
 rw [if_pos (by rfl)]
 go_simp
 refine HO3.out.mono ?_
 clear HO3
 rintro e w4 ⟨p, rfl, hp4, hf4, hk4, hq4⟩
 have hwl := HB12.out.size
 have hwk := HK1.out.size
 have hwd := HBd.out.size
 have kw4 : Keeps F w w4 := ((HK1.out.trans (Keeps.of_below HB12.out : Keeps F w1 w2) (fun i e => .inl e)).trans (Keeps.of_below HBd.out : Keeps F w2 wd) (fun i e => .inl e)).trans hk4 (fun i e => .inl e)
 have hnF : ∀ j, w.heap.size <= j -> ¬ F j := fun j hj hh => by have := HFl.out j hh; omega
 have HP4 := hid (HRd.out w4 p D (HS3.out.map.keep hk4 HS3.out.mF) hf4 (hnF p (by omega)) hq4)
 have hst4 := HS3.out.store.keep hk4 HS3.out.sF
 have e0 := hst4.cell
 have r4 := hk4.heap HR3.out (hnF _ (by omega))
 have e3 := hk4.cell d3 (hnF _ (by omega))
 have HST4 : Hid (mapB w4 m c ino /\ storeB w4 s m) := ⟨HS3.out.map.keep hk4 HS3.out.mF, hst4⟩
 have HR4 := hid r4
 have HK4 := hid kw4
 have HNF := hid hnF
 clear hf4 hk4 hq4 kw4 hst4 hnF HRd HR3 d0 d3
 go_wp2_with fail
 refine hK.out _ _ ⟨e0, r4, e3⟩ (fun hHeld => ?_)
 clear hK K r4
 try simp only [tS]
 refine wpAnyH_ready (rs := [16]) (by kernel_rfl) (by simp) (AllReadyH.cons rfl (fun K hK => ?_) AllReadyH.nil)
 rw [if_pos (by rfl)]
 go_simp
 refine HP4.out.mono ?_
 clear HP4
 rintro e w5 ⟨v, rfl, hr5, hk5, hp5⟩
 have r5 := hk5.heap HR4.out (HNF.out _ (by omega))
 have g3 := hk5.cell e3 (HNF.out _ (by omega))
 have hst5 : St w5 s m c F N ino Pg Cm fs o (u + 141) := ⟨HST4.out.1.keep hk5 HS3.out.mF, HST4.out.2.keep hk5 HS3.out.sF, HS3.out.mF, HS3.out.sF, HFw.out, ⟨D, hp5⟩, HGd.out⟩
 have g0 := hst5.store.cell
 have HST5 := hid hst5
 rw [HGp.out] at hr5
 have HR5 := hid (rowY.down (b' := w.heap.size) hr5 HK4.out.size)
 have HK5 : Hid (Keeps F w w5) := HK4.out.trans hk5 (fun i e => .inl e)
 clear hr5 hk5 hst5 e0 e3 hp5
 go_wp2_with fail
 refine hK.out _ _ ⟨g0, r5, g3⟩ (fun hHeld => ?_)
 clear hK K
 try simp only [tS]
 refine tq 17 _ ?_
 try simp only [tS]
 refine tq 18 _ ?_
 try simp only [tS]
 refine wpAnyH_done (by kernel_rfl) ?_ _
 refine NoPanic.normal ?_
 clear hHeld
 go_wp2_with fail
 go_returns
 exact ⟨v, rfl, HR5.out, HK5.out, HST5.out⟩
end
end
section
set_option maxRecDepth 100000
open Go.RowKit
section
variable {w w' : World} {s m c ino : Nat} {F : Nat -> Prop} {N : Nat} {Pg Cm : Nat -> List UInt8} {fs : Nat -> Option FileA} {o u : Nat} {i : Nat} {f : FileA}
theorem iSet_no (h : St w s m c F N ino Pg Cm fs o u) (hf : fs i = some f) (hu : u < 900000) (mode links : Int) (hno : ¬ ((0 <= mode /\ mode <= 4095) /\ 0 <= links /\ links <= 65535)) :
  Calls Tryz.prog 49 #[.pointer (some ⟨s, 0, none⟩), .int .i64 i, .int .i64 mode, .int .i64 links] w fun e w' => e = .returned (.int .i64 2) /\ Keeps F w w' /\ St w' s m c F N ino Pg Cm fs o (u + 2) := by
 have HGt := hid (iGet_st h hf (by omega))
 have hok := h.good.file i f hf
 have hnf := h.good.nf
 have HNl : Hid ((nodeC f.node).length = 15) := by unfold Hid nodeC; rw [List.length_append, List.length_map, (hok.node (by omega) h.good.n4).pages]; rfl
 unfold nodeV at HGt
 clear h hf hok hnf
 have hnc1 := nodeC_one f.node
 generalize nodeC f.node = nc at *
 have HN1 := hid hnc1
 clear hnc1
 have HMo := hid (fun W => iisMode_any mode W)
 go_enter Tryz.func49, Tryz.ntmps49
 go_wp2_with fail
 refine HGt.out.mono ?_
 clear HGt
 rintro e w1 ⟨rfl, hk1, hs1⟩
 have HS1 := hid hs1
 have HK1 := hid hk1
 clear hk1 hs1
 go_wp2_with (refine wpList_store_block rfl 51 (.tmp 9) (.tmp 15) rfl w1.heap.size nc.toArray rfl rfl _ _ (block_new w1 _) (by rw [List.size_toArray, HNl.out]; rfl) (by rw [List.size_toArray, HNl.out]; kernel_rfl) HN1.out ?_; intro w2 hg2 hb2 hz2; have hb12 : Below w1.heap.size w1 w2 := ((Below.refl _ w1).alloc (Nat.le_refl _) _).grown hg2 (by simp) (fun k e => by cases e; exact Nat.le_refl _); have HB12 := hid hb12; clear hg2 hb2 hz2 hb12)
 refine (HMo.out w2).mono ?_
 clear HMo
 rintro e w3 ⟨rfl, h3⟩
 obtain rfl := h3.symm
 clear h3
 have HE : Hid (Keeps F w w2 /\ St w2 s m c F N ino Pg Cm fs o (u + 2)) := ⟨HK1.out.trans (Keeps.of_below HB12.out : Keeps F w1 w2) (fun i e => .inl e), HS1.out.below HB12.out⟩
 by_cases hm : 0 <= mode /\ mode <= 4095
 ·rw [decide_eq_true hm]
  by_cases hl : links < 0
  ·go_wp2
   go_ret
   exact ⟨rfl, HE.out⟩
  ·have hl2 : (65535 : Int) < links := Decidable.byContradiction (fun hh => hno ⟨hm, by omega, by omega⟩)
   go_wp2
   go_ret
   exact ⟨rfl, HE.out⟩
 ·rw [decide_eq_false hm]
  go_wp2
  go_ret
  exact ⟨rfl, HE.out⟩
theorem iSet_ok (h : St w s m c F N ino Pg Cm fs o u) (hf : fs i = some f) (hu : u < 900000) (mode links : Nat) (hm : mode <= 4095) (hl : links <= 65535) :
  Calls Tryz.prog 49 #[.pointer (some ⟨s, 0, none⟩), .int .i64 i, .int .i64 mode, .int .i64 links] w fun e w' => e = .returned (.int .i64 0) /\ Keeps F w w' /\ St w' s m c F N ino (tabP Pg i ({ f with mode := mode, links := links } : FileA).node) Cm (updA fs i (some { f with mode := mode, links := links })) o (u + 4) := by
 have HGt := hid (iGet_st h hf (by omega))
 have hok := h.good.file i f hf
 have hnf := h.good.nf
 have hi := h.good.out i f hf
 have hti := h.good.tabLt hi.2
 obtain ⟨-, hcn, hfar⟩ := h.good.node i f hf (fun e => e)
 have hgn := h.good.put (sk' := noSk) hf ({ f with mode := mode, links := links } : FileA) rfl rfl rfl hok.kind hm hl hcn hfar (fun k _ e => e)
 have hno := (hgn.file i _ (updA_self _ _ _)).node (by omega) h.good.n4
 have HPt := hid (fun W D (hm : mapB W m c ino) (hp : Pc W c F 100 N Pg Cm D o (u + 2)) => iput_any hm h.mF h.good.i5 i hi.2 _ hno (by omega) (by omega) ((rm100 h.few D 1).use (3 + i / 8) (by omega)) hp)
 have HGd := hid hgn
 have HFw := hid h.few
 have HFl := hid h.lt
 have HMo := hid (fun W => iisMode_any (mode : Int) W)
 rw [decide_eq_true ⟨by omega, by omega⟩] at HMo
 have hl0 : ¬ ((links : Int) < 0) := by omega
 have hl1 : ¬ ((65535 : Int) < (links : Int)) := by omega
 have HNl : Hid ((nodeC f.node).length = 15) := by unfold Hid nodeC; rw [List.length_append, List.length_map, (hok.node (by omega) h.good.n4).pages]; rfl
 have hset : nodeC ({ f with mode := mode, links := links } : FileA).node = ((nodeC f.node).set 1 (.int .i64 mode)).set 2 (.int .i64 links) := rfl
 have HC1 : Hid ((nodeC f.node)[1]? = some (.int .i64 f.mode)) := rfl
 have HC2 : Hid ((nodeC f.node)[2]? = some (.int .i64 f.links)) := rfl
 unfold gV nodeV at HPt
 rw [hset] at HPt
 unfold nodeV at HGt
 have HN1 := hid (nodeC_one f.node)
 clear h hf hok hnf hgn hno hcn hfar hset hti hi
 generalize hng : nodeC f.node = nc at *
 clear hng
 go_enter Tryz.func49, Tryz.ntmps49
 go_wp2_with fail
 refine HGt.out.mono ?_
 clear HGt
 rintro e w1 ⟨rfl, hk1, hs1⟩
 have c1 := hs1.store.cell
 have HS1 := hid hs1
 have HK1 := hid hk1
 clear hk1 hs1
 go_wp2_with (refine wpList_store_block rfl 51 (.tmp 9) (.tmp 15) rfl w1.heap.size nc.toArray rfl rfl _ _ (block_new w1 _) (by rw [List.size_toArray, HNl.out]; rfl) (by rw [List.size_toArray, HNl.out]; kernel_rfl) HN1.out ?_; intro w2 hg2 hb2 hz2; have hb12 : Below w1.heap.size w1 w2 := ((Below.refl _ w1).alloc (Nat.le_refl _) _).grown hg2 (by simp) (fun k e => by cases e; exact Nat.le_refl _); have HB12 := hid hb12; have HR2 := hid hb2; clear hg2 hb2 hz2 hb12)
 refine (HMo.out w2).mono ?_
 clear HMo
 rintro e w3 ⟨rfl, h3⟩
 obtain rfl := h3.symm
 clear h3
 have e1 : w2.cell? ⟨w1.heap.size, 1, none⟩ = some (.int .i64 f.mode) := by rw [cell_of_block HR2.out, List.getElem?_toArray]; exact HC1.out
 have e2 : w2.cell? ⟨w1.heap.size, 2, none⟩ = some (.int .i64 f.links) := by rw [cell_of_block HR2.out, List.getElem?_toArray]; exact HC2.out
 have f1 : w2.frozen? ⟨w1.heap.size, 1, none⟩ = false := frozen_of_block HR2.out 1
 have f2 : w2.frozen? ⟨w1.heap.size, 2, none⟩ = false := frozen_of_block HR2.out 2
 go_wp2_with fail
 obtain ⟨w4, hw4⟩ : ∃ w4, w4 = (w2.setCell ⟨w1.heap.size, 1, none⟩ (.int .i64 mode)).setCell ⟨w1.heap.size, 2, none⟩ (.int .i64 links) := ⟨_, rfl⟩
 rw [<- hw4]
 have hb24 : Below w1.heap.size w1 w4 := by rw [hw4]; exact (HB12.out.setCell (Nat.le_refl _) _).setCell (Nat.le_refl _) _
 have hr4 : w4.heap[w1.heap.size]? = some (.cells ((nc.set 1 (.int .i64 mode)).set 2 (.int .i64 links)).toArray 51 (0, 0)) := by
  have h1 := block_setCell (block_setCell HR2.out 1 (.int .i64 mode)) 2 (.int .i64 links)
  rw [List.setIfInBounds_toArray, List.setIfInBounds_toArray] at h1
  rw [hw4]; exact h1
 have HNl2 : Hid (((nc.set 1 (.int .i64 mode)).set 2 (.int .i64 links)).length = 15) := by unfold Hid; rw [List.length_set, List.length_set]; exact HNl.out
 generalize (nc.set 1 (Value.int .i64 mode)).set 2 (Value.int .i64 links) = nd at *
 have hs4 := HS1.out.below hb24
 have hbd : Below w4.heap.size w4 w4.drew := (Below.refl _ w4).drew
 have hs5 := hs4.below hbd
 have hr5 := below_block hbd hr4 (lt_of_heap hr4)
 have d0 := hs5.store.cell
 obtain ⟨D, hp5⟩ := hs5.pc
 have HO5 := hid (HPt.out w4.drew D hs5.map hp5)
 have HB24 := hid hb24
 have HBd := hid hbd
 have HS5 := hid hs5
 have HR5 := hid hr5
 clear hw4 hb24 hr4 hs4 hbd hs5 hp5 HPt c1 e1 e2 f1 f2 HR2 HB12
 refine wp_region_noPanic ?_
 refine wp_region_held_drew (S := fun W => W.cell? ⟨s, 0, none⟩ = some (.pointer (some ⟨m, 0, none⟩)) /\ W.heap[w1.heap.size]? = some (.cells nd.toArray 51 (0, 0))) (by kernel_rfl) ⟨d0, hr5⟩ (fun hHeld => ?_)
 clear hr5
 generalize w4.drew = wd at *
 refine tq 0 _ ?_
 try simp only [tS]
 refine tq 1 _ ?_
 try simp only [tS]
 refine tq 2 _ ?_
 try simp only [tS]
 refine tq 3 _ ?_
 try simp only [tS]
 refine tq 4 _ ?_
 try simp only [tS]
 refine tq 5 _ ?_
 try simp only [tS]
 refine wpAnyH_take (i := 6) (v := .agg nd.toArray) rfl (by kernel_rfl) (by kernel_rfl) (by kernel_rfl) (fun _ _ _ h => h) (yieldsIf_load_mid (by rfl) 51 (.tmp 9) rfl w1.heap.size 0 rfl nd _ (fun W hW => by have := range_of_block hW.2; exact this) Tryz.underlying51 rfl (by rw [HNl2.out]; kernel_rfl)) (by assumption) ?_
 try simp only [tS]
 refine wpAnyH_ready (rs := [7]) (by kernel_rfl) (by simp) (AllReadyH.cons rfl (fun K hK => ?_) AllReadyH.nil)
 rw [if_pos (by rfl)]
 go_simp
 refine HO5.out.mono ?_
 clear HO5
 rintro e w6 ⟨rfl, hk6, hp6⟩
 have hwl := HB24.out.size
 have hwk := HK1.out.size
 have hwd := HBd.out.size
 have hnF : ∀ j, w.heap.size <= j -> ¬ F j := fun j hj hh => by have := HFl.out j hh; omega
 have hst6 : St w6 s m c F N ino (tabP Pg i ({ f with mode := mode, links := links } : FileA).node) Cm (updA fs i (some { f with mode := mode, links := links })) o (u + 4) := ⟨HS5.out.map.keep hk6 HS5.out.mF, HS5.out.store.keep hk6 HS5.out.sF, HS5.out.mF, HS5.out.sF, HFw.out, ⟨_, hp6.more (Nat.le_refl _) (by omega)⟩, HGd.out⟩
 have g0 := hst6.store.cell
 have r6 := hk6.heap HR5.out (hnF _ (by omega))
 have HST6 := hid hst6
 have HK6 : Hid (Keeps F w w6) := ((HK1.out.trans (Keeps.of_below HB24.out : Keeps F w1 w4) (fun i e => .inl e)).trans (Keeps.of_below HBd.out : Keeps F w4 wd) (fun i e => .inl e)).trans hk6 (fun i e => .inl e)
 have HEn := hid (iend_ok s w6)
 clear hst6 hk6 hp6 hnF d0
 go_wp2_with fail
 refine hK.out _ _ ⟨g0, r6⟩ (fun hHeld => ?_)
 clear hK K
 try simp only [tS]
 refine wpAnyH_ready (rs := [8]) (by kernel_rfl) (by simp) (AllReadyH.cons rfl (fun K hK => ?_) AllReadyH.nil)
 rw [if_pos (by rfl)]
 go_simp
 refine HEn.out.mono ?_
 clear HEn
 rintro e w7 ⟨rfl, h7⟩
 obtain rfl := h7.symm
 clear h7
 go_wp2_with fail
 refine hK.out _ _ ⟨g0, r6⟩ (fun hHeld => ?_)
 clear hK K
 try simp only [tS]
 refine tq 9 _ ?_
 try simp only [tS]
 refine wpAnyH_done (by kernel_rfl) ?_ _
 refine NoPanic.normal ?_
 clear hHeld
 go_wp2_with fail
 go_ret
 exact ⟨rfl, HK6.out, HST6.out⟩
end
end
section
set_option maxRecDepth 100000
open Go.RowKit
section
variable {w w' : World} {s m c ino : Nat} {F : Nat -> Prop} {N : Nat} {Pg Cm : Nat -> List UInt8} {fs : Nat -> Option FileA} {o u : Nat} {i : Nat} {f : FileA}
theorem iWrite_zero (h : St w s m c F N ino Pg Cm fs o u) (hf : fs i = some f) (hu : u < 900000) (a cp : Nat) (ad : Option Addr) :
  Calls Tryz.prog 18 #[.pointer (some ⟨s, 0, none⟩), .int .i64 i, .int .i64 a, .slice ad 0 cp] w fun e w' => e = .returned (.int .i64 0) /\ Keeps F w w' /\ St w' s m c F N ino Pg Cm fs o (u + 2) := by
 have HGt := hid (iGet_st h hf (by omega))
 have hok := h.good.file i f hf
 have hnf := h.good.nf
 have HNl : Hid ((nodeC f.node).length = 15) := by unfold Hid nodeC; rw [List.length_append, List.length_map, (hok.node (by omega) h.good.n4).pages]; rfl
 have ha0 : ¬ ((a : Int) < 0) := by omega
 unfold nodeV at HGt
 clear h hf hok hnf
 have hnc1 := nodeC_one f.node
 generalize nodeC f.node = nc at *
 have HN1 := hid hnc1
 clear hnc1
 go_enter Tryz.func18, Tryz.ntmps18
 go_wp2_with fail
 refine HGt.out.mono ?_
 clear HGt
 rintro e w1 ⟨rfl, hk1, hs1⟩
 have HS1 := hid hs1
 have HK1 := hid hk1
 clear hk1 hs1
 go_wp2_with (refine wpList_store_block rfl 51 (.tmp 9) (.tmp 15) rfl w1.heap.size nc.toArray rfl rfl _ _ (block_new w1 _) (by rw [List.size_toArray, HNl.out]; rfl) (by rw [List.size_toArray, HNl.out]; kernel_rfl) HN1.out ?_; intro w2 hg2 hb2 hz2; have hb12 : Below w1.heap.size w1 w2 := ((Below.refl _ w1).alloc (Nat.le_refl _) _).grown hg2 (by simp) (fun k e => by cases e; exact Nat.le_refl _); have HB12 := hid hb12; clear hg2 hb2 hz2 hb12)
 go_ret
 exact ⟨rfl, HK1.out.trans (Keeps.of_below HB12.out : Keeps F w1 w2) (fun i e => .inl e), HS1.out.below HB12.out⟩
theorem rowY.in_ {base : Nat} {v : Value} {xs : List UInt8} (h : rowY w base v xs) : ∃ ad cp, v = .slice ad xs.length cp /\ bytesIn w ad xs := by
 rcases h.2 with ⟨e, h0⟩ | ⟨g0, cap0, cur, e, h1, h2, h3, h4, h5, h6⟩
 ·exact ⟨none, 0, by rw [e, h0], fun j hj => by omega⟩
 ·refine ⟨some ⟨g0, 0, none⟩, cap0, e, fun j hj => ⟨g0, 0, rfl, fun i hi => ?_⟩⟩
  rw [cell_of_block h2, Nat.zero_add]
  have h7 : (cur.toList.take (xs.length * 1))[i]? = (xs.map U8)[i]? := by rw [h6]
  rw [List.getElem?_take_of_lt (by omega), List.getElem?_map, List.getElem?_eq_getElem hi] at h7
  rw [<- Array.getElem?_toList, h7]
  rfl
theorem iSet_any (h : St w s m c F N ino Pg Cm fs o u) (hf : fs i = some f) (hu : u < 900000) (mode links : Int) :
  Calls Tryz.prog 49 #[.pointer (some ⟨s, 0, none⟩), .int .i64 i, .int .i64 mode, .int .i64 links] w fun e w' => Keeps F w w' /\ ∃ (r : Int) (Pg' : Nat -> List UInt8) (f2 : FileA), e = .returned (.int .i64 r) /\ f2.data = f.data /\ St w' s m c F N ino Pg' Cm (updA fs i (some f2)) o (u + 4) /\
   ((((0 <= mode /\ mode <= 4095) /\ 0 <= links /\ links <= 65535) /\ r = 0 /\ (f2.mode : Int) = mode /\ (f2.links : Int) = links) \/ (¬ ((0 <= mode /\ mode <= 4095) /\ 0 <= links /\ links <= 65535) /\ r = 2 /\ f2.mode = f.mode /\ f2.links = f.links)) := by
 by_cases hm : (0 <= mode /\ mode <= 4095) /\ 0 <= links /\ links <= 65535
 ·obtain ⟨a, rfl⟩ : ∃ a : Nat, mode = (a : Int) := ⟨mode.toNat, by omega⟩
  obtain ⟨b, rfl⟩ : ∃ b : Nat, links = (b : Int) := ⟨links.toNat, by omega⟩
  refine (iSet_ok h hf hu a b (by omega) (by omega)).mono ?_
  rintro e w' ⟨rfl, hk, hst⟩
  exact ⟨hk, 0, _, ({ f with mode := a, links := b } : FileA), rfl, rfl, hst, .inl ⟨hm, rfl, rfl, rfl⟩⟩
 ·refine (iSet_no h hf hu mode links hm).mono ?_
  rintro e w' ⟨rfl, hk, hst⟩
  exact ⟨hk, 2, Pg, f, rfl, rfl, by rw [updA_id hf]; exact hst.more (by omega), .inr ⟨hm, rfl, rfl, rfl⟩⟩
end
end
section
set_option maxRecDepth 100000
open Go.RowKit
theorem rowY.bytes {w : World} {base : Nat} {ad : Option Addr} {n cp : Nat} {xs : List UInt8} (h : rowY w base (.slice ad n cp) xs) : bytesIn w ad xs := by
 obtain ⟨ad', cp', e, hb⟩ := rowY.in_ h
 simp only [Value.slice.injEq] at e
 rw [e.1]; exact hb
section
variable {w w' : World} {s m c ino : Nat} {F : Nat -> Prop} {N : Nat} {Pg Cm : Nat -> List UInt8} {fs : Nat -> Option FileA} {o u : Nat} {i : Nat} {f : FileA}
theorem iRead_neg (h : St w s m c F N ino Pg Cm fs o u) (hf : fs i = some f) (hu : u < 900000) (a n : Int) (ha : a < 0 \/ (¬ a < 0 /\ n < 0)) :
  Calls Tryz.prog 16 #[.pointer (some ⟨s, 0, none⟩), .int .i64 i, .int .i64 a, .int .i64 n] w fun e w' => e = .returned (.tuple #[.slice none 0 0, .int .i64 2]) /\ Keeps F w w' /\ St w' s m c F N ino Pg Cm fs o (u + 2) := by
 have HGt := hid (iGet_st h hf (by omega))
 have hok := h.good.file i f hf
 have hnf := h.good.nf
 have HNl : Hid ((nodeC f.node).length = 15) := by unfold Hid nodeC; rw [List.length_append, List.length_map, (hok.node (by omega) h.good.n4).pages]; rfl
 unfold nodeV at HGt
 clear h hf hok hnf
 have hnc1 := nodeC_one f.node
 generalize nodeC f.node = nc at *
 have HN1 := hid hnc1
 clear hnc1
 go_enter Tryz.func16, Tryz.ntmps16
 go_wp2_with fail
 refine HGt.out.mono ?_
 clear HGt
 rintro e w1 ⟨rfl, hk1, hs1⟩
 have HS1 := hid hs1
 have HK1 := hid hk1
 clear hk1 hs1
 rcases ha with ha | ⟨ha, hn⟩
 ·go_wp2_with (refine wpList_store_block rfl 51 (.tmp 10) (.tmp 16) rfl w1.heap.size nc.toArray rfl rfl _ _ (block_new w1 _) (by rw [List.size_toArray, HNl.out]; rfl) (by rw [List.size_toArray, HNl.out]; kernel_rfl) HN1.out ?_; intro w2 hg2 hb2 hz2; have hb12 : Below w1.heap.size w1 w2 := ((Below.refl _ w1).alloc (Nat.le_refl _) _).grown hg2 (by simp) (fun k e => by cases e; exact Nat.le_refl _); have HB12 := hid hb12; clear hg2 hb2 hz2 hb12)
  go_returns
  exact ⟨rfl, HK1.out.trans (Keeps.of_below HB12.out : Keeps F w1 w2) (fun i e => .inl e), HS1.out.below HB12.out⟩
 ·go_wp2_with (refine wpList_store_block rfl 51 (.tmp 10) (.tmp 16) rfl w1.heap.size nc.toArray rfl rfl _ _ (block_new w1 _) (by rw [List.size_toArray, HNl.out]; rfl) (by rw [List.size_toArray, HNl.out]; kernel_rfl) HN1.out ?_; intro w2 hg2 hb2 hz2; have hb12 : Below w1.heap.size w1 w2 := ((Below.refl _ w1).alloc (Nat.le_refl _) _).grown hg2 (by simp) (fun k e => by cases e; exact Nat.le_refl _); have HB12 := hid hb12; clear hg2 hb2 hz2 hb12)
  go_returns
  exact ⟨rfl, HK1.out.trans (Keeps.of_below HB12.out : Keeps F w1 w2) (fun i e => .inl e), HS1.out.below HB12.out⟩
theorem iRead_any (h : St w s m c F N ino Pg Cm fs o u) (hf : fs i = some f) (hu : u < 900000) (a n : Int) :
  Calls Tryz.prog 16 #[.pointer (some ⟨s, 0, none⟩), .int .i64 i, .int .i64 a, .int .i64 n] w fun e w' => ∃ (v : Value) (r : Int) (l : List UInt8), e = .returned (.tuple #[v, .int .i64 r]) /\ rowY w' w.heap.size v l /\ Keeps F w w' /\ St w' s m c F N ino Pg Cm fs o (u + 141) /\ (((a < 0 \/ n < 0) /\ r = 2 /\ l = []) \/ (0 <= a /\ 0 <= n /\ r = 0 /\ l = (f.data.drop a.toNat).take n.toNat)) := by
 by_cases h1 : a < 0 \/ (¬ a < 0 /\ n < 0)
 ·refine (iRead_neg h hf hu a n h1).mono ?_
  rintro e w' ⟨rfl, hk, hst⟩
  exact ⟨_, 2, [], rfl, World.ownsRow_nil _ _ _ _, hk, hst.more (by omega), .inl ⟨by omega, rfl, rfl⟩⟩
 ·obtain ⟨an, rfl⟩ : ∃ an : Nat, a = (an : Int) := ⟨a.toNat, by omega⟩
  obtain ⟨nn, rfl⟩ : ∃ nn : Nat, n = (nn : Int) := ⟨n.toNat, by omega⟩
  by_cases h0 : f.data.length <= an
  ·refine (iRead_none h hf hu an nn h0).mono ?_
   rintro e w' ⟨rfl, hk, hst⟩
   refine ⟨_, 0, [], rfl, World.ownsRow_nil _ _ _ _, hk, hst.more (by omega), .inr ⟨by omega, by omega, rfl, ?_⟩⟩
   show [] = (f.data.drop an).take nn
   rw [List.drop_eq_nil_of_le h0, List.take_nil]
  ·refine (iRead_st h hf hu an nn (by omega)).mono ?_
   rintro e w' ⟨v, rfl, hr, hk, hst⟩
   exact ⟨v, 0, _, rfl, hr, hk, hst, .inr ⟨by omega, by omega, rfl, rfl⟩⟩
end
end
section
set_option maxRecDepth 100000
open Go.RowKit
section
variable {w w' : World} {s m c ino : Nat} {F : Nat -> Prop} {N : Nat} {Pg Cm : Nat -> List UInt8} {fs : Nat -> Option FileA} {o u : Nat} {i : Nat} {f : FileA}
theorem iResize_by (h : St w s m c F N ino Pg Cm fs o u) (hf : fs i = some f) (hu : u < 900000) (a : Nat) (ha7 : a <= 70656) (R Q : Int -> World -> Prop)
  (hw : ∀ W p D, Keeps F w W -> Pc W c F 100 N Pg Cm D o (u + 3) -> mapB W m c ino -> fileB W p m (f.S i f.data.length) -> w.heap.size <= p ->
   Calls Tryz.prog 101 #[.pointer (some ⟨p, 0, none⟩), .int .i64 a] W fun e w' => ∃ r : Int, e = .returned (.int .i64 r) /\ Keeps (fun i => F i \/ i = p) W w' /\ R r w')
  (hen : ∀ W r, storeB W s m -> mapB W m c ino -> R r W -> Calls Tryz.prog 37 #[.pointer (some ⟨s, 0, none⟩), .int .i64 r] W fun e w' => e = .returned (.int .i64 r) /\ Keeps F W w' /\ Q r w') :
  Calls Tryz.prog 47 #[.pointer (some ⟨s, 0, none⟩), .int .i64 i, .int .i64 a] w fun e w' => ∃ r : Int, e = .returned (.int .i64 r) /\ Keeps F w w' /\ Q r w' := by
 have HGt := hid (iGet_st h hf (by omega))
 have HOp := hid (fun W D (hm : mapB W m c ino) (hp : Pc W c F 100 N Pg Cm D o (u + 2)) => iopen_good hm hp h.good hf (by omega))
 have HWr := hid hw
 have HEn0 := hid hen
 have hok := h.good.file i f hf
 have hnf := h.good.nf
 have HNl : Hid ((nodeC f.node).length = 15) := by unfold Hid nodeC; rw [List.length_append, List.length_map, (hok.node (by omega) h.good.n4).pages]; rfl
 have ha0 : ¬ ((a : Int) < 0) := by omega
 have ha1 : ¬ ((70656 : Int) < (a : Int)) := by omega
 have HFl := hid h.lt
 have HSl : Hid (s < w.heap.size) := lt_of_heap h.store
 have HMl : Hid (m < w.heap.size) := lt_of_heap h.map
 unfold nodeV at HGt HOp
 unfold gV at HOp
 clear hw h hf hok hnf hen
 have hnc1 := nodeC_one f.node
 generalize nodeC f.node = nc at *
 have HN1 := hid hnc1
 clear hnc1
 go_enter Tryz.func47, Tryz.ntmps47
 go_wp2_with fail
 refine HGt.out.mono ?_
 clear HGt
 rintro e w1 ⟨rfl, hk1, hs1⟩
 have c1 := hs1.store.cell
 have HS1 := hid hs1
 have HK1 := hid hk1
 clear hk1 hs1
 go_wp2_with (refine wpList_store_block rfl 51 (.tmp 7) (.tmp 13) rfl w1.heap.size nc.toArray rfl rfl _ _ (block_new w1 _) (by rw [List.size_toArray, HNl.out]; rfl) (by rw [List.size_toArray, HNl.out]; kernel_rfl) HN1.out ?_; intro w2 hg2 hb2 hz2)
 have hb12 : Below w1.heap.size w1 w2 := ((Below.refl _ w1).alloc (Nat.le_refl _) _).grown hg2 (by simp) (fun k e => by cases e; exact Nat.le_refl _)
 have hs2 := HS1.out.below hb12
 have HB12 := hid hb12
 have HS2 := hid hs2
 have HR2 := hid hb2
 have hbd : Below w2.heap.size w2 w2.drew := (Below.refl _ w2).drew
 have hs3 := hs2.below hbd
 have hr3 := below_block hbd hb2 (lt_of_heap hb2)
 have d0 := hs3.store.cell
 have HBd := hid hbd
 have HS3 := hid hs3
 have HR3 := hid hr3
 obtain ⟨D, hp3⟩ := hs3.pc
 have HO3 := hid (HOp.out w2.drew D hs3.map hp3)
 clear hg2 hz2 hbd hs2 hb12 hs3 hp3 HOp c1
 refine wp_region_noPanic ?_
 refine wp_region_held_drew (S := fun W => W.cell? ⟨s, 0, none⟩ = some (.pointer (some ⟨m, 0, none⟩)) /\ W.heap[w1.heap.size]? = some (.cells nc.toArray 51 (0, 0))) (by kernel_rfl) ⟨d0, hr3⟩ (fun hHeld => ?_)
 clear hb2 hr3
 generalize w2.drew = wd at *
 refine tq 0 _ ?_
 try simp only [tS]
 refine tq 1 _ ?_
 try simp only [tS]
 refine tq 2 _ ?_
 try simp only [tS]
 refine tq 3 _ ?_
 try simp only [tS]
 refine tq 4 _ ?_
 try simp only [tS]
 refine tq 5 _ ?_
 try simp only [tS]
 refine wpAnyH_take (i := 6) (v := .agg nc.toArray) rfl (by kernel_rfl) (by kernel_rfl) (by kernel_rfl) (fun _ _ _ h => h) (yieldsIf_load_mid (by rfl) 51 (.tmp 7) rfl w1.heap.size 0 rfl nc _ (fun W hW => by have := range_of_block hW.2; exact this) Tryz.underlying51 rfl (by rw [HNl.out]; kernel_rfl)) (by assumption) ?_
 try simp only [tS]
 refine tq 8 _ ?_
 try simp only [tS]
 refine wpAnyH_ready (rs := [7]) (by kernel_rfl) (by simp) (AllReadyH.cons rfl (fun K hK => ?_) AllReadyH.nil)
 rw [if_pos (by rfl)]
 go_simp
 refine HO3.out.mono ?_
 clear HO3
 rintro e w4 ⟨p, rfl, hp4, hf4, hk4, hq4⟩
 have hwl := HB12.out.size
 have hwk := HK1.out.size
 have hwd := HBd.out.size
 have kw4 : Keeps F w w4 := ((HK1.out.trans (Keeps.of_below HB12.out : Keeps F w1 w2) (fun i e => .inl e)).trans (Keeps.of_below HBd.out : Keeps F w2 wd) (fun i e => .inl e)).trans hk4 (fun i e => .inl e)
 have hnF : ∀ j, w.heap.size <= j -> ¬ F j := fun j hj hh => by have := HFl.out j hh; omega
 have HW4 := hid (HWr.out w4 p D kw4 hq4 (HS3.out.map.keep hk4 HS3.out.mF) hf4 (by omega))
 have hst4 := HS3.out.store.keep hk4 HS3.out.sF
 have e0 := hst4.cell
 have r4 := hk4.heap HR3.out (hnF _ (by omega))
 have HST4 := hid hst4
 have HMp4 := hid (HS3.out.map.keep hk4 HS3.out.mF)
 have HR4 := hid r4
 have HK4 := hid kw4
 have HNF := hid hnF
 have HP4 := hid hp4
 clear hf4 hk4 hq4 kw4 hst4 hnF HWr HR3 d0
 go_wp2_with fail
 refine hK.out _ _ ⟨e0, r4⟩ (fun hHeld => ?_)
 clear hK K r4
 try simp only [tS]
 refine wpAnyH_ready (rs := [9]) (by kernel_rfl) (by simp) (AllReadyH.cons rfl (fun K hK => ?_) AllReadyH.nil)
 rw [if_pos (by rfl)]
 go_simp
 refine HW4.out.mono ?_
 clear HW4
 rintro e w5 ⟨r, rfl, hk5, hR5⟩
 have hp4 := HP4.out
 have hsl := HSl.out
 have hbl := lt_of_heap HR2.out
 have hst5 := HST4.out.keep hk5 (fun hh => hh.elim HS3.out.sF (fun e => by omega))
 have r5 := hk5.heap HR4.out (fun hh => hh.elim (HNF.out _ (by omega)) (fun e => by omega))
 have g0 := hst5.cell
 have hm5 := HMp4.out.keep hk5 (fun hh => hh.elim HS3.out.mF (fun e => by have := HMl.out; omega))
 have HEn := hid (HEn0.out w5 r hst5 hm5 hR5)
 have HK5 : Hid (Keeps F w w5) := HK4.out.trans hk5 (fun i e => e.elim .inl (fun e => .inr (by omega)))
 have HST5 := hid hst5
 have HR5 := hid r5
 clear hk5 hR5 hst5 hp4 hsl hbl e0 hm5
 go_wp2_with fail
 refine hK.out _ _ ⟨g0, r5⟩ (fun hHeld => ?_)
 clear hK K
 try simp only [tS]
 refine wpAnyH_ready (rs := [10]) (by kernel_rfl) (by simp) (AllReadyH.cons rfl (fun K hK => ?_) AllReadyH.nil)
 rw [if_pos (by rfl)]
 go_simp
 refine HEn.out.mono ?_
 clear HEn
 rintro e w6 ⟨rfl, hk6, hQ6⟩
 have g6 := (HST5.out.keep hk6 HS3.out.sF).cell
 have r6 := hk6.heap HR5.out (HNF.out _ (by have := HB12.out.size; have := HK1.out.size; omega))
 have HK6 := hid (HK5.out.trans hk6 (fun i e => .inl e))
 have HQ6 := hid hQ6
 clear hk6 hQ6 g0 r5
 go_wp2_with fail
 refine hK.out _ _ ⟨g6, r6⟩ (fun hHeld => ?_)
 clear hK K
 try simp only [tS]
 refine tq 11 _ ?_
 try simp only [tS]
 refine wpAnyH_done (by kernel_rfl) ?_ _
 refine NoPanic.normal ?_
 clear hHeld
 go_wp2_with fail
 go_ret
 exact ⟨r, rfl, HK6.out, HQ6.out⟩
theorem iDrop_by (h : St w s m c F N ino Pg Cm fs o u) (hf : fs i = some f) (hu : u < 900000) (R Q : Int -> World -> Prop)
  (hw : ∀ W p D, Keeps F w W -> Pc W c F 100 N Pg Cm D o (u + 3) -> mapB W m c ino -> fileB W p m (f.S i f.data.length) -> w.heap.size <= p ->
   Calls Tryz.prog 61 #[.pointer (some ⟨p, 0, none⟩)] W fun e w' => ∃ r : Int, e = .returned (.int .i64 r) /\ Keeps (fun i => F i \/ i = p) W w' /\ R r w')
  (hen : ∀ W r, storeB W s m -> mapB W m c ino -> R r W -> Calls Tryz.prog 37 #[.pointer (some ⟨s, 0, none⟩), .int .i64 r] W fun e w' => e = .returned (.int .i64 r) /\ Keeps F W w' /\ Q r w') :
  Calls Tryz.prog 22 #[.pointer (some ⟨s, 0, none⟩), .int .i64 i] w fun e w' => ∃ r : Int, e = .returned (.int .i64 r) /\ Keeps F w w' /\ Q r w' := by
 have HGt := hid (iGet_st h hf (by omega))
 have HOp := hid (fun W D (hm : mapB W m c ino) (hp : Pc W c F 100 N Pg Cm D o (u + 2)) => iopen_good hm hp h.good hf (by omega))
 have HWr := hid hw
 have HEn0 := hid hen
 have hok := h.good.file i f hf
 have hnf := h.good.nf
 have HNl : Hid ((nodeC f.node).length = 15) := by unfold Hid nodeC; rw [List.length_append, List.length_map, (hok.node (by omega) h.good.n4).pages]; rfl
 have HFl := hid h.lt
 have HSl : Hid (s < w.heap.size) := lt_of_heap h.store
 have HMl : Hid (m < w.heap.size) := lt_of_heap h.map
 unfold nodeV at HGt HOp
 unfold gV at HOp
 clear hw h hf hok hnf hen
 have hnc1 := nodeC_one f.node
 generalize nodeC f.node = nc at *
 have HN1 := hid hnc1
 clear hnc1
 go_enter Tryz.func22, Tryz.ntmps22
 go_wp2_with fail
 refine HGt.out.mono ?_
 clear HGt
 rintro e w1 ⟨rfl, hk1, hs1⟩
 have c1 := hs1.store.cell
 have HS1 := hid hs1
 have HK1 := hid hk1
 clear hk1 hs1
 go_wp2_with (refine wpList_store_block rfl 51 (.tmp 5) (.tmp 11) rfl w1.heap.size nc.toArray rfl rfl _ _ (block_new w1 _) (by rw [List.size_toArray, HNl.out]; rfl) (by rw [List.size_toArray, HNl.out]; kernel_rfl) HN1.out ?_; intro w2 hg2 hb2 hz2)
 have hb12 : Below w1.heap.size w1 w2 := ((Below.refl _ w1).alloc (Nat.le_refl _) _).grown hg2 (by simp) (fun k e => by cases e; exact Nat.le_refl _)
 have hs2 := HS1.out.below hb12
 have HB12 := hid hb12
 have HS2 := hid hs2
 have HR2 := hid hb2
 have hbd : Below w2.heap.size w2 w2.drew := (Below.refl _ w2).drew
 have hs3 := hs2.below hbd
 have hr3 := below_block hbd hb2 (lt_of_heap hb2)
 have d0 := hs3.store.cell
 have HBd := hid hbd
 have HS3 := hid hs3
 have HR3 := hid hr3
 obtain ⟨D, hp3⟩ := hs3.pc
 have HO3 := hid (HOp.out w2.drew D hs3.map hp3)
 clear hg2 hz2 hbd hs2 hb12 hs3 hp3 HOp c1
 refine wp_region_noPanic ?_
 refine wp_region_held_drew (S := fun W => W.cell? ⟨s, 0, none⟩ = some (.pointer (some ⟨m, 0, none⟩)) /\ W.heap[w1.heap.size]? = some (.cells nc.toArray 51 (0, 0))) (by kernel_rfl) ⟨d0, hr3⟩ (fun hHeld => ?_)
 clear hb2 hr3
 generalize w2.drew = wd at *
 refine tq 0 _ ?_
 try simp only [tS]
 refine tq 1 _ ?_
 try simp only [tS]
 refine tq 2 _ ?_
 try simp only [tS]
 refine tq 3 _ ?_
 try simp only [tS]
 refine tq 4 _ ?_
 try simp only [tS]
 refine tq 5 _ ?_
 try simp only [tS]
 refine wpAnyH_take (i := 6) (v := .agg nc.toArray) rfl (by kernel_rfl) (by kernel_rfl) (by kernel_rfl) (fun _ _ _ h => h) (yieldsIf_load_mid (by rfl) 51 (.tmp 5) rfl w1.heap.size 0 rfl nc _ (fun W hW => by have := range_of_block hW.2; exact this) Tryz.underlying51 rfl (by rw [HNl.out]; kernel_rfl)) (by assumption) ?_
 try simp only [tS]
 refine wpAnyH_ready (rs := [7]) (by kernel_rfl) (by simp) (AllReadyH.cons rfl (fun K hK => ?_) AllReadyH.nil)
 rw [if_pos (by rfl)]
 go_simp
 refine HO3.out.mono ?_
 clear HO3
 rintro e w4 ⟨p, rfl, hp4, hf4, hk4, hq4⟩
 have hwl := HB12.out.size
 have hwk := HK1.out.size
 have hwd := HBd.out.size
 have kw4 : Keeps F w w4 := ((HK1.out.trans (Keeps.of_below HB12.out : Keeps F w1 w2) (fun i e => .inl e)).trans (Keeps.of_below HBd.out : Keeps F w2 wd) (fun i e => .inl e)).trans hk4 (fun i e => .inl e)
 have hnF : ∀ j, w.heap.size <= j -> ¬ F j := fun j hj hh => by have := HFl.out j hh; omega
 have HW4 := hid (HWr.out w4 p D kw4 hq4 (HS3.out.map.keep hk4 HS3.out.mF) hf4 (by omega))
 have hst4 := HS3.out.store.keep hk4 HS3.out.sF
 have e0 := hst4.cell
 have r4 := hk4.heap HR3.out (hnF _ (by omega))
 have HST4 := hid hst4
 have HMp4 := hid (HS3.out.map.keep hk4 HS3.out.mF)
 have HR4 := hid r4
 have HK4 := hid kw4
 have HNF := hid hnF
 have HP4 := hid hp4
 clear hf4 hk4 hq4 kw4 hst4 hnF HWr HR3 d0
 go_wp2_with fail
 refine hK.out _ _ ⟨e0, r4⟩ (fun hHeld => ?_)
 clear hK K r4
 try simp only [tS]
 refine wpAnyH_ready (rs := [8]) (by kernel_rfl) (by simp) (AllReadyH.cons rfl (fun K hK => ?_) AllReadyH.nil)
 rw [if_pos (by rfl)]
 go_simp
 refine HW4.out.mono ?_
 clear HW4
 rintro e w5 ⟨r, rfl, hk5, hR5⟩
 have hp4 := HP4.out
 have hsl := HSl.out
 have hbl := lt_of_heap HR2.out
 have hst5 := HST4.out.keep hk5 (fun hh => hh.elim HS3.out.sF (fun e => by omega))
 have r5 := hk5.heap HR4.out (fun hh => hh.elim (HNF.out _ (by omega)) (fun e => by omega))
 have g0 := hst5.cell
 have hm5 := HMp4.out.keep hk5 (fun hh => hh.elim HS3.out.mF (fun e => by have := HMl.out; omega))
 have HEn := hid (HEn0.out w5 r hst5 hm5 hR5)
 have HK5 : Hid (Keeps F w w5) := HK4.out.trans hk5 (fun i e => e.elim .inl (fun e => .inr (by omega)))
 have HST5 := hid hst5
 have HR5 := hid r5
 clear hk5 hR5 hst5 hp4 hsl hbl e0 hm5
 go_wp2_with fail
 refine hK.out _ _ ⟨g0, r5⟩ (fun hHeld => ?_)
 clear hK K
 try simp only [tS]
 refine wpAnyH_ready (rs := [9]) (by kernel_rfl) (by simp) (AllReadyH.cons rfl (fun K hK => ?_) AllReadyH.nil)
 rw [if_pos (by rfl)]
 go_simp
 refine HEn.out.mono ?_
 clear HEn
 rintro e w6 ⟨rfl, hk6, hQ6⟩
 have g6 := (HST5.out.keep hk6 HS3.out.sF).cell
 have r6 := hk6.heap HR5.out (HNF.out _ (by have := HB12.out.size; have := HK1.out.size; omega))
 have HK6 := hid (HK5.out.trans hk6 (fun i e => .inl e))
 have HQ6 := hid hQ6
 clear hk6 hQ6 g0 r5
 go_wp2_with fail
 refine hK.out _ _ ⟨g6, r6⟩ (fun hHeld => ?_)
 clear hK K
 try simp only [tS]
 refine tq 10 _ ?_
 try simp only [tS]
 refine wpAnyH_done (by kernel_rfl) ?_ _
 refine NoPanic.normal ?_
 clear hHeld
 go_wp2_with fail
 go_ret
 exact ⟨r, rfl, HK6.out, HQ6.out⟩
end
end
section
set_option maxRecDepth 100000
open Go.RowKit
def node0 : NodeS := ⟨0, 0, 0, 0, List.replicate 11 0⟩
theorem node0_ok : node0.ok := ⟨by decide, by decide, by decide, by decide, rfl, by intro p hp; have := List.eq_of_mem_replicate hp; omega⟩
section
variable {w w' : World} {m c ino p : Nat} {F : Nat -> Prop} {size N : Nat} {Pg Cm : Nat -> List UInt8} {fs : Nat -> Option FileA} {o u k kk : Nat} {i : Nat} {f : FileA}
theorem ifresize_good (hm : mapB w m c ino) (hmF : ¬ F m) (hp : Pe w c F size N Pg Cm o u (k + kk)) (hg : GoodX noSk N ino Pg fs) (hf : fs i = some f) (hfi : fileB w p m (f.S i f.data.length)) (hpF : ¬ F p) (hmp : m ≠ p) (hu : u < 880000) (t : Nat) (ht : t <= 70656)
  (hkk : 1 + 2 * (needN t - f.cnt) + (f.cnt - needN t) + 2 <= kk) :
  Calls Tryz.prog 101 #[.pointer (some ⟨p, 0, none⟩), .int .i64 t] w fun e w' => Keeps (fun i => F i \/ i = p) w w' /\
   ((needN t - f.cnt <= (frL Pg N ino).length /\ e = .returned (.int .i64 0) /\ ∃ Pg' f', f'.kind = f.kind /\ f'.mode = f.mode /\ f'.links = f.links /\ f'.data = rsz f.data t /\ GoodX noSk N ino Pg' (updA fs i (some f')) /\ Pe w' c F size N Pg' Cm o (u + 150) k) \/
   ((frL Pg N ino).length < needN t - f.cnt /\ e = .returned (.int .i64 7) /\ ∃ Pg' D', Pc w' c F size N Pg' Cm D' o (u + 150))) := by
 have HHo := hid (ihold_good (k := k + 2) (kk := kk - 2) hm hmF (by obtain ⟨D, h1, h2⟩ := hp; exact ⟨D, h1.le (by omega), h2⟩) hg hf hfi hpF (by omega) t ht (by omega))
 have HG := hid hg
 have HFs := hid hf
 have HMp := hid hm
 clear hp hg hf hfi hm hkk
 go_enter Tryz.func101, Tryz.ntmps101
 go_wp2_with fail
 refine HHo.out.mono ?_
 clear HHo
 rintro e w1 ⟨hk1, ⟨hy, rfl, hf1, hp1⟩ | ⟨hx, rfl, Pg', D', hp1⟩⟩
 ·obtain ⟨q1, q2, q3, q4, q5, q6⟩ := HG.out.hold HFs.out t ht hy
  have HSv := hid (isave_good (z := t) hmF q6 (updA_self _ _ _) (by rw [q4, length_rsz]) q5 hpF (by omega) hf1 (HMp.out.keep hk1 (fun hh => hh.elim hmF hmp)) hp1)
  have HQ := hid (And.intro q1 (And.intro q2 (And.intro q3 (And.intro q4 (And.intro q5 q6)))))
  have HK1 := hid hk1
  clear hk1 hf1 hp1 q1 q2 q3 q4 q5 q6
  go_wp2_with fail
  refine HSv.out.mono ?_
  clear HSv
  rintro e w2 ⟨rfl, hk2, hp2⟩
  have HK2 := hid hk2
  have HP2 := hid hp2
  clear hk2 hp2
  go_wp2_with fail
  go_ret
  obtain ⟨q1, q2, q3, q4, q5, q6⟩ := HQ.out
  refine ⟨HK1.out.trans HK2.out (fun i e => .inl (.inl e)), .inl ⟨hy, rfl, _, _, q1, q2, q3, q4, q6.save (updA_self _ _ _) (by rw [q4, length_rsz]; exact q5), ?_⟩⟩
  obtain ⟨D, h1, h2⟩ := HP2.out
  exact ⟨D, h1, h2.more (Nat.le_refl _) (by omega)⟩
 ·have HK1 := hid hk1
  have HP1 := hid hp1
  clear hk1 hp1
  go_wp2_with fail
  go_ret
  exact ⟨HK1.out, .inr ⟨hx, rfl, Pg', D', HP1.out.more (Nat.le_refl _) (by omega)⟩⟩
theorem ifdrop_good (hm : mapB w m c ino) (hmF : ¬ F m) (hp : Pe w c F size N Pg Cm o u (k + kk)) (hg : GoodX noSk N ino Pg fs) (hf : fs i = some f) (hfi : fileB w p m (f.S i f.data.length)) (hpF : ¬ F p) (hmp : m ≠ p) (hu : u < 880000) (hkk : 1 + f.cnt + 2 <= kk) :
  Calls Tryz.prog 61 #[.pointer (some ⟨p, 0, none⟩)] w fun e w' => Keeps (fun i => F i \/ i = p) w w' /\ e = .returned (.int .i64 0) /\ ∃ Pg', GoodX noSk N ino Pg' (updA fs i none) /\ Pe w' c F size N Pg' Cm o (u + 150) k := by
 have hn0 : needN 0 = 0 := by decide
 have HHo := hid (ihold_good (k := k + 2) (kk := kk - 2) hm hmF (by obtain ⟨D, h1, h2⟩ := hp; exact ⟨D, h1.le (by omega), h2⟩) hg hf hfi hpF (by omega) 0 (by omega) (by rw [hn0]; omega))
 have hnf := hg.nf
 have hi := hg.out i f hf
 have htb := hg.tabLt hi.2
 have HG := hid hg
 have HFs := hid hf
 have HMp := hid hm
 clear hp hg hf hfi hm hkk
 go_enter Tryz.func61, Tryz.ntmps61
 go_wp2_with fail
 refine HHo.out.mono ?_
 clear HHo
 rintro e w1 ⟨hk1, ⟨hy, rfl, hf1, hp1⟩ | ⟨hx, rfl, Pg', D', hp1⟩⟩
 rotate_left
 ·rw [hn0] at hx; omega
 obtain ⟨q1, q2, q3, q4, q5, q6⟩ := HG.out.hold HFs.out 0 (by omega) hy
 obtain ⟨D, hr1, hpD⟩ := hp1
 have hbd : Below w1.heap.size w1 w1.drew := (Below.refl _ w1).drew
 have hfd := hf1.below hbd
 obtain ⟨d0, d1, -⟩ := hfd.head
 have hm1 := HMp.out.keep hk1 (fun hh => hh.elim hmF hmp)
 have HPt := hid (iput_any (hm1.below hbd) hmF HG.out.i5 i hi.2 node0 node0_ok (by omega) (by omega) (hr1.use _ (by omega)) (hpD.below hbd))
 have HK1 := hid (hk1.trans (Keeps.of_below hbd : Keeps (fun _ => False) w1 w1.drew) (fun i e => e.elim))
 have HM1 := hid (hm1.below hbd)
 have HF1 := hid hfd
 have HR1 := hid hr1
 have hQ := And.intro q4 (And.intro q5 q6)
 have HQ := hid hQ
 have hfm : (w1.drew).heap[p]? ≠ none := by rw [hfd]; simp
 unfold gV nodeV at HPt
 have hnd : (FileA.S (hoF Pg N ino f 0) i 0).num = i := rfl
 rw [hnd] at d1
 clear hk1 hm1 hf1 hr1 hpD q1 q2 q3 q4 q5 q6 hQ hfm hfd hnd hbd
 go_wp2_with fail
 refine wp_region_noPanic ?_
 refine wp_region_held_drew (S := fun W => W.cell? ⟨p, 0, none⟩ = some (.pointer (some ⟨m, 0, none⟩)) /\ W.cell? ⟨p, 1, none⟩ = some (.int .i64 i)) (by kernel_rfl) ⟨d0, d1⟩ (fun hHeld => ?_)
 generalize w1.drew = wd at *
 refine tq 0 _ ?_
 try simp only [tS]
 refine tq 1 _ ?_
 try simp only [tS]
 refine tq 2 _ ?_
 try simp only [tS]
 refine tq 3 _ ?_
 try simp only [tS]
 refine tq 4 _ ?_
 try simp only [tS]
 refine tq 5 _ ?_
 try simp only [tS]
 refine tq 6 _ ?_
 try simp only [tS]
 refine tq 7 _ ?_
 try simp only [tS]
 refine wpAnyH_take (i := 8) (v := .agg (nodeC node0).toArray) rfl (by kernel_rfl) (by kernel_rfl) (by kernel_rfl) (fun _ _ _ h => h) (Or.inl ⟨by rfl, fun W hSw => by kernel_rfl⟩) (by assumption) ?_
 try simp only [tS]
 generalize (nodeC node0).toArray = n0 at *
 refine wpAnyH_ready (rs := [9]) (by kernel_rfl) (by simp) (AllReadyH.cons rfl (fun K hK => ?_) AllReadyH.nil)
 rw [if_pos (by rfl)]
 go_simp
 refine HPt.out.mono ?_
 clear HPt
 rintro e w2 ⟨rfl, hk2, hp2⟩
 have hf2 := HF1.out.keep hk2 hpF
 obtain ⟨e0, e1, -⟩ := hf2.head
 have hnd : (FileA.S (hoF Pg N ino f 0) i 0).num = i := rfl
 rw [hnd] at e1
 have hm2 := HM1.out.keep hk2 hmF
 have HK2 := hid (HK1.out.trans hk2 (fun i e => .inl (.inl e)))
 have HM2 := hid hm2
 have HP2 := hid hp2
 have HF2 := hid hf2
 clear hk2 hp2 hf2 hm2 hnd d0 d1
 go_wp2_with fail
 refine hK.out _ _ ⟨e0, e1⟩ (fun hHeld => ?_)
 clear hK K
 try simp only [tS]
 refine tq 10 _ ?_
 try simp only [tS]
 refine wpAnyH_done (by kernel_rfl) ?_ _
 refine NoPanic.normal ?_
 clear hHeld
 have hbd : Below w2.heap.size w2 w2.drew := (Below.refl _ w2).drew
 have hfd := HF2.out.below hbd
 obtain ⟨d0, d1, -⟩ := hfd.head
 have hnd : (FileA.S (hoF Pg N ino f 0) i 0).num = i := rfl
 rw [hnd] at d1
 obtain ⟨q4, q5, q6⟩ := HQ.out
 have hgn := q6.gone (updA_self _ _ _) (q5.trans hn0) node0_ok
 rw [updA_twice] at hgn
 have hr2 : Rm N size (updT D ((3 + i / 8 : Nat) : Int)) (k + 1) := HR1.out.put _
 have hgv := (aGiveInode_any (HM2.out.below hbd) hmF HG.out.i5 i (by omega) (by omega) (HP2.out.below hbd)).mono (R' := fun e w' => Keeps F w2.drew w' /\ e = .returned (.int .i64 0) /\ Pe w' c F size N (updP (tabP (hoP Pg N ino f 0) i node0) 1 (flipL (hoP Pg N ino f 0 1) i)) Cm o (u + 150) k) (fun e w' hx => by
  have e1 : tabP (hoP Pg N ino f 0) i node0 1 = hoP Pg N ino f 0 1 := tabP_other (by omega)
  have e0 : updP (hoP Pg N ino f 0) (3 + i / 8) (putT (hoP Pg N ino f 0 (3 + i / 8)) i (encL node0)) = tabP (hoP Pg N ino f 0) i node0 := rfl
  obtain ⟨hk, h | h | h | h⟩ := hx
  ·exact absurd ⟨by omega, by omega⟩ h.1
  ·have h2 := h.2.1
   rw [Int.toNat_natCast, e0, e1, hgn.2] at h2
   cases h2
  ·have h2 := hr2.use 1 (by omega)
   have h1 := h.2.2.1
   have ee : ((1 : Nat) : Int) = 1 := rfl
   rw [ee] at h1 h2
   exfalso
   rcases h2 with h2 | h2
   ·rw [if_pos h2] at h1
    rcases hr2 with h4 | h4
    ·omega
    ·have := dkD_le N (updT D ((3 + i / 8 : Nat) : Int)); omega
   ·split at h1 <;> omega
  ·obtain ⟨-, -, -, rfl, hp⟩ := h
   rw [Int.toNat_natCast, e0, e1] at hp
   exact ⟨hk, rfl, _, hr2.put 1, hp.more (Nat.le_refl _) (by omega)⟩)
 have HGv := hid hgv
 have HGn := hid hgn.1
 have HB2 := hid hbd
 clear hgv hgn hr2 q4 q5 q6 hnd e0 e1 hfd hbd HQ HR1
 go_wp2_with fail
 refine wp_region_noPanic ?_
 refine wp_region_held_drew (S := fun W => W.cell? ⟨p, 0, none⟩ = some (.pointer (some ⟨m, 0, none⟩)) /\ W.cell? ⟨p, 1, none⟩ = some (.int .i64 i)) (by kernel_rfl) ⟨d0, d1⟩ (fun hHeld => ?_)
 generalize w2.drew = we at *
 refine tq 0 _ ?_
 try simp only [tS]
 refine tq 1 _ ?_
 try simp only [tS]
 refine tq 2 _ ?_
 try simp only [tS]
 refine tq 3 _ ?_
 try simp only [tS]
 refine tq 4 _ ?_
 try simp only [tS]
 refine tq 5 _ ?_
 try simp only [tS]
 refine tq 6 _ ?_
 try simp only [tS]
 refine tq 7 _ ?_
 try simp only [tS]
 refine tq 8 _ ?_
 try simp only [tS]
 refine wpAnyH_ready (rs := [9]) (by kernel_rfl) (by simp) (AllReadyH.cons rfl (fun K hK => ?_) AllReadyH.nil)
 rw [if_pos (by rfl)]
 go_simp
 refine HGv.out.mono ?_
 clear HGv
 rintro e w3 ⟨hk3, rfl, hp3⟩
 have e0 := hk3.cell d0 hpF
 have e1 := hk3.cell d1 hpF
 have HK3 : Hid (Keeps (fun i => F i \/ i = p) w w3) := (HK2.out.trans (Keeps.of_below HB2.out : Keeps (fun _ => False) w2 we) (fun i e => e.elim)).trans hk3 (fun i e => .inl (.inl e))
 have HP3 := hid hp3
 clear hk3 hp3 d0 d1
 go_wp2_with fail
 refine hK.out _ _ ⟨e0, e1⟩ (fun hHeld => ?_)
 clear hK K
 try simp only [tS]
 refine tq 10 _ ?_
 try simp only [tS]
 refine wpAnyH_done (by kernel_rfl) ?_ _
 refine NoPanic.normal ?_
 clear hHeld
 go_wp2_with fail
 go_ret
 exact ⟨HK3.out, rfl, _, HGn.out, HP3.out⟩
end
end
section
open Go.RowKit
section
variable {w w' : World} {s m c ino : Nat} {F : Nat -> Prop} {N : Nat} {Pg Cm : Nat -> List UInt8} {fs cs : Nat -> Option FileA} {o u : Nat} {i : Nat} {f : FileA}
def ChgTo (w' : World) (s m c : Nat) (F : Nat -> Prop) (N ino : Nat) (Cm : Nat -> List UInt8) (fs : Nat -> Option FileA) (o u i : Nat) (f : FileA) (d : List UInt8) : Prop :=
 ∃ Pg' f', f'.kind = f.kind /\ f'.mode = f.mode /\ f'.links = f.links /\ f'.data = d /\ St w' s m c F N ino Pg' Cm (updA fs i (some f')) o u
theorem iResize_st (h : St w s m c F N ino Pg Cm fs o u) (hcm : GoodX noSk N ino Cm cs) (hf : fs i = some f) (hu : u < 800000) (t : Nat) (ht : t <= 70656) :
  Calls Tryz.prog 47 #[.pointer (some ⟨s, 0, none⟩), .int .i64 i, .int .i64 t] w fun e w' => Keeps F w w' /\
   ((needN t - f.cnt <= (frL Pg N ino).length /\ e = .returned (.int .i64 0) /\ ChgTo w' s m c F N ino Cm fs o (u + 303) i f (rsz f.data t)) \/
   ((frL Pg N ino).length < needN t - f.cnt /\ e = .returned (.int .i64 7) /\ St w' s m c F N ino Cm Cm cs o (u + 303))) := by
 refine (iResize_by h hf (by omega) t ht
  (fun r W => (r = 0 /\ (needN t - f.cnt <= (frL Pg N ino).length /\ ∃ Pg' f', f'.kind = f.kind /\ f'.mode = f.mode /\ f'.links = f.links /\ f'.data = rsz f.data t /\ GoodX noSk N ino Pg' (updA fs i (some f')) /\ ∃ D', Pc W c F 100 N Pg' Cm D' o (u + 303))) \/ (r = 7 /\ ∃ Pg' D', (frL Pg N ino).length < needN t - f.cnt /\ Pc W c F 100 N Pg' Cm D' o (u + 303)))
  (fun r W => (r = 0 /\ (needN t - f.cnt <= (frL Pg N ino).length /\ ∃ Pg' f', f'.kind = f.kind /\ f'.mode = f.mode /\ f'.links = f.links /\ f'.data = rsz f.data t /\ GoodX noSk N ino Pg' (updA fs i (some f')) /\ ∃ D', Pc W c F 100 N Pg' Cm D' o (u + 303))) \/ (r = 7 /\ (frL Pg N ino).length < needN t - f.cnt /\ St W s m c F N ino Cm Cm cs o (u + 303)))
  (fun W p D hk hp hm hfi hpl => ?_) (fun W r hs hm hR => ?_)).mono ?_
 ·have hml : m < w.heap.size := lt_of_heap h.map
  refine (ifresize_good (k := 0) (kk := 1 + 2 * (needN t - f.cnt) + (f.cnt - needN t) + 2) hm h.mF ⟨D, rm100 h.few _ _, hp⟩ h.good hf hfi (fun hh => by have := h.lt _ hh; omega) (by omega) (by omega) t ht (Nat.le_refl _)).mono ?_
  rintro e w' ⟨hk', ⟨hy, rfl, Pg', f', h1, h2, h3, h4, h5, D', -, h6⟩ | ⟨hx, rfl, Pg', D', h6⟩⟩
  ·exact ⟨0, rfl, hk', .inl ⟨rfl, hy, Pg', f', h1, h2, h3, h4, h5, D', h6.more (Nat.le_refl _) (by omega)⟩⟩
  ·exact ⟨7, rfl, hk', .inr ⟨rfl, Pg', D', hx, h6.more (Nat.le_refl _) (by omega)⟩⟩
 ·have hR' : (r = 0 /\ (needN t - f.cnt <= (frL Pg N ino).length /\ ∃ Pg' f', f'.kind = f.kind /\ f'.mode = f.mode /\ f'.links = f.links /\ f'.data = rsz f.data t /\ GoodX noSk N ino Pg' (updA fs i (some f')) /\ ∃ D', Pc W c F 100 N Pg' Cm D' o (u + 303))) \/ (r = 7 /\ ∃ Pg' D', Pc W c F 100 N Pg' Cm D' o (u + 303)) := by
   rcases hR with hR | ⟨rfl, Pg', D', -, h1⟩
   ·exact .inl hR
   ·exact .inr ⟨rfl, Pg', D', h1⟩
  refine (iend_any (R1 := fun W => needN t - f.cnt <= (frL Pg N ino).length /\ ∃ Pg' f', f'.kind = f.kind /\ f'.mode = f.mode /\ f'.links = f.links /\ f'.data = rsz f.data t /\ GoodX noSk N ino Pg' (updA fs i (some f')) /\ ∃ D', Pc W c F 100 N Pg' Cm D' o (u + 303)) h.mF h.sF h.few hcm hs hm hR').mono ?_
  rintro e w' ⟨rfl, hk, hx | ⟨rfl, hx⟩⟩
  ·exact ⟨rfl, hk, .inl hx⟩
  ·refine ⟨rfl, hk, .inr ⟨rfl, ?_, hx⟩⟩
   rcases hR with ⟨e, -⟩ | ⟨-, -, -, h1, -⟩
   ·cases e
   ·exact h1
 ·rintro e w' ⟨r, rfl, hk, ⟨rfl, hy, Pg', f', h1, h2, h3, h4, h5, h6⟩ | ⟨rfl, hx, h1⟩⟩
  ·exact ⟨hk, .inl ⟨hy, rfl, Pg', f', h1, h2, h3, h4, h.map.keep hk h.mF, h.store.keep hk h.sF, h.mF, h.sF, h.few, h6, h5⟩⟩
  ·exact ⟨hk, .inr ⟨hx, rfl, h1⟩⟩
theorem iDrop_st (h : St w s m c F N ino Pg Cm fs o u) (hf : fs i = some f) (hu : u < 800000) :
  Calls Tryz.prog 22 #[.pointer (some ⟨s, 0, none⟩), .int .i64 i] w fun e w' => e = .returned (.int .i64 0) /\ Keeps F w w' /\ ∃ Pg', St w' s m c F N ino Pg' Cm (updA fs i none) o (u + 303) := by
 refine (iDrop_by h hf (by omega)
  (fun r W => r = 0 /\ ∃ Pg', GoodX noSk N ino Pg' (updA fs i none) /\ ∃ D', Pc W c F 100 N Pg' Cm D' o (u + 303))
  (fun r W => r = 0 /\ ∃ Pg', GoodX noSk N ino Pg' (updA fs i none) /\ ∃ D', Pc W c F 100 N Pg' Cm D' o (u + 303))
  (fun W p D hk hp hm hfi hpl => ?_) (fun W r hs hm hR => ?_)).mono ?_
 ·have hml : m < w.heap.size := lt_of_heap h.map
  refine (ifdrop_good (k := 0) (kk := 1 + f.cnt + 2) hm h.mF ⟨D, rm100 h.few _ _, hp⟩ h.good hf hfi (fun hh => by have := h.lt _ hh; omega) (by omega) (by omega) (Nat.le_refl _)).mono ?_
  rintro e w' ⟨hk', rfl, Pg', h5, D', -, h6⟩
  exact ⟨0, rfl, hk', rfl, Pg', h5, D', h6.more (Nat.le_refl _) (by omega)⟩
 ·obtain ⟨rfl, hR⟩ := hR
  refine (iend_ok s W).mono ?_
  rintro e w' ⟨rfl, rfl⟩
  exact ⟨rfl, Keeps.refl _ _, rfl, hR⟩
 ·rintro e w' ⟨r, rfl, hk, rfl, Pg', h5, h6⟩
  exact ⟨rfl, hk, Pg', h.map.keep hk h.mF, h.store.keep hk h.sF, h.mF, h.sF, h.few, h6, h5⟩
end
end
section
set_option maxRecDepth 100000
set_option maxHeartbeats 1000000
open Go.RowKit
def zero15B : Value := .agg #[.int .i64 0, .int .i64 0, .int .i64 0, .int .i64 0, .int .i64 0, .int .i64 0, .int .i64 0, .int .i64 0, .int .i64 0, .int .i64 0, .int .i64 0, .int .i64 0, .int .i64 0, .int .i64 0, .int .i64 0]
def gErr (ino : Nat) (fs : Nat -> Option FileA) (n : Int) : Int := if 0 < n /\ n < (ino : Int) then (if (fs n.toNat).isSome then 0 else 4) else 2
section
variable {w w' : World} {s m c ino : Nat} {F : Nat -> Prop} {N : Nat} {Pg Cm : Nat -> List UInt8} {fs : Nat -> Option FileA} {o u : Nat}
theorem iGet_err (h : St w s m c F N ino Pg Cm fs o u) (n : Int) (hn : gErr ino fs n ≠ 0) (hu : u < 900000) : Calls Tryz.prog 20 #[.pointer (some ⟨s, 0, none⟩), .int .i64 n] w fun e w' => e = .returned (.tuple #[zero15B, .int .i64 (gErr ino fs n)]) /\ Keeps F w w' /\ St w' s m c F N ino Pg Cm fs o (u + 1) := by
 unfold zero15B
 obtain ⟨D, hp⟩ := h.pc
 obtain ⟨wb, hwb⟩ : ∃ wb, wb = w.alloc (.cells #[.int .i64 0, .int .i64 0, .int .i64 0, .int .i64 0, .int .i64 0, .int .i64 0, .int .i64 0, .int .i64 0, .int .i64 0, .int .i64 0, .int .i64 0, .int .i64 0, .int .i64 0, .int .i64 0, .int .i64 0] 51) := ⟨_, rfl⟩
 have hB : Below w.heap.size w wb := by rw [hwb]; exact (Below.refl _ w).alloc (Nat.le_refl _) _
 have hr0 : wb.heap[w.heap.size]? = some (.cells #[.int .i64 0, .int .i64 0, .int .i64 0, .int .i64 0, .int .i64 0, .int .i64 0, .int .i64 0, .int .i64 0, .int .i64 0, .int .i64 0, .int .i64 0, .int .i64 0, .int .i64 0, .int .i64 0, .int .i64 0] 51 (0, 0)) := by rw [hwb]; exact block_new w _
 have hstb := h.below hB
 have HIn := hid (amInodes_any hstb.map)
 have c0 : wb.cell? ⟨s, 0, none⟩ = some (.pointer (some ⟨m, 0, none⟩)) := hstb.store.cell
 have HFl := hid h.lt
 have hnf := h.good.nf
 have HSb := hid hstb
 have HB := hid hB
 have HR0 := hid hr0
 have HEnd : Hid (∀ W w6 : World, Keeps F wb W -> St W s m c F N ino Pg Cm fs o (u + 1) -> W.heap[w.heap.size]? = some (.cells #[.int .i64 0, .int .i64 0, .int .i64 0, .int .i64 0, .int .i64 0, .int .i64 0, .int .i64 0, .int .i64 0, .int .i64 0, .int .i64 0, .int .i64 0, .int .i64 0, .int .i64 0, .int .i64 0, .int .i64 0] 51 (0, 0)) -> W.grownBy w6 (some w.heap.size) -> Keeps F w w6 /\ St w6 s m c F N ino Pg Cm fs o (u + 1)) := fun W w6 hk hst hb hg => by
  have k6 : Keeps (fun i => i = w.heap.size) W w6 := Keeps.of_grown hg (fun i e => (Option.some.inj e).symm)
  have hoff : offN W w.heap.size := node_off (cs := List.replicate 15 (Value.int .i64 0)) hb zero15
  have hne : ¬ F w.heap.size := fun hh => Nat.lt_irrefl _ (HFl.out _ hh)
  obtain ⟨D', hp'⟩ := hst.pc
  have hml : m < w.heap.size := lt_of_heap h.map
  have hsl : s < w.heap.size := lt_of_heap h.store
  exact ⟨((Keeps.of_below HB.out : Keeps F w wb).trans hk (fun i e => .inl e)).trans k6 (fun i e => .inr (by have e' : i = w.heap.size := e; omega)), hst.map.keep k6 (fun e => by have e' : m = w.heap.size := e; omega), hst.store.keep k6 (fun e => by have e' : s = w.heap.size := e; omega), hst.mF, hst.sF, hst.few, ⟨D', hp'.keepY hoff hne k6⟩, hst.good⟩
 have ht : (0 < n /\ n < (ino : Int)) -> takenP (Pg 1) 1 ino n = false /\ gErr ino fs n = 4 := fun hi => by
  unfold gErr at hn ⊢
  rw [if_pos hi] at hn ⊢
  have hno : ¬ (fs n.toNat).isSome = true := fun e => hn (by rw [if_pos e])
  rw [if_neg hno]
  refine ⟨?_, rfl⟩
  unfold takenP
  rw [if_pos ⟨by omega, by omega⟩]
  cases hb : bitL (Pg 1) n.toNat
  ·rfl
  ·rcases (h.good.ibit n.toNat (by omega)).1 hb with e | e
   ·omega
   ·exact absurd e hno
 have HUs := hid (aUsedInode_any hstb.map h.mF h.good.i5 n (by omega) (show u < 1000000 by omega) (hp.below hB))
 by_cases h1 : n <= 0
 ·have he : gErr ino fs n = 2 := by unfold gErr; rw [if_neg (by omega)]
  rw [he]
  clear h hp hB hr0 hstb ht hn HUs HIn
  rw [hwb] at c0
  go_enter Tryz.func20, Tryz.ntmps20
  go_wp2_with (refine wpList_store_block rfl 51 (.tmp 4) (.tmp 21) rfl w.heap.size (List.replicate 15 (Value.int .i64 0)).toArray rfl rfl _ _ (block_new w _) (by kernel_rfl) (by kernel_rfl) (by kernel_rfl) ?_; intro w6 hg6 hb6 hz6)
  rw [<- hwb] at hg6
  have := HEnd.out wb w6 (Keeps.refl _ _) (HSb.out.more (by omega)) HR0.out hg6
  exact bodyPost_ret (results_Get rfl rfl hb6 rfl) rfl ⟨rfl, this.1, this.2⟩
 ·by_cases h2 : (ino : Int) <= n
  ·have he : gErr ino fs n = 2 := by unfold gErr; rw [if_neg (by omega)]
   rw [he]
   clear h hp hB hr0 hstb ht hn HUs
   rw [hwb] at c0
   go_enter Tryz.func20, Tryz.ntmps20
   go_wp2_with fail
   rw [<- hwb] at c0 ⊢
   clear hwb
   refine HIn.out.mono ?_
   clear HIn
   rintro e w1 ⟨rfl, h3⟩
   obtain rfl := h3.symm
   clear h3
   go_wp2_with (refine wpList_store_block rfl 51 (.tmp 4) (.tmp 21) rfl w.heap.size (List.replicate 15 (Value.int .i64 0)).toArray rfl rfl _ _ HR0.out (by kernel_rfl) (by kernel_rfl) (by kernel_rfl) ?_; intro w6 hg6 hb6 hz6)
   have := HEnd.out _ w6 (Keeps.refl _ _) (HSb.out.more (by omega)) HR0.out hg6
   exact bodyPost_ret (results_Get rfl rfl hb6 rfl) rfl ⟨rfl, this.1, this.2⟩
  ·obtain ⟨ht1, ht2⟩ := ht ⟨by omega, by omega⟩
   rw [ht1] at HUs
   rw [ht2]
   have HKp := hid (And.intro h.mF h.sF)
   clear h hp hB hr0 hstb ht hn ht1 ht2
   rw [hwb] at c0
   go_enter Tryz.func20, Tryz.ntmps20
   go_wp2_with fail
   rw [<- hwb] at c0 ⊢
   clear hwb
   refine HIn.out.mono ?_
   clear HIn
   rintro e w1 ⟨rfl, h3⟩
   obtain rfl := h3.symm
   clear h3
   go_wp2_with fail
   refine HUs.out.mono ?_
   clear HUs
   rintro e w2 ⟨rfl, hk2, hp2⟩
   have hst2 : St w2 s m c F N ino Pg Cm fs o (u + 1) := ⟨HSb.out.map.keep hk2 HKp.out.1, HSb.out.store.keep hk2 HKp.out.2, HKp.out.1, HKp.out.2, HSb.out.few, ⟨D, hp2⟩, HSb.out.good⟩
   have HR2 := hid (hk2.heap HR0.out (fun hf => by have := HFl.out _ hf; omega))
   have HK2 := hid hk2
   have HS2 := hid hst2
   clear hk2 hp2 hst2 c0
   go_wp2_with (refine wpList_store_block rfl 51 (.tmp 4) (.tmp 30) rfl w.heap.size (List.replicate 15 (Value.int .i64 0)).toArray rfl rfl _ _ HR2.out (by kernel_rfl) (by kernel_rfl) (by kernel_rfl) ?_; intro w6 hg6 hb6 hz6)
   have := HEnd.out w2 w6 HK2.out HS2.out HR2.out hg6
   exact bodyPost_ret (results_Get rfl rfl hb6 rfl) rfl ⟨rfl, this.1, this.2⟩
theorem iWrite_err (h : St w s m c F N ino Pg Cm fs o u) (n a : Int) (bv : Value) (hn : gErr ino fs n ≠ 0) (hu : u < 900000) : Calls Tryz.prog 18 #[.pointer (some ⟨s, 0, none⟩), .int .i64 n, .int .i64 a, bv] w fun e w' => e = .returned (.int .i64 (gErr ino fs n)) /\ Keeps F w w' /\ St w' s m c F N ino Pg Cm fs o (u + 1) := by
 have HG := hid (iGet_err h n hn hu)
 unfold zero15B at HG
 generalize gErr ino fs n = ec at *
 clear h
 go_enter Tryz.func18, Tryz.ntmps18
 go_wp2_with fail
 refine HG.out.mono ?_
 clear HG
 rintro e w1 ⟨rfl, hk, hst⟩
 have HK := hid hk
 have HS := hid hst
 clear hk hst
 go_wp2_with (refine wpList_store_block rfl 51 (.tmp 9) (.tmp 15) rfl w1.heap.size (List.replicate 15 (Value.int .i64 0)).toArray rfl rfl _ _ (block_new w1 _) (by kernel_rfl) (by kernel_rfl) (by kernel_rfl) ?_; intro w2 hg2 hb2 hz2)
 go_ret
 have hb : Below w1.heap.size w1 w2 := ((Below.refl _ w1).alloc (Nat.le_refl _) _).grown hg2 (by simp) (fun k e => by cases e; exact Nat.le_refl _)
 exact ⟨rfl, HK.out.trans (Keeps.of_below hb : Keeps F w1 w2) (fun i e => .inl e), HS.out.below hb⟩
theorem iSet_err (h : St w s m c F N ino Pg Cm fs o u) (n a b : Int) (hn : gErr ino fs n ≠ 0) (hu : u < 900000) : Calls Tryz.prog 49 #[.pointer (some ⟨s, 0, none⟩), .int .i64 n, .int .i64 a, .int .i64 b] w fun e w' => e = .returned (.int .i64 (gErr ino fs n)) /\ Keeps F w w' /\ St w' s m c F N ino Pg Cm fs o (u + 1) := by
 have HG := hid (iGet_err h n hn hu)
 unfold zero15B at HG
 generalize gErr ino fs n = ec at *
 clear h
 go_enter Tryz.func49, Tryz.ntmps49
 go_wp2_with fail
 refine HG.out.mono ?_
 clear HG
 rintro e w1 ⟨rfl, hk, hst⟩
 have HK := hid hk
 have HS := hid hst
 clear hk hst
 go_wp2_with (refine wpList_store_block rfl 51 (.tmp 9) (.tmp 15) rfl w1.heap.size (List.replicate 15 (Value.int .i64 0)).toArray rfl rfl _ _ (block_new w1 _) (by kernel_rfl) (by kernel_rfl) (by kernel_rfl) ?_; intro w2 hg2 hb2 hz2)
 go_ret
 have hb : Below w1.heap.size w1 w2 := ((Below.refl _ w1).alloc (Nat.le_refl _) _).grown hg2 (by simp) (fun k e => by cases e; exact Nat.le_refl _)
 exact ⟨rfl, HK.out.trans (Keeps.of_below hb : Keeps F w1 w2) (fun i e => .inl e), HS.out.below hb⟩
theorem iDrop_err (h : St w s m c F N ino Pg Cm fs o u) (n : Int) (hn : gErr ino fs n ≠ 0) (hu : u < 900000) : Calls Tryz.prog 22 #[.pointer (some ⟨s, 0, none⟩), .int .i64 n] w fun e w' => e = .returned (.int .i64 (gErr ino fs n)) /\ Keeps F w w' /\ St w' s m c F N ino Pg Cm fs o (u + 1) := by
 have HG := hid (iGet_err h n hn hu)
 unfold zero15B at HG
 generalize gErr ino fs n = ec at *
 clear h
 go_enter Tryz.func22, Tryz.ntmps22
 go_wp2_with fail
 refine HG.out.mono ?_
 clear HG
 rintro e w1 ⟨rfl, hk, hst⟩
 have HK := hid hk
 have HS := hid hst
 clear hk hst
 go_wp2_with (refine wpList_store_block rfl 51 (.tmp 5) (.tmp 11) rfl w1.heap.size (List.replicate 15 (Value.int .i64 0)).toArray rfl rfl _ _ (block_new w1 _) (by kernel_rfl) (by kernel_rfl) (by kernel_rfl) ?_; intro w2 hg2 hb2 hz2)
 go_ret
 have hb : Below w1.heap.size w1 w2 := ((Below.refl _ w1).alloc (Nat.le_refl _) _).grown hg2 (by simp) (fun k e => by cases e; exact Nat.le_refl _)
 exact ⟨rfl, HK.out.trans (Keeps.of_below hb : Keeps F w1 w2) (fun i e => .inl e), HS.out.below hb⟩
theorem iResize_err (h : St w s m c F N ino Pg Cm fs o u) (n a : Int) (hn : gErr ino fs n ≠ 0) (hu : u < 900000) : Calls Tryz.prog 47 #[.pointer (some ⟨s, 0, none⟩), .int .i64 n, .int .i64 a] w fun e w' => e = .returned (.int .i64 (gErr ino fs n)) /\ Keeps F w w' /\ St w' s m c F N ino Pg Cm fs o (u + 1) := by
 have HG := hid (iGet_err h n hn hu)
 unfold zero15B at HG
 generalize gErr ino fs n = ec at *
 clear h
 go_enter Tryz.func47, Tryz.ntmps47
 go_wp2_with fail
 refine HG.out.mono ?_
 clear HG
 rintro e w1 ⟨rfl, hk, hst⟩
 have HK := hid hk
 have HS := hid hst
 clear hk hst
 go_wp2_with (refine wpList_store_block rfl 51 (.tmp 7) (.tmp 13) rfl w1.heap.size (List.replicate 15 (Value.int .i64 0)).toArray rfl rfl _ _ (block_new w1 _) (by kernel_rfl) (by kernel_rfl) (by kernel_rfl) ?_; intro w2 hg2 hb2 hz2)
 go_ret
 have hb : Below w1.heap.size w1 w2 := ((Below.refl _ w1).alloc (Nat.le_refl _) _).grown hg2 (by simp) (fun k e => by cases e; exact Nat.le_refl _)
 exact ⟨rfl, HK.out.trans (Keeps.of_below hb : Keeps F w1 w2) (fun i e => .inl e), HS.out.below hb⟩
theorem iRead_err (h : St w s m c F N ino Pg Cm fs o u) (n a b : Int) (hn : gErr ino fs n ≠ 0) (hu : u < 900000) : Calls Tryz.prog 16 #[.pointer (some ⟨s, 0, none⟩), .int .i64 n, .int .i64 a, .int .i64 b] w fun e w' => e = .returned (.tuple #[.slice none 0 0, .int .i64 (gErr ino fs n)]) /\ Keeps F w w' /\ St w' s m c F N ino Pg Cm fs o (u + 1) := by
 have HG := hid (iGet_err h n hn hu)
 unfold zero15B at HG
 generalize gErr ino fs n = ec at *
 clear h
 go_enter Tryz.func16, Tryz.ntmps16
 go_wp2_with fail
 refine HG.out.mono ?_
 clear HG
 rintro e w1 ⟨rfl, hk, hst⟩
 have HK := hid hk
 have HS := hid hst
 clear hk hst
 go_wp2_with (refine wpList_store_block rfl 51 (.tmp 10) (.tmp 16) rfl w1.heap.size (List.replicate 15 (Value.int .i64 0)).toArray rfl rfl _ _ (block_new w1 _) (by kernel_rfl) (by kernel_rfl) (by kernel_rfl) ?_; intro w2 hg2 hb2 hz2)
 go_returns
 have hb : Below w1.heap.size w1 w2 := ((Below.refl _ w1).alloc (Nat.le_refl _) _).grown hg2 (by simp) (fun k e => by cases e; exact Nat.le_refl _)
 exact ⟨rfl, HK.out.trans (Keeps.of_below hb : Keeps F w1 w2) (fun i e => .inl e), HS.out.below hb⟩
theorem iPages_err (h : St w s m c F N ino Pg Cm fs o u) (n : Int) (hn : gErr ino fs n ≠ 0) (hu : u < 900000) : Calls Tryz.prog 24 #[.pointer (some ⟨s, 0, none⟩), .int .i64 n] w fun e w' => e = .returned (.tuple #[.slice none 0 0, .int .i64 (gErr ino fs n)]) /\ Keeps F w w' /\ St w' s m c F N ino Pg Cm fs o (u + 1) := by
 have HG := hid (iGet_err h n hn hu)
 unfold zero15B at HG
 generalize gErr ino fs n = ec at *
 clear h
 go_enter Tryz.func24, Tryz.ntmps24
 go_wp2_with fail
 refine HG.out.mono ?_
 clear HG
 rintro e w1 ⟨rfl, hk, hst⟩
 have HK := hid hk
 have HS := hid hst
 clear hk hst
 go_wp2_with (refine wpList_store_block rfl 51 (.tmp 6) (.tmp 12) rfl w1.heap.size (List.replicate 15 (Value.int .i64 0)).toArray rfl rfl _ _ (block_new w1 _) (by kernel_rfl) (by kernel_rfl) (by kernel_rfl) ?_; intro w2 hg2 hb2 hz2)
 go_returns
 have hb : Below w1.heap.size w1 w2 := ((Below.refl _ w1).alloc (Nat.le_refl _) _).grown hg2 (by simp) (fun k e => by cases e; exact Nat.le_refl _)
 exact ⟨rfl, HK.out.trans (Keeps.of_below hb : Keeps F w1 w2) (fun i e => .inl e), HS.out.below hb⟩
theorem iMake_bad (k mode : Int) (hbad : ¬ ((1 <= k /\ k <= 3) /\ 0 <= mode /\ mode <= 4095)) : Calls Tryz.prog 8 #[.pointer (some ⟨s, 0, none⟩), .int .i64 k, .int .i64 mode] w fun e w' => e = .returned (.tuple #[.int .i64 0, .int .i64 2]) /\ w' = w := by
 have HIm := hid (fun W => iisMode_any mode W)
 by_cases h1 : k < 1
 ·go_enter Tryz.func8, Tryz.ntmps8
  go_wp2_with fail
  go_returns
  exact ⟨rfl, rfl⟩
 ·by_cases h2 : 3 < k
  ·go_enter Tryz.func8, Tryz.ntmps8
   go_wp2_with fail
   go_returns
   exact ⟨rfl, rfl⟩
  ·have hm : ¬ (0 <= mode /\ mode <= 4095) := fun e => hbad ⟨⟨by omega, by omega⟩, e⟩
   rw [decide_eq_false hm] at HIm
   clear hbad hm
   go_enter Tryz.func8, Tryz.ntmps8
   go_wp2_with fail
   refine (HIm.out _).mono ?_
   rintro e w1 ⟨rfl, h3⟩
   obtain rfl := h3.symm
   clear h3
   go_wp2_with fail
   go_returns
   exact ⟨rfl, rfl⟩
theorem iMake_full {cs : Nat -> Option FileA} (h : St w s m c F N ino Pg Cm fs o u) (hcm : GoodX noSk N ino Cm cs) (k mode : Int) (hk1 : 1 <= k) (hk3 : k <= 3) (hm0 : 0 <= mode) (hm1 : mode <= 4095) (hf : freeTo (Pg 1) 1 ino 4096 = []) (hu : u < 900000) : Calls Tryz.prog 8 #[.pointer (some ⟨s, 0, none⟩), .int .i64 k, .int .i64 mode] w fun e w' => e = .returned (.tuple #[.int .i64 0, .int .i64 7]) /\ Keeps F w w' /\ St w' s m c F N ino Cm Cm cs o (u + 2) := by
 obtain ⟨D, hp⟩ := h.pc
 have HIm := hid (fun W => iisMode_any mode W)
 rw [decide_eq_true (show 0 <= mode /\ mode <= 4095 from ⟨hm0, hm1⟩)] at HIm
 have hnf := h.good.nf
 have HIn := hid ((aInode_any h.map h.mF h.good.i5 h.good.h8 h.good.nf (by omega) (by omega) hp).mono (R' := fun e w' => e = .returned (.tuple #[.int .i64 0, .int .i64 7]) /\ Keeps F w w' /\ Pc w' c F 100 N Pg Cm D o (u + 2)) (fun e w' hx => by
  obtain ⟨hk, ⟨-, rfl, hp'⟩ | ⟨q, rest, h0, -⟩⟩ := hx
  ·exact ⟨rfl, hk, hp'⟩
  ·rw [hf] at h0; cases h0))
 have c0 := h.store.cell
 have HKp := hid h
 have HCm := hid hcm
 have h1 : ¬ k < 1 := by omega
 have h2 : ¬ 3 < k := by omega
 clear h hp hf hk1 hk3 hm0 hm1 hcm hnf
 go_enter Tryz.func8, Tryz.ntmps8
 go_wp2_with fail
 refine (HIm.out _).mono ?_
 clear HIm
 rintro e w1 ⟨rfl, h3⟩
 obtain rfl := h3.symm
 clear h3
 go_wp2_with fail
 refine HIn.out.mono ?_
 clear HIn
 rintro e w2 ⟨rfl, hk2, hp2⟩
 have hs2 := HKp.out.store.keep hk2 HKp.out.sF
 have c2 := hs2.cell
 have HEn := hid (iend_full hs2 (HKp.out.map.keep hk2 HKp.out.mF) hp2)
 have HK2 := hid hk2
 have HS2 := hid hs2
 clear hk2 hp2 hs2 c0
 go_wp2_with fail
 refine HEn.out.mono ?_
 clear HEn
 rintro e w3 ⟨rfl, hk3, hp3⟩
 have HK3 := hid hk3
 have HP3 := hid hp3
 clear hk3 hp3 c2
 go_wp2_with fail
 go_returns
 have k3 := HK2.out.trans HK3.out (fun i e => .inl e)
 exact ⟨rfl, k3, HKp.out.map.keep k3 HKp.out.mF, HKp.out.store.keep k3 HKp.out.sF, HKp.out.mF, HKp.out.sF, HKp.out.few, ⟨_, HP3.out⟩, HCm.out⟩
end
end
section
open Go.RowKit
def cntO : Option FileA -> Nat
 | some f => f.cnt
 | none => 0
def slotsO : Option FileA -> List Nat
 | some f => (List.range f.cnt).map f.slot
 | none => []
def sumC (fs : Nat -> Option FileA) (n : Nat) : Nat := ((List.range n).map (fun i => cntO (fs i))).sum
def allS (fs : Nat -> Option FileA) (n : Nat) : List Nat := (List.range n).flatMap (fun i => slotsO (fs i))
theorem length_slotsO (a : Option FileA) : (slotsO a).length = cntO a := by cases a <;> simp [slotsO, cntO]
theorem mem_slotsO {a : Option FileA} {p : Nat} : p ∈ slotsO a ↔ ∃ f j, a = some f /\ j < f.cnt /\ f.slot j = p := by
 cases a with
 | none => simp [slotsO]
 | some f => simp [slotsO]
theorem length_allS (fs : Nat -> Option FileA) (n : Nat) : (allS fs n).length = sumC fs n := by
 unfold allS sumC
 rw [List.length_flatMap]
 congr 1
 exact List.map_congr_left (fun i _ => length_slotsO _)
theorem mem_freeTo {L : List UInt8} {a z p : Nat} (hz : z <= 4096) : p ∈ freeTo L a z 4096 ↔ a <= p /\ p < z /\ bitL L p = false := by
 unfold freeTo isFree
 rw [List.mem_filter, List.mem_range]
 simp
 constructor
 ·intro h; exact ⟨h.2.1.1, h.2.1.2, h.2.2⟩
 ·intro h; exact ⟨by omega, ⟨h.1, h.2.1⟩, h.2.2⟩
theorem nodup_freeTo (L : List UInt8) (a z : Nat) : (freeTo L a z 4096).Nodup := List.Pairwise.filter _ List.nodup_range
section
variable {sk : Nat -> Prop} {N ino : Nat} {Pg : Nat -> List UInt8} {fs : Nat -> Option FileA} {i : Nat} {f : FileA}
theorem GoodX.nodupS (h : GoodX sk N ino Pg fs) : (allS fs ino).Nodup := by
 unfold allS List.Nodup
 rw [List.pairwise_flatMap]
 constructor
 ·intro i _
  unfold slotsO
  split
  ·rename_i f hf
   rw [List.pairwise_map]
   refine (List.nodup_range (n := f.cnt)).imp_of_mem (fun {a b} ha hb hab e => hab ?_)
   exact (h.apart i f a i f b hf hf (List.mem_range.1 ha) (List.mem_range.1 hb) e).2
  ·exact List.Pairwise.nil
 ·refine (List.nodup_range (n := ino)).imp (fun {a b} hab => ?_)
  intro p hp q hq e
  obtain ⟨f, j, h1, h2, h3⟩ := mem_slotsO.1 hp
  obtain ⟨g, k, h4, h5, h6⟩ := mem_slotsO.1 hq
  exact hab (h.apart a f j b g k h1 h4 h2 h5 (by rw [h3, h6, e])).1
theorem GoodX.free (h : GoodX sk N ino Pg fs) : (frL Pg N ino).length + sumC fs ino + (3 + ino / 8) = N := by
 have hnf := h.nf
 have hn4 := h.n4
 have hmem : ∀ p, p ∈ allS fs ino ↔ 3 + ino / 8 <= p /\ p < N /\ bitL (Pg 2) p = true := fun p => by
  unfold allS
  rw [List.mem_flatMap]
  constructor
  ·rintro ⟨i, -, hp⟩
   obtain ⟨f, j, h1, h2, h3⟩ := mem_slotsO.1 hp
   have h4 := (h.file i f h1).in_ j h2
   rw [h3] at h4
   exact ⟨h4.1, h4.2, (h.pbit p h4.1 h4.2).2 ⟨i, f, j, h1, h2, h3⟩⟩
  ·rintro ⟨h1, h2, h3⟩
   obtain ⟨i, f, j, h4, h5, h6⟩ := (h.pbit p h1 h2).1 h3
   exact ⟨i, List.mem_range.2 (h.out i f h4).2, mem_slotsO.2 ⟨f, j, h4, h5, h6⟩⟩
 have hnd : (allS fs ino ++ frL Pg N ino).Nodup := by
  rw [List.nodup_append]
  refine ⟨h.nodupS, nodup_freeTo _ _ _, fun p hp q hq e => ?_⟩
  have h1 := (hmem p).1 hp
  have h2 := (mem_freeTo hn4).1 hq
  rw [<- e] at h2
  rw [h1.2.2] at h2
  cases h2.2.2
 have hp : List.Perm (allS fs ino ++ frL Pg N ino) (List.range' (3 + ino / 8) (N - (3 + ino / 8))) := (List.perm_ext_iff_of_nodup hnd (List.nodup_range' (step := 1))).2 (fun p => by
  rw [List.mem_append, hmem, List.mem_range'_1]
  unfold frL
  rw [mem_freeTo hn4]
  constructor
  ·rintro (h1 | h1) <;> omega
  ·intro h1
   cases hb : bitL (Pg 2) p
   ·exact .inr ⟨by omega, by omega, rfl⟩
   ·exact .inl ⟨by omega, by omega, rfl⟩)
 have hl := hp.length_eq
 rw [List.length_append, length_allS, List.length_range'] at hl
 omega
end
end
section
open Go.RowKit
def StC (w : World) (s m c : Nat) (F : Nat -> Prop) (N ino : Nat) (Pg : Nat -> List UInt8) (fs : Nat -> Option FileA) (o u : Nat) : Prop := St w s m c F N ino Pg Pg fs o u /\ Pc w c F 100 N Pg Pg (fun _ => false) o u
section
variable {w w' : World} {s m c ino : Nat} {F : Nat -> Prop} {N : Nat} {Pg Cm : Nat -> List UInt8} {fs : Nat -> Option FileA} {o u : Nat} {i : Nat} {f : FileA}
theorem iend_anyC {R1 : World -> Prop} {u' : Nat} {cs : Nat -> Option FileA} (hmF : ¬ F m) (hsF : ¬ F s) (hN : N <= 100) (hcm : GoodX noSk N ino Cm cs) {W : World} {r : Int} (hs : storeB W s m) (hm : mapB W m c ino) (hR : (r = 0 /\ R1 W) \/ (r = 7 /\ ∃ Pg' D', Pc W c F 100 N Pg' Cm D' o u')) :
  Calls Tryz.prog 37 #[.pointer (some ⟨s, 0, none⟩), .int .i64 r] W fun e w' => e = .returned (.int .i64 r) /\ Keeps F W w' /\ ((r = 0 /\ R1 w') \/ (r = 7 /\ StC w' s m c F N ino Cm cs o u')) := by
 rcases hR with ⟨rfl, h1⟩ | ⟨rfl, Pg', D', hp⟩
 ·refine (iend_ok s W).mono ?_
  rintro e w' ⟨rfl, rfl⟩
  exact ⟨rfl, Keeps.refl _ _, .inl ⟨rfl, h1⟩⟩
 ·refine (iend_full hs hm hp).mono ?_
  rintro e w' ⟨rfl, hk, hp'⟩
  exact ⟨rfl, hk, .inr ⟨rfl, ⟨hm.keep hk hmF, hs.keep hk hsF, hmF, hsF, hN, ⟨_, hp'⟩, hcm⟩, hp'⟩⟩
theorem iWrite_stC {cs : Nat -> Option FileA} (h : St w s m c F N ino Pg Cm fs o u) (hcm : GoodX noSk N ino Cm cs) (hf : fs i = some f) (hu : u < 800000) (a z t : Nat) (l : List UInt8) (blk of cp : Nat) (hl : bytesAt w ⟨blk, of, none⟩ l) (hcp : l.length <= cp) (hbF : ¬ F blk) (hbl : blk < w.heap.size) (haz : a + l.length = z) (h0 : 0 < l.length) (hz7 : z <= 70656) (ht : max z f.data.length = t) :
  Calls Tryz.prog 18 #[.pointer (some ⟨s, 0, none⟩), .int .i64 i, .int .i64 a, .slice (some ⟨blk, of, none⟩) l.length cp] w fun e w' => Keeps F w w' /\
   ((needN t - f.cnt <= (frL Pg N ino).length /\ e = .returned (.int .i64 0) /\ ∃ Pg' f', f'.kind = f.kind /\ f'.mode = f.mode /\ f'.links = f.links /\ f'.data = wrD f.data a l /\ St w' s m c F N ino Pg' Cm (updA fs i (some f')) o (u + 303)) \/
   ((frL Pg N ino).length < needN t - f.cnt /\ e = .returned (.int .i64 7) /\ StC w' s m c F N ino Cm cs o (u + 303))) := by
 refine (iWrite_by h hf (by omega) a l.length blk of cp h0 (by omega)
  (fun r W => (r = 0 /\ (needN t - f.cnt <= (frL Pg N ino).length /\ ∃ Pg' f', f'.kind = f.kind /\ f'.mode = f.mode /\ f'.links = f.links /\ f'.data = wrD f.data a l /\ GoodX noSk N ino Pg' (updA fs i (some f')) /\ ∃ D', Pc W c F 100 N Pg' Cm D' o (u + 303))) \/ (r = 7 /\ ∃ Pg' D', (frL Pg N ino).length < needN t - f.cnt /\ Pc W c F 100 N Pg' Cm D' o (u + 303)))
  (fun r W => (r = 0 /\ (needN t - f.cnt <= (frL Pg N ino).length /\ ∃ Pg' f', f'.kind = f.kind /\ f'.mode = f.mode /\ f'.links = f.links /\ f'.data = wrD f.data a l /\ GoodX noSk N ino Pg' (updA fs i (some f')) /\ ∃ D', Pc W c F 100 N Pg' Cm D' o (u + 303))) \/ (r = 7 /\ (frL Pg N ino).length < needN t - f.cnt /\ StC W s m c F N ino Cm cs o (u + 303)))
  (fun W p D hk hp hm hfi hpl => ?_) (fun W r hs hm hR => ?_)).mono ?_
 ·refine (ifwrite_good (k := 0) (kk := 1 + 2 * (needN t - f.cnt) + (fillN z - a / 512) + 2) hm h.mF ⟨D, rm100 h.few _ _, hp⟩ h.good hf hfi (fun hh => by have := h.lt _ hh; omega) (by omega) a z t l blk of cp (fun j hj => hk.cell (hl j hj) (by rw [Addr.add_mid]; exact hbF)) hcp hbF (by omega) (by have := hk.size; omega) haz h0 hz7 ht (Nat.le_refl _)).mono ?_
  rintro e w' ⟨hk', ⟨hy, rfl, Pg', f', h1, h2, h3, h4, h5, D', -, h6⟩ | ⟨hx, rfl, Pg', D', h6⟩⟩
  ·exact ⟨0, rfl, hk', .inl ⟨rfl, hy, Pg', f', h1, h2, h3, h4, h5, D', h6⟩⟩
  ·exact ⟨7, rfl, hk', .inr ⟨rfl, Pg', D', hx, h6⟩⟩
 ·have hR' : (r = 0 /\ (needN t - f.cnt <= (frL Pg N ino).length /\ ∃ Pg' f', f'.kind = f.kind /\ f'.mode = f.mode /\ f'.links = f.links /\ f'.data = wrD f.data a l /\ GoodX noSk N ino Pg' (updA fs i (some f')) /\ ∃ D', Pc W c F 100 N Pg' Cm D' o (u + 303))) \/ (r = 7 /\ ∃ Pg' D', Pc W c F 100 N Pg' Cm D' o (u + 303)) := by
   rcases hR with hR | ⟨rfl, Pg', D', -, h1⟩
   ·exact .inl hR
   ·exact .inr ⟨rfl, Pg', D', h1⟩
  refine (iend_anyC (R1 := fun W => needN t - f.cnt <= (frL Pg N ino).length /\ ∃ Pg' f', f'.kind = f.kind /\ f'.mode = f.mode /\ f'.links = f.links /\ f'.data = wrD f.data a l /\ GoodX noSk N ino Pg' (updA fs i (some f')) /\ ∃ D', Pc W c F 100 N Pg' Cm D' o (u + 303)) h.mF h.sF h.few hcm hs hm hR').mono ?_
  rintro e w' ⟨rfl, hk, hx | ⟨rfl, hx⟩⟩
  ·exact ⟨rfl, hk, .inl hx⟩
  ·refine ⟨rfl, hk, .inr ⟨rfl, ?_, hx⟩⟩
   rcases hR with ⟨e, -⟩ | ⟨-, -, -, h1, -⟩
   ·cases e
   ·exact h1
 ·rintro e w' ⟨r, rfl, hk, ⟨rfl, hy, Pg', f', h1, h2, h3, h4, h5, h6⟩ | ⟨rfl, hx, h1⟩⟩
  ·exact ⟨hk, .inl ⟨hy, rfl, Pg', f', h1, h2, h3, h4, h.map.keep hk h.mF, h.store.keep hk h.sF, h.mF, h.sF, h.few, h6, h5⟩⟩
  ·exact ⟨hk, .inr ⟨hx, rfl, h1⟩⟩
end
end
section
set_option maxRecDepth 100000
open Go.RowKit
section
variable {w w' : World} {s m c ino : Nat} {F : Nat -> Prop} {N : Nat} {Pg Cm : Nat -> List UInt8} {fs : Nat -> Option FileA} {o u : Nat} {i : Nat} {f : FileA}
theorem iWrite_neg (h : St w s m c F N ino Pg Cm fs o u) (hf : fs i = some f) (hu : u < 900000) (a : Int) (ha : a < 0) (n cp : Nat) (ad : Option Addr) :
  Calls Tryz.prog 18 #[.pointer (some ⟨s, 0, none⟩), .int .i64 i, .int .i64 a, .slice ad n cp] w fun e w' => e = .returned (.int .i64 2) /\ Keeps F w w' /\ St w' s m c F N ino Pg Cm fs o (u + 2) := by
 have HGt := hid (iGet_st h hf (by omega))
 have hok := h.good.file i f hf
 have hnf := h.good.nf
 have HNl : Hid ((nodeC f.node).length = 15) := by unfold Hid nodeC; rw [List.length_append, List.length_map, (hok.node (by omega) h.good.n4).pages]; rfl
 unfold nodeV at HGt
 clear h hf hok hnf
 have hnc1 := nodeC_one f.node
 generalize nodeC f.node = nc at *
 have HN1 := hid hnc1
 clear hnc1
 go_enter Tryz.func18, Tryz.ntmps18
 go_wp2_with fail
 refine HGt.out.mono ?_
 clear HGt
 rintro e w1 ⟨rfl, hk1, hs1⟩
 have HS1 := hid hs1
 have HK1 := hid hk1
 clear hk1 hs1
 go_wp2_with (refine wpList_store_block rfl 51 (.tmp 9) (.tmp 15) rfl w1.heap.size nc.toArray rfl rfl _ _ (block_new w1 _) (by rw [List.size_toArray, HNl.out]; rfl) (by rw [List.size_toArray, HNl.out]; kernel_rfl) HN1.out ?_; intro w2 hg2 hb2 hz2; have hb12 : Below w1.heap.size w1 w2 := ((Below.refl _ w1).alloc (Nat.le_refl _) _).grown hg2 (by simp) (fun k e => by cases e; exact Nat.le_refl _); have HB12 := hid hb12; clear hg2 hb2 hz2 hb12)
 go_ret
 exact ⟨rfl, HK1.out.trans (Keeps.of_below HB12.out : Keeps F w1 w2) (fun i e => .inl e), HS1.out.below HB12.out⟩
theorem iWrite_long (h : St w s m c F N ino Pg Cm fs o u) (hf : fs i = some f) (hu : u < 900000) (a : Int) (n cp : Nat) (ha : 0 <= a) (h0 : 0 < n) (hn8 : n <= 8000) (hl : 70656 < a + n) (ad : Option Addr) :
  Calls Tryz.prog 18 #[.pointer (some ⟨s, 0, none⟩), .int .i64 i, .int .i64 a, .slice ad n cp] w fun e w' => e = .returned (.int .i64 6) /\ Keeps F w w' /\ St w' s m c F N ino Pg Cm fs o (u + 2) := by
 have HGt := hid (iGet_st h hf (by omega))
 have hok := h.good.file i f hf
 have hnf := h.good.nf
 have HNl : Hid ((nodeC f.node).length = 15) := by unfold Hid nodeC; rw [List.length_append, List.length_map, (hok.node (by omega) h.good.n4).pages]; rfl
 have ha0 : ¬ (a < 0) := by omega
 have hn0 : ¬ (n = 0) := by omega
 have hn0' : ¬ ((n : Int) = 0) := by omega
 have han : (70656 : Int) - (n : Int) < a := by omega
 unfold nodeV at HGt
 clear h hf hok hnf
 have hnc1 := nodeC_one f.node
 generalize nodeC f.node = nc at *
 have HN1 := hid hnc1
 clear hnc1
 go_enter Tryz.func18, Tryz.ntmps18
 go_wp2_with fail
 refine HGt.out.mono ?_
 clear HGt
 rintro e w1 ⟨rfl, hk1, hs1⟩
 have HS1 := hid hs1
 have HK1 := hid hk1
 clear hk1 hs1
 go_wp2_with (refine wpList_store_block rfl 51 (.tmp 9) (.tmp 15) rfl w1.heap.size nc.toArray rfl rfl _ _ (block_new w1 _) (by rw [List.size_toArray, HNl.out]; rfl) (by rw [List.size_toArray, HNl.out]; kernel_rfl) HN1.out ?_; intro w2 hg2 hb2 hz2; have hb12 : Below w1.heap.size w1 w2 := ((Below.refl _ w1).alloc (Nat.le_refl _) _).grown hg2 (by simp) (fun k e => by cases e; exact Nat.le_refl _); have HB12 := hid hb12; clear hg2 hb2 hz2 hb12)
 go_ret
 exact ⟨rfl, HK1.out.trans (Keeps.of_below HB12.out : Keeps F w1 w2) (fun i e => .inl e), HS1.out.below HB12.out⟩
end
end
section
set_option maxRecDepth 100000
open Go.RowKit
section
variable {w w' : World} {s m c ino : Nat} {F : Nat -> Prop} {N : Nat} {Pg Cm : Nat -> List UInt8} {fs cs : Nat -> Option FileA} {o u : Nat} {i : Nat} {f : FileA}
theorem iResize_no (h : St w s m c F N ino Pg Cm fs o u) (hf : fs i = some f) (hu : u < 900000) (t : Int) (ht : t < 0 \/ 70656 < t) :
  Calls Tryz.prog 47 #[.pointer (some ⟨s, 0, none⟩), .int .i64 i, .int .i64 t] w fun e w' => Keeps F w w' /\ St w' s m c F N ino Pg Cm fs o (u + 2) /\ ∃ r : Int, e = .returned (.int .i64 r) := by
 have HGt := hid (iGet_st h hf (by omega))
 have hok := h.good.file i f hf
 have hnf := h.good.nf
 have HNl : Hid ((nodeC f.node).length = 15) := by unfold Hid nodeC; rw [List.length_append, List.length_map, (hok.node (by omega) h.good.n4).pages]; rfl
 unfold nodeV at HGt
 clear h hf hok hnf
 have hnc1 := nodeC_one f.node
 generalize nodeC f.node = nc at *
 have HN1 := hid hnc1
 clear hnc1
 go_enter Tryz.func47, Tryz.ntmps47
 go_wp2_with fail
 refine HGt.out.mono ?_
 clear HGt
 rintro e w1 ⟨rfl, hk1, hs1⟩
 have HS1 := hid hs1
 have HK1 := hid hk1
 clear hk1 hs1
 rcases (show t < 0 \/ (¬ t < 0 /\ 70656 < t) by omega) with h1 | ⟨h1, h2⟩
 all_goals
  clear ht
  go_wp2_with (refine wpList_store_block rfl 51 (.tmp 7) (.tmp 13) rfl w1.heap.size nc.toArray rfl rfl _ _ (block_new w1 _) (by rw [List.size_toArray, HNl.out]; rfl) (by rw [List.size_toArray, HNl.out]; kernel_rfl) HN1.out ?_; intro w2 hg2 hb2 hz2; have hb12 : Below w1.heap.size w1 w2 := ((Below.refl _ w1).alloc (Nat.le_refl _) _).grown hg2 (by simp) (fun k e => by cases e; exact Nat.le_refl _); have HB12 := hid hb12; clear hg2 hb2 hz2 hb12)
  go_ret
  exact ⟨HK1.out.trans (Keeps.of_below HB12.out : Keeps F w1 w2) (fun i e => .inl e), HS1.out.below HB12.out, _, rfl⟩
def StTo (w : World) (s m c : Nat) (F : Nat -> Prop) (N ino : Nat) (Cm : Nat -> List UInt8) (o u : Nat) (w' : World) : Prop := Keeps F w w' /\ ∃ Pg' fs', St w' s m c F N ino Pg' Cm fs' o u
theorem stTo_mk {Pg' : Nat -> List UInt8} {fs' : Nat -> Option FileA} {u' : Nat} (hk : Keeps F w w') (h : St w' s m c F N ino Pg' Cm fs' o u) (hu : u <= u') : StTo w s m c F N ino Cm o u' w' := ⟨hk, Pg', fs', h.more hu⟩
theorem gErr_cases (ino : Nat) (fs : Nat -> Option FileA) (n : Int) : gErr ino fs n ≠ 0 \/ ∃ i f, n = ((i : Nat) : Int) /\ fs i = some f := by
 by_cases h : gErr ino fs n = 0
 ·refine .inr ?_
  unfold gErr at h
  split at h
  ·rename_i hn
   split at h
   ·rename_i hs
    obtain ⟨f, hf⟩ := Option.isSome_iff_exists.1 hs
    exact ⟨n.toNat, f, by omega, hf⟩
   ·omega
  ·omega
 ·exact .inl h
theorem iWrite_free (h : St w s m c F N ino Pg Cm fs o u) (hcm : GoodX noSk N ino Cm cs) (hu : u < 700000) (n a : Int) (l : List UInt8) (g : Nat) (hl : ownB w g l) (hgF : ¬ F g) (hL : l.length <= 8000) :
  Calls Tryz.prog 18 #[.pointer (some ⟨s, 0, none⟩), .int .i64 n, .int .i64 a, .slice (some ⟨g, 0, none⟩) l.length l.length] w fun e w' => StTo w s m c F N ino Cm o (u + 303) w' /\ ∃ r : Int, e = .returned (.int .i64 r) := by
 rcases gErr_cases ino fs n with hn | ⟨i, f, rfl, hf⟩
 ·refine (iWrite_err h n a _ hn (by omega)).mono ?_
  rintro e w' ⟨rfl, hk, hs⟩
  exact ⟨stTo_mk hk hs (by omega), _, rfl⟩
 ·by_cases h1 : a < 0
  ·refine (iWrite_neg h hf (by omega) a h1 _ _ _).mono ?_
   rintro e w' ⟨rfl, hk, hs⟩
   exact ⟨stTo_mk hk hs (by omega), _, rfl⟩
  ·obtain ⟨an, rfl⟩ : ∃ an : Nat, a = (an : Int) := ⟨a.toNat, by omega⟩
   by_cases h0 : l.length = 0
   ·have hz := iWrite_zero h hf (by omega) an 0 (some ⟨g, 0, none⟩)
    rw [h0]
    refine hz.mono ?_
    rintro e w' ⟨rfl, hk, hs⟩
    exact ⟨stTo_mk hk hs (by omega), _, rfl⟩
   ·by_cases h7 : 70656 < an + l.length
    ·refine (iWrite_long h hf (by omega) an _ _ (by omega) (by omega) hL (by omega) _).mono ?_
     rintro e w' ⟨rfl, hk, hs⟩
     exact ⟨stTo_mk hk hs (by omega), _, rfl⟩
    ·refine (iWrite_stC h hcm hf (by omega) an (an + l.length) _ l g 0 l.length hl.at (Nat.le_refl _) hgF hl.lt rfl (by omega) (by omega) rfl).mono ?_
     rintro e w' ⟨hk, ⟨-, rfl, Pg', f', e1, e2, e3, e4, hs⟩ | ⟨-, rfl, hs⟩⟩
     ·exact ⟨stTo_mk hk hs (by omega), _, rfl⟩
     ·exact ⟨stTo_mk hk hs.1 (by omega), _, rfl⟩
theorem iResize_free (h : St w s m c F N ino Pg Cm fs o u) (hcm : GoodX noSk N ino Cm cs) (hu : u < 700000) (n t : Int) :
  Calls Tryz.prog 47 #[.pointer (some ⟨s, 0, none⟩), .int .i64 n, .int .i64 t] w fun e w' => StTo w s m c F N ino Cm o (u + 303) w' /\ ∃ r : Int, e = .returned (.int .i64 r) := by
 rcases gErr_cases ino fs n with hn | ⟨i, f, rfl, hf⟩
 ·refine (iResize_err h n t hn (by omega)).mono ?_
  rintro e w' ⟨rfl, hk, hs⟩
  exact ⟨stTo_mk hk hs (by omega), _, rfl⟩
 ·by_cases h1 : t < 0 \/ 70656 < t
  ·refine (iResize_no h hf (by omega) t h1).mono ?_
   rintro e w' ⟨hk, hs, r, rfl⟩
   exact ⟨stTo_mk hk hs (by omega), _, rfl⟩
  ·obtain ⟨tn, rfl⟩ : ∃ tn : Nat, t = (tn : Int) := ⟨t.toNat, by omega⟩
   refine (iResize_st h hcm hf (by omega) tn (by omega)).mono ?_
   rintro e w' ⟨hk, ⟨-, rfl, Pg', f', e1, e2, e3, e4, hs⟩ | ⟨-, rfl, hs⟩⟩
   ·exact ⟨stTo_mk hk hs (by omega), _, rfl⟩
   ·exact ⟨stTo_mk hk hs (by omega), _, rfl⟩
theorem iSet_free (h : St w s m c F N ino Pg Cm fs o u) (hu : u < 700000) (n a b : Int) :
  Calls Tryz.prog 49 #[.pointer (some ⟨s, 0, none⟩), .int .i64 n, .int .i64 a, .int .i64 b] w fun e w' => StTo w s m c F N ino Cm o (u + 303) w' /\ ∃ r : Int, e = .returned (.int .i64 r) := by
 rcases gErr_cases ino fs n with hn | ⟨i, f, rfl, hf⟩
 ·refine (iSet_err h n a b hn (by omega)).mono ?_
  rintro e w' ⟨rfl, hk, hs⟩
  exact ⟨stTo_mk hk hs (by omega), _, rfl⟩
 ·refine (iSet_any h hf (by omega) a b).mono ?_
  rintro e w' ⟨hk, r, Pg', f2, rfl, -, hs, -⟩
  exact ⟨stTo_mk hk hs (by omega), _, rfl⟩
theorem iDrop_free (h : St w s m c F N ino Pg Cm fs o u) (hu : u < 700000) (n : Int) :
  Calls Tryz.prog 22 #[.pointer (some ⟨s, 0, none⟩), .int .i64 n] w fun e w' => StTo w s m c F N ino Cm o (u + 303) w' /\ ∃ r : Int, e = .returned (.int .i64 r) := by
 rcases gErr_cases ino fs n with hn | ⟨i, f, rfl, hf⟩
 ·refine (iDrop_err h n hn (by omega)).mono ?_
  rintro e w' ⟨rfl, hk, hs⟩
  exact ⟨stTo_mk hk hs (by omega), _, rfl⟩
 ·refine (iDrop_st h hf (by omega)).mono ?_
  rintro e w' ⟨rfl, hk, Pg', hs⟩
  exact ⟨stTo_mk hk hs (by omega), _, rfl⟩
theorem iMake_free (h : St w s m c F N ino Pg Cm fs o u) (hcm : GoodX noSk N ino Cm cs) (hN : N <= 97) (hu : u < 700000) (k md : Int) :
  Calls Tryz.prog 8 #[.pointer (some ⟨s, 0, none⟩), .int .i64 k, .int .i64 md] w fun e w' => StTo w s m c F N ino Cm o (u + 303) w' /\ ∃ a r : Int, e = .returned (.tuple #[.int .i64 a, .int .i64 r]) := by
 by_cases hb : (1 <= k /\ k <= 3) /\ 0 <= md /\ md <= 4095
 ·cases hq : freeTo (Pg 1) 1 ino 4096 with
  | nil =>
   refine (iMake_full h hcm k md (by omega) (by omega) (by omega) (by omega) hq (by omega)).mono ?_
   rintro e w' ⟨rfl, hk, hs⟩
   exact ⟨stTo_mk hk hs (by omega), _, _, rfl⟩
  | cons q rest =>
   obtain ⟨kn, rfl⟩ : ∃ kn : Nat, k = (kn : Int) := ⟨k.toNat, by omega⟩
   obtain ⟨mn, rfl⟩ : ∃ mn : Nat, md = (mn : Int) := ⟨md.toNat, by omega⟩
   refine (iMake_st h kn mn q rest (by omega) (by omega) (by omega) hq hN (by omega)).mono ?_
   rintro e w' ⟨rfl, hk, hs⟩
   exact ⟨stTo_mk hk hs (by omega), _, _, rfl⟩
 ·refine (iMake_bad k md hb).mono ?_
  rintro e w' ⟨rfl, rfl⟩
  exact ⟨stTo_mk (Keeps.refl _ _) h (by omega), _, _, rfl⟩
theorem iRead_free (h : St w s m c F N ino Pg Cm fs o u) (hu : u < 700000) (n a k : Int) :
  Calls Tryz.prog 16 #[.pointer (some ⟨s, 0, none⟩), .int .i64 n, .int .i64 a, .int .i64 k] w fun e w' => StTo w s m c F N ino Cm o (u + 303) w' /\ ∃ (v : Value) (r : Int) (l : List UInt8), e = .returned (.tuple #[v, .int .i64 r]) /\ rowY w' w.heap.size v l /\ l.length <= 70656 := by
 rcases gErr_cases ino fs n with hn | ⟨i, f, rfl, hf⟩
 ·refine (iRead_err h n a k hn (by omega)).mono ?_
  rintro e w' ⟨rfl, hk, hs⟩
  exact ⟨stTo_mk hk hs (by omega), _, _, [], rfl, World.ownsRow_nil _ _ _ _, Nat.zero_le _⟩
 ·have hz := (h.good.file i f hf).size
  refine (iRead_any h hf (by omega) a k).mono ?_
  rintro e w' ⟨v, r, l, rfl, hr, hk, hs, ⟨-, rfl, rfl⟩ | ⟨-, -, rfl, rfl⟩⟩
  ·exact ⟨stTo_mk hk hs (by omega), _, _, _, rfl, hr, Nat.zero_le _⟩
  ·exact ⟨stTo_mk hk hs (by omega), _, _, _, rfl, hr, by rw [List.length_take, List.length_drop]; omega⟩
end
end
section
open Go.RowKit
theorem ownB.not {w : World} {b : Nat} {L : List UInt8} {ad : Addr} {v : Value} (h : ownB w b L) (hc : w.cell? ad = some v) (hv : ∀ n, v ≠ .int .u8 n) : ad.block ≠ b := fun e => by
 have hp := plain_addr hc
 rw [hp, e, cell_of_block h] at hc
 simp only [List.getElem?_toArray, List.getElem?_map] at hc
 cases hq : L[ad.off]? with
 | none => rw [hq] at hc; cases hc
 | some x =>
  rw [hq] at hc
  exact hv _ (Option.some.inj hc).symm
theorem encOp_not (o : OpS) (n : Int) : encOp o ≠ .int .u8 n := by cases o <;> simp [encOp]
theorem AnyAt.keepB {w w' : World} {d : DL} {S : DiskS} {F : Nat -> Prop} {b : Nat} {L : List UInt8} (h : AnyAt w d S F) (hb : ownB w b L) (hF : ¬ F b) (k : Keeps (fun i => i = b) w w') : AnyAt w' d S F := by
 rcases h with ⟨h, hf⟩ | ⟨h, hf⟩
 ·refine .inl ⟨?_, hf⟩
  have hne : ∀ i, d.cutFoot S.waits i -> ¬ i = b := fun i hi e => hF (e ▸ hf i hi)
  obtain ⟨h1, ⟨a, e1, e2, e3⟩, ⟨ad, c, e4, e5, e6⟩, h4⟩ := h
  refine ⟨h1.keep k (hne _ (.inl rfl)) (fun i hi => hne i (.inr hi)), ⟨a, e1, e2, fun q hq => ⟨fun j u hu => ?_, Nat.lt_of_lt_of_le (e3 q hq).2 k.size⟩⟩, ⟨ad, c, e4, fun j s hj => ?_, e6⟩, h4⟩
  ·refine k.cell ((e3 q hq).1 j u hu) (hb.not ((e3 q hq).1 j u hu) ?_)
   rw [List.getElem?_map] at hu
   cases ho : S.ops[j]? with
   | none => rw [ho] at hu; cases hu
   | some o => rw [ho] at hu; obtain rfl := Option.some.inj hu; exact encOp_not o
  ·exact k.cell (e5 j s hj) (hb.not (e5 j s hj) (fun n => by simp))
 ·refine .inr ⟨?_, hf⟩
  have hne : ∀ i, d.foot S.waits i -> ¬ i = b := fun i hi e => hF (e ▸ hf i hi)
  refine h.keep k hne (fun i hi e => ?_)
  obtain ⟨ad, c, e4, e5, e6⟩ := h.first
  have hpos : 0 < S.first.length := by rw [h.flen]; exact h.plates.pos
  have hc := e5 0 S.first[0] (List.getElem?_eq_getElem hpos)
  have h1 := hb.not hc (fun n => by simp)
  rw [add_block] at h1
  rw [e4] at hi
  exact h1 ((Option.some.inj hi).trans e)
theorem LogIn.keepB {w w' : World} {p : Nat} {d : DL} {S : DiskS} {size rec : Nat} {F : Nat -> Prop} {b : Nat} {L : List UInt8} (h : LogIn w p d S size rec F) (hb : ownB w b L) (hF : ¬ F b) (k : Keeps (fun i => i = b) w w') : LogIn w' p d S size rec F := by
 refine ⟨k.heap h.heap (fun e => ?_), h.disk.keepB hb hF k, h.off⟩
 have e2 : p = b := e
 have h1 := h.heap
 rw [e2, hb] at h1
 simp only [Option.some.injEq, Obj.cells.injEq] at h1
 exact absurd h1.2.1 (by decide)
end
section
open Go.RowKit
section
variable {w w' : World} {c : Nat} {L : CLay} {C : CS}
theorem CacheAt.keepB7 (h : CacheAt w c L C) {g : Nat} {l : List UInt8} (hg : ownB w g l) (hF : ¬ L.F g) (hd : ∀ n g' cap, L.dv n = some (.slice (some ⟨g', 0, none⟩) 512 cap) -> g' ≠ g) (k : Keeps (fun i => i = g) w w') : CacheAt w' c L C := by
 obtain ⟨es, kk, hm⟩ := h.dmap
 obtain ⟨es', kk', hu⟩ := h.umap
 have hmap : ∀ m e k0, w.heap[m]? = some (.map e k0) -> m ≠ g := fun m e k0 hm e1 => by
  subst e1
  rw [show w.heap[m]? = _ from hg] at hm
  cases hm
 exact {
  heap := k.heap h.heap (fun e => by
   have e1 : c = g := e
   have h1 := h.heap
   rw [e1, show w.heap[g]? = _ from hg] at h1
   simp only [Option.some.injEq, Obj.cells.injEq] at h1
   exact absurd h1.2.1 (by decide))
  log := h.log.keepB hg hF k
  lt := fun i hi => Nat.lt_of_lt_of_le (h.lt i hi) k.size
  dirty := h.dirty.keep k (hmap _ _ _ hm)
  bytes := fun n v hv => by
   obtain ⟨g', cap, bs, h1, h2, h3, h4, h5⟩ := h.bytes n v hv
   subst h2
   exact ⟨g', cap, bs, h1, rfl, fun j hj => k.cell (h3 j hj) (by rw [add_block]; exact hd n g' cap hv), h4, h5⟩
  clean := h.clean
  used := h.used.keep k (hmap _ _ _ hu)
  offc := h.offc
  offd := h.offd
  offu := h.offu
  ne := h.ne
  pages := h.pages
  fits := h.fits
  few := h.few
  ub := h.ub }
end
def heldC (N : Nat) (Cm : Nat -> List UInt8) (g : Nat) : Nat -> List UInt8 := fun k => if k = N + 1 + g then [7] else Cm k
theorem heldC_lt {N : Nat} {Cm : Nat -> List UInt8} {g k : Nat} (h : k < N) : heldC N Cm g k = Cm k := if_neg (by omega)
section
variable {w w' : World} {c g : Nat} {F : Nat -> Prop} {size N : Nat} {Pg Cm : Nat -> List UInt8} {D : Int -> Bool} {o u : Nat}
theorem Pc.held (h : Pc w c F size N Pg Cm D o u) (hb : Below w.heap.size w w') (hg : w.heap.size <= g) (hl : g < w'.heap.size) : Pc w' c F size N Pg (heldC N Cm g) D o u := by
 obtain ⟨L, C, h⟩ := h
 refine ⟨L, C, h.at_.below hb, h.sz, h.nn, h.made, h.ops, h.uses, h.pg, fun n hn => by rw [heldC_lt hn]; exact h.cm n hn, h.dirty, h.room, h.foot, fun i hi => Nat.lt_of_lt_of_le (h.lt i hi) hb.size, Nat.lt_of_lt_of_le h.p0 hb.size, fun q hq => ?_, h.quiet⟩
 by_cases e : q = g
 ·subst e
  refine ⟨hl, fun hh => by have := h.at_.lt q hh; omega, fun n cap hd => ?_⟩
  obtain ⟨g', cap', bs, -, h2, h3, h4, -⟩ := h.at_.bytes n _ hd
  rw [Value.slice.injEq] at h2
  have e2 : q = g' := congrArg Addr.block (Option.some.inj h2.1)
  have h5 := World.block_lt_of_cell? w _ (h3 0 (by omega))
  rw [add_block] at h5
  have h6 : g' < w.heap.size := h5
  omega
 ·refine (h.sep.mono hb.size) q (hq.imp id (fun h1 => ?_))
  unfold heldC at h1
  rw [if_neg (by omega)] at h1
  exact h1
theorem Pc.keepC {l : List UInt8} (h : Pc w c F size N Pg Cm D o u) (hc : Cm (N + 1 + g) = [7]) (hb : ownB w g l) (k : Keeps (fun i => i = g) w w') : Pc w' c F size N Pg Cm D o u := by
 obtain ⟨L, C, h⟩ := h
 obtain ⟨-, h2, h3⟩ := h.sep g (.inr hc)
 exact ⟨L, C, h.at_.keepB7 hb h2 (fun n g' cap e e2 => h3 n cap (by rw [<- e2]; exact e)) k, h.sz, h.nn, h.made, h.ops, h.uses, h.pg, h.cm, h.dirty, h.room, h.foot, fun i hi => Nat.lt_of_lt_of_le (h.lt i hi) k.size, Nat.lt_of_lt_of_le h.p0 k.size, h.sep.mono k.size, h.quiet⟩
end
theorem GoodX.same {sk : Nat -> Prop} {N ino : Nat} {Pg Pg' : Nat -> List UInt8} {fs : Nat -> Option FileA} (h : GoodX sk N ino Pg fs) (he : ∀ p, p < N -> Pg' p = Pg p) : GoodX sk N ino Pg' fs := by
 have h0 := h.nf
 have hi : ∀ i f, fs i = some f -> Pg' (3 + i / 8) = Pg (3 + i / 8) := fun i f hf => he _ (by have := h.tabLt (h.out i f hf).2; omega)
 have hs : ∀ i f, fs i = some f -> ∀ j, Pg' (f.slot j) = Pg (f.slot j) := fun i f hf j => he _ ((h.file i f hf).lt (by omega) j)
 refine ⟨h.n4, h.nf, h.h8, h.i5, fun p hp => by rw [he p hp]; exact h.len p hp, fun i hi => by rw [he 1 (by omega)]; exact h.ibit i hi, h.out, h.file, fun i f hf => ?_, fun i f hf hk => ?_, fun i f hf k hk => ?_, fun p hp1 hp2 => by rw [he 2 (by omega)]; exact h.pbit p hp1 hp2, h.apart⟩
 ·have h1 := h.tab i f hf
  unfold tabOk at h1 ⊢
  rw [hi i f hf]; exact h1
 ·rw [hi i f hf, hs i f hf]; exact h.node i f hf hk
 ·rw [hs i f hf]; exact h.data i f hf k hk
section
variable {w w' : World} {s m c ino g : Nat} {F : Nat -> Prop} {N : Nat} {Pg Cm : Nat -> List UInt8} {fs : Nat -> Option FileA} {o u : Nat}
theorem St.held (h : St w s m c F N ino Pg Cm fs o u) (hb : Below w.heap.size w w') (hg : w.heap.size <= g) (hl : g < w'.heap.size) : St w' s m c F N ino Pg (heldC N Cm g) fs o u := by
 obtain ⟨D, hp⟩ := h.pc
 exact ⟨h.map.below hb, h.store.below hb, h.mF, h.sF, h.few, ⟨D, hp.held hb hg hl⟩, h.good⟩
theorem St.more2 {o' u' : Nat} (h : St w s m c F N ino Pg Cm fs o u) (ho : o <= o') (hu : u <= u') : St w s m c F N ino Pg Cm fs o' u' := by
 obtain ⟨D, hp⟩ := h.pc
 exact ⟨h.map, h.store, h.mF, h.sF, h.few, ⟨D, hp.more ho hu⟩, h.good⟩
theorem St.keepC {l : List UInt8} (h : St w s m c F N ino Pg Cm fs o u) (hc : Cm (N + 1 + g) = [7]) (hb : ownB w g l) (k : Keeps (fun i => i = g) w w') : St w' s m c F N ino Pg Cm fs o u := by
 obtain ⟨D, hp⟩ := h.pc
 have hm : ¬ m = g := fun e => by
  have h1 := h.map
  unfold mapB at h1
  rw [e, show w.heap[g]? = _ from hb] at h1
  simp at h1
 have hs : ¬ s = g := fun e => by
  have h1 := h.store
  unfold storeB at h1
  rw [e, show w.heap[g]? = _ from hb] at h1
  simp at h1
 exact ⟨h.map.keep k hm, h.store.keep k hs, h.mF, h.sF, h.few, ⟨D, hp.keepC hc hb k⟩, h.good⟩
end
end
section
set_option maxRecDepth 100000
set_option maxHeartbeats 1000000
open Go.RowKit
section
variable {w w' : World} {F : Nat -> Prop} {r m : Nat}
theorem RSide.six {Z : Nat -> Prop} {lb : Nat} {fl : List RF} (h : RSide w Z lb fl) (j : Nat) (hj : j < 16) : ∃ k0 m0 l0 b0 ba bc d0 da dc ind, w.cell? ⟨lb, j * 6, none⟩ = some (.int .i64 k0) /\ w.cell? ⟨lb, j * 6 + 1, none⟩ = some (.int .i64 m0) /\ w.cell? ⟨lb, j * 6 + 2, none⟩ = some (.int .i64 l0) /\
  w.cell? ⟨lb, j * 6 + 3, none⟩ = some (.slice ba (List.length b0) bc) /\ w.cell? ⟨lb, j * 6 + 4, none⟩ = some (.slice da (List.length d0) dc) /\ w.cell? ⟨lb, j * 6 + 5, none⟩ = some (.int .i64 ind) /\ RF.ok w Z ⟨k0, m0, l0, b0, ba, bc, d0, da, dc, ind⟩ := by
 have hj' : j < fl.length := by rw [h.len]; exact hj
 have hrow := h.row j hj'
 have hok := h.ok j hj'
 generalize fl[j] = f0 at hrow hok
 obtain ⟨k0, m0, l0, b0, ba, bc, d0, da, dc, ind⟩ := f0
 exact ⟨k0, m0, l0, b0, ba, bc, d0, da, dc, ind, hrow 0 _ rfl, hrow 1 _ rfl, hrow 2 _ rfl, hrow 3 _ rfl, hrow 4 _ rfl, hrow 5 _ rfl, hok⟩
theorem v6Set_r (h : Ref6 w F r m) (hFl : ∀ i, F i -> i < w.heap.size) (i mode links : Int) : Calls Tryz.prog 50 #[.pointer (some ⟨r, 0, none⟩), .int .i64 i, .int .i64 mode, .int .i64 links] w fun e w' => R6To w F r m w' /\ ∃ c : Int, e = .returned (.int .i64 c) := by
 obtain ⟨lb, lc, km, kb, kc, fl, kl, h1, h2, -⟩ := h.heap
 have c1 : w.cell? ⟨r, 1, none⟩ = some (.slice (some ⟨lb, 0, none⟩) 16 lc) := cell_of_block h1 1
 have HLk := hid (v6look_any h i)
 have HFl := hid hFl
 have HR := hid h
 have HSd := hid h2
 clear h h1 h2 hFl
 go_enter Tryz.func50, Tryz.ntmps50
 go_wp2_with fail
 refine HLk.out.mono ?_
 clear HLk
 rintro e w1 ⟨h1, n, rfl, hn⟩
 obtain rfl := h1.symm
 clear h1
 rcases hn with rfl | rfl | ⟨rfl, hi1, hi2⟩
 ·go_wp2_with fail
  go_ret
  exact ⟨R6To.refl HR.out, 2, rfl⟩
 ·go_wp2_with fail
  go_ret
  exact ⟨R6To.refl HR.out, 4, rfl⟩
 ·obtain ⟨j, rfl⟩ : ∃ j : Nat, i = (j : Int) := ⟨i.toNat, by omega⟩
  by_cases hbad : mode < 0 \/ 4095 < mode \/ links < 0 \/ 65535 < links
  ·have HK := hid (R6To.refl HR.out)
   clear HSd HR
   by_cases b1 : mode < 0
   ·clear hbad
    go_wp2_with fail
    go_ret
    exact ⟨HK.out, 2, rfl⟩
   ·by_cases b2 : 4095 < mode
    ·clear hbad
     go_wp2_with fail
     go_ret
     exact ⟨HK.out, 2, rfl⟩
    ·by_cases b3 : links < 0
     ·clear hbad
      go_wp2_with fail
      go_ret
      exact ⟨HK.out, 2, rfl⟩
     ·have b4 : 65535 < links := by omega
      clear hbad
      go_wp2_with fail
      go_ret
      exact ⟨HK.out, 2, rfl⟩
  ·have b1 : ¬ mode < 0 := fun e => hbad (.inl e)
   have b2 : ¬ 4095 < mode := fun e => hbad (.inr (.inl e))
   have b3 : ¬ links < 0 := fun e => hbad (.inr (.inr (.inl e)))
   have b4 : ¬ 65535 < links := fun e => hbad (.inr (.inr (.inr e)))
   clear hbad
   obtain ⟨k0, m0, l0, b0, ba, bc, d0, da, dc, ind, x0, x1, x2, x3, x4, x5, hok⟩ := HSd.out.six j (by omega)
   have HOk := hid hok
   clear hok HSd
   go_wp2_with fail
   obtain ⟨w2, hw2⟩ : ∃ w2, w2 = w.alloc (.cells #[.int .i64 k0, .int .i64 mode, .int .i64 links, .slice ba b0.length bc, .slice da d0.length dc, .int .i64 ind] 94) := ⟨_, rfl⟩
   have hb2 : Below w.heap.size w w2 := by rw [hw2]; exact (Below.refl _ w).alloc (Nat.le_refl _) _
   rw [<- hw2]
   have hok2 : RF.ok w2 (zOf F r m) ⟨k0, mode, links, b0, ba, bc, d0, da, dc, ind⟩ := by
    have := HOk.out.keep (Keeps.of_below hb2 : Keeps (fun _ => False) w w2) (fun _ _ _ e => e) (fun _ _ hn => hn)
    exact ⟨this.bytes, this.bz, this.data, this.dz, this.bl, this.dl⟩
   have HSe := hid (v6set_any (HR.out.below hb2) (fun i hi => Nat.lt_of_lt_of_le (HFl.out i hi) hb2.size) j (by omega) ⟨k0, mode, links, b0, ba, bc, d0, da, dc, ind⟩ hok2)
   have HB2 := hid hb2
   clear hw2 hb2 hok2 x0 x1 x2 x3 x4 x5 c1
   refine HSe.out.mono ?_
   clear HSe
   rintro e w3 ⟨rfl, hk3, hr3, -⟩
   have HK3 := hid hk3
   have HR3 := hid hr3
   clear hk3 hr3
   go_wp2_with fail
   go_ret
   exact ⟨⟨(Keeps.of_below HB2.out : Keeps (fun i => i = r \/ i = m) w w2).trans HK3.out (fun i e => .inl (.inl e)), m, .inl rfl, HR3.out⟩, 0, rfl⟩
end
end
section
open Go.RowKit
theorem wpList_append_row {w : World} {ops : Array Oper} {rest : List Oper} {o : Oper} {a : Act} {Q : Exit -> Act -> World -> Prop} {t e : TypeId} {i0 : TypeInfo} {z : Value} {bb : Nat} (ht : Tryz.prog.underlying t = some (.slice e)) (hi : Tryz.prog.info? e = some i0) (hz0 : i0.zero = some z) (hz1 : i0.size = 1) (hz2 : i0.bytes = bb) (hzc : z.cells.size = 1) (hbb : bb <= 8)
  (hgd : o.guard = none) (s x : Operand) (ho : o.op = .call { callee := .builtin .append, args := #[s, x], argTypes := #[t, t] }) (base : Nat) (v : Value) (n : Nat) (xs : List Value) (hs : a.eval s = v) (hown : w.ownsRow base e 1 v n xs)
  (sa : Option Addr) (m c : Nat) (news : List Value) (hx : a.eval x = .slice sa m c) (hl : news.length = m * 1) (hc : 0 < m -> ∃ ad, sa = some ad /\ ∀ j u, news[j]? = some u -> w.cell? (ad.add j) = some u) (h1 : ∀ u ∈ news, u.oneCell' = true)
  (hn : n + m <= 200000) (hbase : base <= w.heap.size)
  (h : ∀ v' w', w'.ownsRow base e 1 v' (n + m) (xs ++ news) -> w.grownBy w' v.ownBlock -> (v'.ownBlock = v.ownBlock \/ v'.ownBlock = some w.heap.size) -> wpList Tryz.prog ops Q rest (a.put o.dst v') w') : wpList Tryz.prog ops Q (o :: rest) a w := by
 rcases Nat.eq_zero_or_pos m with rfl | hpos
 ·obtain rfl : news = [] := List.eq_nil_of_length_eq_zero (by simpa using hl)
  rw [List.append_nil, Nat.add_zero] at h
  have hrun : (Builtin.append_ #[t, t] o.type #[v, .slice sa 0 c]).run Tryz.prog w = .ok v w := by
   rcases hown.2 with ⟨rfl, -⟩ | ⟨g, cap, cur, rfl, -, -, hle, -⟩
   ·exact run_append_noneP t o.type e i0 ht hi sa c
   ·exact run_append_more t o.type e i0 ht hi _ n cap hle sa c
  refine wpList_plain hgd fun K hK => ?_
  unfold Oper.wp
  simp [execOp, ho, resolve, invoke, builtin, hs, hx, hrun, Result.andThen]
  exact hK _ _ (h v w hown (grown_refl _ _) (.inl rfl))
 ·obtain ⟨ad, rfl, hcell⟩ := hc hpos
  have hmul : (n + m) * bb <= 140737488355328 := Nat.le_trans (Nat.mul_le_mul hn hbb) (by omega)
  refine wpList_append_lies _ hgd s x t ho base e i0 z 1 bb ht hi hz0 hz1 hz2 hzc (by omega) v n xs hs hown ad m c news hx hl hcell h1 hpos (by unfold maxLen; omega) hmul hbase w.heap.size rfl ?_
  intro g cap w1 hown1 hgr hat _
  refine h _ w1 hown1 hgr ?_
  rcases hat with e | e
  ·exact .inl e.symm
  ·exact .inr (by rw [e]; rfl)
end
end Go.Proofs.YtamfgnfclamamaaGreat
