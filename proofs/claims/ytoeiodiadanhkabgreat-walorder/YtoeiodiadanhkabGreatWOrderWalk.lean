/- The walk of WalOrder. -/
import Derived.Test.YtoeiodiadanhkabGreatKeepF
import Derived.Test.YtoeiodiadanhkabGreatBaseD
import Derived.Test.YtoeiodiadanhkabGreatBaseA
namespace Go.Proofs.YtoeiodiadanhkabGreat
open Go.RowKit
/-- The cells of pages. -/
def pcells (ps : List PageS) : List Value := ps.flatMap (fun p => [.int .i64 p.n, p.val])
theorem length_pcells (ps : List PageS) : (pcells ps).length = ps.length * 2 := by
  unfold pcells
  rw [List.length_flatMap]
  simp [List.map_const', List.sum_replicate_nat]
theorem pcells_at : ∀ (ps : List PageS) (i : Nat) (h : i < ps.length), (pcells ps)[i * 2]? = some (.int .i64 ps[i].n) ∧ (pcells ps)[i * 2 + 1]? = some ps[i].val
  | [], i, h => by simp at h
  | p :: ps, 0, _ => ⟨rfl, rfl⟩
  | p :: ps, i + 1, h => by
    have ih := pcells_at ps i (by simpa using h)
    have e : pcells (p :: ps) = [.int .i64 p.n, p.val] ++ pcells ps := rfl
    rw [e, List.getElem?_append_right (by simp; omega), List.getElem?_append_right (by simp; omega)]
    have e1 : (i + 1) * 2 - [Value.int .i64 p.n, p.val].length = i * 2 := by simp; omega
    have e2 : (i + 1) * 2 + 1 - [Value.int .i64 p.n, p.val].length = i * 2 + 1 := by simp; omega
    rw [e1, e2]
    exact ih
theorem row_pcells {w : World} {K : Nat} {v : Value} {ps : List PageS} (hrow : w.ownsRow K 35 2 v ps.length (pcells ps)) : ∃ pa cap, v = .slice pa ps.length cap ∧ pagesAt w pa ps ∧ ∀ ad, pa = some ad → K ≤ ad.block := by
  by_cases h0 : 0 < ps.length
  · obtain ⟨g, cap, rfl, h1, h2⟩ := hrow.form h0
    refine ⟨some ⟨g, 0, none⟩, cap, rfl, fun j hj => ⟨g, 0, rfl, fun i hi => ?_⟩, fun ad e => by cases e; exact h1⟩
    obtain ⟨a, b⟩ := pcells_at ps i hi
    have c0 := hrow.cellAt (i * 2) (by omega)
    have c1 := hrow.cellAt (i * 2 + 1) (by omega)
    rw [a] at c0
    rw [b] at c1
    refine ⟨?_, ?_⟩
    · rw [Nat.zero_add]; exact c0
    · rw [Nat.zero_add]; exact c1
  · have e0 : ps = [] := List.eq_nil_of_length_eq_zero (by omega)
    subst e0
    rcases Joins.ownsRow_forms hrow with ⟨rfl, -⟩ | ⟨g, cap, rfl⟩
    · exact ⟨none, 0, rfl, fun j hj => by simp at hj, fun ad e => by cases e⟩
    · exact ⟨some ⟨g, 0, none⟩, cap, rfl, fun j hj => by simp at hj, fun ad e => by cases e; exact (hrow.lt g rfl).1⟩
theorem pagesAt.keep {w w' : World} {pa : Option Addr} {ps : List PageS} {G : Nat → Prop} (h : pagesAt w pa ps) (k : Keeps G w w') (hG : ∀ ad, pa = some ad → ¬ G ad.block) : pagesAt w' pa ps := fun j hj => by
  obtain ⟨b, o, e, hc⟩ := h j hj
  exact ⟨b, o, e, fun i hi => ⟨k.cell (hc i hi).1 (show ¬ G b from hG ⟨b, o, none⟩ e), k.cell (hc i hi).2 (show ¬ G b from hG ⟨b, o, none⟩ e)⟩⟩
/-- Two logs beside one another, over disks that stand alike. -/
structure Both (w0 w : World) (pa pb : Nat) (da db : DL) (S : DiskS) (size n k : Nat) (Fa Fb : Nat → Prop) : Prop where
  ma : Mid w0 w pa da S size n k Fa
  mb : Mid w0 w pb db S size n k Fb
  ta : TwoAt w da S Fa
  tb : TwoAt w db S Fb
  apart : ∀ i, Fa i → ¬ Fb i
  fva : ∀ i, da.fv.ownBlock = some i → ¬ Fb i ∧ i < w.heap.size
  fvb : ∀ i, db.fv.ownBlock = some i → ¬ Fa i ∧ i < w.heap.size
  offa : ¬ Fb pa
  offb : ¬ Fa pb
theorem Both.next {w0 w w' : World} {pa pb : Nat} {da db : DL} {S : DiskS} {size n k : Nat} {Fa Fb : Nat → Prop} (h : Both w0 w pa pb da db S size n k Fa Fb) (hb : Below w.heap.size w w') : Both w0 w' pa pb da db S size n k Fa Fb :=
  ⟨h.ma.next hb, h.mb.next hb, h.ta.below hb, h.tb.below hb, h.apart, fun i hi => ⟨(h.fva i hi).1, Nat.lt_of_lt_of_le (h.fva i hi).2 hb.size⟩, fun i hi => ⟨(h.fvb i hi).1, Nat.lt_of_lt_of_le (h.fvb i hi).2 hb.size⟩, h.offa, h.offb⟩
theorem Mid.keepF {w0 w w' : World} {p : Nat} {d : DL} {S : DiskS} {size n k : Nat} {F G : Nat → Prop} (h : Mid w0 w p d S size n k F) (ht : TwoAt w d S F) (hk : Keeps G w w') (hF : ∀ i, F i → ¬ G i) (hv : ∀ i, d.fv.ownBlock = some i → ¬ G i) (hp : ¬ G p) (h0 : ∀ i, G i → w0.heap.size ≤ i) : Mid w0 w' p d S size n k F :=
  ⟨⟨hk.heap h.log.heap hp, (ht.keepF hk hF hv).any, h.log.off⟩, fun i hi => Nat.lt_of_lt_of_le (h.lt i hi) hk.size, h.new, h.len, h.waits, h.ops, h.made, h.fits, h.head, h.below.trans (hk.below h.below.size h0)⟩
theorem two_com {w w' : World} {d d' : DL} {S T : DiskS} {F : Nat → Prop} (h : TwoAt w d S F) (hA : (d' = d ∧ T = S ∧ Below w.heap.size w w') ∨ OwnAt w' d' T (fun i => F i ∨ (w.heap.size ≤ i ∧ i < w'.heap.size))) : TwoAt w' d' T (fun i => F i ∨ (w.heap.size ≤ i ∧ i < w'.heap.size)) := by
  rcases hA with ⟨rfl, rfl, hb⟩ | hA
  · rcases h.below hb with ⟨h1, h2, h3⟩ | ⟨h1, h3⟩
    · exact .inl ⟨h1, h2, fun i hi => .inl (h3 i hi)⟩
    · exact .inr ⟨h1, fun i hi => .inl (h3 i hi)⟩
  · exact .inr hA
section
variable {w0 w : World} {pa pb : Nat} {da db : DL} {S : DiskS} {size n k : Nat} {Fa Fb : Nat → Prop}
/-- The other log behind the first one's Commit. -/
theorem Both.half {w6 : World} (h : Both w0 w pa pb da db S size n k Fa Fb) (hk : Keeps Fa w w6) : Mid w0 w6 pb db S size n k Fb ∧ TwoAt w6 db S Fb :=
  ⟨h.mb.keepF h.tb hk (fun i hi hf => h.apart i hf hi) (fun i hi => (h.fvb i hi).1) h.offb h.ma.new, h.tb.keepF hk (fun i hi hf => h.apart i hf hi) (fun i hi => (h.fvb i hi).1)⟩
/-- Both behind their Commits. -/
theorem Both.com {w6 w7 : World} {da' db' : DL} (h : Both w0 w pa pb da db S size n k Fa Fb) (hn : 0 < n) (ps qs : List PageS) (bl bl' : Nat → List UInt8) (hbl : ∀ j, (bl j).length = 512) (hbl' : ∀ j, (bl' j).length = 512) (he : comS S size qs bl' = comS S size ps bl)
    (fa : da'.fv = da.fv) (hA : (da' = da ∧ comS S size ps bl = S ∧ Below w.heap.size w w6) ∨ OwnAt w6 da' (comS S size ps bl) (fun i => Fa i ∨ (w.heap.size ≤ i ∧ i < w6.heap.size))) (la : LogIn w6 pa da' (comS S size ps bl) size 0 (fun i => Fa i ∨ (w.heap.size ≤ i ∧ i < w6.heap.size))) (ka : Keeps Fa w w6)
    (fb : db'.fv = db.fv) (hB : (db' = db ∧ comS S size qs bl' = S ∧ Below w6.heap.size w6 w7) ∨ OwnAt w7 db' (comS S size qs bl') (fun i => Fb i ∨ (w6.heap.size ≤ i ∧ i < w7.heap.size))) (lb : LogIn w7 pb db' (comS S size qs bl') size 0 (fun i => Fb i ∨ (w6.heap.size ≤ i ∧ i < w7.heap.size))) (kb : Keeps Fb w6 w7) :
    Both w0 w7 pa pb da' db' (comS S size ps bl) size n (k + 1) (fun i => Fa i ∨ (w.heap.size ≤ i ∧ i < w6.heap.size)) (fun i => Fb i ∨ (w6.heap.size ≤ i ∧ i < w7.heap.size)) := by
  obtain ⟨mb6, tb6⟩ := h.half ka
  have ma6 := h.ma.com hn ps bl hbl la ka
  have ta6 := two_com h.ta hA
  have mb7 := mb6.com hn qs bl' hbl' lb kb
  have tb7 := two_com tb6 hB
  rw [he] at mb7 tb7
  have hs5 := ka.size
  have hs6 := kb.size
  have hda : ∀ i, da'.fv.ownBlock = some i → ¬ Fb i ∧ i < w.heap.size := fun i hi => h.fva i (by rw [← fa]; exact hi)
  have hdb : ∀ i, db'.fv.ownBlock = some i → ¬ Fa i ∧ i < w.heap.size := fun i hi => h.fvb i (by rw [← fb]; exact hi)
  have hFab : ∀ i, (Fa i ∨ (w.heap.size ≤ i ∧ i < w6.heap.size)) → ¬ Fb i := fun i hi hf => hi.elim (fun h1 => h.apart i h1 hf) (fun h1 => by have := h.mb.lt i hf; omega)
  have hpa := lt_of_heap h.ma.log.heap
  have hpb := lt_of_heap h.mb.log.heap
  refine ⟨ma6.keepF ta6 kb hFab (fun i hi => (hda i hi).1) h.offa h.mb.new, mb7, ta6.keepF kb hFab (fun i hi => (hda i hi).1), tb7, fun i hi hf => ?_, fun i hi => ⟨fun hf => ?_, by have := (hda i hi).2; omega⟩, fun i hi => ⟨fun hf => ?_, by have := (hdb i hi).2; omega⟩, fun hf => ?_, fun hf => ?_⟩
  · rcases hf with hf | hf
    · exact hFab i hi hf
    · rcases hi with hi | hi
      · have := h.ma.lt i hi; omega
      · omega
  · rcases hf with hf | hf
    · exact (hda i hi).1 hf
    · have := (hda i hi).2; omega
  · rcases hf with hf | hf
    · exact (hdb i hi).1 hf
    · have := (hdb i hi).2; omega
  · rcases hf with hf | hf
    · exact h.offa hf
    · omega
  · rcases hf with hf | hf
    · exact h.offb hf
    · omega
end
set_option maxRecDepth 100000 in
set_option maxHeartbeats 4000000 in
theorem walOrder_walk (x : Int) (hx0 : 0 ≤ x) (hx1 : x ≤ 255) (ds : List WDeed) (a : Option Addr) (c : Nat) (w : World) (hds : wdeedsAt w a ds) :
    Calls Tryz.prog 3 #[.int .u8 x, .slice a ds.length c] w fun e w' => e = .returned (.bool true) ∧ Below w.heap.size w w' := by
  obtain ⟨N, hN⟩ : ∃ N : Nat, (N : Int) = x % 20 + 1 := ⟨(x % 20 + 1).toNat, by omega⟩
  have hN1 : 1 ≤ N := by omega
  have hN2 : N ≤ 20 := by omega
  have hD := hid hds
  clear hds
  obtain ⟨i0, hi, hz0, hz1, hz2⟩ := info_parts infoPage
  have HI := hid hi
  clear hi
  go_enter Tryz.func3, Tryz.ntmps3
  go_wp2_with fail
  rw [← hN, show (N : Int) + 12 = ((N + 12 : Nat) : Int) by omega]
  clear hN
  refine (wopen_two (N + 12) N hN1 (by omega) (by omega) w).mono ?_
  rintro e w1 ⟨hb1, pa, da, qa, rfl, hp1, hL1, hC1, hcf1, hfv1⟩
  have HM1 := hid (Mid.start (by omega) (by omega) hL1 hb1)
  have HC1 := hid hC1
  have HCf1 := hid hcf1
  have HFv1 := hid hfv1
  have hs1 := hb1.size
  have hpl1 := lt_of_heap hL1.heap
  clear hb1 hL1 hC1 hcf1 hfv1
  go_wp2_with fail
  rw [show (N : Int) + 12 = ((N + 12 : Nat) : Int) by omega]
  refine (wopen_two (N + 12) N hN1 (by omega) (by omega) w1).mono ?_
  rintro e w2 ⟨hb2, pb, db, qb, rfl, hp2, hL2, hC2, hcf2, hfv2⟩
  have hMb := Mid.start (w0 := w1) (by omega) (by omega) hL2 hb2
  have hpl2 := lt_of_heap hL2.heap
  have HBo : Hid (Both w w2 pa pb da db (freshN (N + 12)) N (N + 12) 0 (fun i => w.heap.size ≤ i ∧ i < pa) (fun i => w1.heap.size ≤ i ∧ i < pb)) :=
    ⟨HM1.out.next hb2, ⟨hMb.log, hMb.lt, fun i hi => by omega, hMb.len, hMb.waits, hMb.ops, hMb.made, hMb.fits, hMb.head, HM1.out.below.trans (hb2.mono HM1.out.below.size)⟩, .inl ⟨HC1.out.below hb2, rfl, HCf1.out⟩, .inl ⟨hC2, rfl, hcf2⟩, fun i h1 h2 => by omega, fun i hi => ⟨fun h => by have := HFv1.out i hi; omega, by have := HFv1.out i hi; omega⟩, fun i hi => ⟨fun h => by have := hfv2 i hi; omega, by have := hfv2 i hi; omega⟩, fun h => by omega, fun h => by omega⟩
  clear hb2 hL2 hC2 hcf2 hfv2 hMb HM1 HC1 HCf1 HFv1 hp1 hp2 hpl1 hpl2 hs1
  go_wp2_with fail
  refine (wlive_any w2).mono ?_
  rintro e w3 ⟨rfl, hb3⟩
  have HBo3 := hid (HBo.out.next hb3)
  clear hb3 HBo
  go_wp2
  go_loopw [12] (fun i wr => ∃ (k : Nat) (da db : DL) (S : DiskS) (Fa Fb : Nat → Prop), k ≤ ds.length ∧ k ≤ 12 ∧ i = .int .i64 k ∧ Hid (Both w wr pa pb da db S N (N + 12) k Fa Fb)) (fun i _ => 12 - (intOf i).toNat)
  case atStart => exact ⟨0, _, _, _, _, _, by omega, by omega, rfl, HBo3⟩
  case round =>
    obtain ⟨k, da, db, S, Fa, Fb, hk1, hk2, rfl, hBo⟩ := hrel
    clear HBo3
    by_cases hlt : k < ds.length ∧ k < 12
    · obtain ⟨hka, hkb⟩ := hlt
      have hk0 : (0 : Int) ≤ (k : Int) := by omega
      have hka' : (k : Int) < (ds.length : Int) := by omega
      have hkb' : (k : Int) < 12 := by omega
      obtain ⟨ab, ao, rfl, hdk⟩ := hD.out k hka
      have hDk := hid (hdk k hka)
      obtain ⟨D, hDe⟩ : ∃ D, D = ds[k] := ⟨_, rfl⟩
      rw [← hDe] at hDk
      clear hdk hDe
      obtain ⟨q0, q1, q2, hin, -⟩ := hDk.out.below hBo.out.ma.below
      have HDp := hid (deed_any D.s D.ns D.na D.nc D.x wr hin)
      clear hin
      go_wp2_with fail
      refine HDp.out.mono ?_
      clear HDp
      rintro e w4 ⟨hb4, hd4⟩
      obtain ⟨qa4, pc, bs, rfl, hps, hbs, hpab⟩ := deedAny_pages hd4
      obtain ⟨m, hm⟩ : ∃ m, m = min D.ns.length 102 := ⟨_, rfl⟩
      rw [← hm] at hps hbs ⊢
      have hm2 : m ≤ 102 := by omega
      have HBo4 := hid (hBo.out.next hb4)
      have HPs := hid hps
      have HBs := hid hbs
      have HPb := hid hpab
      have HFa := hid hBo.out.ma.lt
      have HFb := hid hBo.out.mb.lt
      have hs4 := hb4.size
      clear hb4 hd4 hps hbs hm hBo q0 q1 q2 hpab
      go_wp2
      go_loopw [14, 15] (fun v i wi => ∃ j : Nat, j ≤ m ∧ i = .int .i64 ((m : Int) - 1 - (j : Int)) ∧ Hid (wi.ownsRow w4.heap.size 35 2 v j (pcells ((deedPs D.s D.ns bs m).reverse.take j))) ∧ Hid (Below w4.heap.size w4 wi)) (fun _ i _ => (intOf i + 1).toNat)
      case atStart => exact ⟨0, by omega, by go_num, World.ownsRow_nil _ _ _ _, Below.refl _ _⟩
      case round =>
        obtain ⟨j, hj, rfl, hO, hB⟩ := hrel
        by_cases hjm : j < m
        · obtain ⟨t, ht⟩ : ∃ t : Nat, (t : Int) = (m : Int) - 1 - (j : Int) := ⟨m - 1 - j, by omega⟩
          rw [← ht]
          have htm : t < m := by omega
          have ht0 : (0 : Int) ≤ (t : Int) := by omega
          have ht1 : (t : Int) < (m : Int) := by omega
          obtain ⟨b, o, rfl, hpc⟩ := HPs.out t (by rw [length_deedPs]; exact htm)
          obtain ⟨p0, p1⟩ := hpc t (by rw [length_deedPs]; exact htm)
          have HNew : Hid (pcells ((deedPs D.s D.ns bs m).reverse.take (j + 1)) = pcells ((deedPs D.s D.ns bs m).reverse.take j) ++ [.int .i64 (D.ns.getD t 0), .slice (some ⟨bs t, 0, none⟩) (plen D.s t) 512]) := by
            have hjr : j < (deedPs D.s D.ns bs m).reverse.length := by rw [List.length_reverse, length_deedPs]; exact hjm
            unfold Hid pcells
            rw [List.take_succ_eq_append_getElem hjr, List.flatMap_append, rev_at]
            have e : (deedPs D.s D.ns bs m).length - 1 - j = t := by rw [length_deedPs]; omega
            simp only [e, deedPs_at]
            rfl
          rw [deedPs_at] at p0 p1
          have c0 : wr.cell? ⟨b, o + t * 2, none⟩ = some (.int .i64 (D.ns.getD t 0)) := (hB.out.cell (p := ⟨b, o + t * 2, none⟩) (World.block_lt_of_cell? w4 _ p0)).trans p0
          have c1 : wr.cell? ⟨b, o + t * 2 + 1, none⟩ = some (.slice (some ⟨bs t, 0, none⟩) (plen D.s t) 512) := (hB.out.cell (p := ⟨b, o + t * 2 + 1, none⟩) (World.block_lt_of_cell? w4 _ p1)).trans p1
          have HT := hid ht
          have hsB := hB.out.size
          clear hpc p0 p1 ht
          generalize D.ns.getD t 0 = nv at *
          generalize plen D.s t = lv at *
          generalize bs t = B2 at *
          go_wp2_with (refine wpList_append_lies _ rfl (.tmp 68) (.tmp 73) 28 rfl w4.heap.size 35 i0 (.agg #[.int .i64 0, .slice none 0 0]) 2 32 Tryz.underlying28 HI.out hz0 hz1 hz2 rfl (by omega) u14 j _ rfl (hO.out.alloc _) ⟨wr.heap.size, 0, none⟩ 1 1 [.int .i64 nv, .slice (some ⟨B2, 0, none⟩) lv 512] rfl rfl (World.news_of_block (cs := #[.int .i64 nv, .slice (some ⟨B2, 0, none⟩) lv 512]) (block_new wr _)) (by intro u hu; rcases List.mem_cons.1 hu with rfl | hu; rfl; rw [List.mem_singleton.1 hu]; rfl) (by omega) (by unfold maxLen; omega) (by omega) (by simp; omega) (wr.heap.size + 1) (by simp) ?_; intro g2 cap2 w5 hown hgr hat hlt2; have HOw := hid hown; have HGr := hid hgr; clear hown hgr hat hlt2)
          have hal := hB.out.alloc hB.out.size (.cells #[.int .i64 nv, .slice (some ⟨B2, 0, none⟩) lv 512] 35)
          have hTt := HT.out
          refine ⟨⟨j + 1, by omega, by congr 1; omega, ?_, hal.trans (below_of_row HGr.out hal.size (fun i e => (hO.out.lt i e).1))⟩, by simp [intOf] <;> omega⟩
          unfold Hid
          rw [HNew.out]; exact HOw.out
        · obtain rfl : j = m := by omega
          rw [show (j : Int) - 1 - (j : Int) = -1 by omega]
          have hlr : (deedPs D.s D.ns bs j).reverse.length = j := by rw [List.length_reverse, length_deedPs]
          have hrow := hO.out
          rw [List.take_of_length_le (Nat.le_of_eq hlr)] at hrow
          have hrow2 : wr.ownsRow w4.heap.size 35 2 u14 (deedPs D.s D.ns bs j).reverse.length (pcells (deedPs D.s D.ns bs j).reverse) := by rw [hlr]; exact hrow
          obtain ⟨qb5, cap5, rfl, hqp, hqb⟩ := row_pcells hrow2
          rw [hlr]
          have hBo5 := HBo4.out.next hB.out
          have hsB := hB.out.size
          have hbs5 : ∀ i, i < j → ownB wr (bs i) (rowX D.x i) := fun i hi => (HBs.out i hi).2.below hB.out
          have hps5 : pagesAt wr qa4 (deedPs D.s D.ns bs j) := fun i hi => by
            obtain ⟨b, o, e, hc⟩ := HPs.out i hi
            exact ⟨b, o, e, fun z hz => ⟨(hB.out.cell (p := ⟨b, o + z * 2, none⟩) (World.block_lt_of_cell? w4 _ (hc z hz).1)).trans (hc z hz).1, (hB.out.cell (p := ⟨b, o + z * 2 + 1, none⟩) (World.block_lt_of_cell? w4 _ (hc z hz).2)).trans (hc z hz).2⟩⟩
          have hca := commit_any_fv (deedPs D.s D.ns bs j) qa4 pc (rowX D.x) wr hBo5.ma.log hBo5.ma.lt (by rw [hBo5.ma.len]; omega) hps5 (fun i hi _ => by
            rw [deedPs_at]
            rw [length_deedPs] at hi
            exact ⟨⟨bs i, 0, none⟩, rfl, (hbs5 i hi).at, length_rowX D.x i, fun hf => by have h1 := HFa.out (bs i) hf; have h2 := (HBs.out i hi).1; omega⟩) (by have := hBo5.ma.ops; omega)
          rw [length_deedPs] at hca
          have HCa := hid hca
          have HBo5 := hid hBo5
          have HQp := hid hqp
          have HQb := hid hqb
          have HBs5 := hid hbs5
          have HLr := hid hlr
          clear hrow hrow2 hO hca hBo5 hqp hqb hbs5 hps5 HBo4 HPs hlr hB
          obtain ⟨E, hE⟩ : ∃ E, E = comErr (pagesS S N) N (deedPs D.s D.ns bs j) := ⟨_, rfl⟩
          rw [← hE] at HCa
          have HE := hid hE
          clear hE
          go_wp2_with fail
          refine HCa.out.mono ?_
          clear HCa
          rintro e w6 ⟨rfl, da6, ⟨fa6, hA6⟩, la6, ka6⟩
          obtain ⟨mb6, tb6⟩ := HBo5.out.half ka6
          have hcb := commit_any_fv (deedPs D.s D.ns bs j).reverse qb5 cap5 (fun i => rowX D.x (j - 1 - i)) w6 mb6.log mb6.lt (by rw [mb6.len]; omega) (HQp.out.keep ka6 (fun ad e hf => by have h1 := HQb.out ad e; have h2 := HFa.out _ hf; omega)) (fun i hi _ => by
            have hi2 : i < j := by rw [HLr.out] at hi; exact hi
            rw [rev_at, deedPs_at]
            have e : (deedPs D.s D.ns bs j).length - 1 - i = j - 1 - i := by rw [length_deedPs]
            rw [e]
            exact ⟨⟨bs (j - 1 - i), 0, none⟩, rfl, ((HBs5.out _ (by omega)).keep ka6 (fun hf => by have h1 := HFa.out (bs (j - 1 - i)) hf; have h2 := (HBs.out (j - 1 - i) (by omega)).1; omega)).at, length_rowX D.x _, fun hf => by have h1 := HFb.out (bs (j - 1 - i)) hf; have h2 := (HBs.out (j - 1 - i) (by omega)).1; omega⟩) (by have := mb6.ops; omega)
          rw [comErr_rev, ← HE.out, HLr.out] at hcb
          have HCb := hid hcb
          have HA6 := hid (And.intro fa6 (And.intro hA6 (And.intro la6 ka6)))
          clear hcb mb6 tb6 fa6 hA6 la6 ka6
          go_wp2_with fail
          refine HCb.out.mono ?_
          clear HCb
          rintro e w7 ⟨rfl, db7, ⟨fb7, hB7⟩, lb7, kb7⟩
          obtain ⟨fa6, hA6, la6, ka6⟩ := HA6.out
          have HBo7 := hid (HBo5.out.com (by omega) (deedPs D.s D.ns bs j) (deedPs D.s D.ns bs j).reverse (rowX D.x) (fun i => rowX D.x (j - 1 - i)) (length_rowX D.x) (fun i => length_rowX D.x _) (comS_rev S N _ _ _ (fun i hi => by rw [length_deedPs])) fa6 hA6 la6 ka6 fb7 hB7 lb7 kb7)
          clear fa6 hA6 la6 ka6 fb7 hB7 lb7 kb7 HA6 HBo5
          go_wp2
          exact ⟨⟨k + 1, _, _, _, _, _, by omega, by omega, by go_num, HBo7⟩, by simp [intOf]; omega⟩
    · have HDa := hid (log_disk wr hBo.out.ma.log (by have := hBo.out.ma.ops; omega))
      have HDb := hid (fun W (hW : Below wr.heap.size wr W) => log_disk W (hBo.out.mb.log.below hW) (by have := hBo.out.mb.ops; omega))
      have HDa2 := hid (fun W (hW : Below wr.heap.size wr W) => log_disk W (hBo.out.ma.log.below hW) (by have := hBo.out.ma.ops; omega))
      have HBw := hid hBo.out.ma.below
      clear hBo
      by_cases hg : k < ds.length
      · have hge : ((k : Int) < (ds.length : Int)) := by omega
        have hge2 : ¬ ((k : Int) < 12) := by omega
        clear hlt hg
        go_wp2_with fail
        refine HDa.out.mono ?_
        clear HDa
        rintro e w5 ⟨hb5, d5, rfl, hC5, -⟩
        have HB5 := hid hb5
        have HC5 := hid hC5
        clear hb5 hC5
        go_wp2_with fail
        refine (HDb.out w5 HB5.out).mono ?_
        rintro e w6 ⟨hb6, d6, rfl, hC6, -⟩
        have hsd := same_disks_rd d5 d6 S S w6 (HC5.out.below hb6).rd hC6.rd
        rw [decide_eq_true rfl] at hsd
        have HSd := hid hsd
        have HB6 := hid (HB5.out.trans (hb6.mono HB5.out.size))
        clear hb6 hC6 hsd HC5 HB5
        go_wp2_with fail
        refine HSd.out.mono ?_
        clear HSd
        rintro e w7 ⟨rfl, hb7⟩
        have HB7 := hid (HB6.out.trans (hb7.mono HB6.out.size))
        clear hb7 HB6
        go_wp2_with fail
        refine (HDa2.out w7 HB7.out).mono ?_
        clear HDa2
        rintro e w8 ⟨hb8, d8, rfl, hC8, -⟩
        have HO8 := hid (ops_disk_rd d8 S w8 hC8.rd)
        have HB8 := hid (HB7.out.trans (hb8.mono HB7.out.size))
        clear hb8 hC8 HB7
        go_wp2_with fail
        refine HO8.out.mono ?_
        clear HO8
        rintro e w9 ⟨rfl, h9⟩
        obtain rfl := h9.symm
        go_wp2_with fail
        refine (HDb.out w8 HB8.out).mono ?_
        clear HDb
        rintro e w10 ⟨hb10, d10, rfl, hC10, -⟩
        have HO10 := hid (ops_disk_rd d10 S w10 hC10.rd)
        have HB10 := hid (HB8.out.trans (hb10.mono HB8.out.size))
        clear hb10 hC10 HB8
        go_wp2_with fail
        refine HO10.out.mono ?_
        clear HO10
        rintro e w9 ⟨rfl, h9⟩
        obtain rfl := h9.symm
        go_wp2
        go_ret
        exact ⟨rfl, HBw.out.trans (HB10.out.mono HBw.out.size)⟩
      · have hge : ¬ ((k : Int) < (ds.length : Int)) := by omega
        clear hlt hg
        go_wp2_with fail
        refine HDa.out.mono ?_
        clear HDa
        rintro e w5 ⟨hb5, d5, rfl, hC5, -⟩
        have HB5 := hid hb5
        have HC5 := hid hC5
        clear hb5 hC5
        go_wp2_with fail
        refine (HDb.out w5 HB5.out).mono ?_
        rintro e w6 ⟨hb6, d6, rfl, hC6, -⟩
        have hsd := same_disks_rd d5 d6 S S w6 (HC5.out.below hb6).rd hC6.rd
        rw [decide_eq_true rfl] at hsd
        have HSd := hid hsd
        have HB6 := hid (HB5.out.trans (hb6.mono HB5.out.size))
        clear hb6 hC6 hsd HC5 HB5
        go_wp2_with fail
        refine HSd.out.mono ?_
        clear HSd
        rintro e w7 ⟨rfl, hb7⟩
        have HB7 := hid (HB6.out.trans (hb7.mono HB6.out.size))
        clear hb7 HB6
        go_wp2_with fail
        refine (HDa2.out w7 HB7.out).mono ?_
        clear HDa2
        rintro e w8 ⟨hb8, d8, rfl, hC8, -⟩
        have HO8 := hid (ops_disk_rd d8 S w8 hC8.rd)
        have HB8 := hid (HB7.out.trans (hb8.mono HB7.out.size))
        clear hb8 hC8 HB7
        go_wp2_with fail
        refine HO8.out.mono ?_
        clear HO8
        rintro e w9 ⟨rfl, h9⟩
        obtain rfl := h9.symm
        go_wp2_with fail
        refine (HDb.out w8 HB8.out).mono ?_
        clear HDb
        rintro e w10 ⟨hb10, d10, rfl, hC10, -⟩
        have HO10 := hid (ops_disk_rd d10 S w10 hC10.rd)
        have HB10 := hid (HB8.out.trans (hb10.mono HB8.out.size))
        clear hb10 hC10 HB8
        go_wp2_with fail
        refine HO10.out.mono ?_
        clear HO10
        rintro e w9 ⟨rfl, h9⟩
        obtain rfl := h9.symm
        go_wp2
        go_ret
        exact ⟨rfl, HBw.out.trans (HB10.out.mono HBw.out.size)⟩
end Go.Proofs.YtoeiodiadanhkabGreat
