/- Several of my texts in one: L6DoA, IDeeds, InReadV, InDeed, InBackW. -/
import Derived.Test.YtamfgnfclamamaaGreatJoined8
import Derived.Test.YtamfgnfclamamaaGreatJoined2
import Derived.Test.YtamfgnfclamamaaGreatJoined7
set_option maxRecDepth 100000
set_option maxHeartbeats 4000000
namespace Go.Proofs.YtamfgnfclamamaaGreat
section
open Go.RowKit
def xL (kd ii aa n nd md lk : Int) (x : UInt8) : List Value := [.int .i64 kd, .int .i64 ii, .int .i64 aa, .int .i64 n, .int .i64 nd, .int .i64 md, .int .i64 lk, .int .u8 (x.toNat : Int)]
section
variable {w w' : World} {s m c r mr i : Nat} {F : Nat -> Prop} {Pg Cm : Nat -> List UInt8} {fs : Nat -> Option FileA} {f fc : FileA} {o u : Nat}
def OneAt (X : Nat -> Prop) (w : World) (s m c r mr i : Nat) (F : Nat -> Prop) (o u : Nat) : Prop :=
 ∃ Pg Cm f fc, St w s m c F 90 16 Pg Cm (updA (fun _ => none) i (some f)) o u /\ GoodX noSk 90 16 Cm (updA (fun _ => none) i (some fc)) /\ Ref6 w (fun j => F j \/ X j) r mr
def DoTo (X : Nat -> Prop) (w : World) (s m c r mr i : Nat) (F : Nat -> Prop) (o u : Nat) (e : Ending) (w' : World) : Prop :=
 ∃ (b : Bool) (F' : Nat -> Prop) (mr' : Nat), e = .returned (.bool b) /\ (∀ i, F i -> F' i) /\ (∀ i, F' i -> F i \/ w.heap.size <= i) /\ Keeps (fun i => F i \/ i = r \/ i = mr) w w' /\ OneAt X w' s m c r mr' i F' (o + 206) (u + 303) /\ (mr' = mr \/ w.heap.size <= mr')
theorem l6do_one {X : Nat -> Prop} (hX : ∀ j, X j -> j < w.heap.size) (h : OneAt X w s m c r mr i F o u) (hu : u < 700000) (ho : o < 700000) (aa n nd md lk : Int) (x : UInt8) : Calls Tryz.prog 15 #[.pointer (some ⟨s, 0, none⟩), .pointer (some ⟨r, 0, none⟩), .agg #[.int .i64 1, .int .i64 i, .int .i64 aa, .int .i64 n, .int .i64 nd, .int .i64 md, .int .i64 lk, .int .u8 (x.toNat : Int)]] w (DoTo X w s m c r mr i F o u) := by
 obtain ⟨Pg, Cm, f, fc, hst, hcm, hr⟩ := h
 obtain ⟨wA, hA⟩ : ∃ wA, wA = w.alloc (.cells #[.int .i64 1, .int .i64 i, .int .i64 aa, .int .i64 n, .int .i64 nd, .int .i64 md, .int .i64 lk, .int .u8 (x.toNat : Int)] 25) := ⟨_, rfl⟩
 have HBA : Hid (Below w.heap.size w wA) := by rw [hA]; exact (Below.refl _ w).alloc (Nat.le_refl _) _
 have HXA : Hid (wA.heap[w.heap.size]? = some (.cells (xL 1 i aa n nd md lk x).toArray 25 (0, 0))) := by rw [hA]; exact block_new w _
 have HSA : Hid (wA.heap.size = w.heap.size + 1) := by rw [hA]; exact World.size_alloc _ _
 have HS := hid hst
 have HCm := hid hcm
 have HR := hid hr
 have HFl := hid hst.lt
 have HRl := hid hr.lt
 have HXl := hid hX
 have HBy := hid (fun W => l6bytes_any 1 i aa n nd md lk x W)
 have hL8 := bLen_le n
 have hbl : (bL x (bLen n)).length = bLen n := length_bL x (bLen n)
 generalize bLen n = L at *
 have HBl := hid hbl
 clear hst hcm hr hbl hX
 go_enter Tryz.func15, Tryz.ntmps15
 go_wp2_with fail
 rw [<- hA]
 clear hA
 refine (HBy.out wA).mono ?_
 rintro e w1 ⟨hb1, g, hg, rfl, ho1⟩
 have hbw1 := HBA.out.trans (hb1.mono HBA.out.size)
 have hgw : w.heap.size < g := by have := HSA.out; omega
 have hbd : Below w1.heap.size w1 w1.drew := (Below.refl _ w1).drew
 have hbwd := hbw1.trans (hbd.mono hbw1.size)
 have hst1 := HS.out.held hbwd (Nat.le_of_lt hgw) (Nat.lt_of_lt_of_le ho1.lt hbd.size)
 have hod := ho1.below hbd
 have hxd := below_block hbd (below_block hb1 HXA.out (lt_of_heap HXA.out)) (lt_of_heap (below_block hb1 HXA.out (lt_of_heap HXA.out)))
 have hrd : Ref6 w1.drew (fun j => (F j \/ X j) \/ j = g) r mr := HR.out.keep (Keeps.of_below hbwd : Keeps (fun _ => False) w w1.drew) (fun _ e => e.elim) (fun j e => e.imp id (fun e => by omega))
 have hcm1 : GoodX noSk 90 16 (heldC 90 Cm g) (updA (fun _ => none) i (some fc)) := HCm.out.same (fun p hp => heldC_lt hp)
 have hcm2 : GoodX noSk 90 16 (heldC 90 Cm g) (updA (updA (fun _ => none) i (some f)) i (some fc)) := by rw [updA_twice]; exact hcm1
 have hwr := iWrite_all hst1 hcm2 (updA_self _ _ _) (by omega) aa (bL x L) g hod (fun hh => by have := HFl.out _ hh; omega) (by rw [HBl.out]; exact hL8)
 rw [HBl.out] at hwr
 have HWr := hid hwr
 have HXd := hid hxd
 have HBd := hid hbwd
 have HOd := hid hod
 have HRd := hid hrd
 have HCm1 := hid hcm1
 have HGw := hid hgw
 clear hb1 hbw1 hbd hbwd hst1 hod hxd hrd hcm1 hcm2 hwr ho1 hg HXA HBA HSA hgw
 go_wp2_with fail
 refine wp_region_noPanic ?_
 refine wp_region_held_drew (S := fun W => W.cell? ⟨w.heap.size, 1, none⟩ = some (.int .i64 i) /\ W.cell? ⟨w.heap.size, 2, none⟩ = some (.int .i64 aa) /\ W.heap[w.heap.size]? = some (.cells (xL 1 i aa n nd md lk x).toArray 25 (0, 0))) (by kernel_rfl) ⟨cell_of_block HXd.out 1, cell_of_block HXd.out 2, HXd.out⟩ (fun hHeld => ?_)
 generalize w1.drew = wd at *
 refine tq 0 _ ?_
 try simp only [tS]
 refine tq 1 _ ?_
 try simp only [tS]
 refine tq 2 _ ?_
 try simp only [tS]
 refine tq 3 _ ?_
 try simp only [tS]
 refine tq 4 _ ?_
 try simp only [tS]
 refine tq 5 _ ?_
 try simp only [tS]
 refine tq 7 _ ?_
 try simp only [tS]
 refine tq 8 _ ?_
 try simp only [tS]
 refine tq 9 _ ?_
 try simp only [tS]
 refine tq 10 _ ?_
 try simp only [tS]
 refine tq 11 _ ?_
 try simp only [tS]
 refine wpAnyH_take (i := 12) (v := .agg (xL 1 i aa n nd md lk x).toArray) rfl (by kernel_rfl) (by kernel_rfl) (by kernel_rfl) (fun _ _ _ h => h) (yieldsIf_load_mid (by rfl) 25 (.tmp 5) rfl w.heap.size 0 rfl (xL 1 i aa n nd md lk x) _ (fun W hW => by have := range_of_block hW.2.2; exact this) Tryz.underlying25 rfl (by kernel_rfl)) (by assumption) ?_
 try simp only [tS]
 refine wpAnyH_ready (rs := [6]) (by kernel_rfl) (by simp) (AllReadyH.cons rfl (fun K hK => ?_) AllReadyH.nil)
 rw [if_pos (by rfl)]
 go_simp
 refine HWr.out.mono ?_
 clear HWr
 rintro e w2 ⟨hk2, r1, Pg2, f2, rfl, hs2, -⟩
 rw [updA_twice] at hs2
 have hX2 := hk2.heap HXd.out (fun hh => by have := HFl.out _ hh; omega)
 have hO2 := HOd.out.keep hk2 (fun hh => by have h5 := HFl.out _ hh; have h6 := HGw.out; omega)
 have hR2 : Ref6 w2 (fun j => (F j \/ X j) \/ j = g) r mr := HRd.out.keep hk2 (fun j e => .inl (.inl e)) (fun j e => .inl e)
 have e1 : w2.cell? ⟨w.heap.size, 1, none⟩ = some (.int .i64 i) := cell_of_block hX2 1
 have e2 : w2.cell? ⟨w.heap.size, 2, none⟩ = some (.int .i64 aa) := cell_of_block hX2 2
 have HX2 := hid hX2
 have HO2 := hid hO2
 have HR2 := hid hR2
 have HS2 := hid hs2
 have HK2 : Hid (Keeps F w w2) := (Keeps.of_below HBd.out : Keeps F w wd).trans hk2 (fun j e => .inl e)
 clear hX2 hO2 hR2 hs2 hk2 HXd HOd HRd
 go_wp2_with fail
 refine hK.out _ _ ⟨e1, e2, HX2.out⟩ (fun hHeld => ?_)
 clear hK K
 try simp only [tS]
 refine wpAnyH_ready (rs := [13]) (by kernel_rfl) (by simp) (AllReadyH.cons rfl (fun K hK => ?_) AllReadyH.nil)
 rw [if_pos (by rfl)]
 go_simp
 refine (HBy.out w2).mono ?_
 clear HBy
 rintro e w3 ⟨hb3, g2, hg2, rfl, ho3⟩
 have hX3 := below_block hb3 HX2.out (lt_of_heap HX2.out)
 have f1 : w3.cell? ⟨w.heap.size, 1, none⟩ = some (.int .i64 i) := cell_of_block hX3 1
 have f2' : w3.cell? ⟨w.heap.size, 2, none⟩ = some (.int .i64 aa) := cell_of_block hX3 2
 have hR3 := HR2.out.below hb3
 have hF3 : ∀ j, ((F j \/ X j) \/ j = g) -> j < w3.heap.size := fun j e => by
  have h5 := HK2.out.size
  have h6 := hb3.size
  have h7 := HO2.out.lt
  rcases e with (e | e) | e
  ·have := HFl.out j e; omega
  ·have := HXl.out j e; omega
  ·omega
 have hz3 : ¬ zOf (fun j => (F j \/ X j) \/ j = g) r mr g2 := fun hh => by
  have h5 := HK2.out.size
  have h7 := HO2.out.lt
  have h8 := HRl.out
  rcases hh with ((hh | hh) | hh) | hh | hh
  ·have := HFl.out _ hh; omega
  ·have := HXl.out _ hh; omega
  ·omega
  ·omega
  ·omega
 have hwr := v6Write_r hR3 hF3 i aa g2 (bL x L) ho3 hz3 (by rw [HBl.out]; exact hL8)
 rw [HBl.out] at hwr
 have HWr := hid hwr
 have HX3 := hid hX3
 have HB3 := hid hb3
 have HR3 := hid hR3
 have HF3 := hid hF3
 clear hX3 hR3 hF3 hz3 hwr hb3 ho3 hg2 e1 e2
 go_wp2_with fail
 refine hK.out _ _ ⟨f1, f2', HX3.out⟩ (fun hHeld => ?_)
 clear hK K
 try simp only [tS]
 refine wpAnyH_ready (rs := [14]) (by kernel_rfl) (by simp) (AllReadyH.cons rfl (fun K hK => ?_) AllReadyH.nil)
 rw [if_pos (by rfl)]
 go_simp
 refine HWr.out.mono ?_
 clear HWr
 rintro e w4 ⟨⟨hk4, mr4, hm4, hr4⟩, c4, rfl⟩
 have hXr : ¬ (w.heap.size = r \/ w.heap.size = mr) := fun e => by have h8 := HRl.out; omega
 have hgr : ¬ (g = r \/ g = mr) := fun e => by have h8 := HRl.out; have h9 := HGw.out; omega
 have hX4 := hk4.heap HX3.out hXr
 have hr3F : Ref6 w3 F r mr := HR3.out.keep (Keeps.refl (fun _ => False) w3) (fun _ e => e.elim) (fun j e => .inl (.inl (.inl e)))
 have hs4 := (HS2.out.below HB3.out).ref hr3F hk4
 have hO4 := (HO2.out.below HB3.out).keep hk4 hgr
 have g1 : w4.cell? ⟨w.heap.size, 1, none⟩ = some (.int .i64 i) := cell_of_block hX4 1
 have g2' : w4.cell? ⟨w.heap.size, 2, none⟩ = some (.int .i64 aa) := cell_of_block hX4 2
 have HK4 : Hid (Keeps (fun j => F j \/ j = r \/ j = mr) w w4) := ((HK2.out.mono (fun j e => .inl e)).trans (Keeps.of_below HB3.out : Keeps (fun j => F j \/ j = r \/ j = mr) w2 w3) (fun j e => .inl e)).trans hk4 (fun j e => .inl (.inr e))
 have HX4 := hid hX4
 have HS4 := hid hs4
 have HO4 := hid hO4
 have HR4 := hid hr4
 have HM4 : Hid (mr4 = mr \/ w.heap.size <= mr4) := hm4.imp id (fun e => by have h5 := HK2.out.size; have h6 := HB3.out.size; omega)
 have HF4 : Hid (∀ j, ((F j \/ X j) \/ j = g) -> j < w4.heap.size) := fun j e => Nat.lt_of_lt_of_le (HF3.out j e) hk4.size
 clear hX4 hs4 hO4 hr4 hk4 hr3F hXr hgr hm4 f1 f2'
 go_wp2_with fail
 refine hK.out _ _ ⟨g1, g2', HX4.out⟩ (fun hHeld => ?_)
 clear hK K
 try simp only [tS]
 obtain ⟨okv, hok⟩ : ∃ okv : Bool, okv = (r1 == c4) := ⟨_, rfl⟩
 refine tq 15 (.bool (r1 == c4)) ?_
 try simp only [tS]
 rw [<- hok]
 clear hok
 refine tq 16 _ ?_
 try simp only [tS]
 refine wpAnyH_done (by kernel_rfl) ?_ _
 refine NoPanic.normal ?_
 clear hHeld g1 g2'
 go_wp2
 go_loopw [13] (fun jv wr => ∃ q : Nat, q <= L /\ jv = .int .i64 q /\ Hid (∃ l', List.length l' = L /\ ownB wr g l') /\ Hid (Keeps (fun j => j = g) w4 wr)) (fun jv _ => L - (intOf jv).toNat)
 case atStart => exact ⟨0, by omega, rfl, ⟨_, HBl.out, HO4.out⟩, Keeps.refl _ _⟩
 case round =>
  obtain ⟨q, hq, rfl, hOw, hKi⟩ := hrel
  by_cases hq5 : q < L
  ·have hq1 : (q : Int) < (L : Nat) := by omega
   obtain ⟨l', hl', how⟩ := hOw.out
   obtain ⟨old, cl⟩ : ∃ v, wr.cell? ⟨g, q, none⟩ = some v := ⟨_, how.cell q (by omega)⟩
   have fl := how.frozen q
   have hs := how.set q 99
   have HSt : Hid (∃ l'', List.length l'' = L /\ ownB (wr.setCell ⟨g, q, none⟩ (.int .u8 99)) g l'') := ⟨_, by rw [List.length_set]; exact hl', hs⟩
   clear hs how
   go_wp2
   exact ⟨⟨q + 1, by omega, by go_num, HSt, hKi.out.grown (grown_setCell (grown_refl _ _) _ _) (fun i e => .inl (Option.some.inj e).symm)⟩, by simp [intOf]; omega⟩
  ·have hqz : L = q := by omega
   subst hqz
   have hge : ¬ (L : Int) < (L : Int) := by omega
   have hs5 := HS4.out.keepC (by unfold heldC; rw [if_pos rfl]) HO4.out hKi.out
   have hr5 : Ref6 wr (fun j => (F j \/ X j) \/ j = g) r mr4 := HR4.out.keep hKi.out (fun j e => .inr e) (fun j e => .inl e)
   have HCo := hid (v6Commit_r hr5 (fun j e => Nat.lt_of_lt_of_le (HF4.out j e) hKi.out.size))
   have hr5F : Ref6 wr F r mr4 := hr5.keep (Keeps.refl (fun _ => False) wr) (fun _ e => e.elim) (fun j e => .inl (.inl (.inl e)))
   have HS5 := hid hs5
   have HR5 := hid hr5F
   have HK5 : Hid (Keeps (fun j => F j \/ j = r \/ j = mr) w wr) := HK4.out.trans hKi.out (fun j e => .inr (by have e' : j = g := e; have h9 := HGw.out; omega))
   clear hs5 hr5 hr5F hq5 hq
   go_wp2_with fail
   refine HCo.out.mono ?_
   clear HCo
   rintro e w6 ⟨rfl, hk6, hr6⟩
   have hs6 := HS5.out.ref HR5.out (hk6.mono (fun j e => .inl e))
   have hr6F : Ref6 w6 (fun j => F j \/ X j) r mr4 := hr6.keep (Keeps.refl (fun _ => False) w6) (fun _ e => e.elim) (fun j e => .inl (.inl e))
   have HK6 : Hid (Keeps (fun j => F j \/ j = r \/ j = mr) w w6) := HK5.out.trans hk6 (fun j e => .inl (.inr (.inl e)))
   have HS6 := hid hs6
   have HR6 := hid hr6F
   clear hk6 hr6 hs6 hr6F
   cases okv with
   | false =>
    go_wp2_with fail
    go_ret
    exact ⟨false, F, mr4, rfl, fun _ e => e, fun _ e => .inl e, HK6.out, ⟨_, _, _, _, HS6.out.more2 (by omega) (Nat.le_refl _), HCm1.out, HR6.out⟩, HM4.out⟩
   | true =>
    have HMp := hid (iMap_any HS6.out.store)
    have HCa := hid (amCache_any HS6.out.map)
    obtain ⟨D6, hp6⟩ := HS6.out.pc
    have HCo := hid (hp6.commit (by omega))
    clear hp6
    go_wp2_with fail
    refine HMp.out.mono ?_
    clear HMp
    rintro e w7 ⟨rfl, h7⟩
    obtain rfl := h7.symm
    clear h7
    go_wp2_with fail
    refine HCa.out.mono ?_
    clear HCa
    rintro e w7 ⟨rfl, h7⟩
    obtain rfl := h7.symm
    clear h7
    go_wp2_with fail
    refine HCo.out.mono ?_
    clear HCo
    rintro e w7 ⟨rfl, hk7, F7, hF7, hF7', hp7⟩
    have hs6 := HS6.out
    have hmF : ¬ F7 m := fun hh => (hF7' m hh).elim hs6.mF (fun e => by have := lt_of_heap hs6.map; omega)
    have hsF : ¬ F7 s := fun hh => (hF7' s hh).elim hs6.sF (fun e => by have := lt_of_heap hs6.store; omega)
    have HS7 : Hid (St w7 s m c F7 90 16 Pg2 Pg2 (updA (fun _ => none) i (some f2)) (o + 206) (u + 303)) := ⟨hs6.map.keep hk7 hs6.mF, hs6.store.keep hk7 hs6.sF, hmF, hsF, hs6.few, ⟨_, hp7⟩, hs6.good⟩
    have HR7 : Hid (Ref6 w7 (fun j => F7 j \/ X j) r mr4) := HR6.out.keep hk7 (fun _ e => .inl e) (fun j e => e.elim (fun e => (hF7' j e).imp .inl id) (fun e => .inl (.inr e)))
    have HK7 : Hid (Keeps (fun j => F j \/ j = r \/ j = mr) w w7) := HK6.out.trans hk7 (fun j e => .inl (.inl e))
    have HF7 : Hid ((∀ j, F j -> F7 j) /\ ∀ j, F7 j -> F j \/ w.heap.size <= j) := ⟨hF7, fun j e => (hF7' j e).imp id (fun e => by have := HK6.out.size; omega)⟩
    clear hk7 hF7 hF7' hp7 hs6 hmF hsF
    go_wp2
    go_ret
    exact ⟨true, F7, mr4, rfl, HF7.out.1, HF7.out.2, HK7.out, ⟨Pg2, Pg2, f2, f2, HS7.out, HS7.out.good, HR7.out⟩, HM4.out⟩
end
end
section
set_option maxRecDepth 100000
open Go.ChangeShapes Go.WideShapes Go.ChangeAt Go.RowKit
structure IDeed where
 k : Int
 i : Int
 a : Int
 n : Int
 nd : Int
 md : Int
 lk : Int
 x : UInt8
def IDeed.cells (D : IDeed) : List Value := [.int .i64 D.k, .int .i64 D.i, .int .i64 D.a, .int .i64 D.n, .int .i64 D.nd, .int .i64 D.md, .int .i64 D.lk, .int .u8 (D.x.toNat : Int)]
def IDeed.ok (w : World) (D : IDeed) (b o : Nat) : Prop := ∀ j (hj : j < D.cells.length), w.cell? ⟨b, o + j, none⟩ = some D.cells[j]
def ideedsAt (w : World) (a : Option Addr) (ds : List IDeed) : Prop := ∀ j, j < ds.length -> ∃ b o, a = some ⟨b, o, none⟩ /\ ∀ i (hi : i < ds.length), IDeed.ok w ds[i] b (o + i * 8)
theorem IDeed.ok.below {w w' : World} {D : IDeed} {b o : Nat} (h : D.ok w b o) (k : Below w.heap.size w w') : D.ok w' b o := fun j hj => (k.cell (World.block_lt_of_cell? w _ (h j hj))).trans (h j hj)
theorem ideedsAt.below {w w' : World} {a : Option Addr} {ds : List IDeed} (h : ideedsAt w a ds) (k : Below w.heap.size w w') : ideedsAt w' a ds := fun j hj => by
 obtain ⟨b, o, e, hc⟩ := h j hj
 exact ⟨b, o, e, fun i hi => (hc i hi).below k⟩
theorem IDeed.ok.keep {w w' : World} {D : IDeed} {b o : Nat} {F : Nat -> Prop} (h : D.ok w b o) (k : Keeps F w w') (hb : ¬ F b) : D.ok w' b o := fun j hj => k.cell (h j hj) hb
theorem cellsIDeed : Tryz.prog.cellsOf 25 = 8 := by kernel_rfl
theorem ideed_of {H : Type} {enc : TypeId × Value -> H} {W : World} {base : Nat} {sp : Nat -> Bool} {held : Bool} {fuel : Nat} {cs : List Value} {y : DataW H × List MemPlace} (hl : cs.length = 8) (h : DataW.trod enc Tryz.prog W base sp held fuel 25 cs = some y) : ∃ D : IDeed, cs = D.cells := by
 obtain ⟨xs, n, _, rfl, _, hlen, hf⟩ := DataW.trod_struct Tryz.underlying25 h
 match cs, hl, xs, hlen with
 | [c0, c1, c2, c3, c4, c5, c6, c7], _, [y0, y1, y2, y3, y4, y5, y6, y7], _ =>
  obtain ⟨v0, e0, _⟩ := DataW.trod_int Tryz.underlying3 (hf 0 _ rfl)
  obtain ⟨v1, e1, _⟩ := DataW.trod_int Tryz.underlying3 (hf 1 _ rfl)
  obtain ⟨v2, e2, _⟩ := DataW.trod_int Tryz.underlying3 (hf 2 _ rfl)
  obtain ⟨v3, e3, _⟩ := DataW.trod_int Tryz.underlying3 (hf 3 _ rfl)
  obtain ⟨v4, e4, _⟩ := DataW.trod_int Tryz.underlying23 (hf 4 _ rfl)
  obtain ⟨v5, e5, _⟩ := DataW.trod_int Tryz.underlying3 (hf 5 _ rfl)
  obtain ⟨v6, e6, _⟩ := DataW.trod_int Tryz.underlying3 (hf 6 _ rfl)
  obtain ⟨v7, e7, _, w7⟩ := DataW.trod_int Tryz.underlying5 (hf 7 _ rfl)
  have f0 : c0 = .int .i64 v0 := by simpa [show Tryz.prog.cellsOf 3 = 1 by kernel_rfl] using e0
  have f1 : c1 = .int .i64 v1 := by simpa [show Tryz.prog.cellsOf 3 = 1 by kernel_rfl] using e1
  have f2 : c2 = .int .i64 v2 := by simpa [show Tryz.prog.cellsOf 3 = 1 by kernel_rfl] using e2
  have f3 : c3 = .int .i64 v3 := by simpa [show Tryz.prog.cellsOf 3 = 1 by kernel_rfl] using e3
  have f4 : c4 = .int .i64 v4 := by simpa [show Tryz.prog.cellsOf 23 = 1 by kernel_rfl] using e4
  have f5 : c5 = .int .i64 v5 := by simpa [show Tryz.prog.cellsOf 3 = 1 by kernel_rfl] using e5
  have f6 : c6 = .int .i64 v6 := by simpa [show Tryz.prog.cellsOf 3 = 1 by kernel_rfl] using e6
  have f7 : c7 = .int .u8 v7 := by simpa [show Tryz.prog.cellsOf 5 = 1 by kernel_rfl] using e7
  subst f0 f1 f2 f3 f4 f5 f6 f7
  have hb := bounds_u8 w7
  refine ⟨⟨v0, v1, v2, v3, v4, v5, v6, UInt8.ofNat v7.toNat⟩, ?_⟩
  have e : ((UInt8.ofNat v7.toNat).toNat : Int) = v7 := by rw [UInt8.toNat_ofNat']; omega
  unfold IDeed.cells
  rw [e]
theorem ideed_open {H : Type} {enc : TypeId × Value -> H} {W : World} {r : Reach} {b0 base : Nat} {sp : Nat -> Bool} {held : Bool} {v : Value} {d : DataW H} {p : List MemPlace} (hv : Value.okWide Tryz.prog W r b0 25 v) (h : DataW.Trod enc Tryz.prog W base sp held 25 v d p) :
  ∃ D : IDeed, v = .agg D.cells.toArray := by
 obtain ⟨cs, rfl, hsz⟩ := okWide_struct Tryz.underlying25 hv
 obtain ⟨fuel, hf⟩ := h
 have hl : (Value.agg cs).cells.toList = cs.toList := rfl
 rw [hl] at hf
 obtain ⟨D, hD⟩ := ideed_of (by rw [Array.length_toList, hsz, cellsIDeed]) hf
 exact ⟨D, by rw [<- hD]⟩
theorem ideed_cells {H : Type} {enc : TypeId × Value -> H} {W : World} {sp : Nat -> Bool} {held : Bool} {a : Addr} {m : Nat} {y : DataW H × List MemPlace} (h : (W.cells? 0 a 8).bind (DataW.trod enc Tryz.prog W 0 sp held m 25) = some y) :
  ∃ D : IDeed, a = ⟨a.block, a.off, none⟩ /\ D.ok W a.block a.off := by
 obtain ⟨cs, hcs, hf⟩ := Option.bind_eq_some_iff.1 h
 obtain ⟨_, hl, hc⟩ := World.cells?_some hcs
 obtain ⟨D, rfl⟩ := ideed_of hl hf
 have c0 := hc 0 (by omega)
 have hp := plain_addr c0
 rw [Addr.add, if_pos rfl] at hp
 rw [hp] at hc
 refine ⟨D, hp, fun j hj => ?_⟩
 have := hc j (by rw [<- hl]; exact hj)
 rw [Addr.add_mid, List.getElem?_eq_getElem hj] at this
 exact this
theorem ideeds_open {H : Type} {enc : TypeId × Value -> H} {W : World} {base : Nat} {v : Value} {d : DataW H} {p : List MemPlace} (hok : Value.okWide Tryz.prog W .any base 22 v) (h : DataW.Trod enc Tryz.prog W 0 (fun _ => true) true 22 v d p) :
  ∃ (ds : List IDeed) (a : Option Addr) (c : Nat), v = .slice a ds.length c /\ ideedsAt W a ds /\ ds.length <= 9223372036854775807 := by
 obtain ⟨a0, len, cap, rfl⟩ := okWide_slice Tryz.underlying22 hok
 obtain ⟨fuel, hf⟩ := h
 rcases DataW.trod_slice Tryz.underlying22 hf with ⟨hcs, hx⟩ | ⟨a, len', cap', elems, rest, n, _, hcs, hx, _, hl, hm, hel, hcell, _, _⟩
 ·simp only [Value.cells, List.cons.injEq, and_true, Value.slice.injEq] at hcs
  obtain ⟨rfl, rfl, rfl⟩ := hcs
  exact ⟨[], none, 0, rfl, fun j hj => by simp at hj, by simp⟩
 ·simp only [Value.cells, List.cons.injEq, and_true, Value.slice.injEq] at hcs
  obtain ⟨rfl, rfl, rfl⟩ := hcs
  have hex : ∀ i, i < len -> ∃ D : IDeed, (a.add (i * 8)) = ⟨a.block, a.off + i * 8, none⟩ /\ D.ok W a.block (a.off + i * 8) := fun i hi => by
   have h1 := hcell i hi
   rw [cellsIDeed, List.getElem?_eq_getElem (by omega)] at h1
   obtain ⟨D, hp, c0⟩ := ideed_cells h1
   have hblk : (a.add (i * 8)).block = a.block := add_block a _
   have hoff : (a.add (i * 8)).off = a.off + i * 8 := add_off _ _
   rw [hblk, hoff] at hp c0
   exact ⟨D, hp, c0⟩
  obtain ⟨ds, hdl, hP⟩ := list_of len hex
  refine ⟨ds, some a, cap, by rw [hdl], fun j hj => ?_, by unfold maxLen at hm; omega⟩
  have ha : a = ⟨a.block, a.off, none⟩ := by
   have h1 := hcell 0 (by omega)
   rw [cellsIDeed, List.getElem?_eq_getElem (by omega)] at h1
   obtain ⟨D, hp, _⟩ := ideed_cells h1
   rw [Nat.zero_mul, Addr.add, if_pos rfl] at hp
   exact hp
  exact ⟨a.block, a.off, by rw [<- ha], fun i hi => (hP i hi).2⟩
end
section
set_option maxRecDepth 100000
open Go.RowKit
section
variable {w w' : World} {s m c ino : Nat} {F : Nat -> Prop} {N : Nat} {Pg Cm : Nat -> List UInt8} {fs : Nat -> Option FileA} {o u : Nat} {i : Nat} {f : FileA}
theorem iRead_neg (h : St w s m c F N ino Pg Cm fs o u) (hf : fs i = some f) (hu : u < 900000) (a n : Int) (ha : a < 0 \/ (¬ a < 0 /\ n < 0)) :
  Calls Tryz.prog 16 #[.pointer (some ⟨s, 0, none⟩), .int .i64 i, .int .i64 a, .int .i64 n] w fun e w' => e = .returned (.tuple #[.slice none 0 0, .int .i64 2]) /\ Keeps F w w' /\ St w' s m c F N ino Pg Cm fs o (u + 2) := by
 have HGt := hid (iGet_st h hf (by omega))
 have hok := h.good.file i f hf
 have hnf := h.good.nf
 have HNl : Hid ((nodeC f.node).length = 15) := by unfold Hid nodeC; rw [List.length_append, List.length_map, (hok.node (by omega) h.good.n4).pages]; rfl
 unfold nodeV at HGt
 clear h hf hok hnf
 have hnc1 := nodeC_one f.node
 generalize nodeC f.node = nc at *
 have HN1 := hid hnc1
 clear hnc1
 go_enter Tryz.func16, Tryz.ntmps16
 go_wp2_with fail
 refine HGt.out.mono ?_
 clear HGt
 rintro e w1 ⟨rfl, hk1, hs1⟩
 have HS1 := hid hs1
 have HK1 := hid hk1
 clear hk1 hs1
 rcases ha with ha | ⟨ha, hn⟩
 ·go_wp2_with (refine wpList_store_block rfl 51 (.tmp 10) (.tmp 16) rfl w1.heap.size nc.toArray rfl rfl _ _ (block_new w1 _) (by rw [List.size_toArray, HNl.out]; rfl) (by rw [List.size_toArray, HNl.out]; kernel_rfl) HN1.out ?_; intro w2 hg2 hb2 hz2; have hb12 : Below w1.heap.size w1 w2 := ((Below.refl _ w1).alloc (Nat.le_refl _) _).grown hg2 (by simp) (fun k e => by cases e; exact Nat.le_refl _); have HB12 := hid hb12; clear hg2 hb2 hz2 hb12)
  go_returns
  exact ⟨rfl, HK1.out.trans (Keeps.of_below HB12.out : Keeps F w1 w2) (fun i e => .inl e), HS1.out.below HB12.out⟩
 ·go_wp2_with (refine wpList_store_block rfl 51 (.tmp 10) (.tmp 16) rfl w1.heap.size nc.toArray rfl rfl _ _ (block_new w1 _) (by rw [List.size_toArray, HNl.out]; rfl) (by rw [List.size_toArray, HNl.out]; kernel_rfl) HN1.out ?_; intro w2 hg2 hb2 hz2; have hb12 : Below w1.heap.size w1 w2 := ((Below.refl _ w1).alloc (Nat.le_refl _) _).grown hg2 (by simp) (fun k e => by cases e; exact Nat.le_refl _); have HB12 := hid hb12; clear hg2 hb2 hz2 hb12)
  go_returns
  exact ⟨rfl, HK1.out.trans (Keeps.of_below HB12.out : Keeps F w1 w2) (fun i e => .inl e), HS1.out.below HB12.out⟩
theorem iRead_any (h : St w s m c F N ino Pg Cm fs o u) (hf : fs i = some f) (hu : u < 900000) (a n : Int) (hn9 : n <= 9223372036854775807) :
  Calls Tryz.prog 16 #[.pointer (some ⟨s, 0, none⟩), .int .i64 i, .int .i64 a, .int .i64 n] w fun e w' => ∃ (v : Value) (r : Int) (l : List UInt8), e = .returned (.tuple #[v, .int .i64 r]) /\ rowY w' w.heap.size v l /\ Keeps F w w' /\ St w' s m c F N ino Pg Cm fs o (u + 141) /\ (((a < 0 \/ n < 0) /\ r = 2) \/ (0 <= a /\ 0 <= n /\ r = 0 /\ l = (f.data.drop a.toNat).take n.toNat)) := by
 by_cases h1 : a < 0 \/ (¬ a < 0 /\ n < 0)
 ·refine (iRead_neg h hf hu a n h1).mono ?_
  rintro e w' ⟨rfl, hk, hst⟩
  exact ⟨_, 2, [], rfl, World.ownsRow_nil _ _ _ _, hk, hst.more (by omega), .inl ⟨by omega, rfl⟩⟩
 ·obtain ⟨an, rfl⟩ : ∃ an : Nat, a = (an : Int) := ⟨a.toNat, by omega⟩
  obtain ⟨nn, rfl⟩ : ∃ nn : Nat, n = (nn : Int) := ⟨n.toNat, by omega⟩
  by_cases h0 : f.data.length <= an
  ·refine (iRead_none h hf hu an nn h0).mono ?_
   rintro e w' ⟨rfl, hk, hst⟩
   refine ⟨_, 0, [], rfl, World.ownsRow_nil _ _ _ _, hk, hst.more (by omega), .inr ⟨by omega, by omega, rfl, ?_⟩⟩
   show [] = (f.data.drop an).take nn
   rw [List.drop_eq_nil_of_le h0, List.take_nil]
  ·refine (iRead_st h hf hu an nn (by omega) (by omega)).mono ?_
   rintro e w' ⟨v, rfl, hr, hk, hst⟩
   exact ⟨v, 0, _, rfl, hr, hk, hst, .inr ⟨by omega, by omega, rfl, rfl⟩⟩
theorem iRead_row (h : St w s m c F N ino Pg Cm fs o u) (hf : fs i = some f) (hu : u < 900000) :
  Calls Tryz.prog 16 #[.pointer (some ⟨s, 0, none⟩), .int .i64 i, .int .i64 0, .int .i64 70656] w fun e w' => ∃ v, e = .returned (.tuple #[v, .int .i64 0]) /\ rowY w' w.heap.size v f.data /\ Keeps F w w' /\ St w' s m c F N ino Pg Cm fs o (u + 141) := by
 refine (iRead_any h hf hu 0 70656 (by omega)).mono ?_
 rintro e w' ⟨v, r, l, rfl, hr, hk, hst, ⟨h1, -⟩ | ⟨-, -, rfl, rfl⟩⟩
 ·omega
 ·have e1 : (f.data.drop (0 : Int).toNat).take (70656 : Int).toNat = f.data := by
   show (f.data.drop 0).take 70656 = f.data
   rw [List.drop_zero, List.take_of_length_le (h.good.file i f hf).size]
  rw [e1] at hr
  exact ⟨v, rfl, hr, hk, hst⟩
end
end
section
open Go.RowKit
def boxX (w : World) (b : Nat) : Prop := ∃ cs : List Value, w.heap[b]? = some (.cells cs.toArray 25 (0, 0)) /\ cs.length < 512 /\ ∀ v ∈ cs, ∃ k n, v = .int k n
theorem boxX.not {w : World} {b : Nat} {ad : Addr} {v : Value} (h : boxX w b) (hc : w.cell? ad = some v) (hv : ∀ k n, v ≠ .int k n) : ad.block ≠ b := fun e => by
 obtain ⟨cs, hb, -, hk⟩ := h
 have hp := plain_addr hc
 rw [hp, e, cell_of_block hb, List.getElem?_toArray] at hc
 have hm : v ∈ cs := by
  obtain ⟨h1, h2⟩ := List.getElem?_eq_some_iff.1 hc
  rw [<- h2]; simp
 obtain ⟨k, n, rfl⟩ := hk v hm
 exact hv k n rfl
theorem encOp_notX (o : OpS) (k : IntKind) (n : Int) : encOp o ≠ .int k n := by cases o <;> simp [encOp]
theorem AnyAt.keepQ {w w' : World} {d : DL} {S : DiskS} {F : Nat -> Prop} {b : Nat} (h : AnyAt w d S F) (hb : boxX w b) (hF : ¬ F b) (k : Keeps (fun i => i = b) w w') : AnyAt w' d S F := by
 rcases h with ⟨h, hf⟩ | ⟨h, hf⟩
 ·refine .inl ⟨?_, hf⟩
  have hne : ∀ i, d.cutFoot S.waits i -> ¬ i = b := fun i hi e => hF (e ▸ hf i hi)
  obtain ⟨h1, ⟨a, e1, e2, e3⟩, ⟨ad, c, e4, e5, e6⟩, h4⟩ := h
  refine ⟨h1.keep k (hne _ (.inl rfl)) (fun i hi => hne i (.inr hi)), ⟨a, e1, e2, fun q hq => ⟨fun j u hu => ?_, Nat.lt_of_lt_of_le (e3 q hq).2 k.size⟩⟩, ⟨ad, c, e4, fun j s hj => ?_, e6⟩, h4⟩
  ·refine k.cell ((e3 q hq).1 j u hu) (hb.not ((e3 q hq).1 j u hu) ?_)
   rw [List.getElem?_map] at hu
   cases ho : S.ops[j]? with
   | none => rw [ho] at hu; cases hu
   | some o => rw [ho] at hu; obtain rfl := Option.some.inj hu; exact encOp_notX o
  ·exact k.cell (e5 j s hj) (hb.not (e5 j s hj) (fun k n => by simp))
 ·refine .inr ⟨?_, hf⟩
  have hne : ∀ i, d.foot S.waits i -> ¬ i = b := fun i hi e => hF (e ▸ hf i hi)
  refine h.keep k hne (fun i hi e => ?_)
  obtain ⟨ad, c, e4, e5, e6⟩ := h.first
  have hpos : 0 < S.first.length := by rw [h.flen]; exact h.plates.pos
  have hc := e5 0 S.first[0] (List.getElem?_eq_getElem hpos)
  have h1 := hb.not hc (fun k n => by simp)
  rw [add_block] at h1
  rw [e4] at hi
  exact h1 ((Option.some.inj hi).trans e)
theorem LogIn.keepQ {w w' : World} {p : Nat} {d : DL} {S : DiskS} {size rec : Nat} {F : Nat -> Prop} {b : Nat} (h : LogIn w p d S size rec F) (hb : boxX w b) (hF : ¬ F b) (k : Keeps (fun i => i = b) w w') : LogIn w' p d S size rec F := by
 refine ⟨k.heap h.heap (fun e => ?_), h.disk.keepQ hb hF k, h.off⟩
 have e2 : p = b := e
 obtain ⟨cs, hc, -⟩ := hb
 have h1 := h.heap
 rw [e2, hc] at h1
 simp only [Option.some.injEq, Obj.cells.injEq] at h1
 exact absurd h1.2.1 (by decide)
theorem CacheAt.keepQ {w w' : World} {c : Nat} {L : CLay} {C : CS} (h : CacheAt w c L C) {b : Nat} (hb : boxX w b) (hF : ¬ L.F b) (k : Keeps (fun i => i = b) w w') : CacheAt w' c L C := by
 obtain ⟨es, kk, hm⟩ := h.dmap
 obtain ⟨es', kk', hu⟩ := h.umap
 have hmap : ∀ m e k0, w.heap[m]? = some (.map e k0) -> m ≠ b := fun m e k0 hm e1 => by
  obtain ⟨cs, hc, -⟩ := hb
  subst e1
  rw [hc] at hm
  cases hm
 exact {
  heap := k.heap h.heap (fun e => by
   obtain ⟨cs, hc, -⟩ := hb
   have e1 : c = b := e
   have h1 := h.heap
   rw [e1, hc] at h1
   simp only [Option.some.injEq, Obj.cells.injEq] at h1
   exact absurd h1.2.1 (by decide))
  log := h.log.keepQ hb hF k
  lt := fun i hi => Nat.lt_of_lt_of_le (h.lt i hi) k.size
  dirty := h.dirty.keep k (hmap _ _ _ hm)
  bytes := fun n v hv => by
   obtain ⟨g', cap, bs, h1, h2, h3, h4, h5⟩ := h.bytes n v hv
   subst h2
   refine ⟨g', cap, bs, h1, rfl, fun j hj => k.cell (h3 j hj) (fun e => ?_), h4, h5⟩
   obtain ⟨cs, hc, hl, -⟩ := hb
   rw [add_block] at e
   have e' : g' = b := e
   have h6 := h3 511 (by omega)
   rw [Addr.add_mid, e', cell_of_block hc, List.getElem?_toArray, List.getElem?_eq_none (by omega)] at h6
   cases h6
  clean := h.clean
  used := h.used.keep k (hmap _ _ _ hu)
  offc := h.offc
  offd := h.offd
  offu := h.offu
  ne := h.ne
  pages := h.pages
  fits := h.fits
  few := h.few
  ub := h.ub }
theorem Pc.keepQ {w w' : World} {c : Nat} {F : Nat -> Prop} {size N : Nat} {Pg Cm : Nat -> List UInt8} {D : Int -> Bool} {o u b : Nat} (h : Pc w c F size N Pg Cm D o u) (hb : boxX w b) (hF : ¬ F b) (k : Keeps (fun i => i = b) w w') : Pc w' c F size N Pg Cm D o u := by
 obtain ⟨L, C, h⟩ := h
 exact ⟨L, C, h.at_.keepQ hb (fun hf => hF (h.foot _ (.inl hf))) k, h.sz, h.nn, h.made, h.ops, h.uses, h.pg, h.cm, h.dirty, h.room, h.foot, fun i hi => Nat.lt_of_lt_of_le (h.lt i hi) k.size, Nat.lt_of_lt_of_le h.p0 k.size, h.sep.mono k.size, h.quiet⟩
theorem St.keepQ {w w' : World} {s m c ino b : Nat} {F : Nat -> Prop} {N : Nat} {Pg Cm : Nat -> List UInt8} {fs : Nat -> Option FileA} {o u : Nat} (h : St w s m c F N ino Pg Cm fs o u) (hb : boxX w b) (hF : ¬ F b) (k : Keeps (fun i => i = b) w w') : St w' s m c F N ino Pg Cm fs o u := by
 obtain ⟨D, hp⟩ := h.pc
 obtain ⟨cs, hc, -⟩ := id hb
 have hm : ¬ m = b := fun e => by
  have h1 := h.map
  unfold mapB at h1
  rw [e, hc] at h1
  simp only [Option.some.injEq, Obj.cells.injEq] at h1
  exact absurd h1.2.1 (by decide)
 have hs : ¬ s = b := fun e => by
  have h1 := h.store
  unfold storeB at h1
  rw [e, hc] at h1
  simp only [Option.some.injEq, Obj.cells.injEq] at h1
  exact absurd h1.2.1 (by decide)
 exact ⟨h.map.keep k hm, h.store.keep k hs, h.mF, h.sF, h.few, ⟨D, hp.keepQ hb hF k⟩, h.good⟩
end
section
set_option maxRecDepth 100000
set_option maxHeartbeats 8000000
open Go.RowKit
def BackAt (w wr : World) (s m c r k : Nat) (X : List Value) : Prop := ∃ F mr, (∀ i, F i -> w.heap.size + 2 <= i) /\ Below w.heap.size w wr /\ wr.heap[w.heap.size]? = some (.cells X.toArray 25 (0, 0)) /\ OneAt (fun j => j = w.heap.size) wr s m c r mr 1 F (412 + 206 * k) (3 + 303 * k) /\ w.heap.size + 2 <= r /\ w.heap.size + 2 <= mr
theorem rowY.bytes {w : World} {base : Nat} {ad : Option Addr} {n cp : Nat} {xs : List UInt8} (h : rowY w base (.slice ad n cp) xs) : bytesIn w ad xs := by
 obtain ⟨ad', cp', e, hb⟩ := rowY.in_ h
 simp only [Value.slice.injEq] at e
 rw [e.1]; exact hb
theorem rowY.keepF {w w' : World} {base : Nat} {v : Value} {xs : List UInt8} {F : Nat -> Prop} (h : rowY w base v xs) (k : Keeps F w w') (hF : ∀ i, F i -> i < base) : rowY w' base v xs := k.row h (fun i e hh => by have h1 := (rowY.ge h e).1; have h2 := hF i hh; omega)
theorem run_slice_row {w : World} {base : Nat} {ao : Option Addr} {n cap : Nat} {bs : List UInt8} (h : rowY w base (.slice ao n cap) bs) (lo hi : Nat) (h1 : lo <= hi) (h2 : hi <= bs.length) :
  ∃ a', (∀ W, (Instr.slice 42 (.slice ao n cap) (some (.int .i64 lo)) (some (.int .i64 hi)) none).run Tryz.prog W = .ok (.slice a' (hi - lo) (cap - lo)) W) /\ bytesIn w a' ((bs.drop lo).take (hi - lo)) := by
 have hb := h.bytes
 have hc : hi <= cap /\ (0 < hi -> ∃ g, ao = some ⟨g, 0, none⟩ /\ ∀ i (hi : i < bs.length), w.cell? ⟨g, i, none⟩ = some (.int .u8 (bs[i].toNat : Int))) := by
  rcases h.2 with ⟨e, h0⟩ | ⟨g, cap', cur, e, -, h3, hle, -⟩
  ·rw [Value.slice.injEq] at e
   obtain ⟨rfl, rfl, rfl⟩ := e
   exact ⟨by omega, fun hp => by omega⟩
  ·rw [Value.slice.injEq] at e
   obtain ⟨rfl, rfl, rfl⟩ := e
   refine ⟨by omega, fun hp => ⟨g, rfl, fun i hi' => ?_⟩⟩
   obtain ⟨b, o, e, hcs⟩ := hb i hi'
   simp only [Option.some.injEq, Addr.mk.injEq, and_true] at e
   obtain ⟨rfl, rfl⟩ := e
   have h5 := hcs i hi'
   rw [Nat.zero_add] at h5
   exact h5
 refine ⟨if cap = lo then ao else ao.map (fun a => a.add lo), fun W => ?_, fun j hj => ?_⟩
 ·have q1 : (0 : Int) <= (lo : Int) := by omega
  have q3 : (0 : Int) <= (hi : Int) := by omega
  have q4 : (hi : Int) <= (cap : Int) := by have := hc.1; omega
  simp [Instr.slice, Instr.sliceBounds, go_sem, q1, q3, q4]
  intro h; omega
 ·have hl : ((bs.drop lo).take (hi - lo)).length = hi - lo := by rw [List.length_take, List.length_drop]; omega
  obtain ⟨g, rfl, hcs⟩ := hc.2 (by omega)
  rw [if_neg (by have := hc.1; omega)]
  refine ⟨g, lo, by rw [Option.map_some, Addr.add_mid, Nat.zero_add], fun i hi' => ?_⟩
  rw [List.getElem_take, List.getElem_drop]
  exact hcs (lo + i) (by omega)
theorem boxX_xL {w : World} {b : Nat} {kd ii aa n nd md lk : Int} {x : UInt8} (h : w.heap[b]? = some (.cells (xL kd ii aa n nd md lk x).toArray 25 (0, 0))) : boxX w b := by
 refine ⟨_, h, by unfold xL; simp, fun v hv => ?_⟩
 unfold xL at hv
 simp only [List.mem_cons, List.not_mem_nil, or_false] at hv
 rcases hv with rfl | rfl | rfl | rfl | rfl | rfl | rfl | rfl
 all_goals exact ⟨_, _, rfl⟩
theorem wrD_part (d l : List UInt8) (a : Nat) : ((wrD d a l).drop a).take l.length = l := by
 refine List.ext_getElem (by rw [List.length_take, List.length_drop, length_wrD]; omega) (fun j h1 h2 => ?_)
 have h3 := getD_wrD d a l (a + j) (by omega)
 rw [if_pos ⟨by omega, by omega⟩, show a + j - a = j by omega, List.getD_eq_getElem?_getD, List.getD_eq_getElem?_getD, List.getElem?_eq_getElem h2, List.getElem?_eq_getElem (by rw [length_wrD]; omega)] at h3
 rw [List.getElem_take, List.getElem_drop]
 exact h3
theorem OneAt.below {X : Nat -> Prop} {w w' : World} {s m c r mr i : Nat} {F : Nat -> Prop} {o u : Nat} (h : OneAt X w s m c r mr i F o u) (hb : Below w.heap.size w w') : OneAt X w' s m c r mr i F o u := by
 obtain ⟨Pg, Cm, f, fc, h1, h2, h3⟩ := h
 exact ⟨Pg, Cm, f, fc, h1.below hb, h2, h3.below hb⟩
theorem OneAt.more {X : Nat -> Prop} {w : World} {s m c r mr i : Nat} {F : Nat -> Prop} {o u o' u' : Nat} (h : OneAt X w s m c r mr i F o u) (ho : o <= o') (hu : u <= u') : OneAt X w s m c r mr i F o' u' := by
 obtain ⟨Pg, Cm, f, fc, h1, h2, h3⟩ := h
 exact ⟨Pg, Cm, f, fc, h1.more2 ho hu, h2, h3⟩
theorem BackAt.next {w wr w' : World} {s m c r k : Nat} {X : List Value} (h : BackAt w wr s m c r k X) (hb : Below wr.heap.size wr w') : BackAt w w' s m c r (k + 1) X := by
 obtain ⟨F, mr, h1, h2, h3, h4, h5, h6⟩ := h
 exact ⟨F, mr, h1, h2.trans (hb.mono h2.size), below_block hb h3 (lt_of_heap h3), (h4.below hb).more (by omega) (by omega), h5, h6⟩
theorem BackAt.did {w wr w7 w8 : World} {s m c r mr mr8 k : Nat} {X : List Value} {F F8 : Nat -> Prop} (hF : ∀ i, F i -> w.heap.size + 2 <= i) (hB : Below w.heap.size w wr) (hX : wr.heap[w.heap.size]? = some (.cells X.toArray 25 (0, 0))) (hr : w.heap.size + 2 <= r) (hrl : r < wr.heap.size) (hm : w.heap.size + 2 <= mr)
  (hb : Below wr.heap.size wr w7) (h2 : ∀ i, F8 i -> F i \/ w7.heap.size <= i) (hk : Keeps (fun i => F i \/ i = r \/ i = mr) w7 w8) (hO : OneAt (fun j => j = w.heap.size) w8 s m c r mr8 1 F8 (412 + 206 * k + 206) (3 + 303 * k + 303)) (hm8 : mr8 = mr \/ w7.heap.size <= mr8) : BackAt w w8 s m c r (k + 1) X := by
 have hx := lt_of_heap hX
 have hs := hb.size
 have hno : ∀ i, (F i \/ i = r \/ i = mr) -> w.heap.size + 2 <= i := fun i e => by
  rcases e with e | e | e
  ·exact hF i e
  ·omega
  ·omega
 have hB7 := hB.trans (hb.mono hB.size)
 have hl2 : w.heap.size + 2 <= w7.heap.size := by omega
 exact ⟨F8, mr8, fun i e => (h2 i e).elim (hF i) (fun e => by omega), hB7.trans (hk.below hB7.size (fun i e => by have := hno i e; omega)), hk.heap (below_block hb hX hx) (fun e => by have := hno _ e; omega), hO.more (by omega) (by omega), hr, hm8.elim (fun e => by omega) (fun e => by omega)⟩
theorem inodeBack_walk (ds : List IDeed) (da : Option Addr) (dc : Nat) (D : IDeed) (at0 n0 : Int) (hn0 : n0 <= 9223372036854775807) (w : World) (hds : ideedsAt w da ds) : Calls Tryz.prog 3 #[.slice da ds.length dc, .agg D.cells.toArray, .agg #[.int .i64 at0, .int .i64 n0]] w fun e w' => e = .returned (.bool true) /\ Below w.heap.size w w' := by
 obtain ⟨kd, ii, aa, n, nd, md, lk, x⟩ := D
 have HDs := hid hds
 clear hds
 show Calls Tryz.prog 3 #[.slice da ds.length dc, .agg (xL kd ii aa n nd md lk x).toArray, .agg #[.int .i64 at0, .int .i64 n0]] w _
 obtain ⟨wA, hA⟩ : ∃ wA, wA = (w.alloc (.cells (xL kd ii aa n nd md lk x).toArray 25)).alloc (.cells #[.int .i64 at0, .int .i64 n0] 26) := ⟨_, rfl⟩
 have HBA : Hid (Below w.heap.size w wA) := by rw [hA]; exact ((Below.refl _ w).alloc (Nat.le_refl _) _).alloc (by simp) _
 have HXA : Hid (wA.heap[w.heap.size]? = some (.cells (xL kd ii aa n nd md lk x).toArray 25 (0, 0))) := by rw [hA]; exact block_alloc (block_new w _) _
 have hPA : wA.heap[w.heap.size + 1]? = some (.cells #[.int .i64 at0, .int .i64 n0] 26 (0, 0)) := by
  rw [hA]
  have h5 := block_new (w.alloc (.cells (xL kd ii aa n nd md lk x).toArray 25)) (.cells #[.int .i64 at0, .int .i64 n0] 26)
  rw [World.size_alloc] at h5
  exact h5
 have HSA : Hid (wA.heap.size = w.heap.size + 2) := by rw [hA, World.size_alloc, World.size_alloc]; rfl
 go_enter Tryz.func3, Tryz.ntmps3
 go_wp2_with fail
 rw [<- hA]
 clear hA
 have hbd : Below wA.heap.size wA wA.drew := (Below.refl _ wA).drew
 have hPd := below_block hbd hPA (lt_of_heap hPA)
 have HXd := hid (below_block hbd HXA.out (lt_of_heap HXA.out))
 have HBd := hid (HBA.out.trans (hbd.mono HBA.out.size))
 clear hPA hbd
 refine wp_region_noPanic ?_
 refine wp_region_held_drew (S := fun W => W.cell? ⟨w.heap.size + 1, 0, none⟩ = some (.int .i64 at0) /\ W.cell? ⟨w.heap.size + 1, 1, none⟩ = some (.int .i64 n0)) (by kernel_rfl) ⟨cell_of_block hPd 0, cell_of_block hPd 1⟩ (fun hHeld => ?_)
 have hwd2 : w.heap.size + 2 <= wA.drew.heap.size := by have h5 := HSA.out; have h6 : wA.heap.size <= wA.drew.heap.size := (Below.drew (Below.refl wA.heap.size wA)).size; omega
 generalize wA.drew = wd at *
 clear hPd
 refine tq 0 _ ?_
 try simp only [tS]
 refine tq 1 _ ?_
 try simp only [tS]
 refine tq 2 _ ?_
 try simp only [tS]
 refine tq 3 _ ?_
 try simp only [tS]
 refine tq 4 _ ?_
 try simp only [tS]
 refine tq 5 _ ?_
 try simp only [tS]
 refine wpAnyH_done (by kernel_rfl) ?_ _
 refine NoPanic.normal ?_
 clear hHeld
 have HOp := hid (l6opened_any 90 (by omega) (by omega) (by decide) wd)
 go_wp2_with fail
 refine HOp.out.mono ?_
 clear HOp
 rintro e w1 ⟨s, m, c, F, r, Pg, rfl, hF, hb1, hst1, hp1, hp2, mr, hr1, hfi, hr0, hmr0⟩
 have HF := hid hF
 have HB1 := hid hb1
 have HS1 := hid hst1
 have HP1 := hid hp1
 have HR1 := hid hr1
 have HFi := hid hfi
 have HL := hid (l6live_any w1)
 clear hF hb1 hst1 hp1 hp2 hr1 hfi
 go_wp2_with fail
 refine HL.out.mono ?_
 clear HL
 rintro e w2 ⟨rfl, hb2⟩
 have hst2 := HS1.out.below hb2
 obtain ⟨rest, hfr⟩ := bits1_first 16 (by omega) (by omega)
 rw [<- HP1.out] at hfr
 have HMk := hid (iMake_st hst2 1 420 1 rest (by omega) (by omega) (by omega) hfr (by omega) (by omega))
 have HFl := hid hst2.lt
 have HB2 := hid hb2
 have HR2 := hid (HR1.out.below hb2)
 have HFi2 := hid (HFi.out.below hb2)
 clear hst2 hfr hb2 HS1 HP1 HR1 HFi
 go_wp2_with fail
 refine HMk.out.mono ?_
 clear HMk
 rintro e w3 ⟨rfl, hk3, hst3⟩
 have hr3 : Ref6 w3 (fun j => F j \/ j = w.heap.size) r mr := HR2.out.keep hk3 (fun _ e => .inl e) (fun j e => e.elim (fun e => .inl (.inl e)) (fun e => .inl (.inr (by omega))))
 have hr2F : Ref6 w2 F r mr := HR2.out.keep (Keeps.refl (fun _ => False) w2) (fun _ e => e.elim) (fun j e => .inl (.inl e))
 have hf3 := HFi2.out.keepF hr2F hk3
 have hlx : w.heap.size < w3.heap.size := by have h5 := HB1.out.size; have h6 := HB2.out.size; have h7 := hk3.size; omega
 have HMr := hid (v6Make_first hr3 (fun j e => e.elim (hst3.lt j) (fun e => by omega)) hf3)
 have HS3 := hid hst3
 have HR3 := hid hr3
 have HK3 := hid hk3
 clear hk3 hst3 hr3 hf3 HR2 HFi2
 go_wp2_with fail
 refine HMr.out.mono ?_
 clear HMr
 rintro e w4 ⟨rfl, hk4, hr4⟩
 have hst4 := HS3.out.ref (HR3.out.keep (Keeps.refl (fun _ => False) w3) (fun _ e => e.elim) (fun j e => .inl (.inl e)) : Ref6 w3 F r mr) hk4
 have hk4s := hk4.size
 have HCr := hid (v6Commit_r hr4 (fun j e => e.elim (hst4.lt j) (fun e => by omega)))
 have HS4 := hid hst4
 have HR4 := hid hr4
 have HK4 := hid hk4
 clear hk4 hst4 hr4
 go_wp2_with fail
 refine HCr.out.mono ?_
 clear HCr
 rintro e w5 ⟨rfl, hk5, hr5⟩
 have hst5 := HS4.out.ref (HR4.out.keep (Keeps.refl (fun _ => False) w4) (fun _ e => e.elim) (fun j e => .inl (.inl e)) : Ref6 w4 F r mr) (hk5.mono (fun i e => .inl e))
 have HMp := hid (iMap_any hst5.store)
 have HCa := hid (amCache_any hst5.map)
 obtain ⟨D5, hp5⟩ := hst5.pc
 have HCo := hid (hp5.commit (by omega))
 have HS5 := hid hst5
 have HR5 := hid hr5
 have HK5 := hid hk5
 clear hk5 hst5 hr5 hp5
 go_wp2_with fail
 refine HMp.out.mono ?_
 clear HMp
 rintro e w6 ⟨rfl, h6⟩
 obtain rfl := h6.symm
 clear h6
 go_wp2_with fail
 refine HCa.out.mono ?_
 clear HCa
 rintro e w6 ⟨rfl, h6⟩
 obtain rfl := h6.symm
 clear h6
 go_wp2_with fail
 refine HCo.out.mono ?_
 clear HCo
 rintro e w6 ⟨rfl, hk6, F6, hF6, hF6', hp6⟩
 have hs5 := HS5.out
 have hmF : ¬ F6 m := fun hh => (hF6' m hh).elim hs5.mF (fun e => by have := lt_of_heap hs5.map; omega)
 have hsF : ¬ F6 s := fun hh => (hF6' s hh).elim hs5.sF (fun e => by have := lt_of_heap hs5.store; omega)
 have hst6 : St w6 s m c F6 90 16 (makP Pg 1 1 420) (makP Pg 1 1 420) (updA (fun _ => none) 1 (some (newA 1 420))) (206 + 206) (0 + 3) := ⟨hs5.map.keep hk6 hs5.mF, hs5.store.keep hk6 hs5.sF, hmF, hsF, hs5.few, ⟨_, hp6⟩, hs5.good⟩
 have hr6 : Ref6 w6 (fun j => F6 j \/ j = w.heap.size) r mr := HR5.out.keep hk6 (fun _ e => .inl e) (fun j e => e.elim (fun e => (hF6' j e).imp .inl id) (fun e => .inl (.inr e)))
 have hw2 : w.heap.size + 2 <= wd.heap.size := hwd2
 have kk : Keeps (fun i => wd.heap.size <= i) w2 w6 := (((HK3.out.mono (fun i e => HF.out i e)).trans HK4.out (fun i e => .inl (by show wd.heap.size <= i; rcases e with e | e <;> omega))).trans HK5.out (fun i e => .inl (by show wd.heap.size <= i; have e' : i = r := e; omega))).trans hk6 (fun i e => .inl (HF.out i e))
 have hb12 := HB1.out.trans (HB2.out.mono HB1.out.size)
 have hb16 := hb12.trans (kk.below hb12.size (fun i e => e))
 have HBk : Hid (BackAt w w6 s m c r 0 (xL kd ii aa n nd md lk x)) :=
  ⟨F6, mr, fun i hi => (hF6' i hi).elim (fun e => Nat.le_trans hw2 (HF.out i e)) (fun e => by have h5 := hb12.size; have h6 := HK3.out.size; have h7 := HK4.out.size; have h8 := HK5.out.size; omega), HBd.out.trans (hb16.mono HBd.out.size), below_block hb16 HXd.out (lt_of_heap HXd.out), ⟨_, _, _, _, hst6, hst6.good, hr6⟩, by omega, by omega⟩
 clear hs5 hmF hsF hst6 hr6 kk hb12 hb16 hk6 hF6 hF6' hp6 HS5 HR5 HK5 HS4 HR4 HK4 HS3 HR3 HK3 HB1 HB2 HBd HXd HF HFl
 go_wp2
 go_loopw [16] (fun kv wr => ∃ k : Nat, k <= 10 /\ k <= ds.length /\ kv = .int .i64 k /\ Hid (BackAt w wr s m c r k (xL kd ii aa n nd md lk x))) (fun kv _ => 11 - (intOf kv).toNat)
 case atStart => exact ⟨0, by omega, by omega, rfl, HBk⟩
 case round =>
  obtain ⟨k, hk10, hkl, rfl, HI⟩ := hrel
  by_cases hkk : k < ds.length /\ k < 10
  ·obtain ⟨hk1, hk2⟩ := hkk
   have hk1' : (k : Int) < (ds.length : Int) := by omega
   have hk2' : (k : Int) < 10 := by omega
   obtain ⟨F, mr, hF, hB, hX, hO, hr0, hm0⟩ := HI.out
   obtain ⟨b, o, hda, hdc⟩ := HDs.out k hk1
   have hok := (hdc k hk1).below hB
   generalize ds[k] = E at *
   obtain ⟨ek, ei, ea, en, ed, em, el, ex⟩ := E
   have x0 : wr.cell? ⟨b, o + k * 8, none⟩ = some (.int .i64 ek) := hok 0 (show 0 < 8 by omega)
   have x1 : wr.cell? ⟨b, o + k * 8 + 1, none⟩ = some (.int .i64 ei) := hok 1 (show 1 < 8 by omega)
   have x2 : wr.cell? ⟨b, o + k * 8 + 2, none⟩ = some (.int .i64 ea) := hok 2 (show 2 < 8 by omega)
   have x3 : wr.cell? ⟨b, o + k * 8 + 3, none⟩ = some (.int .i64 en) := hok 3 (show 3 < 8 by omega)
   have x4 : wr.cell? ⟨b, o + k * 8 + 4, none⟩ = some (.int .i64 ed) := hok 4 (show 4 < 8 by omega)
   have x5 : wr.cell? ⟨b, o + k * 8 + 5, none⟩ = some (.int .i64 em) := hok 5 (show 5 < 8 by omega)
   have x6 : wr.cell? ⟨b, o + k * 8 + 6, none⟩ = some (.int .i64 el) := hok 6 (show 6 < 8 by omega)
   have x7 : wr.cell? ⟨b, o + k * 8 + 7, none⟩ = some (.int .u8 (ex.toNat : Int)) := hok 7 (show 7 < 8 by omega)
   subst hda
   clear hok hdc
   have HF := hid hF
   have HB := hid hB
   have HX := hid hX
   have HO := hid hO
   clear hF hB hX hO HI HBk
   by_cases he : ek = 1
   ·subst he
    obtain ⟨W, hW⟩ : ∃ W, W = wr.alloc (.cells #[.int .i64 1, .int .i64 1, .int .i64 ea, .int .i64 en, .int .i64 ed, .int .i64 em, .int .i64 el, .int .u8 (ex.toNat : Int)] 25) := ⟨_, rfl⟩
    have hbW : Below wr.heap.size wr W := by rw [hW]; exact (Below.refl _ wr).alloc (Nat.le_refl _) _
    have hyW : W.heap[wr.heap.size]? = some (.cells #[.int .i64 1, .int .i64 1, .int .i64 ea, .int .i64 en, .int .i64 ed, .int .i64 em, .int .i64 el, .int .u8 (ex.toNat : Int)] 25 (0, 0)) := by rw [hW]; exact block_new wr _
    have hOW := HO.out.below hbW
    have HMu := hid (l6much_one (by obtain ⟨-, -, -, -, -, -, h⟩ := hOW; exact h) 1 ea en ed em el ex)
    have HBW := hid hbW
    have HYW := hid hyW
    have HOW := hid hOW
    have HW := hid hW
    clear hbW hyW hOW hW
    go_wp2_with fail
    rw [<- HW.out]
    refine HMu.out.mono ?_
    clear HMu
    rintro e w7 ⟨hb7, bm, rfl⟩
    have hbr := HBW.out.trans (hb7.mono HBW.out.size)
    cases bm with
    | true =>
     have HN : Hid (BackAt w w7 s m c r (k + 1) (xL kd ii aa n nd md lk x)) := BackAt.next ⟨F, mr, HF.out, HB.out, HX.out, HO.out, hr0, hm0⟩ hbr
     clear hbr hb7
     go_wp2
     exact ⟨⟨k + 1, by omega, by omega, by go_num, HN⟩, by simp [intOf]; omega⟩
    | false =>
     have hy7 := below_block hb7 HYW.out (lt_of_heap HYW.out)
     have y0 : w7.cell? ⟨wr.heap.size, 0, none⟩ = some (.int .i64 1) := cell_of_block hy7 0
     have y1 : w7.cell? ⟨wr.heap.size, 1, none⟩ = some (.int .i64 1) := cell_of_block hy7 1
     have y2 : w7.cell? ⟨wr.heap.size, 2, none⟩ = some (.int .i64 ea) := cell_of_block hy7 2
     have y3 : w7.cell? ⟨wr.heap.size, 3, none⟩ = some (.int .i64 en) := cell_of_block hy7 3
     have y4 : w7.cell? ⟨wr.heap.size, 4, none⟩ = some (.int .i64 ed) := cell_of_block hy7 4
     have y5 : w7.cell? ⟨wr.heap.size, 5, none⟩ = some (.int .i64 em) := cell_of_block hy7 5
     have y6 : w7.cell? ⟨wr.heap.size, 6, none⟩ = some (.int .i64 el) := cell_of_block hy7 6
     have y7 : w7.cell? ⟨wr.heap.size, 7, none⟩ = some (.int .u8 (ex.toNat : Int)) := cell_of_block hy7 7
     have HDo := hid (l6do_one (i := 1) (X := fun j => j = w.heap.size) (fun j e => by have h5 := lt_of_heap HX.out; have h6 := hbr.size; have e' : j = w.heap.size := e; omega) (HO.out.below hbr) (by omega) (by omega) ea en ed em el ex)
     have HBr := hid hbr
     clear hy7 hbr hb7
     go_wp2_with fail
     refine HDo.out.mono ?_
     clear HDo
     rintro e w8 ⟨bd, F8, mr8, rfl, h1, h2, hk8, hO8, hm8⟩
     have HN : Hid (BackAt w w8 s m c r (k + 1) (xL kd ii aa n nd md lk x)) := BackAt.did HF.out HB.out HX.out hr0 (by obtain ⟨-, -, -, -, -, -, h⟩ := HO.out; exact h.lt.1) hm0 HBr.out h2 hk8 hO8 hm8
     clear h1 h2 hk8 hO8 hm8 y0 y1 y2 y3 y4 y5 y6 y7
     go_wp2
     exact ⟨⟨k + 1, by omega, by omega, by go_num, HN⟩, by simp [intOf]; omega⟩
   ·have hbr : Below wr.heap.size wr (wr.alloc (.cells #[.int .i64 ek, .int .i64 1, .int .i64 ea, .int .i64 en, .int .i64 ed, .int .i64 em, .int .i64 el, .int .u8 (ex.toNat : Int)] 25)) := (Below.refl _ wr).alloc (Nat.le_refl _) _
    have HN : Hid (BackAt w (wr.alloc (.cells #[.int .i64 ek, .int .i64 1, .int .i64 ea, .int .i64 en, .int .i64 ed, .int .i64 em, .int .i64 el, .int .u8 (ex.toNat : Int)] 25)) s m c r (k + 1) (xL kd ii aa n nd md lk x)) := BackAt.next ⟨F, mr, HF.out, HB.out, HX.out, HO.out, hr0, hm0⟩ hbr
    clear hbr
    go_wp2_with fail
    exact ⟨⟨k + 1, by omega, by omega, by go_num, HN⟩, by simp [intOf]; omega⟩
  ·obtain ⟨F, mr, hF, hB, hX, hO, hr0, hm0⟩ := HI.out
   obtain ⟨Pg2, Cm2, f, fc, hst, hcm, hr⟩ := hO
   have HFl : Hid (∀ i, F i -> i < wr.heap.size) := hst.lt
   have hxlt := lt_of_heap hX
   have HRd := hid (iRead_row hst (updA_self _ _ _) (by omega))
   have HF := hid hF
   have HB := hid hB
   have HX := hid hX
   have HCm := hid hcm
   have HR := hid hr
   clear HI hF hB hX hst hcm hr HBk
   rcases (show ((k : Int) < (ds.length : Int) /\ ¬ (k : Int) < 10) \/ ¬ (k : Int) < (ds.length : Int) by omega) with ⟨hk1', hk2'⟩ | hk1'
   all_goals
    clear hkk
    go_wp2_with fail
    refine HRd.out.mono ?_
    clear HRd
    rintro e w7 ⟨v7, rfl, hro7, hk7, hst7⟩
    obtain ⟨ad, cp, rfl, -⟩ := rowY.in_ hro7
    have hX7 := hk7.heap HX.out (fun hh => by have := HF.out _ hh; omega)
    have z0 : w7.cell? ⟨w.heap.size, 0, none⟩ = some (.int .i64 kd) := cell_of_block hX7 0
    have z1 : w7.cell? ⟨w.heap.size, 1, none⟩ = some (.int .i64 ii) := cell_of_block hX7 1
    have z2 : w7.cell? ⟨w.heap.size, 2, none⟩ = some (.int .i64 aa) := cell_of_block hX7 2
    have z3 : w7.cell? ⟨w.heap.size, 3, none⟩ = some (.int .i64 n) := cell_of_block hX7 3
    have z4 : w7.cell? ⟨w.heap.size, 4, none⟩ = some (.int .i64 nd) := cell_of_block hX7 4
    have z5 : w7.cell? ⟨w.heap.size, 5, none⟩ = some (.int .i64 md) := cell_of_block hX7 5
    have z6 : w7.cell? ⟨w.heap.size, 6, none⟩ = some (.int .i64 lk) := cell_of_block hX7 6
    have z7 : w7.cell? ⟨w.heap.size, 7, none⟩ = some (.int .u8 (x.toNat : Int)) := cell_of_block hX7 7
    have q0 : w7.frozen? ⟨w.heap.size, 0, none⟩ = false := frozen_of_block hX7 0
    have q1 : w7.frozen? ⟨w.heap.size, 1, none⟩ = false := frozen_of_block hX7 1
    have HX7 := hid hX7
    have HK7 := hid hk7
    have HS7 := hid hst7
    have HRo7 := hid hro7
    clear hX7 hk7 hst7 hro7
    obtain ⟨W8, hW8⟩ : ∃ W8, W8 = (w7.setCell ⟨w.heap.size, 1, none⟩ (.int .i64 1)).setCell ⟨w.heap.size, 0, none⟩ (.int .i64 1) := ⟨_, rfl⟩
    have HX8 : Hid (W8.heap[w.heap.size]? = some (.cells (xL 1 1 aa n nd md lk x).toArray 25 (0, 0))) := by rw [hW8]; exact block_setCell (block_setCell HX7.out 1 (.int .i64 1)) 0 (.int .i64 1)
    have HK8 : Hid (Keeps (fun j => j = w.heap.size) w7 W8) := by
     rw [hW8]
     exact ((Keeps.refl _ w7).grown (grown_setCell (grown_refl _ _) _ _) (fun i e => .inl (Option.some.inj e).symm)).grown (grown_setCell (grown_refl _ _) _ _) (fun i e => .inl (Option.some.inj e).symm)
    have HBs := hid (l6bytes_any 1 1 aa n nd md lk x W8)
    have hL8 := bLen_le n
    have HMu : Hid (∀ W, Below W8.heap.size W8 W -> Calls Tryz.prog 14 #[.pointer (some ⟨r, 0, none⟩), .agg #[.int .i64 1, .int .i64 1, .int .i64 aa, .int .i64 n, .int .i64 nd, .int .i64 md, .int .i64 lk, .int .u8 (x.toNat : Int)]] W fun e w' => MuchTo W e w') := fun W hW => l6much_one (((HR.out.keep HK7.out (fun j e => .inl e) (fun j e => .inl e)).keep (F' := fun j => F j \/ j = w.heap.size) HK8.out (fun j e => .inr e) (fun j e => .inl e)).below hW) 1 aa n nd md lk x
    have HW8 := hid hW8
    clear hW8
    generalize bLen n = L at *
    go_wp2_with fail
    rw [<- HW8.out]
    clear HW8
    refine HBs.out.mono ?_
    clear HBs
    rintro e w9 ⟨hb9, g, hg, rfl, ho9⟩
    clear z0 z1 z2 z3 z4 z5 z6 z7 q0 q1
    have hX9 := below_block hb9 HX8.out (lt_of_heap HX8.out)
    have z0 : w9.cell? ⟨w.heap.size, 0, none⟩ = some (.int .i64 1) := cell_of_block hX9 0
    have z1 : w9.cell? ⟨w.heap.size, 1, none⟩ = some (.int .i64 1) := cell_of_block hX9 1
    have z2 : w9.cell? ⟨w.heap.size, 2, none⟩ = some (.int .i64 aa) := cell_of_block hX9 2
    have z3 : w9.cell? ⟨w.heap.size, 3, none⟩ = some (.int .i64 n) := cell_of_block hX9 3
    have z4 : w9.cell? ⟨w.heap.size, 4, none⟩ = some (.int .i64 nd) := cell_of_block hX9 4
    have z5 : w9.cell? ⟨w.heap.size, 5, none⟩ = some (.int .i64 md) := cell_of_block hX9 5
    have z6 : w9.cell? ⟨w.heap.size, 6, none⟩ = some (.int .i64 lk) := cell_of_block hX9 6
    have z7 : w9.cell? ⟨w.heap.size, 7, none⟩ = some (.int .u8 (x.toNat : Int)) := cell_of_block hX9 7
    have HMu9 := hid (HMu.out w9 hb9)
    have HX9 := hid hX9
    have HO9 := hid ho9
    have HG9 := hid hg
    have HB9 := hid hb9
    clear HMu hX9 ho9 hg hb9
    go_wp2_with fail
    refine HMu9.out.mono ?_
    clear HMu9
    rintro e w10 ⟨hb10, bm, rfl⟩
    clear z0 z1 z2 z3 z4 z5 z6 z7
    have hX10 := below_block hb10 HX9.out (lt_of_heap HX9.out)
    have z2 : w10.cell? ⟨w.heap.size, 2, none⟩ = some (.int .i64 aa) := cell_of_block hX10 2
    have hxw := HB.out.size
    have K10 : Hid (Keeps (fun i => F i \/ i = w.heap.size) wr w10) := ((HK7.out.mono (fun i e => .inl e)).trans HK8.out (fun i e => .inl (.inr e))).trans (Keeps.of_below (HB9.out.trans (hb10.mono HB9.out.size)) : Keeps (fun i => F i \/ i = w.heap.size) W8 w10) (fun i e => .inl e)
    have HEnd10 : Hid (∀ W, Keeps F w10 W -> Below w.heap.size w W) := fun W kW => HB.out.trans ((K10.out.trans kW (fun i e => .inl (.inl e))).below HB.out.size (fun i e => e.elim (fun e => by have := HF.out i e; omega) (fun e => by omega)))
    cases bm with
    | true =>
     go_wp2
     go_ret
     exact ⟨rfl, HEnd10.out _ (Keeps.refl _ _)⟩
    | false =>
     have hxF : ¬ F w.heap.size := fun hh => by have := HF.out _ hh; omega
     have hst10 := ((HS7.out.keepQ (boxX_xL HX7.out) hxF HK8.out).below HB9.out).below hb10
     have hO10 := HO9.out.below hb10
     have hgF : ¬ F g := fun hh => by have h1 := HFl.out _ hh; have h2 := HK7.out.size; have h3 := HK8.out.size; have h4 := HG9.out; omega
     have hwr := iWrite_all hst10 (show GoodX noSk 90 16 Cm2 (updA (updA (fun _ => none) 1 (some f)) 1 (some fc)) by rw [updA_twice]; exact HCm.out) (updA_self _ _ _) (by omega) aa (bL x L) g hO10 hgF (by rw [length_bL]; exact hL8)
     rw [length_bL] at hwr
     have HWr := hid hwr
     have HX10 := hid hX10
     have HO10 := hid hO10
     have HR10 := hid (((HRo7.out.keepF HK8.out (fun i e => by have e' : i = w.heap.size := e; omega)).keepF (Keeps.of_below HB9.out : Keeps (fun _ => False) W8 w9) (fun i e => e.elim)).keepF (Keeps.of_below hb10 : Keeps (fun _ => False) w9 w10) (fun i e => e.elim))
     have HGF := hid hgF
     have HXF := hid hxF
     have HW10 : Hid (wr.heap.size <= w10.heap.size) := K10.out.size
     clear hb10 hst10 hO10 hgF hwr hX10 hxF HX7 HX9 HO9 HG9 HB9 HK7 HK8 HX8 HS7 HRo7 HX HR K10
     go_wp2_with fail
     refine HWr.out.mono ?_
     clear HWr
     rintro e w11 ⟨hk11, r1, Pg3, f2, rfl, hst11, h11⟩
     rw [updA_twice] at hst11
     by_cases hr1 : r1 = 0
     ·subst hr1
      obtain ⟨haa, hd2, ha7⟩ := h11 rfl
      have hE7 : f2.data.length <= 70656 := (hst11.good.file 1 f2 (updA_self _ _ _)).size
      have hgot : (f2.data.drop aa.toNat).take ((L : Int)).toNat = bL x L := by
       rw [Int.toNat_natCast]
       by_cases hL0 : L = 0
       ·rw [hL0, List.take_zero]
        exact (List.eq_nil_of_length_eq_zero (by rw [length_bL])).symm
       ·have h5 := wrD_part f.data (bL x L) aa.toNat
        rw [length_bL] at h5
        rw [hd2, if_neg hL0]
        exact h5
      have HD : Hid (∀ k, k < f2.data.length -> ¬ (aa <= (k : Int) /\ (k : Int) < aa + L) -> f2.data.getD k 0 = f.data.getD k 0) := by
       intro k hk hn
       by_cases hL0 : L = 0
       ·rw [hd2, if_pos hL0]
       ·rw [hd2, if_neg hL0] at hk ⊢
        rw [getD_wrD _ _ _ _ (by rw [length_wrD] at hk; exact hk), length_bL, if_neg (by omega)]
      have hX11 := hk11.heap HX10.out HXF.out
      have y2 : w11.cell? ⟨w.heap.size, 2, none⟩ = some (.int .i64 aa) := cell_of_block hX11 2
      have HRg := hid (iRead_any hst11 (updA_self _ _ _) (by omega) aa L (by omega))
      have HK11 := hid hk11
      have HX11 := hid hX11
      have HO11 := hid (HO10.out.keep hk11 HGF.out)
      have HR11 := hid (HR10.out.keepF hk11 (fun i e => HFl.out i e))
      have HW11 : Hid (wr.heap.size <= w11.heap.size) := Nat.le_trans HW10.out hk11.size
      clear h11 hd2 hk11 hX11 z2 hst11 HO10 HX10 HR10
      go_wp2_with fail
      refine HRg.out.mono ?_
      clear HRg
      rintro e w12 ⟨v12, r12, l12, rfl, hro12, hk12, hst12, ⟨hneg, -⟩ | ⟨-, -, rfl, rfl⟩⟩
      ·omega
      ·rw [hgot] at hro12
       obtain ⟨ad12, cp12, hv12, -⟩ := rowY.in_ hro12
       rw [length_bL] at hv12
       subst hv12
       have HRn := hid (iRead_row hst12 (updA_self _ _ _) (by omega))
       have HK12 := hid (HK11.out.trans hk12 (fun i e => .inl e))
       have HX12 := hid (hk12.heap HX11.out HXF.out)
       have HO12 := hid (HO11.out.keep hk12 HGF.out)
       have HR12 := hid (HR11.out.keepF hk12 (fun i e => HFl.out i e))
       have HP12 := hid hro12
       have HW12 : Hid (wr.heap.size <= w12.heap.size) := Nat.le_trans HW11.out hk12.size
       clear hgot hro12 hk12 hst12 y2 HK11 HX11 HO11 HR11
       go_wp2_with fail
       refine HRn.out.mono ?_
       clear HRn
       rintro e w13 ⟨v13, rfl, hro13, hk13, hst13⟩
       obtain ⟨ad13, cp13, rfl, -⟩ := rowY.in_ hro13
       have hO13 := HO12.out.keep hk13 HGF.out
       have hP13 := HP12.out.keepF hk13 (fun i e => Nat.lt_of_lt_of_le (HFl.out i e) HW11.out)
       have hsm := same_bytes (bL x L) (bL x L) ad12 (some ⟨g, 0, none⟩) cp12 L w13 hP13.bytes (fun j hj => ⟨g, 0, rfl, fun i hi => by rw [Nat.zero_add]; exact hO13.cell i hi⟩) (by rw [length_bL]; omega)
       rw [decide_eq_true rfl, length_bL] at hsm
       have HSm := hid hsm
       have HK13 := hid (HK12.out.trans hk13 (fun i e => .inl e))
       have HX13 := hid (hk13.heap HX12.out HXF.out)
       have HR13 := hid (HR12.out.keepF hk13 (fun i e => HFl.out i e))
       have HN13 := hid hro13
       have HS13 := hid hst13
       clear hro13 hk13 hst13 hO13 hP13 hsm HK12 HX12 HO12 HR12 HP12
       go_wp2_with fail
       refine HSm.out.mono ?_
       clear HSm
       rintro e w14 ⟨rfl, hb14⟩
       have hlo : ∀ i, (fun _ : Nat => False) i -> i < 0 := fun i e => e.elim
       have hRr14 := HR13.out.keepF (Keeps.of_below hb14 : Keeps (fun _ => False) w13 w14) (fun i e => e.elim)
       have hNr14 := HN13.out.keepF (Keeps.of_below hb14 : Keeps (fun _ => False) w13 w14) (fun i e => e.elim)
       have HR14 := hid hRr14.bytes
       have HN14 := hid hNr14.bytes
       have HNr14 := hid hNr14
       have x2 : w14.cell? ⟨w.heap.size, 2, none⟩ = some (.int .i64 aa) := cell_of_block (below_block hb14 HX13.out (lt_of_heap HX13.out)) 2
       have HS14 := hid (HS13.out.below hb14)
       have HW12' : Hid (∀ i, F i -> i < w12.heap.size) := fun i e => Nat.lt_of_lt_of_le (HFl.out i e) HW12.out
       have HEnd14 : Hid (∀ W, Keeps F w14 W -> Below w.heap.size w W) := fun W kW => HEnd10.out W ((HK13.out.trans (Keeps.of_below hb14 : Keeps F w13 w14) (fun i e => .inl e)).trans kW (fun i e => .inl e))
       clear hlo hRr14 hNr14 hb14 HR13 HN13 HX13 HS13 HK13 HEnd10 HW10 HW11 HW12 HF HB HFl HCm HGF HXF
       go_wp2_with fail
       go_loopw [25] (fun kv W => ∃ q : Nat, Hid (Below w14.heap.size w14 W) /\ q <= f2.data.length /\ kv = .int .i64 q) (fun kv _ => f2.data.length - (intOf kv).toNat)
       case atStart => exact ⟨0, Below.refl _ _, Nat.zero_le _, rfl⟩
       case round =>
        obtain ⟨q, HBq, hq, rfl⟩ := hrel
        have x2' := (HBq.out.cell (World.block_lt_of_cell? w14 _ x2)).trans x2
        by_cases hlt : q < f2.data.length
        ·have hlt' : (q : Int) < (f2.data.length : Int) := by omega
         have hi0 : (0 : Int) <= (q : Int) := by omega
         obtain ⟨b0, o0, rfl, hcs⟩ := HN14.out q hlt
         have hgk := (HBq.out.cell (World.block_lt_of_cell? w14 _ (hcs q hlt))).trans (hcs q hlt)
         by_cases h12 : aa <= (q : Int) /\ (q : Int) < aa + L
         ·obtain ⟨h1, h2⟩ := h12
          clear hcs hgk
          go_wp2
          exact ⟨⟨q + 1, HBq, by omega, by go_num⟩, by simp [intOf]; omega⟩
         ·have hdq := HD.out q hlt h12
          rw [List.getD_eq_getElem?_getD, List.getElem?_eq_getElem hlt] at hdq
          by_cases h3 : q < f.data.length
          ·have h3' : (q : Int) < (f.data.length : Int) := by omega
           have h3n : ¬ f.data.length <= q := by omega
           obtain ⟨b1, o1, rfl, hcs1⟩ := HR14.out q h3
           have hwk := (HBq.out.cell (World.block_lt_of_cell? w14 _ (hcs1 q h3))).trans (hcs1 q h3)
           have hv : f2.data[q] = f.data[q] := by
            rw [List.getD_eq_getElem?_getD, List.getElem?_eq_getElem h3] at hdq
            exact hdq
           rw [hv] at hgk
           generalize f.data[q] = v at *
           have hqv : ((v.toNat : Int) != (v.toNat : Int)) = false := by simp
           clear hcs hcs1 hdq hv
           rcases (show ¬ aa <= (q : Int) \/ (aa <= (q : Int) /\ ¬ (q : Int) < aa + L) by omega) with h1 | ⟨h1, h2⟩
           all_goals
            clear h12
            go_wp2
            go_quiet (fail)
            go_wp2
            exact ⟨⟨q + 1, by first | exact HBq.out | exact HBq.out.drew | exact below_drewN' HBq.out _, by omega, by go_num⟩, by simp [intOf]; omega⟩
          ·have h3' : ¬ (q : Int) < (f.data.length : Int) := by omega
           have h3'' : (f.data.length : Int) <= (q : Int) := by omega
           have hv : f2.data[q] = 0 := by
            rw [List.getD_eq_getElem?_getD, List.getElem?_eq_none (by omega)] at hdq
            exact hdq
           rw [hv] at hgk
           have hgk' : wr.cell? ⟨b0, o0 + q, none⟩ = some (.int .u8 0) := hgk
           clear hcs hdq hv hgk
           rcases (show ¬ aa <= (q : Int) \/ (aa <= (q : Int) /\ ¬ (q : Int) < aa + L) by omega) with h1 | ⟨h1, h2⟩
           all_goals
            clear h12
            go_wp2
            go_quiet (fail)
            go_wp2
            exact ⟨⟨q + 1, by first | exact HBq.out | exact HBq.out.drew | exact below_drewN' HBq.out _, by omega, by go_num⟩, by simp [intOf]; omega⟩
        ·have hge : ¬ ((q : Int) < (f2.data.length : Int)) := by omega
         have HRp := hid (iRead_any (HS14.out.below HBq.out) (updA_self _ _ _) (by omega) at0 n0 hn0)
         have HNq := HNr14.out.keepF (Keeps.of_below HBq.out : Keeps (fun _ => False) w14 wr) (fun i e => e.elim)
         clear HS14 HD HR14 x2'
         go_wp2_with fail
         refine HRp.out.mono ?_
         clear HRp
         rintro e w15 ⟨v15, r15, l15, rfl, hro15, hk15, -, hc15⟩
         have HEnd15 : Hid (∀ W, Below w15.heap.size w15 W -> Below w.heap.size w W) := fun W kW => HEnd14.out W (((Keeps.of_below HBq.out : Keeps F w14 wr).trans hk15 (fun i e => .inl e)).trans (Keeps.of_below kW : Keeps F w15 W) (fun i e => .inl e))
         have HN15 := hid (HNq.keepF hk15 HW12'.out)
         obtain ⟨ad15, cp15, rfl, -⟩ := rowY.in_ hro15
         have HP15 := hid hro15
         clear hro15 hk15 HEnd14 HNr14 HN14 HNq x2 hge hlt hq
         rcases hc15 with ⟨hneg, rfl⟩ | ⟨ha0, hnn, rfl, rfl⟩
         ·rcases (show at0 < 0 \/ (¬ at0 < 0 /\ n0 < 0) by omega) with h1 | ⟨h1, h2⟩
          all_goals
           clear hneg
           go_wp2
           go_ret
           exact ⟨rfl, HEnd15.out _ (Below.refl _ _)⟩
         ·obtain ⟨a0, rfl⟩ : ∃ a0 : Nat, at0 = (a0 : Int) := ⟨at0.toNat, by omega⟩
          obtain ⟨nn, rfl⟩ : ∃ nn : Nat, n0 = (nn : Int) := ⟨n0.toNat, by omega⟩
          have h1 : ¬ (a0 : Int) < 0 := by omega
          have h2 : ¬ (nn : Int) < 0 := by omega
          have hgo : ∀ (lo m : Nat) (hi : Int), lo + m <= f2.data.length -> hi = (lo + m : Nat) -> (f2.data.drop a0).take nn = (f2.data.drop lo).take m -> (List.take (nn : Int).toNat (List.drop (a0 : Int).toNat f2.data)).length = m /\ ∃ a', (∀ W, (Instr.slice 42 (.slice ad13 f2.data.length cp13) (some (.int .i64 lo)) (some (.int .i64 hi)) none).run Tryz.prog W = .ok (.slice a' m (cp13 - lo)) W) /\
            Hid (Calls Tryz.prog 19 #[.slice ad15 m cp15, .slice a' m (cp13 - lo)] w15 fun e w' => e = .returned (.bool true) /\ Below w15.heap.size w15 w') := fun lo m hi hle hhi heq => by
           obtain ⟨a', hr, hby⟩ := run_slice_row HN15.out lo (lo + m) (by omega) hle
           rw [show lo + m - lo = m by omega, <- hhi] at hr
           rw [show lo + m - lo = m by omega] at hby
           have hP := HP15.out.bytes
           have hP : bytesIn w15 ad15 ((f2.data.drop lo).take m) := by rw [<- heq]; exact hP
           have hlm : ((f2.data.drop lo).take m).length = m := by rw [List.length_take, List.length_drop]; omega
           have hsm := same_bytes _ _ ad15 a' cp15 (cp13 - lo) w15 hP hby (by rw [List.length_take]; omega)
           rw [decide_eq_true rfl, hlm] at hsm
           exact ⟨by rw [<- hlm, <- heq]; rfl, a', hr, hsm⟩
          obtain ⟨E, hE⟩ : ∃ E, E = f2.data.length := ⟨_, rfl⟩
          have hcs : (∃ lo m : Nat, lo = E /\ m = 0 /\ (E : Int) < (a0 : Int) /\ (f2.data.drop a0).take nn = (f2.data.drop lo).take m) \/ (∃ m : Nat, ¬ (E : Int) < (a0 : Int) /\ (m : Int) < (nn : Int) /\ (E : Int) - (a0 : Int) = (m : Int) /\ (f2.data.drop a0).take nn = (f2.data.drop a0).take m) \/ (¬ (E : Int) < (a0 : Int) /\ ¬ (E : Int) - (a0 : Int) < (nn : Int)) := by
           by_cases c1 : E < a0
           ·exact .inl ⟨E, 0, rfl, rfl, by omega, by rw [List.drop_eq_nil_of_le (by omega), List.take_nil, List.take_zero]⟩
           ·by_cases c2 : E - a0 < nn
            ·exact .inr (.inl ⟨E - a0, by omega, by omega, by omega, by rw [List.take_of_length_le (by rw [List.length_drop]; omega), List.take_of_length_le (by rw [List.length_drop]; omega)]⟩)
            ·exact .inr (.inr ⟨by omega, by omega⟩)
          rw [<- hE] at hgo hE7 ⊢
          clear hE HN15 HP15
          rcases hcs with ⟨lo, m, rfl, rfl, c1, heq⟩ | ⟨m, c1, c2, hm, heq⟩ | ⟨c1, c2⟩
          ·obtain ⟨hlen, a', hrs, HSm⟩ := hgo lo 0 (lo : Int) (by omega) (by omega) heq
           rw [hlen]
           clear hgo
           rcases Nat.eq_zero_or_pos nn with rfl | hnp
           ·go_wp2_with fail
            refine HSm.out.mono ?_
            rintro e w16 ⟨rfl, hb16⟩
            go_wp2
            go_ret
            exact ⟨rfl, HEnd15.out _ hb16⟩
           ·have hnp' : (0 : Int) < (nn : Int) := by omega
            go_wp2_with fail
            refine HSm.out.mono ?_
            rintro e w16 ⟨rfl, hb16⟩
            go_wp2
            go_ret
            exact ⟨rfl, HEnd15.out _ hb16⟩
          ·obtain ⟨hlen, a', hrs, HSm⟩ := hgo a0 m ((a0 : Int) + (m : Int)) (by omega) (by omega) heq
           rw [hlen]
           clear hgo
           go_wp2_with fail
           refine HSm.out.mono ?_
           rintro e w16 ⟨rfl, hb16⟩
           go_wp2
           go_ret
           exact ⟨rfl, HEnd15.out _ hb16⟩
          ·obtain ⟨hlen, a', hrs, HSm⟩ := hgo a0 nn ((a0 : Int) + (nn : Int)) (by omega) (by omega) rfl
           rw [hlen]
           clear hgo
           go_wp2_with fail
           refine HSm.out.mono ?_
           rintro e w16 ⟨rfl, hb16⟩
           go_wp2
           go_ret
           exact ⟨rfl, HEnd15.out _ hb16⟩
     ·go_wp2
      go_ret
      exact ⟨rfl, HEnd10.out _ hk11⟩
end
end Go.Proofs.YtamfgnfclamamaaGreat
