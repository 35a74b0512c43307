/- Several of my texts in one: InHoldD, InHoldG, InLast, InWrite, InSt, R6Kit, R6Look, R6Set, R6Com, R6New, R6Map, R6First, InStW, AlApp, InPgs, InStP, InLive, InMake, InLive2, InBytes, InRd, InRead, InStR, InStS, InModes, InReadV. -/
import Derived.Test.YtehkeadpgedolaaGreatDoorJoined5
import Derived.Test.YtehkeadpgedolaaGreatDoorJoined4
import Derived.Test.YtehkeadpgedolaaGreatDoorJoined3
import Derived.Test.YtehkeadpgedolaaGreatDoorJoined2
set_option maxRecDepth 100000
set_option maxHeartbeats 4000000
namespace Go.Proofs.YtehkeadpgedolaaGreatDoor
section
open Go.RowKit Go.Shelf
attribute [local go_sem] Oper.semAt_some
def GivesI (wE : World) (c : Nat) (F : Nat -> Prop) (size N : Nat) (Pg Cm : Nat -> List UInt8) (o u k f m : Nat) (S : FileS) (hv : Nat) (pre : List Nat) (V : World) : Prop :=
 ∃ sl Pg', sl.length = 139 /\ fileB V f m ⟨S.num, S.kind, S.mode, S.links, S.size, sl⟩ /\ Pe V c F size N Pg' Cm o (u + pre.length) (k - pre.length) /\ (pre = dnL hv pre.length -> sl = zsL S.slots (dnL hv pre.length) /\ Pg' = gvPs Pg S.slots (dnL hv pre.length)) /\ Keeps (fun i => F i \/ i = f) wE V
theorem GivesI.own {wE A B : World} {c : Nat} {F : Nat -> Prop} {size N : Nat} {Pg Cm : Nat -> List UInt8} {o u k f m : Nat} {S : FileS} {hv : Nat} {pre : List Nat} {row : Option Nat} (h : GivesI wE c F size N Pg Cm o u k f m S hv pre A) (hF : ∀ i, F i -> i < wE.heap.size) (hf : f < wE.heap.size) (hgr : A.grownBy B row) (hr : ∀ r, row = some r -> wE.heap.size <= r /\ ∃ o : Obj, A.heap[r]? = some o /\ o.isCells = false) : GivesI wE c F size N Pg Cm o u k f m S hv pre B := by
 obtain ⟨sl, Pg', h1, h2, ⟨D, h3, h4⟩, h5, h6⟩ := h
 exact ⟨sl, Pg', h1, grown_block hgr h2 (fun e => by have := (hr _ e).1; omega), ⟨D, h3, h4.own hF hgr hr⟩, h5, h6.trans (Keeps.of_grown hgr (F := fun i => row = some i) (fun i e => e)) (fun i e => .inr (hr i e).1)⟩
theorem zsL_other : ∀ (k j : Nat) (sl : List Nat) {c : Nat}, k < c -> j + 1 <= c - k -> (zsL sl (dnL c k)).getD j 0 = sl.getD j 0
 | 0, _, _, _, _, _ => rfl
 | k + 1, j, sl, c, hk, hj => by
  rw [dnL_succ, zsL_snoc, List.getD_eq_getElem?_getD, List.getElem?_set_ne (by omega), <- List.getD_eq_getElem?_getD]
  exact zsL_other k j sl (by omega) (by omega)
theorem give_step {w w' : World} {c ino : Nat} {F : Nat -> Prop} {size N : Nat} {Pg Cm : Nat -> List UInt8} {D : Int -> Bool} {o u k n : Nat} {e : Ending} (hr : Rm N size D (k + 1)) (hN : 2 < N) (hx : GiveTo w c F size N Pg Cm D o u 2 (3 + ino / 8) N (n : Int) e w') :
  Keeps F w w' /\ ∃ (r : Int) (Pg' : Nat -> List UInt8) (D' : Int -> Bool), e = .returned (.int .i64 r) /\ ¬ r = 7 /\ Rm N size D' k /\ Pc w' c F size N Pg' Cm D' o (u + 1) /\ (bitL (Pg 2) n = true /\ 3 + ino / 8 <= n /\ n < N -> Pg' = gvP Pg n) := by
 obtain ⟨hk, h | h | h | h⟩ := hx
 ·obtain ⟨h1, rfl, h2⟩ := h
  exact ⟨hk, 2, Pg, D, rfl, by decide, hr.le (by omega), h2, fun hh => absurd ⟨by omega, by omega⟩ h1⟩
 ·obtain ⟨-, h1, rfl, h2⟩ := h
  rw [Int.toNat_natCast] at h1
  exact ⟨hk, 4, Pg, D, rfl, by decide, hr.le (by omega), h2, fun hh => by rw [h1] at hh; cases hh.1⟩
 ·obtain ⟨-, -, h1, -⟩ := h
  have h2 := hr.use 2 hN
  exfalso
  have e2 : ((2 : Nat) : Int) = 2 := rfl
  rw [e2] at h1 h2
  rcases h2 with h2 | h2
  ·have h3 := h1
   rw [if_pos h2] at h3
   rcases hr with h4 | h4
   ·omega
   ·have := dkD_le N D; omega
  ·split at h1
   ·omega
   ·omega
 ·obtain ⟨-, -, -, rfl, h2⟩ := h
  rw [Int.toNat_natCast] at h2
  exact ⟨hk, 0, _, _, rfl, by decide, hr.put 2, h2, fun _ => rfl⟩
theorem ihold_dn {w : World} {f m c ino : Nat} {F : Nat -> Prop} {size N : Nat} {Pg Cm : Nat -> List UInt8} {o u k : Nat} {S : FileS} (h : mapB w m c ino) (hmF : ¬ F m) (hi : ino <= 512) (hN : 3 <= N) (hf : fileB w f m S) (hfF : ¬ F f) (hS : S.slots.length = 139) (s : Nat) (hs : S.size <= 70656) (hss : s <= S.size) (hu : u < 900000)
  (hbit : ∀ j, j < needN S.size - needN s -> bitL (gvPs Pg S.slots (dnL (needN S.size) j) 2) (S.slots.getD (needN S.size - 1 - j) 0) = true /\ 3 + ino / 8 <= S.slots.getD (needN S.size - 1 - j) 0 /\ S.slots.getD (needN S.size - 1 - j) 0 < N)
  (hp : Pe w c F size N Pg Cm o u (k + (needN S.size - needN s))) :
  Calls Tryz.prog 152 #[.pointer (some ⟨f, 0, none⟩), .int .i64 s] w fun e w' => e = .returned (.int .i64 0) /\ Keeps (fun i => F i \/ i = f) w w' /\ fileB w' f m ⟨S.num, S.kind, S.mode, S.links, s, zsL S.slots (dnL (needN S.size) (needN S.size - needN s))⟩ /\
    Pe w' c F size N (gvPs Pg S.slots (dnL (needN S.size) (needN S.size - needN s))) Cm o (u + (needN S.size - needN s)) k := by
 refine (callsIn_wide (n := 8)).1 ?_
 obtain ⟨wA, hA⟩ : ∃ wA, wA = (w.alloc (.cells #[.pointer (some ⟨f, 0, none⟩)] 168)).alloc (.cells #[.int .i64 0] 31) := ⟨_, rfl⟩
 have hAB : Below w.heap.size w wA := by rw [hA]; exact ((Below.refl _ w).alloc (Nat.le_refl _) _).alloc (by simp) _
 have hA0 : wA.heap[w.heap.size]? = some (.cells #[.pointer (some ⟨f, 0, none⟩)] 168 (0, 0)) := by rw [hA]; exact block_alloc (block_new w _) _
 have hA1 : wA.heap[w.heap.size + 1]? = some (.cells #[.int .i64 0] 31 (0, 0)) := by
  have h1 := block_new (w.alloc (.cells #[.pointer (some ⟨f, 0, none⟩)] 168)) (.cells #[.int .i64 0] 31)
  rw [World.size_alloc] at h1
  rw [hA]; exact h1
 have hAs : wA.heap.size = w.heap.size + 2 := by rw [hA]; simp
 have hfA := hf.below hAB
 obtain ⟨-, -, -, -, -, c5⟩ := hfA.head
 have c0 : wA.cell? ⟨w.heap.size, 0, none⟩ = some (.pointer (some ⟨f, 0, none⟩)) := cell_of_block hA0 0
 have HF := hid hfA
 have HMp := hid (h.below hAB)
 have HPc : Hid (Pe wA c F size N Pg Cm o u (k + (needN S.size - needN s))) := by obtain ⟨D, h1, h2⟩ := hp; exact ⟨D, h1, h2.below hAB⟩
 have HFl : Hid (∀ i, F i -> i < w.heap.size) := by obtain ⟨D, h1, h2⟩ := hp; exact h2.lt
 have HBt := hid hbit
 have HA1 := hid hA1
 have HA0 := hid hA0
 have HAB := hid hAB
 have HAs := hid hAs
 have HS := hid hS
 have hfl : f < w.heap.size := hf.lt
 rw [hA] at c5 c0
 obtain ⟨z, hz⟩ : ∃ z, z = S.size := ⟨_, rfl⟩
 rw [<- hz] at c5 hss
 have HZ := hid hz
 have hss' : ¬ ((z : Int) < (s : Int)) := by omega
 clear hf hfA hA0 hA1 hAB hAs hS h hp hz hbit
 refine callsIn_of_wp_marks Tryz.func152 rfl trivial ?_ rfl
 simp only [Tryz.ntmps152, List.size_toArray, List.length_cons, List.length_nil, Nat.reduceAdd, Nat.reduceSub, Array.replicate_succ, Array.replicate_zero, List.push_toArray, List.append_toArray, List.nil_append, List.cons_append]
 have hf2 : Fence.wide.fn 204 := trivial
 have hf3 : Fence.wide.fn 206 := trivial
 have hf4 : Fence.wide.fn 203 := trivial
 have hf5 : Fence.wide.fn 207 := trivial
 gi_wp2
 rw [<- hA] at c0 c5 ⊢
 clear hA
 have hn1 := iNeed_any (z : Int) wA
 have hn2 := iNeed_any (s : Int) wA
 rw [needZ_nat] at hn1 hn2
 have hz7 : z <= 70656 := by have := HZ.out; omega
 have hmo : needN s <= needN z := need_mono (by have := HZ.out; omega) hz7
 have h139 := need_139 z
 rw [<- HZ.out] at HBt HPc
 obtain ⟨hv, hhv⟩ : ∃ hv, hv = needN z := ⟨_, rfl⟩
 obtain ⟨nd, hnd⟩ : ∃ nd, nd = needN s := ⟨_, rfl⟩
 rw [<- hhv] at hn1 hmo HBt HPc h139
 rw [<- hnd] at hn2 hmo HBt HPc
 have HHv := hid hhv
 have HNd := hid hnd
 have HN1 := hid hn1
 have HN2 := hid hn2
 clear hn1 hn2 hhv hnd
 refine (callsIn_wide.2 HN1.out).mono ?_
 clear HN1
 rintro e w2 ⟨rfl, h2⟩
 obtain rfl := h2.symm
 clear h2
 gi_wp2
 refine (callsIn_wide.2 HN2.out).mono ?_
 clear HN2
 rintro e w2 ⟨rfl, h2⟩
 obtain rfl := h2.symm
 clear h2
 gi_wp2
 refine (callsIn_wide.2 (irising_any f hv nd wA)).mono ?_
 rintro e wD ⟨rfl, hD⟩
 have hDB : Below wA.heap.size wA wD := by rw [hD]; exact (((Below.refl _ wA).alloc (Nat.le_refl _) _).alloc (by simp) _).alloc (by simp; omega) _
 have hsD : wD.heap.size = wA.heap.size + 3 := by rw [hD]; simp
 have x0 : wD.cell? ⟨wA.heap.size, 0, none⟩ = some (.pointer (some ⟨f, 0, none⟩)) := by rw [hD]; exact cell_of_block (block_alloc (block_alloc (block_new wA _) _) _) 0
 have x1 : wD.cell? ⟨wA.heap.size + 1, 0, none⟩ = some (.int .i64 hv) := by
  have h1 := block_new (wA.alloc (.cells #[.pointer (some ⟨f, 0, none⟩)] 168)) (.cells #[.int .i64 hv] 3)
  rw [World.size_alloc] at h1
  rw [hD]; exact cell_of_block (block_alloc h1 _) 0
 have x2 : wD.cell? ⟨wA.heap.size + 1 + 1, 0, none⟩ = some (.int .i64 nd) := by
  have h1 := block_new ((wA.alloc (.cells #[.pointer (some ⟨f, 0, none⟩)] 168)).alloc (.cells #[.int .i64 hv] 3)) (.cells #[.int .i64 nd] 3)
  rw [World.size_alloc, World.size_alloc] at h1
  rw [hD]; exact cell_of_block h1 0
 have HDB := hid hDB
 have HFD := hid (HF.out.below hDB)
 have HMD := hid (HMp.out.below hDB)
 have HPD : Hid (Pe wD c F size N Pg Cm o u (k + (hv - nd))) := by obtain ⟨D, h1, h2⟩ := HPc.out; exact ⟨D, h1, h2.below hDB⟩
 have HR1 := hid (below_block hDB HA1.out (lt_of_heap HA1.out))
 have HR0 := hid (below_block hDB HA0.out (lt_of_heap HA0.out))
 have HsD := hid hsD
 have HSt := hid (irising_stops 7 (by omega) wA.heap.size (wA.heap.size + 1) (wA.heap.size + 1 + 1) f hv nd (fun i => wD.heap.size <= i) (by omega) wD (by omega) (by omega) x0 x1 x2)
 have HWs : Hid (w.heap.size + 2 <= wD.heap.size) := by have := HAs.out; unfold Hid; omega
 have HN0 : Hid (nd - hv = 0) := by unfold Hid; omega
 clear hD hDB hsD x0 x1 x2 HF HMp HPc HA1 HA0 c0 c5
 gi_wp2
 have hsd := HsD.out
 refine wpIn_rangeFunc_ownH rfl (by omega) (gf := 238) (lb := #[.pointer (some ⟨wA.heap.size + 1, 0, none⟩), .pointer (some ⟨wA.heap.size + 1 + 1, 0, none⟩), .pointer (some ⟨wA.heap.size, 0, none⟩)]) rfl trivial (enters_of Tryz.func238 (by kernel_rfl) rfl)
  HSt.out (fun h k => keepsK_t h k) (keepsK_b (fun i h => h)) (Below.refl _ _) (fun _ => rfl)
  (fun pre W => pre = [] /\ Hid (Below wD.heap.size wD W))
  (fun _ _ _ => False)
  (fun s A B row hs hgr hr => ⟨hs.1, hs.2.out.grown hgr hs.2.out.size (fun k e => (hr k e).1)⟩)
  (fun cd s A B row hs hgr hr => hs)
  ⟨rfl, Below.refl _ _⟩
  (fun _ _ _ => True) (fun _ _ _ _ _ _ hs _ _ => hs) ?assign ?body ?done ?stop
 case assign =>
  rintro l pre x W K ⟨rfl, hB⟩ hK
  have HK := hid hK
  have HB := hid hB
  clear hK hB
  gi_wp2
  exact HK.out _ _ (KeepsFrom.refl _ _) (Keeps.refl _ _) ⟨trivial, HB.out⟩ trivial
 case body =>
  intro l pre x a' W h1 h2 h3 h4 hlt
  exact absurd hlt (by rw [HN0.out]; omega)
 case stop =>
  intro D c pre W hD hpre hx
  exact hx.elim
 case done =>
  rintro D1 ys W hD1 hys ⟨rfl, hBW⟩ hK1
  have HBW := hid hBW.out
  have HFw := hid (HFD.out.below HBW.out)
  have HMw := hid (HMD.out.below HBW.out)
  have HPw : Hid (Pe W c F size N Pg Cm o u (k + (hv - nd))) := by obtain ⟨D, h1, h2⟩ := HPD.out; exact ⟨D, h1, h2.below HBW.out⟩
  have HR0w := hid (below_block HBW.out HR0.out (lt_of_heap HR0.out))
  have HR1w := hid (below_block HBW.out HR1.out (lt_of_heap HR1.out))
  have cb : W.cell? ⟨w.heap.size, 0, none⟩ = some (.pointer (some ⟨f, 0, none⟩)) := cell_of_block HR0w.out 0
  have HKD1 := hid hK1
  have hwW : w.heap.size + 2 <= W.heap.size := Nat.le_trans HWs.out HBW.out.size
  clear hys hK1 HR0 HR1 HSt hBW HFD HMD HPD
  gi_wp2
  refine (callsIn_wide.2 (ifalling_any f hv nd W)).mono ?_
  rintro e wE ⟨rfl, hE⟩
  have hEB : Below W.heap.size W wE := by rw [hE]; exact (((Below.refl _ W).alloc (Nat.le_refl _) _).alloc (by simp) _).alloc (by simp; omega) _
  have hsE : wE.heap.size = W.heap.size + 3 := by rw [hE]; simp
  have x0 : wE.cell? ⟨W.heap.size, 0, none⟩ = some (.pointer (some ⟨f, 0, none⟩)) := by rw [hE]; exact cell_of_block (block_alloc (block_alloc (block_new W _) _) _) 0
  have x1 : wE.cell? ⟨W.heap.size + 1, 0, none⟩ = some (.int .i64 hv) := by
   have h1 := block_new (W.alloc (.cells #[.pointer (some ⟨f, 0, none⟩)] 168)) (.cells #[.int .i64 hv] 3)
   rw [World.size_alloc] at h1
   rw [hE]; exact cell_of_block (block_alloc h1 _) 0
  have x2 : wE.cell? ⟨W.heap.size + 1 + 1, 0, none⟩ = some (.int .i64 nd) := by
   have h1 := block_new ((W.alloc (.cells #[.pointer (some ⟨f, 0, none⟩)] 168)).alloc (.cells #[.int .i64 hv] 3)) (.cells #[.int .i64 nd] 3)
   rw [World.size_alloc, World.size_alloc] at h1
   rw [hE]; exact cell_of_block h1 0
  have hG : ∀ i, w.heap.size <= i -> i < wE.heap.size -> ¬ (F i \/ i = f \/ wE.heap.size <= i) := fun i h1 h2 hh => by
   rcases hh with hh | hh | hh
   ·have := HFl.out i hh; omega
   ·omega
   ·omega
  have HSt2 := hid (ifalling_stops 7 (by omega) W.heap.size (W.heap.size + 1) (W.heap.size + 1 + 1) f hv nd (fun i => F i \/ i = f \/ wE.heap.size <= i) (by omega) (by omega) wE (hG _ (by omega) (by omega)) (hG _ (by omega) (by omega)) x0 x1 x2)
  have HFE := hid (HFw.out.below hEB)
  have HME := hid (HMw.out.below hEB)
  have HPE : Hid (Pe wE c F size N Pg Cm o u (k + (hv - nd))) := by obtain ⟨D, h1, h2⟩ := HPw.out; exact ⟨D, h1, h2.below hEB⟩
  have HKE : Hid (Keeps (fun i => F i \/ i = f) w wE) := Keeps.of_below (((HAB.out.trans (HDB.out.mono HAB.out.size)).trans (HBW.out.mono (by have := HWs.out; omega))).trans (hEB.mono (by omega)))
  have HR0E := hid (below_block hEB HR0w.out (lt_of_heap HR0w.out))
  have HR1E := hid (below_block hEB HR1w.out (lt_of_heap HR1w.out))
  have HKDE := hid (below_block hEB HKD1.out (lt_of_heap HKD1.out))
  have hlD1 := lt_of_heap HKD1.out
  clear hE hEB x0 x1 x2 cb HFw HPw HMw HR0w HR1w HKD1
  gi_wp2
  refine wpIn_rangeFunc_ownH rfl (by omega) (gf := 239) (lb := #[.pointer (some ⟨W.heap.size + 1, 0, none⟩), .pointer (some ⟨W.heap.size + 1 + 1, 0, none⟩), .pointer (some ⟨W.heap.size, 0, none⟩)]) rfl trivial (enters_of Tryz.func239 (by kernel_rfl) rfl)
   HSt2.out (fun h k => keepsK_t h k) (keepsK_b (fun i h => .inr (.inr h))) (Below.refl _ _) (fun _ => rfl)
   (fun pre V => Hid (GivesI wE c F size N Pg Cm o u (k + (hv - nd)) f m S hv (pre.map Fin.val) V))
   (fun _ _ _ => False)
   (fun s A B row hs hgr hr => hs.out.own (fun i hi => by have := HFl.out i hi; omega) (by omega) hgr hr)
   (fun cd s A B row hs hgr hr => hs)
   ⟨S.slots, Pg, HS.out, HFE.out, HPE.out, fun _ => ⟨rfl, rfl⟩, Keeps.refl _ _⟩
   (fun x a' _ => a' = { tmps := #[.pointer (some ⟨f, 0, none⟩), .int .i64 s, .pointer (some ⟨w.heap.size, 0, none⟩), undef, .pointer (some ⟨w.heap.size + 1, 0, none⟩), undef, .int .i64 hv, .int .i64 nd, undef, undef, undef, .pointer (some ⟨f, 6 + x.val, none⟩), undef, .int .i64 s, .pointer (some ⟨f, 0, none⟩), .pointer (some ⟨f, 0, none⟩), .pointer (some ⟨f, 2, none⟩), .pointer (some ⟨f, 5, none⟩), .int .i64 z, .bool false, undef, undef, undef, undef, undef, .pointer (some ⟨f, 0, none⟩), .pointer (some ⟨f, 0, none⟩), .pointer (some ⟨f, 2, none⟩), .pointer (some ⟨f, 5, none⟩), .int .i64 z, .int .i64 hv, .int .i64 s, .int .i64 nd, .pointer (some ⟨f, 0, none⟩), .int .i64 hv, .int .i64 nd, .func (.func 238) #[] #[.pointer (some ⟨wA.heap.size + 1, 0, none⟩), .pointer (some ⟨wA.heap.size + 1 + 1, 0, none⟩), .pointer (some ⟨wA.heap.size, 0, none⟩)], undef, undef, undef, undef, undef, undef, undef, undef, undef, undef, undef, undef, undef, undef, undef, undef, .pointer (some ⟨f, 0, none⟩), .int .i64 hv, .int .i64 nd, .func (.func 239) #[] #[.pointer (some ⟨W.heap.size + 1, 0, none⟩), .pointer (some ⟨W.heap.size + 1 + 1, 0, none⟩), .pointer (some ⟨W.heap.size, 0, none⟩)], .pointer (some ⟨f, 6 + x.val, none⟩), undef, undef, undef, undef, undef, undef, undef, undef, undef, undef, undef, undef, undef, undef, undef, undef, undef, undef, undef], defers := [] }) (fun _ _ _ _ _ _ hs _ _ => hs) ?assign2 ?body2 ?done2 ?stop2
  case assign2 =>
   rintro l pre x W5 K hB hK
   have HK := hid hK
   have HB := hid hB
   clear hK hB
   gi_wp2
   exact HK.out _ _ (KeepsFrom.refl _ _) (Keeps.refl _ _) HB.out rfl
  case body2 =>
   rintro l pre x a' V hl1 hrec hI rfl hlt
   obtain ⟨sl, Pg', hsl, hfV, ⟨D, hrV, hpV⟩, hgV, hkV⟩ := hI.out
   rw [List.length_map] at hrV hpV
   have hnF : ∀ i, w.heap.size <= i -> ¬ F i := fun i hi hh => by have := HFl.out i hh; omega
   have hb0 : ∀ i, w.heap.size <= i -> ¬ (F i \/ i = f) := fun i hi hh => by
    rcases hh with hh | hh
    ·have := HFl.out i hh; omega
    ·omega
   have hmf : m ≠ f := ne_of_heap HME.out HFE.out (fun e => by simp at e)
   have hmV := HME.out.keep hkV (fun hh => hh.elim hmF hmf)
   obtain ⟨cf, -⟩ := hfV.head
   have cb : V.cell? ⟨w.heap.size, 0, none⟩ = some (.pointer (some ⟨f, 0, none⟩)) := cell_of_block (hkV.heap HR0E.out (hb0 _ (Nat.le_refl _))) 0
   have hxl : x.val < sl.length := by rw [hsl]; exact x.isLt
   have ck := hfV.slot x.val hxl
   obtain ⟨pj, hpj⟩ : ∃ pj : Nat, pj = sl.getD x.val 0 := ⟨_, rfl⟩
   have ck' : V.cell? ⟨f, 6 + x.val, none⟩ = some (.int .i64 pj) := by rw [ck, hpj, List.getD_eq_getElem?_getD, List.getElem?_eq_getElem hxl]; rfl
   have hbd : Below V.heap.size V V.drew := (Below.refl _ V).drew
   have HGv := hid ((aGivePage_any (hmV.below hbd) hmF hi pj hN (show u + pre.length < 1000000 by omega) (hpV.below hbd)).mono (fun e w' hx => give_step (hrV.le (show k + (hv - nd) - (pre.length + 1) + 1 <= k + (hv - nd) - pre.length by omega)) (by omega) hx))
   have HBd := hid hbd
   have d0 := (hbd.cell (World.block_lt_of_cell? V _ cb)).trans cb
   have d1 := (hbd.cell (World.block_lt_of_cell? V _ cf)).trans cf
   have d2 := (hbd.cell (World.block_lt_of_cell? V _ ck')).trans ck'
   have HRb := hid (hkV.heap HR0E.out (hb0 _ (Nat.le_refl _)))
   have HFV := hid hfV
   have HKV := hid hkV
   have HGV := hid hgV
   have HPj := hid hpj
   have HB0 := hid hb0
   have HNF := hid hnF
   clear hrV hpV hfV hkV hgV hI hmV ck hpj hb0 hnF HSt2 hbd cb cf ck'
   gi_wp2
   refine wpInR_drew (S := fun W => W.cell? ⟨w.heap.size, 0, none⟩ = some (.pointer (some ⟨f, 0, none⟩)) /\ W.cell? ⟨f, 0, none⟩ = some (.pointer (some ⟨m, 0, none⟩)) /\ W.cell? ⟨f, 6 + x.val, none⟩ = some (.int .i64 pj)) (by kernel_rfl) (by kernel_rfl) ⟨d0, d1, d2⟩ (fun hHeld => ?_)
   generalize V.drew = vd at *
   refine tq 0 _ ?_
   try simp only [tS]
   refine tq 1 _ ?_
   try simp only [tS]
   refine tq 2 _ ?_
   try simp only [tS]
   refine tq 3 _ ?_
   try simp only [tS]
   refine tq 4 _ ?_
   try simp only [tS]
   refine tq 5 _ ?_
   try simp only [tS]
   refine tq 6 _ ?_
   try simp only [tS]
   refine tq 7 _ ?_
   try simp only [tS]
   refine tr 8 (fun K hK => ?_)
   go_simp
   refine HGv.out.mono ?_
   clear HGv
   rintro e W2 ⟨hk2d, r, Pg2, D2, rfl, hr7, hrm2, hp2, hgd2⟩
   have hk2 : Keeps F V W2 := (Keeps.of_below HBd.out : Keeps F V vd).trans hk2d (fun i e => .inl e)
   have e0 := hk2d.cell d0 (HNF.out _ (Nat.le_refl _))
   have e1 := hk2d.cell d1 hfF
   have e2 := hk2d.cell d2 hfF
   go_wp2_with fail
   refine hK.out _ _ ⟨e0, e1, e2⟩ (fun hHeld => ?_)
   clear hK K
   try simp only [tS]
   refine tq 9 _ ?_
   try simp only [tS]
   refine wpAnyH_done (by kernel_rfl) ?_ _
   refine JustN.normal ?_
   clear hHeld d0 d1 d2 e0 e1 hk2d
   have hf2 := HFV.out.keep hk2 hfF
   obtain ⟨pj2, k1⟩ : ∃ pj : Nat, W2.cell? ⟨f, 6 + x.val, none⟩ = some (.int .i64 pj) := ⟨_, hf2.slot x.val hxl⟩
   have k2 := hf2.frozen (6 + x.val)
   have kk : Keeps (fun i => i = f) W2 (W2.setCell ⟨f, 6 + x.val, none⟩ (.int .i64 0)) := (Keeps.refl _ W2).grown (grown_setCell (grown_refl _ _) _ _) (fun i e => .inl (Option.some.inj e).symm)
   have kWW : Keeps (fun i => F i \/ i = f) V (W2.setCell ⟨f, 6 + x.val, none⟩ (.int .i64 0)) := (hk2.mono (fun i e => .inl e)).trans (kk.mono (fun i e => .inr e)) (fun i e => .inl e)
   have hst := hf2.setSlot x.val 0
   have hp3 := hp2.keepY hf2.off hfF kk
   have HKF : Hid (KeepsFrom wE.heap.size V (W2.setCell ⟨f, 6 + x.val, none⟩ (.int .i64 0))) := ⟨kWW.size, fun i ob hi ho _ => kWW.heap ho (HB0.out i (by omega))⟩
   have HKG : Hid (Keeps (fun i => F i \/ i = f \/ wE.heap.size <= i) V (W2.setCell ⟨f, 6 + x.val, none⟩ (.int .i64 0))) := kWW.mono (fun i e => e.elim .inl (fun e => .inr (.inl e)))
   have HNew : Hid (Hid (GivesI wE c F size N Pg Cm o u (k + (hv - nd)) f m S hv ((pre ++ [x]).map Fin.val) (W2.setCell ⟨f, 6 + x.val, none⟩ (.int .i64 0)))) := by
    refine ⟨sl.set x.val 0, Pg2, by rw [List.length_set]; exact hsl, hst, ?_, fun hpre => ?_, HKV.out.trans kWW (fun i e => .inl e)⟩
    ·rw [List.length_map, List.length_append, List.length_singleton]
     exact ⟨D2, hrm2, hp3⟩
    ·rw [List.length_map, List.length_append, List.length_singleton, List.map_append, List.map_singleton, dnL_succ] at hpre
     obtain ⟨hp1, hp2⟩ := List.append_inj' hpre rfl
     have hx1 : x.val = hv - 1 - pre.length := by simpa using hp2
     obtain ⟨g1, g2⟩ := HGV.out (by rw [List.length_map]; exact hp1)
     rw [List.length_map] at g1 g2
     rw [List.length_map, List.length_append, List.length_singleton, dnL_succ, zsL_snoc, gvPs_snoc, <- g1, <- g2, <- hx1]
     have hbt := HBt.out pre.length hlt
     rw [<- hx1] at hbt
     have e1 : pj = S.slots.getD x.val 0 := by rw [HPj.out, g1, hx1]; exact zsL_other _ _ _ (by omega) (by omega)
     rw [<- e1, <- g2] at hbt
     exact ⟨rfl, by rw [<- e1]; exact hgd2 hbt⟩
   clear hk2 hp2 hf2 kk kWW hst hp3 hxl hgd2 hrm2 HGV e2
   gi_wp2
   exact ⟨HKF.out, HKG.out, HNew.out⟩
  case stop2 =>
   intro D c pre W hD hpre hx
   exact hx.elim
  case done2 =>
   rintro D2 ys2 W3 hD2 hys2 hI3 hK2
   obtain ⟨sl, Pg', hsl, hf3, ⟨Dd, hr3, hp3⟩, hg3, hk3⟩ := hI3.out
   have hyl : (ys2.map Fin.val).length = hv - nd := by rw [hys2, length_dnL]
   obtain ⟨g1, g2⟩ := hg3 (by rw [hyl]; exact hys2)
   rw [hyl] at g1 g2 hr3 hp3
   have hb0 : ∀ i, w.heap.size <= i -> ¬ (F i \/ i = f) := fun i hi hh => by
    rcases hh with hh | hh
    ·have := HFl.out i hh; omega
    ·omega
   obtain ⟨-, -, -, -, -, c5⟩ := hf3.head
   have g5 := hf3.frozen 5
   have v0 := hk3.heap HR0E.out (hb0 _ (Nat.le_refl _))
   have v1 := hk3.heap HR1E.out (hb0 _ (Nat.le_succ _))
   have cb : W3.cell? ⟨w.heap.size, 0, none⟩ = some (.pointer (some ⟨f, 0, none⟩)) := cell_of_block v0 0
   have e1 : W3.cell? ⟨w.heap.size + 1, 0, none⟩ = some (.int .i64 0) := cell_of_block v1 0
   have f1 : W3.frozen? ⟨w.heap.size + 1, 0, none⟩ = false := frozen_of_block v1 0
   have hne : ¬ f = w.heap.size + 1 := by omega
   have hne' : ¬ w.heap.size + 1 = f := by omega
   have HV1 := hid v1
   have HK2 := hid hK2
   have HKD3 := hid (hk3.heap HKDE.out (hb0 _ (by have := HWs.out; omega)))
   have HK3 := hid hk3
   have HF3 := hid hf3
   have HG12 := hid (And.intro g1 g2)
   have HR3 := hid hr3
   have HP3 := hid hp3
   clear v0 v1 hK2 hf3 hys2 hI3 hg3 hk3 hyl g1 g2 hr3 hp3 hb0 hsl HSt2
   gi_wp2
   have hws := HWs.out
   have hB3z := HK3.out.size
   have kf : Keeps (fun i => i = f) W3 (W3.setCell ⟨f, 5, none⟩ (.int .i64 s)) := (Keeps.refl _ W3).grown (grown_setCell (grown_refl _ _) _ _) (fun i e => .inl (Option.some.inj e).symm)
   have hv1 := kf.heap HV1.out (fun e => hne' e)
   have kr : Keeps (fun i => i = w.heap.size + 1) (W3.setCell ⟨f, 5, none⟩ (.int .i64 s)) ((W3.setCell ⟨f, 5, none⟩ (.int .i64 s)).setCell ⟨w.heap.size + 1, 0, none⟩ (.int .i64 0)) := (Keeps.refl _ _).grown (grown_setCell (grown_refl _ _) _ _) (fun i e => .inl (Option.some.inj e).symm)
   have hv2 := block_setCell hv1 0 (.int .i64 0)
   have hf4 := (HF3.out.setSize s).keep kr (fun e => hne e)
   have hp4 := ((HP3.out.keepY HF3.out.off hfF kf).keepY (errno_off hv1) (fun hf => by have := HFl.out _ hf; omega) kr)
   have h2D := kr.heap (kf.heap HK2.out (fun e => by have e' : D2 = f := e; omega)) (fun e => by have e' : D2 = w.heap.size + 1 := e; omega)
   have h1D := kr.heap (kf.heap HKD3.out (fun e => by have e' : D1 = f := e; omega)) (fun e => by have e' : D1 = w.heap.size + 1 := e; omega)
   have kw4 : Keeps (fun i => F i \/ i = f) w ((W3.setCell ⟨f, 5, none⟩ (.int .i64 s)).setCell ⟨w.heap.size + 1, 0, none⟩ (.int .i64 0)) :=
    ((HKE.out.trans HK3.out (fun i e => .inl e)).trans kf (fun i e => .inl (.inr e))).trans kr (fun i e => .inr (by have e' : i = w.heap.size + 1 := e; omega))
   generalize (W3.setCell ⟨f, 5, none⟩ (.int .i64 s)).setCell ⟨w.heap.size + 1, 0, none⟩ (.int .i64 0) = W4 at *
   have hg5 := grownBy_putObj' W4 D2 (.deferred none)
   have h1D5 := grown_block hg5 h1D (fun e => by cases e; omega)
   have hg6 := grownBy_putObj' (W4.putObj D2 (.deferred none)) D1 (.deferred none)
   have hr5 : ∀ r, some D2 = some r -> w.heap.size <= r /\ ∃ o : Obj, W4.heap[r]? = some o /\ o.isCells = false := fun r e => by cases e; exact ⟨by omega, _, h2D, rfl⟩
   have hr6 : ∀ r, some D1 = some r -> w.heap.size <= r /\ ∃ o : Obj, (W4.putObj D2 (.deferred none)).heap[r]? = some o /\ o.isCells = false := fun r e => by cases e; exact ⟨by omega, _, h1D5, rfl⟩
   refine ⟨by simp, .inl ⟨_, _, rfl, run_takeDeferred h2D, ?_⟩⟩
   refine ⟨by simp, .inl ⟨_, _, rfl, run_takeDeferred h1D5, ?_⟩⟩
   refine ⟨_, results_ihold rfl (grown_block hg6 (grown_block hg5 hv2 (fun e => by cases e; omega)) (fun e => by cases e; omega)), ?_⟩
   refine ⟨rfl, ?_, ?_, ?_⟩
   ·exact (kw4.trans (Keeps.of_grown hg5 (F := fun i => some D2 = some i) (fun i e => e)) (fun i e => .inr (by cases e; omega))).trans (Keeps.of_grown hg6 (F := fun i => some D1 = some i) (fun i e => e)) (fun i e => .inr (by cases e; omega))
   ·have := grown_block hg6 (grown_block hg5 hf4 (fun e => by cases e; omega)) (fun e => by cases e; omega)
    rw [HG12.out.1] at this
    rw [<- HZ.out, <- HHv.out, <- HNd.out]
    exact this
   ·have := (hp4.own HFl.out hg5 hr5).own HFl.out hg6 hr6
    rw [HG12.out.2] at this
    rw [<- HZ.out, <- HHv.out, <- HNd.out]
    exact ⟨_, HR3.out.le (by omega), this⟩
end
section
open Go.RowKit
def rsz (d : List UInt8) (s : Nat) : List UInt8 := d.take s ++ zN (s - d.length)
theorem length_rsz (d : List UInt8) (s : Nat) : (rsz d s).length = s := by
 unfold rsz; rw [List.length_append, List.length_take, length_zN]; omega
theorem getD_rsz (d : List UInt8) {s k : Nat} (hk : k < s) : (rsz d s).getD k 0 = d.getD k 0 := by
 unfold rsz
 simp only [List.getD_eq_getElem?_getD]
 by_cases h : k < d.length
 ·rw [List.getElem?_append_left (by rw [List.length_take]; omega), List.getElem?_take_of_lt hk]
 ·rw [List.getElem?_append_right (by rw [List.length_take]; omega), List.getElem?_eq_none (show d.length <= k by omega), <- List.getD_eq_getElem?_getD]
  exact getD_zN _ _
theorem rsz_cut {d : List UInt8} {s : Nat} (h : s <= d.length) : rsz d s = d.take s := by
 unfold rsz; rw [show s - d.length = 0 by omega]; exact List.append_nil _
section
variable {sk : Nat -> Prop} {N ino : Nat} {Pg Pg' : Nat -> List UInt8} {fs : Nat -> Option FileA} {i : Nat} {f : FileA}
theorem GoodX.extend (h : GoodX sk N ino Pg fs) (hf : fs i = some f) (hs : sk i) (hz : ztail Pg f) (s : Nat) (hs7 : s <= 70656) (hn : needN s <= f.cnt) : GoodX sk N ino Pg (updA fs i (some { f with data := rsz f.data s })) := by
 refine h.pages hf hs h.len (fun _ _ => rfl) _ (by rw [length_rsz]; exact hs7) (by rw [length_rsz]; exact hn) (fun k hk => ?_)
 rw [length_rsz] at hk
 rw [getD_rsz _ hk]
 by_cases hkd : k < f.data.length
 ·exact h.data i f hf k hkd
 ·have hd0 : f.data.getD k 0 = 0 := by rw [List.getD_eq_getElem?_getD, List.getElem?_eq_none (by omega)]; rfl
  rw [hd0]
  exact hz k (by omega) (Nat.lt_of_lt_of_le (dslot_need hk hs7).1 hn)
end
def frL (Pg : Nat -> List UInt8) (N ino : Nat) : List Nat := freeTo (Pg 2) (3 + ino / 8) N 4096
def hoF (Pg : Nat -> List UInt8) (N ino : Nat) (f : FileA) (s : Nat) : FileA := if f.data.length < s then { f.grows ((frL Pg N ino).take (needN s - f.cnt)) with data := rsz f.data s } else FileA.cuts { f with data := f.data.take s } (f.cnt - needN s)
def hoP (Pg : Nat -> List UInt8) (N ino : Nat) (f : FileA) (s : Nat) : Nat -> List UInt8 := if f.data.length < s then tkPs (clrP Pg f.slots f.data.length) ((frL Pg N ino).take (needN s - f.cnt)) else gvPs Pg f.slots (dnL f.cnt (f.cnt - needN s))
section
variable {N ino : Nat} {Pg : Nat -> List UInt8} {fs : Nat -> Option FileA} {i : Nat} {f : FileA}
theorem GoodX.hold (hg : GoodX noSk N ino Pg fs) (hf : fs i = some f) (s : Nat) (hs : s <= 70656) (hfr : needN s - f.cnt <= (frL Pg N ino).length) :
  (hoF Pg N ino f s).kind = f.kind /\ (hoF Pg N ino f s).mode = f.mode /\ (hoF Pg N ino f s).links = f.links /\ (hoF Pg N ino f s).data = rsz f.data s /\ (hoF Pg N ino f s).cnt = needN s /\ GoodX (fun k => k = i) N ino (hoP Pg N ino f s) (updA fs i (some (hoF Pg N ino f s))) := by
 have hok := hg.file i f hf
 obtain ⟨-, hcn, -⟩ := hg.node i f hf (fun e => e)
 have h139 := need_139 s
 have hc139 := hok.cnt
 have hw := hg.weak (sk := fun k => k = i)
 unfold hoF hoP
 by_cases hss : f.data.length < s
 ·rw [if_pos hss, if_pos hss]
  obtain ⟨g1, g2, g3⟩ := hw.clears hf rfl hcn
  have hmo : f.cnt <= needN s := by rw [hcn]; exact need_mono (by omega) hs
  have hfe : frL Pg N ino = freeTo (clrP Pg f.slots f.data.length 2) (3 + ino / 8) N 4096 := by rw [g3]; rfl
  obtain ⟨ks, hks⟩ : ∃ ks, ks = (frL Pg N ino).take (needN s - f.cnt) := ⟨_, rfl⟩
  have hkl : ks.length = needN s - f.cnt := by rw [hks, List.length_take]; omega
  obtain ⟨g4, g5⟩ := g1.takes hf rfl g2 (needN s - f.cnt) (by omega) (by rw [<- hfe]; exact hfr)
  rw [<- hfe, <- hks] at g4 g5
  rw [<- hks]
  have hgc : (f.grows ks).cnt = needN s := by show f.cnt + ks.length = _; omega
  have g6 := g4.extend (updA_self _ _ _) rfl g5 s hs (by rw [hgc]; exact Nat.le_refl _)
  rw [updA_twice] at g6
  exact ⟨rfl, rfl, rfl, rfl, hgc, g6⟩
 ·rw [if_neg hss, if_neg hss]
  have hle : s <= f.data.length := by omega
  have hmo : needN s <= f.cnt := by rw [hcn]; exact need_mono hle hok.size
  have g1 := hw.fewer hf rfl s hle
  have hl : (f.data.take s).length = s := by rw [List.length_take]; omega
  have g2 := g1.gives (updA_self _ _ _) rfl (f.cnt - needN s) (by show f.cnt - needN s <= f.cnt; omega) (by show needN (f.data.take s).length <= f.cnt - (f.cnt - needN s); rw [hl]; omega)
  rw [updA_twice] at g2
  exact ⟨rfl, rfl, rfl, (rsz_cut hle).symm, by show f.cnt - (f.cnt - needN s) = needN s; omega, g2⟩
end
section
variable {w w' : World} {m c ino p : Nat} {F : Nat -> Prop} {size N : Nat} {Pg Cm : Nat -> List UInt8} {fs : Nat -> Option FileA} {o u k kk : Nat} {i : Nat} {f : FileA}
theorem ihold_good (hm : mapB w m c ino) (hmF : ¬ F m) (hp : Pe w c F size N Pg Cm o u (k + kk)) (hg : GoodX noSk N ino Pg fs) (hf : fs i = some f) (hfi : fileB w p m (f.S i f.data.length)) (hpF : ¬ F p) (hu : u < 890000) (s : Nat) (hs : s <= 70656) (hkk : 1 + 2 * (needN s - f.cnt) + (f.cnt - needN s) <= kk) :
  Calls Tryz.prog 152 #[.pointer (some ⟨p, 0, none⟩), .int .i64 s] w fun e w' => Keeps (fun i => F i \/ i = p) w w' /\
   ((needN s - f.cnt <= (frL Pg N ino).length /\ e = .returned (.int .i64 0) /\ fileB w' p m ((hoF Pg N ino f s).S i s) /\ Pe w' c F size N (hoP Pg N ino f s) Cm o (u + 140) k) \/
   ((frL Pg N ino).length < needN s - f.cnt /\ e = .returned (.int .i64 7) /\ ∃ Pg' D', Pc w' c F size N Pg' Cm D' o (u + 140))) := by
 have hok := hg.file i f hf
 have hnf := hg.nf
 obtain ⟨-, hcn, -⟩ := hg.node i f hf (fun e => e)
 have e0 : needN (f.S i f.data.length).size = f.cnt := hcn.symm
 have h139 := need_139 s
 have hc139 := hok.cnt
 have hw := hg.weak (sk := fun k => k = i)
 have hFl : ∀ i, F i -> i < w.heap.size := by obtain ⟨D, -, hp⟩ := hp; exact hp.lt
 unfold hoF hoP
 by_cases hss : f.data.length < s
 ·rw [if_pos hss, if_pos hss]
  obtain ⟨-, -, g3⟩ := hw.clears hf rfl hcn
  have hmo : f.cnt <= needN s := by rw [hcn]; exact need_mono (by omega) hs
  have hcl : ∀ W, Below w.heap.size w W -> Calls Tryz.prog 202 #[.pointer (some ⟨p, 0, none⟩)] W fun e w' => e = .returned (.int .i64 0) /\ Keeps F W w' /\ Pe w' c F size N (clrP Pg f.slots f.data.length) Cm o (u + 1) (k + 2 * (needN s - needN (f.S i f.data.length).size)) := fun W hW => by
   obtain ⟨D, hr, hpD⟩ := hp
   rw [e0]
   by_cases h5 : f.data.length % 512 = 0
   ·refine (iclear_none (hfi.below hW) hok.len hok.size h5).mono ?_
    rintro e w' ⟨rfl, hb⟩
    refine ⟨rfl, Keeps.of_below hb, D, hr.le (by omega), ?_⟩
    have e1 : clrP Pg f.slots f.data.length = Pg := by unfold clrP; rw [if_pos h5]
    rw [e1]
    exact ((hpD.below hW).below hb).more (Nat.le_refl _) (by omega)
   ·exact iclear_tail (hm.below hW) hmF (hfi.below hW) hpF hok.len hok.size h5 (hok.lt (by omega) _) (by omega) ⟨D, hr.le (by omega), hpD.below hW⟩
  refine (ihold_up hm hmF hg.i5 (by omega) hfi hpF hok.len hFl s hs hss (by rw [g3]; exact hg.len 2 (by omega)) (by omega) hcl).mono ?_
  rintro e w' ⟨hk', hx⟩
  rw [g3, e0] at hx
  have hfe : freeTo (Pg 2) (3 + ino / 8) N 4096 = frL Pg N ino := rfl
  rw [hfe] at hx
  refine ⟨hk', ?_⟩
  rcases hx with ⟨h1, rfl, h2, h3⟩ | ⟨h1, rfl, Pg', D', h2⟩
  ·left
   obtain ⟨ks, hks⟩ : ∃ ks, ks = (frL Pg N ino).take (needN s - f.cnt) := ⟨_, rfl⟩
   have hkl : ks.length = needN s - f.cnt := by rw [hks, List.length_take]; omega
   rw [<- hks] at h2 h3 ⊢
   refine ⟨h1, rfl, ?_, ?_⟩
   ·have e1 : upTo f.cnt (f.cnt + ks.length) = upTo f.cnt (needN s) := by rw [hkl, show f.cnt + (needN s - f.cnt) = needN s by omega]
    have e2 : ({ f.grows ks with data := rsz f.data s } : FileA).S i s = ⟨i, f.kind, f.mode, f.links, s, setL f.slots (upTo f.cnt (needN s)) ks⟩ := by rw [<- e1]; rfl
    rw [e2]
    exact h2
   ·obtain ⟨D, h4, h5⟩ := h3
    exact ⟨D, h4, h5.more (Nat.le_refl _) (by omega)⟩
  ·exact .inr ⟨h1, rfl, Pg', D', h2.more (Nat.le_refl _) (by omega)⟩
 ·rw [if_neg hss, if_neg hss]
  have hle : s <= f.data.length := by omega
  have hmo : needN s <= f.cnt := by rw [hcn]; exact need_mono hle hok.size
  have g1 := hw.fewer hf rfl s hle
  have hl : (f.data.take s).length = s := by rw [List.length_take]; omega
  have hbit : ∀ j, j < needN (f.S i f.data.length).size - needN s -> bitL (gvPs Pg (f.S i f.data.length).slots (dnL (needN (f.S i f.data.length).size) j) 2) ((f.S i f.data.length).slots.getD (needN (f.S i f.data.length).size - 1 - j) 0) = true /\ 3 + ino / 8 <= (f.S i f.data.length).slots.getD (needN (f.S i f.data.length).size - 1 - j) 0 /\ (f.S i f.data.length).slots.getD (needN (f.S i f.data.length).size - 1 - j) 0 < N := fun j hj => by
   rw [e0] at hj ⊢
   exact ⟨g1.givesBit (updA_self _ _ _) rfl j (by show j + 1 <= f.cnt; omega) (by show needN (f.data.take s).length <= f.cnt - (j + 1); rw [hl]; omega), hok.in_ (f.cnt - 1 - j) (by omega)⟩
  refine (ihold_dn (k := k) (u := u) hm hmF hg.i5 (by omega) hfi hpF hok.len s hok.size hle (by omega) hbit (by obtain ⟨D, hr, hpD⟩ := hp; exact ⟨D, hr.le (by rw [e0]; omega), hpD⟩)).mono ?_
  rintro e w' ⟨rfl, hk', h2, h3⟩
  rw [e0] at h2 h3
  refine ⟨hk', .inl ⟨by omega, rfl, h2, ?_⟩⟩
  obtain ⟨D, h4, h5⟩ := h3
  exact ⟨D, h4, h5.more (Nat.le_refl _) (by omega)⟩
end
end
section
open Go.RowKit
section
variable {P : Program} {ops : Array Oper} {Q : Exit -> Act -> World -> Prop} {md : Region.Mode} {S : World -> Prop} {last : Nat}
def wpAnyL (P : Program) (md : Region.Mode) (ops : Array Oper) (Q : Exit -> Act -> World -> Prop) (S : World -> Prop) (last : Nat) : Nat -> Array Bool -> Act -> World -> Prop
 | 0, listed, a, w => Region.ready md ops listed = [] /\ Q .normal a w
 | fuel + 1, listed, a, w =>
  (Region.ready md ops listed = [] -> Q .normal a w) /\
  ∀ i ∈ Region.ready md ops listed, wpOp P ops Q i (fun a' w' => (i ≠ last -> S w') /\ wpAnyL P md ops Q S last fuel (listed.setIfInBounds i true) a' w') a w
theorem wpAny_of_L : ∀ (fuel : Nat) (listed : Array Bool) (a : Act) (w : World), wpAnyL P md ops Q S last fuel listed a w -> wpAny P md ops Q fuel listed a w
 | 0, _, _, _, h => h
 | fuel + 1, _, _, _, h => ⟨h.1, fun i hi => wpOp_mono (fun a' w' h' => wpAny_of_L fuel _ a' w' h'.2) (h.2 i hi)⟩
def waitsFor (md : Region.Mode) (ops : Array Oper) (last i : Nat) : Bool := match ops[last]? with
 | none => true
 | some o => o.after.any (fun e => Region.binds md e && e.on == i)
theorem ready_apart {i j : Nat} {oj : Oper} {listed : Array Bool} (hi : i ∈ Region.ready md ops listed) (hj : j ∈ Region.ready md ops listed) (ho : ops[j]? = some oj) : ∀ e ∈ oj.after, Region.binds md e = true -> e.on ≠ i := by
 intro e he hb hei
 obtain ⟨-, o', ho', hw⟩ := mem_ready.1 hj
 obtain rfl : oj = o' := Option.some.inj (ho.symm.trans ho')
 have hl := hw e he hb
 rw [hei] at hl
 have hu := (mem_ready.1 hi).1
 by_cases hs : i < listed.size
 ·simp only [Array.getD_eq_getD_getElem?, Array.getElem?_eq_getElem hs, Option.getD_some] at hl hu
  exact absurd (hl.symm.trans hu) (by decide)
 ·simp only [Array.getD_eq_getD_getElem?, Array.getElem?_eq_none (Nat.le_of_not_lt hs), Option.getD_none] at hl
  exact absurd hl (by decide)
theorem ready_last {i j : Nat} {listed : Array Bool} (hw : waitsFor md ops last i = true) (hi : i ∈ Region.ready md ops listed) (hj : j ∈ Region.ready md ops listed) : j ≠ last := by
 rintro rfl
 obtain ⟨-, o', ho', -⟩ := mem_ready.1 hj
 unfold waitsFor at hw
 rw [ho'] at hw
 obtain ⟨e, he, hb⟩ := Array.any_eq_true'.1 hw
 rw [Bool.and_eq_true] at hb
 exact ready_apart hi hj ho' e he hb.1 (beq_iff_eq.1 hb.2)
def Apart (md : Region.Mode) (ops : Array Oper) (listed : Array Bool) (i : Nat) (oi : Oper) : Prop := ∀ j oj, ops[j]? = some oj -> j ≠ i -> listed.getD j true = false -> (∀ e ∈ oj.after, Region.binds md e = true -> e.on ≠ i) -> oi.apart ops oj = true
theorem Apart.next {listed : Array Bool} {i j : Nat} {oi : Oper} (h : Apart md ops listed i oi) (hj : listed.getD j true = false) : Apart md ops (listed.setIfInBounds j true) i oi := fun k ok hk hne hun hno => h k ok hk hne (by
 by_cases e : j = k
 ·rw [<- e]; exact hj
 ·rwa [getD_set_ne true e] at hun) hno
theorem wpAnyL_first {i : Nat} {oi : Oper} {v : Value} (hi : ops[i]? = some oi) (hsel : ∀ (j : Nat) (o : Oper) cs b, ops[j]? = some o -> o.op ≠ .select cs b)
  (hQ : ∀ c a w, Q (.panic c) (a.put oi.dst v) w -> Q (.panic c) a w) (hwt : waitsFor md ops last i = true) :
  ∀ (fuel : Nat) (listed : Array Bool) (a : Act) (w : World), Apart md ops listed i oi -> i ∈ Region.ready md ops listed -> YieldsIf P ops S oi v a -> S w ->
   wpAnyL P md ops Q S last fuel (listed.setIfInBounds i true) (a.put oi.dst v) w -> wpAnyL P md ops Q S last (fuel + 1) listed a w
 | 0, listed, a, w, _, hr, hy, hS, H => ⟨fun h0 => absurd (h0 ▸ hr) (by simp), fun j hj => by
   by_cases e : j = i
   ·rw [e]; exact hy.wpOp hi hS ⟨fun _ => hS, H⟩
   ·exact absurd (H.1 ▸ ready_mono hj e) (by simp)⟩
 | fuel + 1, listed, a, w, hap, hr, hy, hS, H => ⟨fun h0 => absurd (h0 ▸ hr) (by simp), fun j hj => by
   by_cases e : j = i
   ·rw [e]; exact hy.wpOp hi hS ⟨fun _ => hS, H⟩
   ·obtain ⟨hun, oj, hoj, -⟩ := mem_ready.1 hj
    have hap1 := hap j oj hoj e hun (ready_apart hr hj hoj)
    refine wpOp_mono ?_ (wpOp_putIf hoj hap1 (fun cs b => hsel i oi cs b hi) (fun cs b => hsel j oj cs b hoj) hQ hy (H.2 j (ready_mono hj e)))
    rintro a' w' ⟨hy', hS', H'⟩
    have hs' := hS' (ready_last hwt hr hj)
    exact ⟨hS', wpAnyL_first hi hsel hQ hwt fuel _ a' w' (hap.next hun) (ready_mono hr (Ne.symm e)) hy' hs' (by rw [Array.setIfInBounds_comm _ _ e]; exact H')⟩⟩
theorem wpAnyL_take {i : Nat} {oi : Oper} {v : Value} {fuel : Nat} {listed : Array Bool} {a : Act} {w : World} (hwt : waitsFor md ops last i = true) (hi : ops[i]? = some oi)
  (hs : Region.noSelect ops = true) (hf : Region.free md ops listed i = true) (hr : (Region.ready md ops listed).contains i = true)
  (hQ : ∀ c a w, Q (.panic c) (a.put oi.dst v) w -> Q (.panic c) a w) (hy : YieldsIf P ops S oi v a) (hS : S w)
  (h : wpAnyL P md ops Q S last fuel (listed.setIfInBounds i true) (a.put oi.dst v) w) : wpAnyL P md ops Q S last (fuel + 1) listed a w :=
 wpAnyL_first hi (Region.noSelect_spec hs) hQ hwt fuel listed a w (Region.free_spec hi hf) (by simpa using hr) hy hS h
theorem wpAnyL_one {i : Nat} {o : Oper} {fuel : Nat} {listed : Array Bool} {a : Act} {w : World} (hr : Region.ready md ops listed = [i]) (ho : ops[i]? = some o)
  (h : ∀ K' : Act -> World -> Prop, Shut (∀ a w, (i ≠ last -> S w) -> ((i ≠ last -> S w) -> wpAnyL P md ops Q S last fuel (listed.setIfInBounds i true) a w) -> K' a w) -> if Region.wanted o (yielded ops a.tmps) = true then Oper.wp P o a w K' Q else K' (a.put o.dst undef) w) :
  wpAnyL P md ops Q S last (fuel + 1) listed a w := by
 refine ⟨fun h0 => absurd (hr ▸ h0) (by simp), fun j hj => ?_⟩
 rw [hr] at hj
 obtain rfl := List.mem_singleton.1 hj
 unfold wpOp
 rw [ho]
 have h1 := h (fun a' w' => (j ≠ last -> S w') /\ wpAnyL P md ops Q S last fuel (listed.setIfInBounds j true) a' w') (fun _ _ hS hr => ⟨hS, hr hS⟩)
 simp only
 split
 ·rename_i hw; rw [if_pos hw] at h1; exact .inl h1
 ·rename_i hw; rw [if_neg hw] at h1; exact h1
theorem wpAnyL_done {listed : Array Bool} {a : Act} {w : World} (hr : Region.ready md ops listed = []) (h : Q .normal a w) :
  ∀ fuel, wpAnyL P md ops Q S last fuel listed a w
 | 0 => ⟨hr, h⟩
 | _ + 1 => ⟨fun _ => h, by rw [hr]; simp⟩
theorem wpInR_drewL {l n id : Nat} {a : Act} {w : World} (last : Nat) (hm : P.follows .mixedOrders = true) (hd : noDefers ops = true) (hS : S w.drew)
  (h : S w.drew -> wpAnyL P .any ops (JustN Q) S last ops.size (Array.replicate ops.size false) a w.drew) : (Code.region id ops true).wpIn (Fence.wide.inRound l) n P Q a w :=
 wpIn_mono (wpIn_region_any hm (wpAnyIn_of hd _ _ _ _ (wpAny_of_L _ _ _ _ (h hS)))) JustN.imp
end
end
section
set_option maxRecDepth 100000
set_option maxHeartbeats 4000000
open Go.RowKit Go.Shelf
attribute [local go_sem] Oper.semAt_some
def boxS (w : World) (b blk : Nat) (r : List UInt8) : Prop := ∃ (of cp : Nat), w.heap[b]? = some (.cells #[.slice (some ⟨blk, of, none⟩) r.length cp] 81 (0, 0)) /\ r.length <= cp /\ bytesAt w ⟨blk, of, none⟩ r
theorem boxS.below {w w' : World} {b blk : Nat} {r : List UInt8} (h : boxS w b blk r) (k : Below w.heap.size w w') : boxS w' b blk r := by
 obtain ⟨of, cp, h1, h2, h3⟩ := h
 exact ⟨of, cp, below_block k h1 (lt_of_heap h1), h2, fun j hj => (k.cell (World.block_lt_of_cell? w _ (h3 j hj))).trans (h3 j hj)⟩
theorem boxS.keep {w w' : World} {b blk : Nat} {r : List UInt8} {F : Nat -> Prop} (h : boxS w b blk r) (k : Keeps F w w') (hb : ¬ F b) (hk : ¬ F blk) : boxS w' b blk r := by
 obtain ⟨of, cp, h1, h2, h3⟩ := h
 exact ⟨of, cp, k.heap h1 hb, h2, fun j hj => k.cell (h3 j hj) (by rw [Addr.add_mid]; exact hk)⟩
theorem results_ifwrite {w : World} {tmps : Array Value} {b : Nat} {x : Value} (h1 : tmps.getD 6 undef = .pointer (some ⟨b, 0, none⟩)) (r : w.heap[b]? = some (.cells #[x] 31 (0, 0))) :
  (results Tryz.f87 tmps).run Tryz.prog w = .ok x w := by
 have c1 : w.cell? ⟨b, 0, none⟩ = some x := cell_of_block r 0
 have h1' : tmps[6]?.getD undef = .pointer (some ⟨b, 0, none⟩) := by simpa using h1
 simp only [results, Tryz.results87]
 simp [go_sem, h1', asAddr, c1]
section
variable {w : World} {f m c ino : Nat} {F : Nat -> Prop} {size N : Nat} {Pg Pg1 Cm : Nat -> List UInt8} {o u u1 n1 k : Nat} {S S1 : FileS} {X Y : Prop}
theorem ifwrite_any (a n z1 : Nat) (l : List UInt8) (hn : l.length = n) (hz1 : z1 = a + n) (blk of cp : Nat) (h : mapB w m c ino) (hmF : ¬ F m) (hf : fileB w f m S) (hfF : ¬ F f) (hS : S.slots.length = 139) (hS1 : Y -> S1.slots.length = 139) (hFl : ∀ i, F i -> i < w.heap.size)
  (hl : bytesAt w ⟨blk, of, none⟩ l) (hcp : n <= cp) (hbF : ¬ F blk) (hbf : blk ≠ f) (hbl : blk < w.heap.size) (ha : z1 <= 70656) (hu : u1 < 990000)
  (hsl : Y -> ∀ k, a / 512 <= k -> k < fillN z1 -> S1.slots.getD (dslot k) 0 < N)
  (hho : ∀ W, Below w.heap.size w W -> Calls Tryz.prog 152 #[.pointer (some ⟨f, 0, none⟩), .int .i64 (max z1 S.size : Nat)] W fun e w' => Keeps (fun i => F i \/ i = f) W w' /\ ((Y /\ e = .returned (.int .i64 0) /\ fileB w' f m S1 /\ Pe w' c F size N Pg1 Cm o u1 (n1 + (fillN z1 - a / 512))) \/ (X /\ e = .returned (.int .i64 7) /\ ∃ Pg' D', Pc w' c F size N Pg' Cm D' o u)))
  (hsv : Y -> ∀ W, fileB W f m S1 -> mapB W m c ino -> Pe W c F size N (wPs S1.slots a z1 Pg1 l (upTo (a / 512) (fillN z1))).1 Cm o (u1 + (fillN z1 - a / 512)) n1 ->
   Calls Tryz.prog 154 #[.pointer (some ⟨f, 0, none⟩)] W fun e w' => e = .returned (.int .i64 0) /\ Keeps F W w' /\ Pe w' c F size N Pg Cm o u k) :
  Calls Tryz.prog 87 #[.pointer (some ⟨f, 0, none⟩), .int .i64 a, .slice (some ⟨blk, of, none⟩) n cp] w fun e w' => Keeps (fun i => F i \/ i = f) w w' /\ ((Y /\ e = .returned (.int .i64 0) /\ Pe w' c F size N Pg Cm o u k) \/ (X /\ e = .returned (.int .i64 7) /\ ∃ Pg' D', Pc w' c F size N Pg' Cm D' o u)) := by
 refine (callsIn_wide (n := 8)).1 ?_
 obtain ⟨wA, hA⟩ : ∃ wA, wA = ((w.alloc (.cells #[.pointer (some ⟨f, 0, none⟩)] 168)).alloc (.cells #[.slice (some ⟨blk, of, none⟩) n cp] 81)).alloc (.cells #[.int .i64 0] 31) := ⟨_, rfl⟩
 have hAB : Below w.heap.size w wA := by rw [hA]; exact (((Below.refl _ w).alloc (Nat.le_refl _) _).alloc (by simp) _).alloc (by simp; omega) _
 have hA0 : wA.heap[w.heap.size]? = some (.cells #[.pointer (some ⟨f, 0, none⟩)] 168 (0, 0)) := by rw [hA]; exact block_alloc (block_alloc (block_new w _) _) _
 have hA1 : wA.heap[w.heap.size + 1]? = some (.cells #[.slice (some ⟨blk, of, none⟩) n cp] 81 (0, 0)) := by
  have h1 := block_new (w.alloc (.cells #[.pointer (some ⟨f, 0, none⟩)] 168)) (.cells #[.slice (some ⟨blk, of, none⟩) n cp] 81)
  rw [World.size_alloc] at h1
  rw [hA]; exact block_alloc h1 _
 have hA2 : wA.heap[w.heap.size + 1 + 1]? = some (.cells #[.int .i64 0] 31 (0, 0)) := by
  have h1 := block_new ((w.alloc (.cells #[.pointer (some ⟨f, 0, none⟩)] 168)).alloc (.cells #[.slice (some ⟨blk, of, none⟩) n cp] 81)) (.cells #[.int .i64 0] 31)
  rw [World.size_alloc, World.size_alloc] at h1
  rw [hA]; exact h1
 have hAs : wA.heap.size = w.heap.size + 3 := by rw [hA]; simp
 have hfA := hf.below hAB
 obtain ⟨-, -, -, -, -, c5⟩ := hfA.head
 have c0 : wA.cell? ⟨w.heap.size, 0, none⟩ = some (.pointer (some ⟨f, 0, none⟩)) := cell_of_block hA0 0
 have c1 : wA.cell? ⟨w.heap.size + 1, 0, none⟩ = some (.slice (some ⟨blk, of, none⟩) n cp) := cell_of_block hA1 0
 have HF := hid hfA
 have HMp := hid (h.below hAB)
 have HFl := hid hFl
 have HA1 := hid hA1
 have HA0 := hid hA0
 have HA2 := hid hA2
 have HAB := hid hAB
 have HAs := hid hAs
 have HS := hid hS
 have HS1' := hS1
 have HSv' := hid hsv
 have HHo := hid hho
 have HSl' := hid hsl
 have hfl : f < w.heap.size := hf.lt
 have hml : m < w.heap.size := lt_of_heap h
 rw [hA] at c5 c0 c1
 obtain ⟨z, hz⟩ : ∃ z, z = S.size := ⟨_, rfl⟩
 rw [<- hz] at c5 HHo
 have HZ := hid hz
 have HN := hid hn
 have haz : (a : Int) + (n : Int) = (z1 : Int) := by omega
 have haz1 : (a : Int) + (n : Int) <= 70656 := by omega
 have HAz := hid haz
 have HZ1 := hid hz1
 have HMx : Hid (max (z1 : Int) (z : Int) = ((max z1 z : Nat) : Int)) := by unfold Hid; omega
 clear hf hfA hA0 hA1 hA2 hAB hAs hS hS1 h hz hn hho hsv hsl hFl haz hz1
 refine callsIn_of_wp_marks Tryz.func87 rfl trivial ?_ rfl
 simp only [Tryz.ntmps87, List.size_toArray, List.length_cons, List.length_nil, Nat.reduceAdd, Nat.reduceSub, Array.replicate_succ, Array.replicate_zero, List.push_toArray, List.append_toArray, List.nil_append, List.cons_append]
 have hf1 : Fence.wide.fn 152 := trivial
 have hf2 : Fence.wide.fn 153 := trivial
 have hf3 : Fence.wide.fn 154 := trivial
 have hf4 : Fence.wide.fn 138 := trivial
 have hf5 : Fence.wide.fn 19 := trivial
 have hf6 : Fence.wide.fn 130 := trivial
 gi_wp2
 rw [<- hA] at c0 c1 c5 ⊢
 clear hA
 rw [HAz.out]
 refine wpIn_wide.2 ?_
 have hbd : Below wA.heap.size wA wA.drew := (Below.refl _ wA).drew
 have d0 := (hbd.cell (World.block_lt_of_cell? wA _ c0)).trans c0
 have d5 := (hbd.cell (World.block_lt_of_cell? wA _ c5)).trans c5
 have HBd := hid hbd
 have HH2 := hid (HHo.out wA.drew (HAB.out.trans (hbd.mono HAB.out.size)))
 clear hbd HHo c1
 refine wp_region_noPanic ?_
 refine wp_region_held_drew (S := fun W => W.cell? ⟨w.heap.size, 0, none⟩ = some (.pointer (some ⟨f, 0, none⟩))) (by kernel_rfl) c0 (fun hHeld => ?_)
 generalize wA.drew = wd at *
 refine tq 0 _ ?_
 try simp only [tS]
 refine tq 1 _ ?_
 try simp only [tS]
 refine tq 2 _ ?_
 try simp only [tS]
 refine tq 3 _ ?_
 try simp only [tS]
 refine tq 4 _ ?_
 try simp only [tS]
 refine tq 5 _ ?_
 try simp only [tS]
 refine tr 6 (fun K hK => ?_)
 go_simp
 refine hK.out _ _ d0 (fun hHeld => ?_)
 clear hK K
 try simp only [tS]
 refine tq 7 (.int .i64 (max z1 z : Nat)) ?_
 try simp only [tS]
 refine tr 8 (fun K hK => ?_)
 go_simp
 refine HH2.out.mono ?_
 clear HH2
 rintro e w2 ⟨hk2, hx2⟩
 have hb0 : ∀ i, w.heap.size <= i -> ¬ (F i \/ i = f) := fun i hi hh => by
  rcases hh with hh | hh
  ·have := HFl.out i hh; omega
  ·omega
 have HB0 := hid hb0
 have v0 := hk2.heap (below_block HBd.out HA0.out (lt_of_heap HA0.out)) (hb0 _ (Nat.le_refl _))
 have v1 := hk2.heap (below_block HBd.out HA1.out (lt_of_heap HA1.out)) (hb0 _ (by omega))
 have v2 := hk2.heap (below_block HBd.out HA2.out (lt_of_heap HA2.out)) (hb0 _ (by omega))
 have e0 : w2.cell? ⟨w.heap.size, 0, none⟩ = some (.pointer (some ⟨f, 0, none⟩)) := cell_of_block v0 0
 rcases hx2 with ⟨hY, rfl, hf2, hp2⟩ | ⟨hX, rfl, hx2⟩
 rotate_left
 ·have e2 : w2.cell? ⟨w.heap.size + 1 + 1, 0, none⟩ = some (.int .i64 0) := cell_of_block v2 0
  have f2 : w2.frozen? ⟨w.heap.size + 1 + 1, 0, none⟩ = false := frozen_of_block v2 0
  have HV2 := hid v2
  have HX2 := hid hx2
  have HKw2 : Hid (Keeps (fun i => F i \/ i = f) w w2) := ((Keeps.of_below HAB.out : Keeps (fun i => F i \/ i = f) w wA).trans (Keeps.of_below HBd.out : Keeps (fun i => F i \/ i = f) wA wd) (fun i e => .inl e)).trans hk2 (fun i e => .inl e)
  clear hk2 hx2 v0 v1 v2 d0 d5 c0 c5 hb0 HBd HA0 HA1 HA2 HMp HF hl
  go_wp2_with fail
  refine hK.out _ _ e0 (fun hHeld => ?_)
  clear hK K
  try simp only [tS]
  refine tq 9 _ ?_
  try simp only [tS]
  refine wpAnyH_done (by kernel_rfl) ?_ _
  refine NoPanic.normal ?_
  clear hHeld
  gi_wp2
  have k4 : Keeps (fun i => i = w.heap.size + 1 + 1) w2 (w2.setCell ⟨w.heap.size + 1 + 1, 0, none⟩ (.int .i64 7)) := (Keeps.refl _ _).grown (grown_setCell (grown_refl _ _) _ _) (fun i e => .inl (Option.some.inj e).symm)
  have v4 := block_setCell HV2.out 0 (.int .i64 7)
  obtain ⟨Pg', D', hp4⟩ := HX2.out
  have hp5 := hp4.keepY (errno_off HV2.out) (fun hh => by have := HFl.out _ hh; omega) k4
  refine ⟨_, results_ifwrite rfl v4, ?_⟩
  exact ⟨HKw2.out.trans k4 (fun i e => .inr (by have e' : i = w.heap.size + 1 + 1 := e; omega)), .inr ⟨hX, rfl, Pg', D', hp5⟩⟩
 have HS1 := hid (HS1' hY)
 have HSv := hid (HSv'.out hY)
 have HSl := hid (HSl'.out hY)
 have HY := hid hY
 clear hY HS1' HSv' HSl'
 obtain ⟨-, -, -, -, -, e5⟩ := hf2.head
 have hkw2 : Keeps (fun i => F i \/ i = f) w w2 := ((Keeps.of_below HAB.out : Keeps (fun i => F i \/ i = f) w wA).trans (Keeps.of_below HBd.out : Keeps (fun i => F i \/ i = f) wA wd) (fun i e => .inl e)).trans hk2 (fun i e => .inl e)
 have hs2 : w.heap.size + 3 <= w2.heap.size := by have h1 := HAs.out; have h2 := HBd.out.size; have h3 := hk2.size; omega
 have HM2 := hid ((HMp.out.below HBd.out).keep hk2 (fun hh => hh.elim hmF (ne_of_heap HMp.out HF.out (fun e => by simp at e))))
 have HV0 := hid v0
 have HV1 := hid v1
 have HV2 := hid v2
 have HF2 := hid hf2
 have HP2 := hid hp2
 have HKw2 := hid hkw2
 have HBy : Hid (bytesAt w2 ⟨blk, of, none⟩ l) := fun j hj => (hkw2.cell (hl j hj) (fun hh => by rw [Addr.add_mid] at hh; exact hh.elim hbF hbf))
 clear hk2 hf2 hp2 v0 v1 v2 hkw2 d0 d5 c0 c5 hb0 e5 HBd HA0 HA1 HA2 HMp HF hl
 go_wp2_with fail
 refine hK.out _ _ e0 (fun hHeld => ?_)
 clear hK K
 try simp only [tS]
 refine tq 9 _ ?_
 try simp only [tS]
 refine wpAnyH_done (by kernel_rfl) ?_ _
 refine NoPanic.normal ?_
 clear hHeld
 gi_wp2
 refine (callsIn_wide.2 (iparts_any f a z1 w2)).mono ?_
 rintro e wD ⟨rfl, hD⟩
 have hDB : Below w2.heap.size w2 wD := by rw [hD]; exact (((Below.refl _ w2).alloc (Nat.le_refl _) _).alloc (by simp) _).alloc (by simp; omega) _
 have hsD : wD.heap.size = w2.heap.size + 3 := by rw [hD]; simp
 have x0 : wD.cell? ⟨w2.heap.size, 0, none⟩ = some (.pointer (some ⟨f, 0, none⟩)) := by rw [hD]; exact cell_of_block (block_alloc (block_alloc (block_new w2 _) _) _) 0
 have x1 : wD.cell? ⟨w2.heap.size + 1, 0, none⟩ = some (.int .i64 a) := by
  have h1 := block_new (w2.alloc (.cells #[.pointer (some ⟨f, 0, none⟩)] 168)) (.cells #[.int .i64 a] 3)
  rw [World.size_alloc] at h1
  rw [hD]; exact cell_of_block (block_alloc h1 _) 0
 have x2 : wD.cell? ⟨w2.heap.size + 1 + 1, 0, none⟩ = some (.int .i64 z1) := by
  have h1 := block_new ((w2.alloc (.cells #[.pointer (some ⟨f, 0, none⟩)] 168)).alloc (.cells #[.int .i64 a] 3)) (.cells #[.int .i64 z1] 3)
  rw [World.size_alloc, World.size_alloc] at h1
  rw [hD]; exact cell_of_block h1 0
 have HDB := hid hDB
 have HsD := hid hsD
 have HFD := hid (HF2.out.below hDB)
 have HMD := hid (HM2.out.below hDB)
 have HPD : Hid (Pe wD c F size N Pg1 Cm o u1 (n1 + (fillN z1 - a / 512))) := by obtain ⟨D, h1, h2⟩ := HP2.out; exact ⟨D, h1, h2.below hDB⟩
 have HR0 := hid (below_block hDB HV0.out (lt_of_heap HV0.out))
 have HR1 := hid (below_block hDB HV1.out (lt_of_heap HV1.out))
 have HR2 := hid (below_block hDB HV2.out (lt_of_heap HV2.out))
 have HByD : Hid (bytesAt wD ⟨blk, of, none⟩ l) := fun j hj => (hDB.cell (World.block_lt_of_cell? w2 _ (HBy.out j hj))).trans (HBy.out j hj)
 have haM : a <= 70656 := by have := HZ1.out; omega
 have HSt := hid (iparts_stops 7 (by omega) w2.heap.size (w2.heap.size + 1) (w2.heap.size + 1 + 1) f m a z1 S1 HS1.out (fun i => F i \/ i = w.heap.size + 1 \/ wD.heap.size <= i) ha haM wD
  (fun hh => by rcases hh with hh | hh | hh; (have := HFl.out _ hh; omega); omega; omega) (fun hh => by rcases hh with hh | hh | hh; (have := HFl.out _ hh; omega); omega; omega) (fun hh => by rcases hh with hh | hh | hh; (have := HFl.out _ hh; omega); omega; omega)
  (fun hh => by rcases hh with hh | hh | hh; exact hfF hh; omega; omega) HFD.out x0 x1 x2 (fillN z1 - a / 512) rfl)
 have HNl := hid (rfl : (wPs S1.slots a z1 Pg1 l []) = (Pg1, l))
 clear hD hDB hsD x0 x1 x2 HF2 HM2 HP2 HV0 HV1 HV2 HBy e0
 gi_wp2
 generalize hM : fillN z1 - a / 512 = M at *
 have HMM := hid hM
 clear hM
 refine wpIn_rangeFunc_ownH rfl (by omega) (gf := 208) (lb := #[.pointer (some ⟨w2.heap.size + 1, 0, none⟩), .pointer (some ⟨w2.heap.size + 1 + 1, 0, none⟩), .pointer (some ⟨w2.heap.size, 0, none⟩)]) rfl trivial (enters_of Tryz.func208 (by kernel_rfl) rfl)
  HSt.out (fun h k => keepsK_t h k) (keepsK_b (fun i h => .inr (.inr h))) (Below.refl _ _) (fun _ => rfl)
  (fun pre W => Hid (fileB W f m S1) /\ Hid (mapB W m c ino) /\ Hid (Pe W c F size N (wPs S1.slots a z1 Pg1 l (pre.map (fun x : Fin M => a / 512 + x.val))).1 Cm o (u1 + pre.length) (n1 + (M - pre.length))) /\
   Hid (boxS W (w.heap.size + 1) blk (wPs S1.slots a z1 Pg1 l (pre.map (fun x : Fin M => a / 512 + x.val))).2) /\ Hid (Keeps (fun i => F i \/ i = w.heap.size + 1) wD W))
  (fun _ _ _ => False)
  (fun s A B row hs hgr hr => ⟨grown_block hgr hs.1.out (fun e => by obtain ⟨-, ob, h1, h2⟩ := hr _ e; have h3 := hs.1.out; unfold fileB at h3; rw [h3] at h1; cases h1; cases h2), grown_block hgr hs.2.1.out (fun e => by obtain ⟨-, ob, h1, h2⟩ := hr _ e; have h3 := hs.2.1.out; unfold mapB at h3; rw [h3] at h1; cases h1; cases h2), ?own1, ?own2, ?own3⟩)
  (fun cd s A B row hs hgr hr => hs)
  ⟨HFD, HMD, HPD, ?st, Keeps.refl _ _⟩
  (fun x a' W => ∃ pb, wD.heap.size <= pb /\ a' = { tmps := #[.pointer (some ⟨f, 0, none⟩), .int .i64 a, .slice (some ⟨blk, of, none⟩) n cp, .pointer (some ⟨w.heap.size, 0, none⟩), undef, .pointer (some ⟨w.heap.size + 1, 0, none⟩), .pointer (some ⟨w.heap.size + 1 + 1, 0, none⟩), .int .i64 z1, .int .i64 0, .int .i64 (S1.slots.getD (dslot (a / 512 + x.val)) 0 : Nat), .pointer (some ⟨pb, 0, none⟩), undef, undef, .int .i64 a, .slice (some ⟨blk, of, none⟩) n cp, .int .i64 n, .int .i64 z1, .pointer (some ⟨f, 0, none⟩), .int .i64 z1, .pointer (some ⟨f, 0, none⟩), .pointer (some ⟨f, 0, none⟩), .pointer (some ⟨f, 2, none⟩), .pointer (some ⟨f, 5, none⟩), .int .i64 z, .int .i64 (max z1 z : Nat), .int .i64 0, .int .i64 0, .bool false, undef, .pointer (some ⟨f, 0, none⟩), .int .i64 a, .int .i64 z1, .func (.func 208) #[] #[.pointer (some ⟨w2.heap.size + 1, 0, none⟩), .pointer (some ⟨w2.heap.size + 1 + 1, 0, none⟩), .pointer (some ⟨w2.heap.size, 0, none⟩)], .int .i64 (S1.slots.getD (dslot (a / 512 + x.val)) 0 : Nat), .agg #[.int .i64 (a - (a / 512 + x.val) * 512 : Nat), .int .i64 (min (z1 - (a / 512 + x.val) * 512) 512 : Nat)], undef, undef, undef, undef, undef, undef, undef, undef, undef, undef, undef, undef, undef, undef, undef, undef, undef, undef, undef, undef, undef, undef, undef, undef, undef, undef, undef, undef, undef, undef], defers := [] } /\ W.heap[pb]? = some (.cells #[.int .i64 (a - (a / 512 + x.val) * 512 : Nat), .int .i64 (min (z1 - (a / 512 + x.val) * 512) 512 : Nat)] 239 (0, 0))) (fun x a' s A B row hs hgr hr => ?own4) ?assign ?body ?done ?stop
 case assign =>
  rintro l1 pre x W K hI hK
  have HK := hid hK
  have HI := hid hI
  clear hK hI
  unfold partV
  obtain ⟨a1, ha1⟩ : ∃ a1 : Int, a1 = ((S1.slots.getD (dslot (a / 512 + x.val)) 0 : Nat) : Int) := ⟨_, rfl⟩
  obtain ⟨a2, ha2⟩ : ∃ a2 : Int, a2 = ((a - (a / 512 + x.val) * 512 : Nat) : Int) := ⟨_, rfl⟩
  obtain ⟨a3, ha3⟩ : ∃ a3 : Int, a3 = ((min (z1 - (a / 512 + x.val) * 512) 512 : Nat) : Int) := ⟨_, rfl⟩
  rw [<- ha1, <- ha2, <- ha3]
  have HA123 := hid (And.intro ha1 (And.intro ha2 ha3))
  clear ha1 ha2 ha3
  gi_wp2
  obtain ⟨rfl, rfl, rfl⟩ := HA123.out
  obtain ⟨i1, i2, i3, i4, i5⟩ := HI.out
  have hwD := i5.out.size
  have hba : Below W.heap.size W (W.alloc (.cells #[.int .i64 (a - (a / 512 + x.val) * 512 : Nat), .int .i64 (min (z1 - (a / 512 + x.val) * 512) 512 : Nat)] 239)) := (Below.refl _ W).alloc (Nat.le_refl _) _
  refine HK.out _ _ ⟨by simp, fun i ob hi ho _ => block_alloc ho _⟩ (Keeps.of_below hba) ⟨i1.out.below hba, i2.out.below hba, ?_, ?_, i5.out.trans (Keeps.of_below hba : Keeps (fun _ => False) W _) (fun i e => e.elim)⟩ ⟨W.heap.size, hwD, rfl, block_new W _⟩
  ·obtain ⟨D, h1, h2⟩ := i3.out
   exact ⟨D, h1, h2.below hba⟩
  ·exact i4.out.below hba
 case body =>
  rintro l1 pre x a' W hl1 hrec ⟨HFw, HMw, HPw, HBw, HKw⟩ ⟨pb, hpb, rfl, hpW⟩ hlt
  obtain ⟨D, hrD, hpD⟩ := HPw.out
  obtain ⟨of1, cp1, hb1, hc1, hr1⟩ := HBw.out
  have hx := x.isLt
  have hMM := HMM.out
  have hz1 := HZ1.out
  have hnw : ∀ i, w.heap.size <= i -> ¬ F i := fun i hi hh => by have := HFl.out i hh; omega
  have c0b := HKw.out.heap HR0.out (fun hh => hh.elim (hnw _ (Nat.le_refl _)) (fun e => by omega))
  have c0 : W.cell? ⟨w.heap.size, 0, none⟩ = some (.pointer (some ⟨f, 0, none⟩)) := cell_of_block c0b 0
  obtain ⟨cf, -⟩ := HFw.out.head
  have hsD := HsD.out
  have hpr : pre.length < M := hlt
  have HPg := hid (ipage_any HMw.out (S1.slots.getD (dslot (a / 512 + x.val)) 0) (HSl.out _ (by omega) (by omega)) (show u1 + pre.length < 1000000 by have h1 : fillN z1 <= 138 := (by unfold fillN; omega); omega) hpD (Below.refl _ W))
  have HNm : Hid (S1.slots.getD (dslot (a / 512 + x.val)) 0 < N) := HSl.out _ (by omega) (by omega)
  obtain ⟨R, hR⟩ : ∃ R, R = wPs S1.slots a z1 Pg1 l (pre.map (fun x : Fin M => a / 512 + x.val)) := ⟨_, rfl⟩
  have HNx : Hid (wPs S1.slots a z1 Pg1 l ((pre ++ [x]).map (fun x : Fin M => a / 512 + x.val)) = wStep S1.slots a z1 R (a / 512 + x.val)) := by unfold Hid; rw [List.map_append, List.map_singleton, wPs_snoc, hR]
  unfold wStep at HNx
  obtain ⟨pn, hpn⟩ : ∃ pn, pn = S1.slots.getD (dslot (a / 512 + x.val)) 0 := ⟨_, rfl⟩
  obtain ⟨fa, hfa⟩ : ∃ fa, fa = a - (a / 512 + x.val) * 512 := ⟨_, rfl⟩
  obtain ⟨fz, hfz⟩ : ∃ fz, fz = min (z1 - (a / 512 + x.val) * 512) 512 := ⟨_, rfl⟩
  rw [<- hpn, <- hfa, <- hfz] at HNx ⊢
  rw [<- hpn, <- hR] at HPg
  rw [<- hpn] at HNm
  rw [<- hR] at hpD hb1 hc1 hr1
  rw [<- hfa, <- hfz] at hpW
  have hq1 : fa <= fz := by omega
  have hq2 : fz <= 512 := by omega
  have hq3 : (fz : Int) <= 512 := by omega
  have hq4 : ¬ (512 = fa) := by omega
  have hp0 : W.cell? ⟨pb, 0, none⟩ = some (.int .i64 fa) := cell_of_block hpW 0
  have hp1 : W.cell? ⟨pb, 1, none⟩ = some (.int .i64 fz) := cell_of_block hpW 1
  have HPW := hid hpW
  have HB1 := hid hb1
  have HC1 := hid hc1
  have HR1w := hid hr1
  have HRD := hid hrD
  have HLn := hid (hpD.len pn HNm.out)
  have hpbW := lt_of_heap hpW
  have HC0 := hid c0b
  have HR := hid hR
  have HPn := hid hpn
  clear HPw HBw hb1 hc1 hr1 hrD hpD hpW c0b hR hpn hfa hfz HSt hz1 hMM hx hsD hpr
  unfold gV at HPg
  gi_wp2
  refine (CallsIn.inRound l1 (callsIn_wide.2 HPg.out)).mono ?_
  clear HPg
  rintro e W2 ⟨g, rfl, hg, ho2, hk2, hW2⟩
  have hsD := HsD.out
  have hnp : ∀ i, w.heap.size <= i -> ¬ F i := fun i hi hh => by have := HFl.out i hh; omega
  have HP2 := hid (hk2.heap HPW.out (hnp _ (by omega)))
  have HB2 := hid (hk2.heap HB1.out (hnp _ (by omega)))
  have HC2 := hid (hk2.heap HC0.out (hnp _ (by omega)))
  have HO2 := hid ho2
  have HK2 := hid hk2
  have HW2 := hid hW2
  have HRy : Hid (bytesAt W2 ⟨blk, of1, none⟩ R.2) := fun j hj => hk2.cell (HR1w.out j hj) (by rw [Addr.add_mid]; exact hbF)
  have hgl := ho2.lt
  have HG := hid hg
  clear ho2 hk2 hW2 hnp hp0 hp1 c0 cf hg hsD
  gi_wp2
  have hbd : Below W2.heap.size W2 W2.drew := (Below.refl _ W2).drew
  have hpd := below_block hbd HP2.out (lt_of_heap HP2.out)
  have q0 : W2.drew.cell? ⟨pb, 0, none⟩ = some (.int .i64 fa) := cell_of_block hpd 0
  have q1 : W2.drew.cell? ⟨pb, 1, none⟩ = some (.int .i64 fz) := cell_of_block hpd 1
  have hbx := below_block hbd HB2.out (lt_of_heap HB2.out)
  have b0 : W2.drew.cell? ⟨w.heap.size + 1, 0, none⟩ = some (.slice (some ⟨blk, of1, none⟩) R.2.length cp1) := cell_of_block hbx 0
  have HBd := hid hbd
  have HBx := hid hbx
  clear hbd hpd hbx
  refine wpInR_drewL 10 (S := fun V => V.cell? ⟨w.heap.size + 1, 0, none⟩ = some (.slice (some ⟨blk, of1, none⟩) R.2.length cp1) /\ V.cell? ⟨pb, 0, none⟩ = some (.int .i64 fa) /\ V.cell? ⟨pb, 1, none⟩ = some (.int .i64 fz)) (by kernel_rfl) (by kernel_rfl) ⟨b0, q0, q1⟩ (fun hHeld => ?_)
  generalize W2.drew = wd at *
  refine wpAnyL_take (hwt := by kernel_rfl) (i := 0) (v := ?_) rfl (by kernel_rfl) (by kernel_rfl) (by kernel_rfl) (fun _ _ _ h => h) (Or.inl ⟨by rfl, ?_⟩) (by assumption) ?_
  rotate_left
  ·(intro W h; (try dsimp only at h); obtain ⟨s0, s1, s2⟩ := h; go_simp; try with_reducible rfl)
  try simp only [tS]
  refine wpAnyL_take (hwt := by kernel_rfl) (i := 1) (v := ?_) rfl (by kernel_rfl) (by kernel_rfl) (by kernel_rfl) (fun _ _ _ h => h) (Or.inl ⟨by rfl, ?_⟩) (by assumption) ?_
  rotate_left
  ·(intro W h; (try dsimp only at h); obtain ⟨s0, s1, s2⟩ := h; go_simp; try with_reducible rfl)
  try simp only [tS]
  refine wpAnyL_take (hwt := by kernel_rfl) (i := 2) (v := ?_) rfl (by kernel_rfl) (by kernel_rfl) (by kernel_rfl) (fun _ _ _ h => h) (Or.inl ⟨by rfl, ?_⟩) (by assumption) ?_
  rotate_left
  ·(intro W h; (try dsimp only at h); obtain ⟨s0, s1, s2⟩ := h; go_simp; try with_reducible rfl)
  try simp only [tS]
  refine wpAnyL_take (hwt := by kernel_rfl) (i := 4) (v := ?_) rfl (by kernel_rfl) (by kernel_rfl) (by kernel_rfl) (fun _ _ _ h => h) (Or.inl ⟨by rfl, ?_⟩) (by assumption) ?_
  rotate_left
  ·(intro W h; (try dsimp only at h); obtain ⟨s0, s1, s2⟩ := h; go_simp; try with_reducible rfl)
  try simp only [tS]
  refine wpAnyL_take (hwt := by kernel_rfl) (i := 3) (v := ?_) rfl (by kernel_rfl) (by kernel_rfl) (by kernel_rfl) (fun _ _ _ h => h) (Or.inl ⟨by rfl, ?_⟩) (by assumption) ?_
  rotate_left
  ·(intro W h; (try dsimp only at h); obtain ⟨s0, s1, s2⟩ := h; go_simp; try with_reducible rfl)
  try simp only [tS]
  refine wpAnyL_take (hwt := by kernel_rfl) (i := 5) (v := ?_) rfl (by kernel_rfl) (by kernel_rfl) (by kernel_rfl) (fun _ _ _ h => h) (Or.inl ⟨by rfl, ?_⟩) (by assumption) ?_
  rotate_left
  ·(intro W h; (try dsimp only at h); obtain ⟨s0, s1, s2⟩ := h; go_simp; try with_reducible rfl)
  try simp only [tS]
  refine wpAnyL_take (hwt := by kernel_rfl) (i := 6) (v := .slice (some ⟨g, fa, none⟩) (fz - fa) (512 - fa)) rfl (by kernel_rfl) (by kernel_rfl) (by kernel_rfl) (fun _ _ _ h => h) (Or.inl ⟨by rfl, ?_⟩) (by assumption) ?_
  ·(intro W h; (try dsimp only at h); obtain ⟨s0, s1, s2⟩ := h; go_simp; try first | with_reducible rfl | go_num | (rw [if_pos (by assumption)]; simp only [*]) | simp only [*])
  try simp only [tS]
  refine wpAnyL_take (hwt := by kernel_rfl) (i := 7) (v := ?_) rfl (by kernel_rfl) (by kernel_rfl) (by kernel_rfl) (fun _ _ _ h => h) (Or.inl ⟨by rfl, ?_⟩) (by assumption) ?_
  rotate_left
  ·(intro W h; (try dsimp only at h); obtain ⟨s0, s1, s2⟩ := h; go_simp; try with_reducible rfl)
  try simp only [tS]
  refine wpAnyL_one (i := 8) (by kernel_rfl) rfl (fun K hK => ?_)
  rw [if_pos (by rfl)]
  have hgW := HG.out
  have HOd := hid (HO2.out.below HBd.out)
  have HRd : Hid (bytesAt wd ⟨blk, of1, none⟩ R.2) := fun j hj => (HBd.out.cell (World.block_lt_of_cell? W2 _ (HRy.out j hj))).trans (HRy.out j hj)
  have hxl : (R.2.take (fz - fa)).length = Nat.min R.2.length (fz - fa) := by rw [List.length_take]; exact Nat.min_comm _ _
  have hxle : (R.2.take (fz - fa)).length <= fz - fa := by rw [List.length_take]; exact Nat.min_le_left _ _
  have hxle2 : (R.2.take (fz - fa)).length <= R.2.length := by rw [List.length_take]; exact Nat.min_le_right _ _
  refine wp_copy_own8 (.tmp 47) (.tmp 48) rfl g fa (fz - fa) (512 - fa) ⟨blk, of1, none⟩ R.2.length cp1 rfl rfl (R.1 pn) (R.2.take (fz - fa)) HOd.out (fun j hj => by rw [HRd.out j (by omega), List.getElem_take]) hxl (by rw [HLn.out]; omega) ?_
  intro w6 hk6 ho6 hz6
  obtain ⟨cnt, hcnt⟩ : ∃ cnt, cnt = (R.2.take (fz - fa)).length := ⟨_, rfl⟩
  rw [<- hcnt] at ho6 hxle hxle2 ⊢
  have hgl6 : pb ≠ g := by omega
  have hgb6 : w.heap.size + 1 ≠ g := by have := HsD.out; omega
  have v6 := hk6.heap HBx.out (fun e => hgb6 e)
  have b6 : w6.cell? ⟨w.heap.size + 1, 0, none⟩ = some (.slice (some ⟨blk, of1, none⟩) R.2.length cp1) := cell_of_block v6 0
  have f6 : w6.frozen? ⟨w.heap.size + 1, 0, none⟩ = false := frozen_of_block v6 0
  have q06 := hk6.cell q0 (fun e => hgl6 e)
  have q16 := hk6.cell q1 (fun e => hgl6 e)
  have hcc : cnt <= cp1 := by have := HC1.out; omega
  have hcc1 : (cnt : Int) <= (R.2.length : Int) := by omega
  have hcc0 : (0 : Int) <= (cnt : Int) := by omega
  have hcc2 : (R.2.length : Int) <= (cp1 : Int) := by have := HC1.out; omega
  have HK6 := hid hk6
  have HO6 := hid ho6
  have HV6 := hid v6
  have HCn := hid hcnt
  clear hk6 ho6 hz6 hcnt hxl b0 q0 q1 v6
  refine hK.out _ _ (fun _ => ⟨b6, q06, q16⟩) (fun hHeld6 => ?_)
  have hHeld := hHeld6 (by decide)
  clear hK K hHeld6
  try simp only [goInt, List.getElem_toArray, List.getElem_cons_succ, List.getElem_cons_zero, Act.put, List.setIfInBounds_toArray, List.set_cons_zero, List.set_cons_succ]
  obtain ⟨ad, had⟩ : ∃ ad : Nat, ad = if cp1 = cnt then of1 else of1 + cnt := ⟨_, rfl⟩
  have had2 : (if cp1 = cnt then some (⟨blk, of1, none⟩ : Addr) else some ⟨blk, of1 + cnt, none⟩) = some ⟨blk, ad, none⟩ := by rw [had]; split <;> rfl
  have HAd := hid had
  clear had
  refine wpAnyL_take (hwt := by kernel_rfl) (i := 9) (v := .slice (some ⟨blk, ad, none⟩) (R.2.length - cnt) (cp1 - cnt)) rfl (by kernel_rfl) (by kernel_rfl) (by kernel_rfl) (fun _ _ _ h => h) (Or.inl ⟨by rfl, ?_⟩) (by assumption) ?_
  ·(intro W h; (try dsimp only at h); obtain ⟨s0, s1, s2⟩ := h; go_simp; try first | with_reducible rfl | go_num | (rw [if_pos (by assumption)]; simp only [*]) | simp only [*])
  try simp only [tS]
  refine wpAnyL_one (i := 10) (by kernel_rfl) rfl (fun K hK => ?_)
  rw [if_pos (by rfl)]
  go_simp
  obtain ⟨W7, hW7⟩ : ∃ W7, W7 = w6.setCell ⟨w.heap.size + 1, 0, none⟩ (.slice (some ⟨blk, ad, none⟩) (R.2.length - cnt) (cp1 - cnt)) := ⟨_, rfl⟩
  rw [<- hW7]
  have k7 : Keeps (fun i => i = w.heap.size + 1) w6 W7 := by rw [hW7]; exact (Keeps.refl _ w6).grown (grown_setCell (grown_refl _ _) _ _) (fun i e => .inl (Option.some.inj e).symm)
  have v7 : W7.heap[w.heap.size + 1]? = some (.cells #[.slice (some ⟨blk, ad, none⟩) (R.2.length - cnt) (cp1 - cnt)] 81 (0, 0)) := by rw [hW7]; exact block_setCell HV6.out 0 _
  have ho6 : offN w6 (w.heap.size + 1) := ⟨_, _, _, HV6.out, by decide, fun v hv => .inr (.inr (.inl ⟨_, _, _, by simpa using hv⟩))⟩
  have hnp : ∀ i, w.heap.size <= i -> ¬ F i := fun i hi hh => by have := HFl.out i hh; omega
  have hsD := HsD.out
  have hWD := HKw.out.size
  have hW2 := HK2.out.size
  have k26 : Keeps (fun i => W.heap.size <= i) W2 w6 := (Keeps.of_below HBd.out : Keeps (fun i => W.heap.size <= i) W2 wd).trans HK6.out (fun i e => by have e' : i = g := e; exact .inl (by show W.heap.size <= i; omega))
  have hp7 := (HW2.out w6 k26).keepY ho6 (hnp _ (by omega)) k7
  have k27 : Keeps (fun i => W.heap.size <= i \/ i = w.heap.size + 1) W2 W7 := (k26.mono (fun i e => .inl e)).trans k7 (fun i e => .inl (.inr e))
  have kW7 : Keeps (fun i => F i \/ i = w.heap.size + 1) W W7 := (HK2.out.mono (fun i e => .inl e)).trans k27 (fun i e => e.elim (fun e => .inr e) (fun e => .inl (.inr e)))
  have hfb : ¬ (F f \/ f = w.heap.size + 1) := fun hh => hh.elim hfF (fun e => by omega)
  have hmb : ¬ (F m \/ m = w.heap.size + 1) := fun hh => hh.elim hmF (fun e => by omega)
  have hbb : ¬ (F blk \/ blk = w.heap.size + 1) := fun hh => hh.elim hbF (fun e => by omega)
  have hf7 := HFw.out.keep kW7 hfb
  have hm7 := HMw.out.keep kW7 hmb
  obtain ⟨cf, -⟩ := hf7.head
  have c0 : W7.cell? ⟨w.heap.size, 0, none⟩ = some (.pointer (some ⟨f, 0, none⟩)) := cell_of_block (kW7.heap HC0.out (fun hh => hh.elim (hnp _ (Nat.le_refl _)) (fun e => by omega))) 0
  have ho7 := HO6.out.keep k7 (fun e => hgb6 e.symm)
  have hnl : (List.take fa (R.1 pn) ++ List.take (fz - fa) R.2 ++ List.drop (fa + cnt) (R.1 pn)).length = 512 := by rw [List.length_append, List.length_append, <- HCn.out, List.length_take, List.length_drop, HLn.out]; omega
  have hu7 : Rm N size D (n1 + (M - (pre.length + 1)) + 1) := HRD.out.le (by omega)
  have HWr := hid (hp7.write pn HNm.out _ hnl ⟨g, 0, none⟩ 512 ho7.at (hu7.use pn HNm.out))
  have HCa := hid (amCache_any hm7)
  have HRm := hid hu7
  have HF7 := hid hf7
  have HM7 := hid hm7
  have HV7 := hid v7
  have HKW7 := hid kW7
  have HR7 : Hid (bytesAt W7 ⟨blk, of1, none⟩ R.2) := fun j hj => kW7.cell (HR1w.out j hj) (by rw [Addr.add_mid]; exact hbb)
  clear hW7 k7 v7 ho6 k26 k27 kW7 hp7 hf7 hm7 ho7 hnl hu7 hHeld b6 q06 q16 f6 hsD
  refine hK.out _ _ (fun hne => absurd rfl hne) (fun _ => ?_)
  clear hK K
  try simp only [tS]
  refine wpAnyL_done (by kernel_rfl) ?_ _
  refine JustN.normal ?_
  gi_wp2
  refine (CallsIn.inRound l1 (callsIn_wide.2 HCa.out)).mono ?_
  clear HCa
  rintro e w8 ⟨rfl, h8⟩
  obtain rfl := h8.symm
  clear h8
  gi_wp2
  refine (CallsIn.inRound l1 (callsIn_wide.2 HWr.out)).mono ?_
  clear HWr
  rintro e W8 ⟨rfl, hk8, hp8⟩
  have HK8 := hid hk8
  have HP8 := hid hp8
  clear hk8 hp8 c0 cf
  gi_wp2
  have hsD := HsD.out
  have hWD := HKw.out.size
  have hnp : ∀ i, w.heap.size <= i -> ¬ F i := fun i hi hh => by have := HFl.out i hh; omega
  have kW8 : Keeps (fun i => F i \/ i = w.heap.size + 1) W W8 := HKW7.out.trans HK8.out (fun i e => .inl (.inl e))
  have hnx := HNx.out
  rw [<- HCn.out] at hnx
  have hbox : boxS W8 (w.heap.size + 1) blk (R.2.drop (fz - fa)) := by
   have hl : (R.2.drop (fz - fa)).length = R.2.length - cnt := by rw [List.length_drop, HCn.out, List.length_take]; omega
   refine ⟨ad, cp1 - cnt, ?_, ?_, fun j hj => ?_⟩
   ·rw [hl]; exact HK8.out.heap HV7.out (hnp _ (by omega))
   ·have := HC1.out; omega
   ·have h1 : cp1 ≠ cnt := fun e => by have := HC1.out; omega
    have h2 := HAd.out
    rw [if_neg h1] at h2
    have h3 := HR7.out (cnt + j) (by omega)
    have h4 := HK8.out.cell h3 (by rw [Addr.add_mid]; exact hbF)
    rw [Addr.add_mid] at h4 ⊢
    rw [h2, show of1 + cnt + j = of1 + (cnt + j) by omega, h4, List.getElem_drop]
    have h5 : fz - fa = cnt := by have := HCn.out; rw [List.length_take] at this; omega
    simp only [h5]
  refine ⟨⟨kW8.size, fun i ob hi ho _ => kW8.heap ho (fun hh => hh.elim (hnp _ (by omega)) (fun e => by omega))⟩, kW8.mono (fun i e => e.elim .inl (fun e => .inr (.inl e))), HF7.out.keep HK8.out hfF, HM7.out.keep HK8.out hmF, ?_, ?_, HKw.out.trans kW8 (fun i e => .inl e)⟩
  ·unfold Hid
   rw [hnx, List.length_append, List.length_singleton]
   exact ⟨_, HRm.out.put pn, HP8.out⟩
  ·unfold Hid
   rw [hnx]
   exact hbox
 case own1 =>
  obtain ⟨D, h1, h2⟩ := hs.2.2.1.out
  exact ⟨D, h1, h2.own (B := wD.heap.size) (fun i hi => by have := HFl.out i hi; have := HsD.out; omega) hgr hr⟩
 case own2 =>
  have hsD := HsD.out
  exact hs.2.2.2.1.out.keep (Keeps.of_grown hgr (F := fun i => row = some i) (fun i e => e)) (fun e => by have := (hr _ e).1; omega) (fun e => by have := (hr _ e).1; omega)
 case own3 => exact hs.2.2.2.2.out.trans (Keeps.of_grown hgr (F := fun i => row = some i) (fun i e => e)) (fun i e => .inr (hr i e).1)
 case st =>
  have hn := HN.out
  refine ⟨of, cp, ?_, by show l.length <= cp; omega, HByD.out⟩
  show wD.heap[w.heap.size + 1]? = some (.cells #[.slice (some ⟨blk, of, none⟩) l.length cp] 81 (0, 0))
  rw [hn]; exact HR1.out
 case own4 =>
  obtain ⟨pb, h1, h2, h3⟩ := hs
  exact ⟨pb, h1, h2, grown_block hgr h3 (fun e => by obtain ⟨-, ob, h4, h5⟩ := hr _ e; rw [h3] at h4; cases h4; cases h5)⟩
 case done =>
  rintro D1 ys W hD1 hys ⟨HFw, HMw, HPw, HBw, HKw⟩ hK1
  have hyl : ys.length = M := by
   have h1 := congrArg List.length hys
   rw [List.length_map, length_upTo, HMM.out] at h1
   exact h1
  rw [hys, hyl] at HPw
  have hsD := HsD.out
  have hnp : ∀ i, w.heap.size <= i -> ¬ F i := fun i hi hh => by have := HFl.out i hh; omega
  have hw0 : ∀ i, w.heap.size <= i -> i ≠ w.heap.size + 1 -> ¬ (F i \/ i = w.heap.size + 1) := fun i hi hne hh => hh.elim (hnp i hi) hne
  have HPw2 : Hid (Pe W c F size N (wPs S1.slots a z1 Pg1 l (upTo (a / 512) (fillN z1))).1 Cm o (u1 + M) n1) := by
   have h1 := HPw.out
   rw [show n1 + (M - M) = n1 by omega] at h1
   exact h1
  have HSv2 := hid (HSv.out W HFw.out HMw.out HPw2.out)
  have HR2w := hid (HKw.out.heap HR2.out (hw0 _ (by omega) (by omega)))
  have c0 : W.cell? ⟨w.heap.size, 0, none⟩ = some (.pointer (some ⟨f, 0, none⟩)) := cell_of_block (HKw.out.heap HR0.out (hw0 _ (Nat.le_refl _) (by omega))) 0
  have HKD := hid hK1
  have HHD := hid hD1
  clear hys hyl hK1 HPw HPw2 HSv HSt hw0 hD1 hsD
  gi_wp2
  refine (callsIn_wide.2 HSv2.out).mono ?_
  clear HSv2
  rintro e W3 ⟨rfl, hk3, hp3⟩
  have hnp2 := hnp
  have v3 := hk3.heap HR2w.out (hnp _ (by omega))
  have e3 : W3.cell? ⟨w.heap.size + 1 + 1, 0, none⟩ = some (.int .i64 0) := cell_of_block v3 0
  have f3 : W3.frozen? ⟨w.heap.size + 1 + 1, 0, none⟩ = false := frozen_of_block v3 0
  have HV3 := hid v3
  have HK3 := hid hk3
  have HP3 := hid hp3
  have HNp := hid hnp
  clear v3 hk3 hp3 c0 hnp hnp2
  gi_wp2
  have hsD := HsD.out
  have hD1 := HHD.out
  have k4 : Keeps (fun i => i = w.heap.size + 1 + 1) W3 (W3.setCell ⟨w.heap.size + 1 + 1, 0, none⟩ (.int .i64 0)) := (Keeps.refl _ _).grown (grown_setCell (grown_refl _ _) _ _) (fun i e => .inl (Option.some.inj e).symm)
  have v4 := block_setCell HV3.out 0 (.int .i64 0)
  have d4 := k4.heap (HK3.out.heap HKD.out (HNp.out _ (by omega))) (fun e => by have e' : D1 = w.heap.size + 1 + 1 := e; omega)
  obtain ⟨D, hr4, hp4⟩ := HP3.out
  have hp5 := hp4.keepY (errno_off HV3.out) (HNp.out _ (by omega)) k4
  have kw4 : Keeps (fun i => F i \/ i = f) w (W3.setCell ⟨w.heap.size + 1 + 1, 0, none⟩ (.int .i64 0)) :=
   ((((HKw2.out.trans (Keeps.of_below HDB.out : Keeps (fun _ => False) w2 wD) (fun i e => e.elim)).trans HKw.out (fun i e => e.elim (fun e => .inl (.inl e)) (fun e => .inr (by omega)))).trans HK3.out (fun i e => .inl (.inl e))).trans k4 (fun i e => .inr (by have e' : i = w.heap.size + 1 + 1 := e; omega)))
  generalize W3.setCell ⟨w.heap.size + 1 + 1, 0, none⟩ (.int .i64 0) = W4 at *
  have hg5 := grownBy_putObj' W4 D1 (.deferred none)
  have hr5 : ∀ r, some D1 = some r -> w.heap.size <= r /\ ∃ o : Obj, W4.heap[r]? = some o /\ o.isCells = false := fun r e => by cases e; exact ⟨by omega, _, d4, rfl⟩
  refine ⟨by simp, .inl ⟨_, _, rfl, run_takeDeferred d4, ?_⟩⟩
  refine ⟨_, results_ifwrite rfl (grown_block hg5 v4 (fun e => by cases e; omega)), ?_⟩
  exact ⟨kw4.trans (Keeps.of_grown hg5 (F := fun i => some D1 = some i) (fun i e => e)) (fun i e => .inr (by cases e; omega)), .inl ⟨HY.out, rfl, D, hr4, hp5.own HFl.out hg5 hr5⟩⟩
 case stop =>
  intro D c pre W hD hpre hx
  exact hx.elim
end
end
section
open Go.RowKit
structure St (w : World) (s m c : Nat) (F : Nat -> Prop) (N ino : Nat) (Pg Cm : Nat -> List UInt8) (fs : Nat -> Option FileA) (o u : Nat) : Prop where
 map : mapB w m c ino
 store : storeB w s m
 mF : ¬ F m
 sF : ¬ F s
 few : N <= 100
 pc : ∃ D, Pc w c F 100 N Pg Cm D o u
 good : GoodX noSk N ino Pg fs
theorem rm100 {N : Nat} (h : N <= 100) (D : Int -> Bool) (k : Nat) : Rm N 100 D k := .inr (by omega)
section
variable {w w' : World} {s m c ino : Nat} {F : Nat -> Prop} {N : Nat} {Pg Cm : Nat -> List UInt8} {fs : Nat -> Option FileA} {o u : Nat} {i : Nat} {f : FileA}
theorem St.below (h : St w s m c F N ino Pg Cm fs o u) (hb : Below w.heap.size w w') : St w' s m c F N ino Pg Cm fs o u := by
 obtain ⟨D, hp⟩ := h.pc
 exact ⟨h.map.below hb, h.store.below hb, h.mF, h.sF, h.few, ⟨D, hp.below hb⟩, h.good⟩
theorem St.lt (h : St w s m c F N ino Pg Cm fs o u) : ∀ i, F i -> i < w.heap.size := by
 obtain ⟨D, hp⟩ := h.pc
 exact hp.lt
theorem St.more {u' : Nat} (h : St w s m c F N ino Pg Cm fs o u) (hu : u <= u') : St w s m c F N ino Pg Cm fs o u' := by
 obtain ⟨D, hp⟩ := h.pc
 exact ⟨h.map, h.store, h.mF, h.sF, h.few, ⟨D, hp.more (Nat.le_refl _) hu⟩, h.good⟩
theorem iopen_good {D : Int -> Bool} (h : mapB w m c ino) (hp : Pc w c F 100 N Pg Cm D o u) (hg : GoodX noSk N ino Pg fs) (hf : fs i = some f) (hu : u < 1000000) : Calls Tryz.prog 86 #[gV m, .int .i64 i, nodeV f.node] w fun e w' => ∃ p, e = .returned (.pointer (some ⟨p, 0, none⟩)) /\ w.heap.size <= p /\ fileB w' p m (f.S i f.data.length) /\ Keeps F w w' /\ Pc w' c F 100 N Pg Cm D o (u + 1) := by
 have hok := hg.file i f hf
 obtain ⟨-, h2, h3⟩ := hg.node i f hf (fun e => e)
 have hnf := hg.nf
 have hno := hok.node (by omega) hg.n4
 by_cases hs : f.data.length <= 5120
 ·refine (iopen_near i f.node hno hs w).mono ?_
  rintro e w' ⟨p, rfl, hp1, hf1, hb1⟩
  refine ⟨p, rfl, hp1, ?_, Keeps.of_below hb1, (hp.below hb1).more (Nat.le_refl _) (by omega)⟩
  have e1 : f.node.pages ++ List.replicate 128 0 = f.slots := near_slots hok.len (fun j hj => hok.zero j (by
   rw [h2]; unfold needN fillN; rw [if_neg (by omega), if_neg (by omega)]; omega))
  rw [e1] at hf1
  exact hf1
 ·have h10 : f.node.pages.getD 10 0 = f.slot 10 := by
   show (f.slots.take 11).getD 10 0 = f.slots.getD 10 0
   rw [List.getD_eq_getElem?_getD, List.getElem?_take_of_lt (by omega), <- List.getD_eq_getElem?_getD]
  refine (iopen_far h hp hu i f.node hno (by show 5120 < f.data.length; omega) (by rw [h10]; exact hok.lt (by omega) 10)).mono ?_
  rintro e w' ⟨p, rfl, hp1, hf1, hk1, hq1⟩
  refine ⟨p, rfl, hp1, ?_, hk1, hq1⟩
  rw [h10, h3 (by omega)] at hf1
  have e1 : slotsTo f.node.pages (namesTo (f.slots.drop 11) 128) 128 = f.slots := far_slots hok.len (hok.each (by omega) hg.n4)
  rw [e1] at hf1
  exact hf1
theorem iGet_st (h : St w s m c F N ino Pg Cm fs o u) (hf : fs i = some f) (hu : u < 999990) : Calls Tryz.prog 85 #[.pointer (some ⟨s, 0, none⟩), .int .i64 i] w fun e w' => e = .returned (.tuple #[nodeV f.node, .int .i64 0]) /\ Keeps F w w' /\ St w' s m c F N ino Pg Cm fs o (u + 2) := by
 obtain ⟨D, hp⟩ := h.pc
 have hi := h.good.out i f hf
 have hok := h.good.file i f hf
 have hnf := h.good.nf
 have ht := h.good.tabLt hi.2
 refine (iGet_ok h.map h.mF h.store h.sF h.good.i5 i hi.1 hi.2 ((h.good.ibit i hi.2).2 (.inr (by rw [hf]; rfl))) (by omega) hu hp).mono ?_
 rintro e w' ⟨rfl, hk, hp'⟩
 rw [(h.good.node i f hf (fun e => e)).1, decL_encL f.node (hok.node (by omega) h.good.n4)]
 exact ⟨rfl, hk, h.map.keep hk h.mF, h.store.keep hk h.sF, h.mF, h.sF, h.few, ⟨D, hp'⟩, h.good⟩
end
theorem wrD_rsz {d : List UInt8} {a z s : Nat} {l : List UInt8} (hz : a + l.length = z) (hs : max z d.length = s) : wrD (rsz d s) a l = wrD d a l := by
 have h1 : (wrD (rsz d s) a l).length = s := by rw [length_wrD, length_rsz]; omega
 have h2 : (wrD d a l).length = s := by rw [length_wrD]; omega
 refine List.ext_getElem (by rw [h1, h2]) (fun j h3 h4 => ?_)
 have e1 := getD_wrD (rsz d s) a l j (by rw [length_rsz]; omega)
 have e2 := getD_wrD d a l j (by omega)
 rw [List.getD_eq_getElem?_getD, List.getElem?_eq_getElem h3] at e1
 rw [List.getD_eq_getElem?_getD, List.getElem?_eq_getElem h4] at e2
 rw [getD_rsz d (by omega)] at e1
 exact e1.trans e2.symm
section
variable {w w' : World} {m c ino p : Nat} {F : Nat -> Prop} {size N : Nat} {Pg Cm : Nat -> List UInt8} {fs : Nat -> Option FileA} {o u k kk : Nat} {i : Nat} {f : FileA}
theorem isave_good {W : World} {f2 : FileA} {z : Nat} {Pg2 : Nat -> List UInt8} (hmF : ¬ F m) (hg3 : GoodX (fun k => k = i) N ino Pg2 fs) (hf2 : fs i = some f2) (hd2 : f2.data.length = z) (hc2 : f2.cnt = needN z) (hpF : ¬ F p) (hu : u < 999980) (hfW : fileB W p m (f2.S i z)) (hmW : mapB W m c ino) (hpW : Pe W c F size N Pg2 Cm o u (k + 2)) :
  Calls Tryz.prog 154 #[.pointer (some ⟨p, 0, none⟩)] W fun e w' => e = .returned (.int .i64 0) /\ Keeps F W w' /\ Pe w' c F size N (tabP (farP Pg2 (f2.S i f2.data.length)) i f2.node) Cm o (u + 3) k := by
 have hok2 := hg3.file i f2 hf2
 have hi := hg3.out i f2 hf2
 have hnf := hg3.nf
 have hnode : (f2.S i z).node = f2.node := by unfold FileA.S FileS.node FileA.node; rw [hd2]
 have hea := hok2.each (by omega) hg3.n4
 have htb := hg3.tabLt hi.2
 refine (isave_pe (n1 := k) hmW hmF hg3.i5 hi.2 (show 3 + i / 8 < N by omega) hfW hpF hok2.len (by rw [hnode]; exact hok2.node (by omega) hg3.n4) (fun hb => ?_) hea (hg3.tab i f2 hf2) hu hpW).mono ?_
 ·have hb' : 5120 < z := hb
  have hn := need_far hb' (by have := hok2.size; omega)
  have h1 := hok2.in_ 10 (by rw [hc2]; omega)
  exact ⟨h1.2, fun e => by have e' : 3 + i / 8 = f2.slot 10 := e; omega⟩
 ·rintro e w' ⟨rfl, hk, hp'⟩
  rw [hnode] at hp'
  rw [hd2]
  exact ⟨rfl, hk, hp'⟩
theorem ifwrite_good (hm : mapB w m c ino) (hmF : ¬ F m) (hp : Pe w c F size N Pg Cm o u (k + kk)) (hg : GoodX noSk N ino Pg fs) (hf : fs i = some f) (hfi : fileB w p m (f.S i f.data.length)) (hpF : ¬ F p) (hu : u < 880000)
  (a z s : Nat) (l : List UInt8) (blk of cp : Nat) (hl : bytesAt w ⟨blk, of, none⟩ l) (hcp : l.length <= cp) (hbF : ¬ F blk) (hbp : blk ≠ p) (hbl : blk < w.heap.size) (haz : a + l.length = z) (h0 : 0 < l.length) (hz7 : z <= 70656) (hs : max z f.data.length = s)
  (hkk : 1 + 2 * (needN s - f.cnt) + (fillN z - a / 512) + 2 <= kk) :
  Calls Tryz.prog 87 #[.pointer (some ⟨p, 0, none⟩), .int .i64 a, .slice (some ⟨blk, of, none⟩) l.length cp] w fun e w' => Keeps (fun i => F i \/ i = p) w w' /\
   ((needN s - f.cnt <= (frL Pg N ino).length /\ e = .returned (.int .i64 0) /\ ∃ Pg' f', f'.kind = f.kind /\ f'.mode = f.mode /\ f'.links = f.links /\ f'.data = wrD f.data a l /\ GoodX noSk N ino Pg' (updA fs i (some f')) /\ Pe w' c F size N Pg' Cm o (u + 300) k) \/
   ((frL Pg N ino).length < needN s - f.cnt /\ e = .returned (.int .i64 7) /\ ∃ Pg' D', Pc w' c F size N Pg' Cm D' o (u + 300))) := by
 have hok := hg.file i f hf
 have hnf := hg.nf
 have hs7 : s <= 70656 := by have := hok.size; omega
 have hFl : ∀ i, F i -> i < w.heap.size := by obtain ⟨D, -, hp⟩ := hp; exact hp.lt
 have hM : fillN z - a / 512 <= 138 := by unfold fillN; omega
 obtain ⟨-, hcn, -⟩ := hg.node i f hf (fun e => e)
 have hcs : f.cnt <= needN s := by rw [hcn]; exact need_mono (by omega) hs7
 have hho : ∀ W, Below w.heap.size w W -> Calls Tryz.prog 152 #[.pointer (some ⟨p, 0, none⟩), .int .i64 s] W fun e w' => Keeps (fun i => F i \/ i = p) W w' /\
   ((needN s - f.cnt <= (frL Pg N ino).length /\ e = .returned (.int .i64 0) /\ fileB w' p m ((hoF Pg N ino f s).S i s) /\ Pe w' c F size N (hoP Pg N ino f s) Cm o (u + 140) (k + 2 + (fillN z - a / 512))) \/
   ((frL Pg N ino).length < needN s - f.cnt /\ e = .returned (.int .i64 7) /\ ∃ Pg' D', Pc w' c F size N Pg' Cm D' o (u + 140))) := fun W hW => by
  refine ihold_good (k := k + 2 + (fillN z - a / 512)) (kk := 1 + 2 * (needN s - f.cnt)) (hm.below hW) hmF ?_ hg hf (hfi.below hW) hpF (by omega) s hs7 (by omega)
  obtain ⟨D, h1, h2⟩ := hp
  exact ⟨D, h1.le (by omega), h2.below hW⟩
 obtain ⟨f1, hf1⟩ : ∃ f1, f1 = hoF Pg N ino f s := ⟨_, rfl⟩
 obtain ⟨Pg1, hPg1⟩ : ∃ Pg1, Pg1 = hoP Pg N ino f s := ⟨_, rfl⟩
 obtain ⟨f2, hf2⟩ : ∃ f2 : FileA, f2 = { f1 with data := wrD f1.data a l } := ⟨_, rfl⟩
 rw [<- hf1, <- hPg1] at hho
 have hY : needN s - f.cnt <= (frL Pg N ino).length -> f1.kind = f.kind /\ f1.mode = f.mode /\ f1.links = f.links /\ f1.data = rsz f.data s /\ f1.cnt = needN s /\ f1.slots.length = 139 /\ (∀ j, j < fillN z -> f1.slots.getD (dslot j) 0 < N) /\ f2.data.length = s /\ f2.cnt = needN s /\ f1.S i s = f2.S i s /\ GoodX (fun k => k = i) N ino (wPs f1.slots a z Pg1 l (upTo (a / 512) (fillN z))).1 (updA fs i (some f2)) := fun hfr => by
  obtain ⟨q1, q2, q3, q4, q5, q6⟩ := hg.hold hf s hs7 hfr
  rw [<- hf1] at q1 q2 q3 q4 q5 q6
  rw [<- hPg1] at q6
  have hd1 : f1.data.length = s := by rw [q4, length_rsz]
  have hok1 := q6.file i f1 (updA_self _ _ _)
  have g3 := q6.over (updA_self _ _ _) rfl a z (fun hh => absurd hh (by omega)) l (by omega) (by omega) hz7 (by rw [hd1, q5, show max s z = s by omega]; exact Nat.le_refl _)
  rw [updA_twice, <- hf2] at g3
  refine ⟨q1, q2, q3, q4, q5, hok1.len, fun j hj => (hok1.in_ _ (by rw [q5]; exact Nat.lt_of_lt_of_le (fill_need hj hz7) (need_mono (by omega) hs7))).2, ?_, by rw [hf2]; exact q5, by rw [hf2]; rfl, g3⟩
  rw [hf2]; show (wrD f1.data a l).length = s; rw [length_wrD, hd1]; omega
 refine (ifwrite_any (Y := needN s - f.cnt <= (frL Pg N ino).length) (X := (frL Pg N ino).length < needN s - f.cnt) (Pg1 := Pg1) (Pg := tabP (farP (wPs f1.slots a z Pg1 l (upTo (a / 512) (fillN z))).1 (f2.S i f2.data.length)) i f2.node) (S1 := f1.S i s) (u1 := u + 140) (u := u + 300) (n1 := k + 2) (k := k) (Cm := Cm) (N := N) (size := size) (o := o) (c := c) (ino := ino)
  a l.length z l rfl haz.symm blk of cp hm hmF hfi hpF hok.len (fun y => (hY y).2.2.2.2.2.1) hFl hl hcp hbF hbp hbl hz7 (by omega) (fun y j _ hj => (hY y).2.2.2.2.2.2.1 j hj) (fun W hW => ?_) (fun y W hfW hmW hpW => ?_)).mono ?_
 ·have hS : (f.S i f.data.length).size = f.data.length := rfl
  rw [hS, hs]
  refine (hho W hW).mono ?_
  rintro e w' ⟨hk, ⟨y, rfl, h1, h2⟩ | ⟨h1, rfl, Pg', D', h2⟩⟩
  ·exact ⟨hk, .inl ⟨y, rfl, h1, h2⟩⟩
  ·exact ⟨hk, .inr ⟨h1, rfl, Pg', D', h2.more (Nat.le_refl _) (by omega)⟩⟩
 ·obtain ⟨-, -, -, -, -, -, -, hd2, hc2, hS2, g3⟩ := hY y
  rw [hS2] at hfW
  refine (isave_good (z := s) hmF g3 (updA_self _ _ _) hd2 hc2 hpF (by omega) hfW hmW hpW).mono ?_
  rintro e w' ⟨rfl, hk, D, h1, h2⟩
  exact ⟨rfl, hk, D, h1, h2.more (Nat.le_refl _) (by omega)⟩
 ·rintro e w' ⟨hk, ⟨y, rfl, hp'⟩ | ⟨x, rfl, hp'⟩⟩
  ·obtain ⟨q1, q2, q3, q4, q5, -, -, hd2, hc2, hS2, g3⟩ := hY y
   refine ⟨hk, .inl ⟨y, rfl, _, f2, by rw [hf2]; exact q1, by rw [hf2]; exact q2, by rw [hf2]; exact q3, ?_, g3.save (updA_self _ _ _) (by rw [hd2]; exact hc2), hp'⟩⟩
   rw [hf2]
   show wrD f1.data a l = wrD f.data a l
   rw [q4]
   exact wrD_rsz haz hs
  ·exact ⟨hk, .inr ⟨x, rfl, hp'⟩⟩
end
end
section
open Go.RowKit
structure RF where
 k : Int
 m : Int
 l : Int
 b : List UInt8
 ba : Option Addr
 bc : Nat
 d : List Int
 da : Option Addr
 dc : Nat
 ind : Int
def RF.cells (f : RF) : List Value := [.int .i64 f.k, .int .i64 f.m, .int .i64 f.l, .slice f.ba f.b.length f.bc, .slice f.da f.d.length f.dc, .int .i64 f.ind]
def rdZ (w : World) (Z : Nat -> Prop) (b : Nat) : Prop := ¬ Z b /\ b < w.heap.size
structure RF.ok (w : World) (Z : Nat -> Prop) (f : RF) : Prop where
 bytes : bytesIn w f.ba f.b
 bz : ∀ b o, f.ba = some ⟨b, o, none⟩ -> rdZ w Z b
 data : intsAt w f.da f.d
 dz : ∀ b o, f.da = some ⟨b, o, none⟩ -> rdZ w Z b
 bl : f.b.length <= 70656
 dl : f.d.length <= 138
structure RSide (w : World) (Z : Nat -> Prop) (lb : Nat) (fl : List RF) : Prop where
 len : fl.length = 16
 row : ∀ i (hi : i < fl.length), w.rangeAt lb (i * 6) (fl[i]).cells
 lz : rdZ w Z lb
 ok : ∀ i (hi : i < fl.length), (fl[i]).ok w Z
def RMap (w : World) (Z : Nat -> Prop) (m : Nat) : Prop := ∃ g cp gi ci Lp Li, R5In w m g cp gi ci Lp Li /\ Li.length = 16 /\ rdZ w Z g /\ rdZ w Z gi
def zOf (F : Nat -> Prop) (r m : Nat) : Nat -> Prop := fun i => F i \/ i = r \/ i = m
structure Ref6 (w : World) (F : Nat -> Prop) (r m : Nat) : Prop where
 heap : ∃ lb lc km kb kc fl kl, w.heap[r]? = some (.cells #[.pointer (some ⟨m, 0, none⟩), .slice (some ⟨lb, 0, none⟩) 16 lc, .pointer (some ⟨km, 0, none⟩), .slice (some ⟨kb, 0, none⟩) 16 kc] 148 (0, 0)) /\
  RSide w (zOf F r m) lb fl /\ RSide w (zOf F r m) kb kl /\ RMap w (zOf F r m) km /\ rdZ w (zOf F r m) km
 map : RMap w (zOf F r m) m
 rF : ¬ F r
 mF : ¬ F m
 rm : r ≠ m
section
variable {w w' : World} {Z Z' G : Nat -> Prop} {b : Nat}
theorem rdZ.keep (h : rdZ w Z b) (hs : w.heap.size <= w'.heap.size) (hz : ∀ i, i < w.heap.size -> ¬ Z i -> ¬ Z' i) : rdZ w' Z' b := ⟨hz b h.2 h.1, Nat.lt_of_lt_of_le h.2 hs⟩
theorem RF.ok.keep {f : RF} (h : f.ok w Z) (k : Keeps G w w') (hG : ∀ i, i < w.heap.size -> ¬ Z i -> ¬ G i) (hz : ∀ i, i < w.heap.size -> ¬ Z i -> ¬ Z' i) : f.ok w' Z' := by
 refine ⟨fun j hj => ?_, fun b o e => (h.bz b o e).keep k.size hz, fun j hj => ?_, fun b o e => (h.dz b o e).keep k.size hz, h.bl, h.dl⟩
 ·obtain ⟨b, o, e, hc⟩ := h.bytes j hj
  exact ⟨b, o, e, fun i hi => k.cell (hc i hi) (hG b (h.bz b o e).2 (h.bz b o e).1)⟩
 ·obtain ⟨b, o, e, hc⟩ := h.data j hj
  exact ⟨b, o, e, fun i hi => k.cell (hc i hi) (hG b (h.dz b o e).2 (h.dz b o e).1)⟩
theorem RSide.keep {lb : Nat} {fl : List RF} (h : RSide w Z lb fl) (k : Keeps G w w') (hG : ∀ i, i < w.heap.size -> ¬ Z i -> ¬ G i) (hz : ∀ i, i < w.heap.size -> ¬ Z i -> ¬ Z' i) : RSide w' Z' lb fl :=
 ⟨h.len, fun i hi j v hv => k.cell (h.row i hi j v hv) (hG lb h.lz.2 h.lz.1), h.lz.keep k.size hz, fun i hi => (h.ok i hi).keep k hG hz⟩
theorem RMap.keep {m : Nat} (h : RMap w Z m) (k : Keeps G w w') (hm : ¬ G m) (hG : ∀ i, i < w.heap.size -> ¬ Z i -> ¬ G i) (hz : ∀ i, i < w.heap.size -> ¬ Z i -> ¬ Z' i) : RMap w' Z' m := by
 obtain ⟨g, cp, gi, ci, Lp, Li, h1, h2, h3, h4⟩ := h
 exact ⟨g, cp, gi, ci, Lp, Li, h1.keep k hm (hG g h3.2 h3.1) (hG gi h4.2 h4.1), h2, h3.keep k.size hz, h4.keep k.size hz⟩
end
section
variable {w w' : World} {F F' : Nat -> Prop} {r m : Nat}
theorem Ref6.lt (h : Ref6 w F r m) : r < w.heap.size /\ m < w.heap.size := by
 obtain ⟨lb, lc, km, kb, kc, fl, kl, h1, -⟩ := h.heap
 obtain ⟨g, cp, gi, ci, Lp, Li, h2, -⟩ := h.map
 exact ⟨lt_of_heap h1, lt_of_heap h2.heap⟩
theorem Ref6.keep {G : Nat -> Prop} (h : Ref6 w F r m) (k : Keeps G w w') (hG : ∀ i, G i -> F i) (hF : ∀ i, F' i -> F i \/ w.heap.size <= i) : Ref6 w' F' r m := by
 obtain ⟨lr, lm⟩ := h.lt
 obtain ⟨lb, lc, km, kb, kc, fl, kl, h1, h2, h3, h4, h5⟩ := h.heap
 have hz : ∀ i, i < w.heap.size -> ¬ zOf F r m i -> ¬ zOf F' r m i := fun i hi hn hh => by
  rcases hh with hh | hh
  ·rcases hF i hh with hh | hh
   ·exact hn (.inl hh)
   ·omega
  ·exact hn (.inr hh)
 have hg : ∀ i, i < w.heap.size -> ¬ zOf F r m i -> ¬ G i := fun i _ hn hh => hn (.inl (hG i hh))
 have hF' : ∀ i, i < w.heap.size -> ¬ F i -> ¬ F' i := fun i hi hn hh => (hF i hh).elim hn (fun e => by omega)
 refine ⟨⟨lb, lc, km, kb, kc, fl, kl, k.heap h1 (fun hh => h.rF (hG r hh)), h2.keep k hg hz, h3.keep k hg hz, h4.keep k (hg km h5.2 h5.1) hg hz, h5.keep k.size hz⟩, h.map.keep k (fun hh => h.mF (hG m hh)) hg hz, hF' r lr h.rF, hF' m lm h.mF, h.rm⟩
theorem Ref6.below (h : Ref6 w F r m) (k : Below w.heap.size w w') : Ref6 w' F r m := h.keep (Keeps.of_below k : Keeps (fun _ => False) w w') (fun _ e => e.elim) (fun _ e => .inl e)
theorem Ref6.off (h : Ref6 w F r m) : ∀ i, (i = r \/ i = m) -> offN w i /\ ¬ F i := by
 obtain ⟨lb, lc, km, kb, kc, fl, kl, h1, -⟩ := h.heap
 obtain ⟨g, cp, gi, ci, Lp, Li, h2, -⟩ := h.map
 rintro i (rfl | rfl)
 ·refine ⟨⟨_, _, _, h1, by decide, fun v hv => ?_⟩, h.rF⟩
  simp only [List.mem_cons, List.mem_nil_iff, or_false] at hv
  rcases hv with rfl | rfl | rfl | rfl
  ·exact .inr (.inr (.inr (.inl ⟨_, rfl⟩)))
  ·exact .inr (.inr (.inl ⟨_, _, _, rfl⟩))
  ·exact .inr (.inr (.inr (.inl ⟨_, rfl⟩)))
  ·exact .inr (.inr (.inl ⟨_, _, _, rfl⟩))
 ·refine ⟨⟨_, _, _, h2.heap, by decide, fun v hv => ?_⟩, h.mF⟩
  simp only [List.mem_cons, List.mem_nil_iff, or_false] at hv
  rcases hv with rfl | rfl | rfl | rfl
  ·exact .inl ⟨_, rfl⟩
  ·exact .inl ⟨_, rfl⟩
  ·exact .inr (.inr (.inl ⟨_, _, _, rfl⟩))
  ·exact .inr (.inr (.inl ⟨_, _, _, rfl⟩))
end
end
section
open Go.RowKit
end
section
set_option maxRecDepth 100000
set_option maxHeartbeats 1000000
open Go.RowKit
def flatF (fl : List RF) : List Value := fl.flatMap RF.cells
theorem flatF_cons (f : RF) (fl : List RF) : flatF (f :: fl) = f.cells ++ flatF fl := by simp [flatF]
theorem length_flatF : ∀ fl : List RF, (flatF fl).length = fl.length * 6
 | [] => rfl
 | f :: fl => by rw [flatF_cons, List.length_append, length_flatF fl, List.length_cons, show f.cells.length = 6 from rfl]; omega
theorem flatF_at : ∀ (fl : List RF) (i : Nat) (hi : i < fl.length) (j : Nat), j < 6 -> (flatF fl)[i * 6 + j]? = (fl[i]).cells[j]?
 | f :: fl, 0, _, j, hj => by rw [flatF_cons, Nat.zero_mul, Nat.zero_add, List.getElem?_append_left (show j < f.cells.length from hj)]; rfl
 | f :: fl, i + 1, hi, j, hj => by
  rw [flatF_cons, List.getElem?_append_right (by show 6 <= _; omega), show (i + 1) * 6 + j - f.cells.length = i * 6 + j by show (i + 1) * 6 + j - 6 = _; omega]
  exact flatF_at fl i (by simpa using hi) j hj
theorem flatF_one (fl : List RF) : ∀ u ∈ flatF fl, u.oneCell' = true := fun u hu => by
 obtain ⟨f, -, hf⟩ := List.mem_flatMap.1 hu
 unfold RF.cells at hf
 simp only [List.mem_cons, List.mem_nil_iff, or_false] at hf
 rcases hf with rfl | rfl | rfl | rfl | rfl | rfl <;> rfl
section
variable {w w' : World} {F : Nat -> Prop} {r m : Nat} {Z : Nat -> Prop}
theorem RSide.flat {lb : Nat} {fl : List RF} (h : RSide w Z lb fl) (j : Nat) (u : Value) (hu : (flatF fl)[j]? = some u) : w.cell? (Addr.add ⟨lb, 0, none⟩ j) = some u := by
 have hj : j < (flatF fl).length := (List.getElem?_eq_some_iff.1 hu).1
 rw [length_flatF] at hj
 have hi : j / 6 < fl.length := by omega
 have h1 := flatF_at fl (j / 6) hi (j % 6) (by omega)
 rw [show j / 6 * 6 + j % 6 = j by omega, hu] at h1
 have h2 := h.row (j / 6) hi (j % 6) u h1.symm
 rw [show j / 6 * 6 + j % 6 = j by omega] at h2
 rw [Addr.add_mid, Nat.zero_add]
 exact h2
theorem infoFile6 : (Tryz.prog.info? 157).map (·.size) = some 6 := by kernel_rfl
theorem v6set_any (h : Ref6 w F r m) (hFl : ∀ i, F i -> i < w.heap.size) (i : Nat) (hi : i < 16) (f : RF) (hf : f.ok w (zOf F r m)) : Calls Tryz.prog 77 #[.pointer (some ⟨r, 0, none⟩), .int .i64 i, .agg f.cells.toArray] w fun e w' => e = .returned (.tuple #[]) /\ Keeps (fun i => i = r) w w' /\ Ref6 w' F r m /\ ∃ g cp, w'.cell? ⟨r, 1, none⟩ = some (.slice (some ⟨g, 0, none⟩) 16 cp) /\ w'.rangeAt g (i * 6) f.cells := by
 obtain ⟨lb, lc, km, kb, kc, fl, kl, h1, h2, h3, h4, h5⟩ := h.heap
 have c1 : w.cell? ⟨r, 1, none⟩ = some (.slice (some ⟨lb, 0, none⟩) 16 lc) := cell_of_block h1 1
 have hfl : (flatF fl).length = 16 * 6 := by rw [length_flatF, h2.len]
 have HX := hid h2.flat
 have H1 := hid h1
 have hrl : r < w.heap.size := lt_of_heap h1
 have HFc := hid (And.intro h (And.intro h2 (And.intro h3 (And.intro h4 (And.intro h5 hf)))))
 obtain ⟨i0, hi0, hz0, hz1, hz2⟩ := info_parts infoFile
 have HI := hid hi0
 have HFl := hid hfl
 have HFl2 := hid hFl
 obtain ⟨fc, hcs⟩ : ∃ fc, fc = f.cells.toArray := ⟨_, rfl⟩
 rw [<- hcs]
 have hfs : fc.size = 6 := by rw [hcs]; rfl
 have HC := hid hcs
 obtain ⟨wA, hA⟩ : ∃ wA, wA = w.alloc (.cells fc 157) := ⟨_, rfl⟩
 have HAB : Hid (Below w.heap.size w wA) := by rw [hA]; exact (Below.refl _ w).alloc (Nat.le_refl _) _
 have HA0 : Hid (wA.heap[w.heap.size]? = some (.cells fc 157 (0, 0))) := by rw [hA]; exact block_new w _
 have HAs : Hid (wA.heap.size = w.heap.size + 1) := by rw [hA]; exact World.size_alloc _ _
 have HFs := hid hfs
 clear h h1 h2 h3 h4 h5 hf hi0 hfl hcs hfs hFl
 go_enter Tryz.func77, Tryz.ntmps77
 go_wp2_with fail
 rw [<- hA]
 clear hA
 refine wp_append_lies wA (.tmp 7) (.tmp 11) 146 rfl wA.heap.size 157 i0 _ 6 80 Tryz.underlying146 HI.out hz0 hz1 hz2 rfl (by omega) (.slice none 0 0) 0 [] rfl (World.ownsRow_nil _ _ _ _) ⟨lb, 0, none⟩ 16 lc (flatF fl) rfl HFl.out (fun j u hu => (HAB.out.cell (World.block_lt_of_cell? w _ (HX.out j u hu))).trans (HX.out j u hu)) (flatF_one fl) (by omega) (by unfold maxLen; omega) (by omega) (Nat.le_refl _) wA.heap.size rfl ?_
 intro g2 cap2 w2 hown hgr hat hlt2
 rw [Nat.zero_add, List.nil_append] at hown
 rw [Nat.zero_add]
 have hg2 : g2 = wA.heap.size := by
  rcases hat with e | e
  ·cases e
  ·exact e
 have hb2 : Below wA.heap.size wA w2 := ⟨hgr.os, hgr.tape, hgr.output, hgr.size, fun k hk => hgr.block k hk (by simp [Value.ownBlock])⟩
 have HOw := hid hown
 have HB2 := hid hb2
 have HG2 := hid hg2
 have hl2 := hlt2
 have HA2 := hid (below_block hb2 HA0.out (lt_of_heap HA0.out))
 have hb02 := HAB.out.trans (hb2.mono HAB.out.size)
 have HR2 := hid (below_block hb02 H1.out hrl)
 have e1 : w2.cell? ⟨r, 1, none⟩ = some (.slice (some ⟨lb, 0, none⟩) 16 lc) := cell_of_block HR2.out 1
 have HB02 := hid hb02
 clear hown hgr hat hlt2 hb2 hg2 hb02 c1
 obtain ⟨cur, hcur, hcsz, htk⟩ : ∃ cur : Array Value, w2.heap[g2]? = some (.cells cur 157 (0, 0)) /\ 96 <= cur.size /\ cur.toList.take (16 * 6) = flatF fl := by
  obtain ⟨-, h2⟩ := HOw.out
  rcases h2 with ⟨e, -⟩ | ⟨g3, cap3, cur, e, -, hh, hsz, -, -, htk⟩
  ·cases e
  ·rw [Value.slice.injEq] at e
   obtain ⟨e, -, -⟩ := e
   cases e
   have h3 := congrArg List.length htk
   rw [List.length_take, HFl.out, Array.length_toList] at h3
   exact ⟨cur, hh, by omega, htk⟩
 obtain ⟨cur, hcur, hcsz, htk⟩ : ∃ cur : Array Value, w2.heap[g2]? = some (.cells cur 157 (0, 0)) /\ 96 <= cur.size /\ cur.toList.take (16 * 6) = flatF fl := by
  obtain ⟨-, h2⟩ := HOw.out
  rcases h2 with ⟨e, -⟩ | ⟨g3, cap3, cur, e, -, hh, hsz, -, -, htk⟩
  ·cases e
  ·rw [Value.slice.injEq] at e
   obtain ⟨e, -, -⟩ := e
   cases e
   have h3 := congrArg List.length htk
   rw [List.length_take, HFl.out, Array.length_toList] at h3
   exact ⟨cur, hh, by omega, htk⟩
 have HTh : Hid (w2.there g2 (i * 6) fc.size) := by rw [HFs.out]; exact there_of_block hcur _ _ (by omega)
 obtain ⟨w3, hw3⟩ : ∃ w3, w3 = w2.setCells g2 (i * 6) fc.toList := ⟨_, rfl⟩
 have hsc := setCells_block g2 fc.toList (i * 6) w2 cur _ hcur (by rw [Array.length_toList, HFs.out]; omega)
 rw [<- hw3] at hsc
 obtain ⟨q1, q2, q3, q4, q5, q6⟩ := hsc
 have hrg : r ≠ g2 := by have := HG2.out; have := HAs.out; omega
 have hr3 : w3.heap[r]? = some (.cells #[.pointer (some ⟨m, 0, none⟩), .slice (some ⟨lb, 0, none⟩) 16 lc, .pointer (some ⟨km, 0, none⟩), .slice (some ⟨kb, 0, none⟩) 16 kc] 148 (0, 0)) := (q2 r hrg).trans HR2.out
 have e3 : w3.cell? ⟨r, 1, none⟩ = some (.slice (some ⟨lb, 0, none⟩) 16 lc) := cell_of_block hr3 1
 have f3 : w3.frozen? ⟨r, 1, none⟩ = false := frozen_of_block hr3 1
 have HK23 : Hid (Keeps (fun i => i = g2) w2 w3) := Keeps.of_grown (r := some g2) ⟨q3, q4, q5, by omega, fun k _ hk => q2 k (fun e => hk (by rw [e]))⟩ (fun i e => (Option.some.inj e).symm)
 have HR3 := hid hr3
 have HQ1 := hid q1
 have HTk := hid htk
 have HW3 := hid hw3
 clear q1 q2 q3 q4 q5 q6 hr3 hcur htk hw3 e1
 go_wp2_with (first
  | refine wpList_load_block rfl 157 (.tmp 5) rfl w.heap.size rfl fc _ _ HA2.out _ Tryz.underlying157 rfl (by rw [HFs.out]; exact infoFile6) ?_
  | (refine wpList_store_mid rfl 157 (.tmp 16) (.tmp 15) rfl g2 (i * 6) fc rfl rfl HTh.out (by rw [HFs.out]; exact infoFile6) (by rw [HC.out]; exact all_oneCell_toArray (fun v hv => flatF_one [f] v (by rw [flatF_cons]; exact List.mem_append_left _ hv))) ?_; rw [<- HW3.out]))
 obtain ⟨h, h2, h3, h4, h5, hf⟩ := HFc.out
 have hs1 := HAs.out
 have hsg := HG2.out
 have hb02 := HB02.out
 obtain ⟨hrl', hml⟩ := h.lt
 obtain ⟨w4, hw4⟩ : ∃ w4, w4 = w3.setCell ⟨r, 1, none⟩ (.slice (some ⟨g2, 0, none⟩) 16 cap2) := ⟨_, rfl⟩
 have k34 : Keeps (fun i => i = r) w3 w4 := by rw [hw4]; exact (Keeps.refl _ w3).grown (grown_setCell (grown_refl _ _) _ _) (fun i e => .inl (Option.some.inj e).symm)
 have kw : Keeps (fun i => i = r) w w4 := ((Keeps.of_below hb02 : Keeps (fun i => i = r) w w2).trans HK23.out (fun i e => .inr (by have e' : i = g2 := e; omega))).trans k34 (fun i e => .inl e)
 have hr4 : w4.heap[r]? = some (.cells #[.pointer (some ⟨m, 0, none⟩), .slice (some ⟨g2, 0, none⟩) 16 cap2, .pointer (some ⟨km, 0, none⟩), .slice (some ⟨kb, 0, none⟩) 16 kc] 148 (0, 0)) := by rw [hw4]; exact block_setCell HR3.out 1 _
 have hg4 := k34.heap HQ1.out (fun e => hrg (by have e' : g2 = r := e; exact e'.symm))
 have hG : ∀ i, i < w.heap.size -> ¬ zOf F r m i -> ¬ (i = r) := fun i _ hn e => hn (.inr (.inl e))
 have hz : ∀ i, i < w.heap.size -> ¬ zOf F r m i -> ¬ zOf F r m i := fun _ _ hn => hn
 have hnz : rdZ w4 (zOf F r m) g2 := ⟨fun hh => by rcases hh with hh | hh | hh; (have := HFl2.out _ hh; omega); exact hrg hh.symm; omega, lt_of_heap hg4⟩
 have hsd : RSide w4 (zOf F r m) g2 (fl.set i f) := by
  refine ⟨by rw [List.length_set]; exact h2.len, fun j hj t v hv => ?_, hnz, fun j hj => ?_⟩
  ·rw [List.length_set] at hj
   have ht6 : t < 6 := by
    have h7 := (List.getElem?_eq_some_iff.1 hv).1
    exact h7
   have hj16 : j < 16 := by rw [<- h2.len]; exact hj
   have hcl : (cur.toList.take (i * 6)).length = i * 6 := by rw [List.length_take, Array.length_toList]; omega
   have hfl6 : fc.toList.length = 6 := by rw [Array.length_toList]; exact HFs.out
   rw [cell_of_block hg4, List.getElem?_toArray]
   by_cases e : i = j
   ·subst e
    rw [List.getElem_set_self] at hv
    rw [List.append_assoc, List.getElem?_append_right (by omega), hcl, List.getElem?_append_left (by omega), show i * 6 + t - i * 6 = t by omega, HC.out]
    exact hv
   ·rw [List.getElem_set_ne e] at hv
    have hcu : cur.toList[j * 6 + t]? = some v := by
     have h8 := flatF_at fl j hj t ht6
     rw [<- HTk.out, List.getElem?_take_of_lt (by omega), hv] at h8
     exact h8
    by_cases e2 : j < i
    ·rw [List.append_assoc, List.getElem?_append_left (by omega), List.getElem?_take_of_lt (by omega)]
     exact hcu
    ·rw [List.getElem?_append_right (by rw [List.length_append, hcl, hfl6]; omega), List.length_append, hcl, hfl6, List.getElem?_drop, show i * 6 + 6 + (j * 6 + t - (i * 6 + 6)) = j * 6 + t by omega]
     exact hcu
  ·rw [List.length_set] at hj
   by_cases e : i = j
   ·subst e
    rw [List.getElem_set_self]
    exact hf.keep kw hG hz
   ·rw [List.getElem_set_ne e]
    exact (h2.ok j hj).keep kw hG hz
 rw [<- hw4]
 have hrow := hsd.row i (by rw [List.length_set, h2.len]; exact hi)
 rw [List.getElem_set_self] at hrow
 refine ⟨rfl, _, results_none rfl _ _ _, rfl, kw, ?_, g2, cap2, cell_of_block hr4 1, hrow⟩
 exact ⟨⟨g2, cap2, km, kb, kc, fl.set i f, kl, hr4, hsd, h3.keep kw hG hz, h4.keep kw (hG km h5.2 h5.1) hG hz, h5.keep kw.size hz⟩, h.map.keep kw (fun e => h.rm (by have e' : m = r := e; exact e'.symm)) hG hz, h.rF, h.mF, h.rm⟩
end
end
section
set_option maxRecDepth 100000
open Go.RowKit
section
variable {w w' : World} {F : Nat -> Prop} {r m : Nat}
theorem v6Commit_r (h : Ref6 w F r m) (hFl : ∀ i, F i -> i < w.heap.size) : Calls Tryz.prog 30 #[.pointer (some ⟨r, 0, none⟩)] w fun e w' => e = .returned (.tuple #[]) /\ Keeps (fun i => i = r) w w' /\ Ref6 w' F r m := by
 obtain ⟨lb, lc, km, kb, kc, fl, kl, h1, h2, h3, h4, h5⟩ := h.heap
 obtain ⟨g, cp, gi, ci, Lp, Li, m1, m2, m3, m4⟩ := h.map
 obtain ⟨hrl, hml⟩ := h.lt
 refine (v6Commit_any h1 m1 ⟨fun e => m3.1 (.inr (.inl e.symm)), fun e => m4.1 (.inr (.inl e.symm))⟩).mono ?_
 rintro e w' ⟨rfl, kw, x, hx, hr, hq⟩
 have hG : ∀ i, i < w.heap.size -> ¬ zOf F r m i -> ¬ (i = r) := fun i _ hn e => hn (.inr (.inl e))
 have hz : ∀ i, i < w.heap.size -> ¬ zOf F r m i -> ¬ zOf F r m i := fun _ _ hn => hn
 have hxz : rdZ w' (zOf F r m) x := ⟨fun hh => by rcases hh with hh | hh | hh; (have := hFl _ hh; omega); omega; omega, lt_of_heap hr.heap⟩
 exact ⟨rfl, kw, ⟨lb, lc, x, lb, lc, fl, fl, hq, h2.keep kw hG hz, h2.keep kw hG hz, ⟨g, cp, gi, ci, Lp, Li, hr, m2, m3.keep kw.size hz, m4.keep kw.size hz⟩, hxz⟩, h.map.keep kw (fun e => h.rm (by have e' : m = r := e; exact e'.symm)) hG hz, h.rF, h.mF, h.rm⟩
theorem v6Abort_r (h : Ref6 w F r m) (hFl : ∀ i, F i -> i < w.heap.size) : Calls Tryz.prog 142 #[.pointer (some ⟨r, 0, none⟩)] w fun e w' => e = .returned (.tuple #[]) /\ Keeps (fun i => i = r) w w' /\ ∃ m', w.heap.size <= m' /\ Ref6 w' F r m' := by
 obtain ⟨lb, lc, km, kb, kc, fl, kl, h1, h2, h3, h4, h5⟩ := h.heap
 obtain ⟨g, cp, gi, ci, Lp, Li, m1, m2, m3, m4⟩ := h4
 obtain ⟨hrl, hml⟩ := h.lt
 refine (v6Abort_any h1 m1 ⟨fun e => m3.1 (.inr (.inl e.symm)), fun e => m4.1 (.inr (.inl e.symm))⟩).mono ?_
 rintro e w' ⟨rfl, kw, x, hx, hr, hq⟩
 have hG : ∀ i, i < w.heap.size -> ¬ zOf F r m i -> ¬ (i = r) := fun i _ hn e => hn (.inr (.inl e))
 have hz : ∀ i, i < w.heap.size -> ¬ zOf F r m i -> ¬ zOf F r x i := fun i hi hn hh => by
  rcases hh with hh | hh | hh
  ·exact hn (.inl hh)
  ·exact hn (.inr (.inl hh))
  ·omega
 have hm' : RMap w' (zOf F r x) x := ⟨g, cp, gi, ci, Lp, Li, hr, m2, m3.keep kw.size hz, m4.keep kw.size hz⟩
 exact ⟨rfl, kw, x, hx, ⟨kb, kc, km, kb, kc, kl, kl, hq, h3.keep kw hG hz, h3.keep kw hG hz, ⟨g, cp, gi, ci, Lp, Li, m1.keep kw (hG km h5.2 h5.1) (hG g m3.2 m3.1) (hG gi m4.2 m4.1), m2, m3.keep kw.size hz, m4.keep kw.size hz⟩, h5.keep kw.size hz⟩, hm', h.rF, fun hh => by have := hFl _ hh; omega, by omega⟩
theorem v6full_r (h : Ref6 w F r m) (hFl : ∀ i, F i -> i < w.heap.size) : Calls Tryz.prog 76 #[.pointer (some ⟨r, 0, none⟩)] w fun e w' => e = .returned (.int .i64 7) /\ Keeps (fun i => i = r) w w' /\ ∃ m', w.heap.size <= m' /\ Ref6 w' F r m' := by
 have HA := hid (v6Abort_r h hFl)
 clear h
 go_enter Tryz.func76, Tryz.ntmps76
 go_wp2_with fail
 refine HA.out.mono ?_
 clear HA
 rintro e w1 ⟨rfl, hk, m', hm', hr⟩
 have HK := hid hk
 have HR := hid hr
 clear hk hr
 go_wp2_with fail
 go_ret
 exact ⟨rfl, HK.out, m', hm', HR.out⟩
def R6To (w : World) (F : Nat -> Prop) (r m : Nat) (w' : World) : Prop := Keeps (fun i => i = r \/ i = m) w w' /\ ∃ m', (m' = m \/ w.heap.size <= m') /\ Ref6 w' F r m'
theorem R6To.refl (h : Ref6 w F r m) : R6To w F r m w := ⟨Keeps.refl _ _, m, .inl rfl, h⟩
end
end
section
set_option maxRecDepth 100000
set_option maxHeartbeats 1000000
open Go.RowKit
def rf0 : RF := ⟨0, 0, 0, [], none, 0, [], none, 0, 0⟩
theorem rf0_ok (w : World) (Z : Nat -> Prop) : rf0.ok w Z := ⟨fun j hj => (by cases hj), fun b o e => (by cases e), fun j hj => (by cases hj), fun b o e => (by cases e), Nat.zero_le _, Nat.zero_le _⟩
theorem files16_flat : files16 = (flatF (List.replicate 16 rf0)).toArray := by kernel_rfl
theorem files16_side {w : World} {Z : Nat -> Prop} {b : Nat} (h : w.heap[b]? = some (.cells files16 157 (0, 0))) (hz : ¬ Z b) : RSide w Z b (List.replicate 16 rf0) := by
 refine ⟨by simp, fun i hi t v hv => ?_, ⟨hz, lt_of_heap h⟩, fun i hi => by rw [List.getElem_replicate]; exact rf0_ok _ _⟩
 have ht : t < 6 := (List.getElem?_eq_some_iff.1 hv).1
 rw [cell_of_block h, files16_flat, List.getElem?_toArray, flatF_at _ i hi t ht]
 exact hv
theorem v6New_any {w : World} {F : Nat -> Prop} {r g cp gi ci : Nat} {Lp Li : List Bool} (h : R5In w r g cp gi ci Lp Li) (hl : Li.length = 16) (hFl : ∀ i, F i -> i < w.heap.size) (hr : ¬ F r) (hg : ¬ F g) (hgi : ¬ F gi) : Calls Tryz.prog 27 #[.pointer (some ⟨r, 0, none⟩)] w fun e w' => ∃ s, e = .returned (.pointer (some ⟨s, 0, none⟩)) /\ w.heap.size <= s /\ Below w.heap.size w w' /\ Ref6 w' F s r := by
 have HIn := hid (v5Inodes_any h)
 rw [hl] at HIn
 have HR := hid h
 have HL := hid hl
 have HFl := hid hFl
 have hrl : r < w.heap.size := lt_of_heap h.heap
 have hgl := h.gp
 have hgil := h.gl
 have HN := hid (And.intro h.np h.ni)
 clear h hl hFl
 go_enter Tryz.func27, Tryz.ntmps27
 go_wp2_with fail
 refine HIn.out.mono ?_
 rintro e w1 ⟨rfl, h1⟩
 obtain rfl := h1.symm
 clear h1
 have hmk := run_mk16 w
 go_wp2_with fail
 obtain ⟨w2, hw2⟩ : ∃ w2, w2 = (w.alloc (.cells files16 157)).alloc (.cells #[.pointer (some ⟨r, 0, none⟩), .slice (some ⟨w.heap.size, 0, none⟩) 16 16, .pointer none, .slice none 0 0] 148) := ⟨_, rfl⟩
 have hb2 : Below w.heap.size w w2 := by rw [hw2]; exact ((Below.refl _ w).alloc (Nat.le_refl _) _).alloc (by simp) _
 have hf2 : w2.heap[w.heap.size]? = some (.cells files16 157 (0, 0)) := by rw [hw2]; exact block_alloc (block_new w _) _
 have hq2 : w2.heap[w.heap.size + 1]? = some (.cells #[.pointer (some ⟨r, 0, none⟩), .slice (some ⟨w.heap.size, 0, none⟩) 16 16, .pointer none, .slice none 0 0] 148 (0, 0)) := by
  have h1 := block_new (w.alloc (.cells files16 157)) (.cells #[.pointer (some ⟨r, 0, none⟩), .slice (some ⟨w.heap.size, 0, none⟩) 16 16, .pointer none, .slice none 0 0] 148)
  rw [World.size_alloc] at h1
  rw [hw2]; exact h1
 have hs2 : w2.heap.size = w.heap.size + 2 := by rw [hw2, World.size_alloc, World.size_alloc]
 rw [<- hw2]
 have HR2 := hid (HR.out.below hb2)
 have HCm := hid (v6Commit_any hq2 (HR.out.below hb2) ⟨by omega, by omega⟩)
 have HB2 := hid hb2
 have HF2 := hid hf2
 have HS2 := hid hs2
 clear hmk hw2 hb2 hq2 hf2 hs2
 refine HCm.out.mono ?_
 clear HCm
 rintro e w3 ⟨rfl, hk3, x, hx, hrx, hq3⟩
 have HK3 := hid hk3
 have HX := hid hx
 have HRX := hid hrx
 have HQ3 := hid hq3
 clear hk3 hx hrx hq3
 go_wp2
 go_ret
 have hs2 := HS2.out
 have hxl := HX.out
 have hF' : ∀ i, w.heap.size <= i -> ¬ F i := fun i hi hh => by have := HFl.out i hh; omega
 have hnz : ∀ i, i < w.heap.size -> ¬ F i -> i ≠ r -> ¬ zOf F (w.heap.size + 1) r i := fun i hi hn hne hh => by
  rcases hh with hh | hh | hh
  ·exact hn hh
  ·omega
  ·exact hne hh
 have hnz2 : ∀ i, w.heap.size <= i -> i ≠ w.heap.size + 1 -> ¬ zOf F (w.heap.size + 1) r i := fun i hi hne hh => by
  rcases hh with hh | hh | hh
  ·exact hF' i hi hh
  ·exact hne hh
  ·omega
 have hr3 := HR2.out.keep HK3.out (fun e => by have e' : r = w.heap.size + 1 := e; omega) (fun e => by have e' : g = w.heap.size + 1 := e; omega) (fun e => by have e' : gi = w.heap.size + 1 := e; omega)
 have hf3 := HK3.out.heap HF2.out (fun e => by have e' : w.heap.size = w.heap.size + 1 := e; omega)
 have hsd := files16_side hf3 (hnz2 w.heap.size (Nat.le_refl _) (by omega))
 have hzg : rdZ w3 (zOf F (w.heap.size + 1) r) g := ⟨hnz g hgl hg HN.out.1, hr3.gp⟩
 have hzgi : rdZ w3 (zOf F (w.heap.size + 1) r) gi := ⟨hnz gi hgil hgi HN.out.2, hr3.gl⟩
 refine ⟨w.heap.size + 1, rfl, Nat.le_succ _, HB2.out.trans (HK3.out.below HB2.out.size (fun i e => by have e' : i = w.heap.size + 1 := e; omega)), ⟨w.heap.size, 16, x, w.heap.size, 16, _, _, HQ3.out, hsd, hsd, ⟨g, cp, gi, ci, Lp, Li, HRX.out, HL.out, hzg, hzgi⟩, ⟨hnz2 x (by omega) (by omega), lt_of_heap HRX.out.heap⟩⟩, ⟨g, cp, gi, ci, Lp, Li, hr3, HL.out, hzg, hzgi⟩, hF' _ (by omega), hr, by omega⟩
end
section
set_option maxRecDepth 100000
set_option maxHeartbeats 1000000
open Go.RowKit
section
variable {w w' : World} {F : Nat -> Prop} {r m : Nat}
theorem Ref6.step (h : Ref6 w F r m) (kw : Keeps (fun i => i = m) w w') (hm : RMap w' (zOf F r m) m) : Ref6 w' F r m := by
 obtain ⟨lb, lc, km, kb, kc, fl, kl, h1, h2, h3, h4, h5⟩ := h.heap
 have hG : ∀ i, i < w.heap.size -> ¬ zOf F r m i -> ¬ (i = m) := fun i _ hn e => hn (.inr (.inr e))
 have hz : ∀ i, i < w.heap.size -> ¬ zOf F r m i -> ¬ zOf F r m i := fun _ _ hn => hn
 exact ⟨⟨lb, lc, km, kb, kc, fl, kl, kw.heap h1 h.rm, h2.keep kw hG hz, h3.keep kw hG hz, h4.keep kw (hG km h5.2 h5.1) hG hz, h5.keep kw.size hz⟩, hm, h.rF, h.mF, h.rm⟩
theorem rdZ_new (h : Ref6 w F r m) (hFl : ∀ i, F i -> i < w.heap.size) {g : Nat} (hg : w.heap.size <= g) (hl : g < w'.heap.size) : rdZ w' (zOf F r m) g := by
 obtain ⟨hrl, hml⟩ := h.lt
 exact ⟨fun hh => by rcases hh with hh | hh | hh; (have := hFl _ hh; omega); omega; omega, hl⟩
theorem v5Inode_r (h : Ref6 w F r m) (hFl : ∀ i, F i -> i < w.heap.size) : Calls Tryz.prog 75 #[.pointer (some ⟨m, 0, none⟩)] w fun e w' => Keeps (fun i => i = m) w w' /\ Ref6 w' F r m /\ ((e = .returned (.tuple #[.int .i64 0, .int .i64 7])) \/ ∃ n : Nat, n < 16 /\ e = .returned (.tuple #[.int .i64 n, .int .i64 0])) := by
 obtain ⟨g, cp, gi, ci, Lp, Li, m1, m2, m3, m4⟩ := h.map
 have hz : ∀ i, i < w.heap.size -> ¬ zOf F r m i -> ¬ zOf F r m i := fun _ _ hn => hn
 refine (v5Inode_any m1).mono ?_
 rintro e w' ⟨kw, ⟨-, rfl, hx⟩ | ⟨n, hn, g', cp', -, -, rfl, hg, hx⟩⟩
 ·exact ⟨kw, h.step kw ⟨g, cp, gi, ci, Lp, Li, hx, m2, m3.keep kw.size hz, m4.keep kw.size hz⟩, .inl rfl⟩
 ·exact ⟨kw, h.step kw ⟨g, cp, g', cp', Lp, _, hx, by rw [List.length_set]; exact m2, m3.keep kw.size hz, rdZ_new h hFl hg hx.gl⟩, .inr ⟨n, by omega, rfl⟩⟩
end
def rfNew (k mode : Int) : RF := ⟨k, mode, 1, [], none, 0, [], none, 0, 0⟩
theorem rfNew_ok (w : World) (Z : Nat -> Prop) (k mode : Int) : (rfNew k mode).ok w Z := ⟨fun j hj => (by cases hj), fun b o e => (by cases e), fun j hj => (by cases hj), fun b o e => (by cases e), Nat.zero_le _, Nat.zero_le _⟩
section
variable {w w' : World} {F : Nat -> Prop} {r m : Nat}
theorem v6Make_r (h : Ref6 w F r m) (hFl : ∀ i, F i -> i < w.heap.size) (k mode : Int) : Calls Tryz.prog 29 #[.pointer (some ⟨r, 0, none⟩), .int .i64 k, .int .i64 mode] w fun e w' => R6To w F r m w' /\ ∃ a c : Int, e = .returned (.tuple #[.int .i64 a, .int .i64 c]) := by
 obtain ⟨lb, lc, km, kb, kc, fl, kl, h1, -⟩ := h.heap
 have c0 : w.cell? ⟨r, 0, none⟩ = some (.pointer (some ⟨m, 0, none⟩)) := cell_of_block h1 0
 have HIn := hid (v5Inode_r h hFl)
 have HFl := hid hFl
 have HR := hid h
 clear h1
 by_cases hbad : (k ≠ 1 /\ k ≠ 2 /\ k ≠ 3) \/ mode < 0 \/ 4095 < mode
 ·have HK := hid (R6To.refl h)
  clear h hFl HIn
  rcases hbad with ⟨k1, k2, k3⟩ | hm | hm
  ·go_enter Tryz.func29, Tryz.ntmps29
   go_wp2_with fail
   go_returns
   exact ⟨HK.out, 0, 2, rfl⟩
  ·by_cases k1 : k = 1
   ·go_enter Tryz.func29, Tryz.ntmps29
    go_wp2_with fail
    go_returns
    exact ⟨HK.out, 0, 2, rfl⟩
   ·by_cases k2 : k = 2
    ·go_enter Tryz.func29, Tryz.ntmps29
     go_wp2_with fail
     go_returns
     exact ⟨HK.out, 0, 2, rfl⟩
    ·by_cases k3 : k = 3
     ·go_enter Tryz.func29, Tryz.ntmps29
      go_wp2_with fail
      go_returns
      exact ⟨HK.out, 0, 2, rfl⟩
     ·go_enter Tryz.func29, Tryz.ntmps29
      go_wp2_with fail
      go_returns
      exact ⟨HK.out, 0, 2, rfl⟩
  ·have hm0 : ¬ mode < 0 := by omega
   by_cases k1 : k = 1
   ·go_enter Tryz.func29, Tryz.ntmps29
    go_wp2_with fail
    go_returns
    exact ⟨HK.out, 0, 2, rfl⟩
   ·by_cases k2 : k = 2
    ·go_enter Tryz.func29, Tryz.ntmps29
     go_wp2_with fail
     go_returns
     exact ⟨HK.out, 0, 2, rfl⟩
    ·by_cases k3 : k = 3
     ·go_enter Tryz.func29, Tryz.ntmps29
      go_wp2_with fail
      go_returns
      exact ⟨HK.out, 0, 2, rfl⟩
     ·go_enter Tryz.func29, Tryz.ntmps29
      go_wp2_with fail
      go_returns
      exact ⟨HK.out, 0, 2, rfl⟩
 ·have hm0 : ¬ mode < 0 := fun e => hbad (.inr (.inl e))
  have hm1 : ¬ 4095 < mode := fun e => hbad (.inr (.inr e))
  obtain ⟨hrl, hml⟩ := h.lt
  have HLt := hid (And.intro hrl hml)
  clear h hFl
  have hk3 : k = 1 \/ k = 2 \/ k = 3 := by
   by_cases k1 : k = 1
   ·exact .inl k1
   ·by_cases k2 : k = 2
    ·exact .inr (.inl k2)
    ·by_cases k3 : k = 3
     ·exact .inr (.inr k3)
     ·exact absurd (.inl ⟨k1, k2, k3⟩) hbad
  clear hbad hrl hml
  rcases hk3 with rfl | rfl | rfl
  all_goals (
   go_enter Tryz.func29, Tryz.ntmps29
   go_wp2_with fail
   refine HIn.out.mono ?_
   clear HIn
   rintro e w1 ⟨hk1, hr1, rfl | ⟨n, hn, rfl⟩⟩
   ·have HFu := hid (v6full_r hr1 (fun i hi => Nat.lt_of_lt_of_le (HFl.out i hi) hk1.size))
    have HK1 := hid hk1
    clear hk1 hr1 c0
    go_wp2_with fail
    refine HFu.out.mono ?_
    clear HFu
    rintro e w2 ⟨rfl, hk2, m', hm', hr2⟩
    have HK2 := hid hk2
    have HR2 := hid hr2
    clear hk2 hr2
    go_wp2_with fail
    go_returns
    have hs := HK1.out.size
    exact ⟨⟨(HK1.out.mono (fun i e => .inr e)).trans HK2.out (fun i e => .inl (.inl e)), m', .inr (by omega), HR2.out⟩, 0, 7, rfl⟩
   ·have HSe := hid (fun kk => v6set_any hr1 (fun i hi => Nat.lt_of_lt_of_le (HFl.out i hi) hk1.size) n hn (rfNew kk mode) (rfNew_ok _ _ _ _))
    have HK1 := hid hk1
    clear hk1 hr1 c0
    go_wp2_with fail
    refine (HSe.out _).mono ?_
    clear HSe
    rintro e w2 ⟨rfl, hk2, hr2, -⟩
    have HK2 := hid hk2
    have HR2 := hid hr2
    clear hk2 hr2
    go_wp2_with fail
    go_returns
    exact ⟨⟨(HK1.out.mono (fun i e => .inr e)).trans HK2.out (fun i e => .inl (.inl e)), m, .inl rfl, HR2.out⟩, n, 0, rfl⟩)
end
end
section
open Go.RowKit
end
section
set_option maxRecDepth 100000
open Go.RowKit
section
variable {w w' : World} {s m c ino : Nat} {F : Nat -> Prop} {N : Nat} {Pg Cm : Nat -> List UInt8} {fs : Nat -> Option FileA} {o u : Nat} {i : Nat} {f : FileA}
theorem iWrite_by (h : St w s m c F N ino Pg Cm fs o u) (hf : fs i = some f) (hu : u < 900000) (a n blk of cp : Nat) (h0 : 0 < n) (haz : a + n <= 70656) (R Q : Int -> World -> Prop)
  (hw : ∀ W p D, Keeps F w W -> Pc W c F 100 N Pg Cm D o (u + 3) -> mapB W m c ino -> fileB W p m (f.S i f.data.length) -> w.heap.size <= p ->
   Calls Tryz.prog 87 #[.pointer (some ⟨p, 0, none⟩), .int .i64 a, .slice (some ⟨blk, of, none⟩) n cp] W fun e w' => ∃ r : Int, e = .returned (.int .i64 r) /\ Keeps (fun i => F i \/ i = p) W w' /\ R r w')
  (hen : ∀ W r, storeB W s m -> mapB W m c ino -> R r W -> Calls Tryz.prog 74 #[.pointer (some ⟨s, 0, none⟩), .int .i64 r] W fun e w' => e = .returned (.int .i64 r) /\ Keeps F W w' /\ Q r w') :
  Calls Tryz.prog 36 #[.pointer (some ⟨s, 0, none⟩), .int .i64 i, .int .i64 a, .slice (some ⟨blk, of, none⟩) n cp] w fun e w' => ∃ r : Int, e = .returned (.int .i64 r) /\ Keeps F w w' /\ Q r w' := by
 have HGt := hid (iGet_st h hf (by omega))
 have HOp := hid (fun W D (hm : mapB W m c ino) (hp : Pc W c F 100 N Pg Cm D o (u + 2)) => iopen_good hm hp h.good hf (by omega))
 have HWr := hid hw
 have HEn0 := hid hen
 have hok := h.good.file i f hf
 have hnf := h.good.nf
 have HNl : Hid ((nodeC f.node).length = 15) := by unfold Hid nodeC; rw [List.length_append, List.length_map, (hok.node (by omega) h.good.n4).pages]; rfl
 have ha0 : ¬ ((a : Int) < 0) := by omega
 have hn0 : ¬ (n = 0) := by omega
 have hn0' : ¬ ((n : Int) = 0) := by omega
 have han : ¬ ((70656 : Int) - (n : Int) < (a : Int)) := by omega
 have hn7 : (n : Int) <= 70656 := by omega
 have HFl := hid h.lt
 have HSl : Hid (s < w.heap.size) := lt_of_heap h.store
 have HMl : Hid (m < w.heap.size) := lt_of_heap h.map
 unfold nodeV at HGt HOp
 unfold gV at HOp
 clear hw h hf hok hnf haz h0 hen
 have hnc1 := nodeC_one f.node
 generalize nodeC f.node = nc at *
 have HN1 := hid hnc1
 clear hnc1
 go_enter Tryz.func36, Tryz.ntmps36
 go_wp2_with fail
 refine HGt.out.mono ?_
 clear HGt
 rintro e w1 ⟨rfl, hk1, hs1⟩
 have c1 := hs1.store.cell
 have HS1 := hid hs1
 have HK1 := hid hk1
 clear hk1 hs1
 go_wp2_with (refine wpList_store_block rfl 153 (.tmp 9) (.tmp 15) rfl w1.heap.size nc.toArray rfl rfl _ _ (block_new w1 _) (by rw [List.size_toArray, HNl.out]; rfl) (by rw [List.size_toArray, HNl.out]; kernel_rfl) HN1.out ?_; intro w2 hg2 hb2 hz2)
 have hb12 : Below w1.heap.size w1 w2 := ((Below.refl _ w1).alloc (Nat.le_refl _) _).grown hg2 (by simp) (fun k e => by cases e; exact Nat.le_refl _)
 have hs2 := HS1.out.below hb12
 have HB12 := hid hb12
 have HS2 := hid hs2
 have HR2 := hid hb2
 have hbd : Below w2.heap.size w2 w2.drew := (Below.refl _ w2).drew
 have hs3 := hs2.below hbd
 have hr3 := below_block hbd hb2 (lt_of_heap hb2)
 have d0 := hs3.store.cell
 have HBd := hid hbd
 have HS3 := hid hs3
 have HR3 := hid hr3
 obtain ⟨D, hp3⟩ := hs3.pc
 have HO3 := hid (HOp.out w2.drew D hs3.map hp3)
 clear hg2 hz2 hbd hs2 hb12 hs3 hp3 HOp c1
 refine wp_region_noPanic ?_
 refine wp_region_held_drew (S := fun W => W.cell? ⟨s, 0, none⟩ = some (.pointer (some ⟨m, 0, none⟩)) /\ W.heap[w1.heap.size]? = some (.cells nc.toArray 153 (0, 0))) (by kernel_rfl) ⟨d0, hr3⟩ (fun hHeld => ?_)
 clear hb2 hr3
 generalize w2.drew = wd at *
 refine tq 0 _ ?_
 try simp only [tS]
 refine tq 1 _ ?_
 try simp only [tS]
 refine tq 2 _ ?_
 try simp only [tS]
 refine tq 3 _ ?_
 try simp only [tS]
 refine tq 4 _ ?_
 try simp only [tS]
 refine tq 5 _ ?_
 try simp only [tS]
 refine wpAnyH_take (i := 6) (v := .agg nc.toArray) rfl (by kernel_rfl) (by kernel_rfl) (by kernel_rfl) (fun _ _ _ h => h) (yieldsIf_load_mid (by rfl) 153 (.tmp 9) rfl w1.heap.size 0 rfl nc _ (fun W hW => by have := range_of_block hW.2; exact this) Tryz.underlying153 rfl (by rw [HNl.out]; kernel_rfl)) (by assumption) ?_
 try simp only [tS]
 refine tq 8 _ ?_
 try simp only [tS]
 refine tq 9 _ ?_
 try simp only [tS]
 refine tr 7 (fun K hK => ?_)
 go_simp
 refine HO3.out.mono ?_
 clear HO3
 rintro e w4 ⟨p, rfl, hp4, hf4, hk4, hq4⟩
 have hwl := HB12.out.size
 have hwk := HK1.out.size
 have hwd := HBd.out.size
 have kw4 : Keeps F w w4 := ((HK1.out.trans (Keeps.of_below HB12.out : Keeps F w1 w2) (fun i e => .inl e)).trans (Keeps.of_below HBd.out : Keeps F w2 wd) (fun i e => .inl e)).trans hk4 (fun i e => .inl e)
 have hnF : ∀ j, w.heap.size <= j -> ¬ F j := fun j hj hh => by have := HFl.out j hh; omega
 have HW4 := hid (HWr.out w4 p D kw4 hq4 (HS3.out.map.keep hk4 HS3.out.mF) hf4 (by omega))
 have hst4 := HS3.out.store.keep hk4 HS3.out.sF
 have e0 := hst4.cell
 have r4 := hk4.heap HR3.out (hnF _ (by omega))
 have HST4 := hid hst4
 have HMp4 := hid (HS3.out.map.keep hk4 HS3.out.mF)
 have HR4 := hid r4
 have HK4 := hid kw4
 have HNF := hid hnF
 have HP4 := hid hp4
 clear hf4 hk4 hq4 kw4 hst4 hnF HWr HR3 d0
 go_wp2_with fail
 refine hK.out _ _ ⟨e0, r4⟩ (fun hHeld => ?_)
 clear hK K r4
 try simp only [tS]
 refine tr 10 (fun K hK => ?_)
 go_simp
 refine HW4.out.mono ?_
 clear HW4
 rintro e w5 ⟨r, rfl, hk5, hR5⟩
 have hp4 := HP4.out
 have hsl := HSl.out
 have hbl := lt_of_heap HR2.out
 have hst5 := HST4.out.keep hk5 (fun hh => hh.elim HS3.out.sF (fun e => by omega))
 have r5 := hk5.heap HR4.out (fun hh => hh.elim (HNF.out _ (by omega)) (fun e => by omega))
 have g0 := hst5.cell
 have hm5 := HMp4.out.keep hk5 (fun hh => hh.elim HS3.out.mF (fun e => by have := HMl.out; omega))
 have HEn := hid (HEn0.out w5 r hst5 hm5 hR5)
 have HK5 : Hid (Keeps F w w5) := HK4.out.trans hk5 (fun i e => e.elim .inl (fun e => .inr (by omega)))
 have HST5 := hid hst5
 have HR5 := hid r5
 clear hk5 hR5 hst5 hp4 hsl hbl e0 hm5
 go_wp2_with fail
 refine hK.out _ _ ⟨g0, r5⟩ (fun hHeld => ?_)
 clear hK K
 try simp only [tS]
 refine tr 11 (fun K hK => ?_)
 go_simp
 refine HEn.out.mono ?_
 clear HEn
 rintro e w6 ⟨rfl, hk6, hQ6⟩
 have g6 := (HST5.out.keep hk6 HS3.out.sF).cell
 have r6 := hk6.heap HR5.out (HNF.out _ (by have := HB12.out.size; have := HK1.out.size; omega))
 have HK6 := hid (HK5.out.trans hk6 (fun i e => .inl e))
 have HQ6 := hid hQ6
 clear hk6 hQ6 g0 r5
 go_wp2_with fail
 refine hK.out _ _ ⟨g6, r6⟩ (fun hHeld => ?_)
 clear hK K
 try simp only [tS]
 refine tq 12 _ ?_
 try simp only [tS]
 refine wpAnyH_done (by kernel_rfl) ?_ _
 refine NoPanic.normal ?_
 clear hHeld
 go_wp2_with fail
 go_ret
 exact ⟨r, rfl, HK6.out, HQ6.out⟩
theorem iWrite_grow (h : St w s m c F N ino Pg Cm fs o u) (hf : fs i = some f) (hu : u < 800000) (a z : Nat) (l : List UInt8) (blk of cp : Nat) (hl : bytesAt w ⟨blk, of, none⟩ l) (hcp : l.length <= cp) (hbF : ¬ F blk) (hbl : blk < w.heap.size) (haz : a + l.length = z) (h0 : 0 < l.length) (hz7 : z <= 70656)
  (hfr : needN (max z f.data.length) - f.cnt <= (freeTo (Pg 2) (3 + ino / 8) N 4096).length) :
  Calls Tryz.prog 36 #[.pointer (some ⟨s, 0, none⟩), .int .i64 i, .int .i64 a, .slice (some ⟨blk, of, none⟩) l.length cp] w fun e w' => e = .returned (.int .i64 0) /\ Keeps F w w' /\
   ∃ Pg' f', f'.kind = f.kind /\ f'.mode = f.mode /\ f'.links = f.links /\ f'.data = wrD f.data a l /\ St w' s m c F N ino Pg' Cm (updA fs i (some f')) o (u + 303) := by
 refine (iWrite_by h hf (by omega) a l.length blk of cp h0 (by omega)
  (fun r W => r = 0 /\ ∃ Pg' f', f'.kind = f.kind /\ f'.mode = f.mode /\ f'.links = f.links /\ f'.data = wrD f.data a l /\ GoodX noSk N ino Pg' (updA fs i (some f')) /\ ∃ D', Pc W c F 100 N Pg' Cm D' o (u + 303))
  (fun r W => r = 0 /\ ∃ Pg' f', f'.kind = f.kind /\ f'.mode = f.mode /\ f'.links = f.links /\ f'.data = wrD f.data a l /\ GoodX noSk N ino Pg' (updA fs i (some f')) /\ ∃ D', Pc W c F 100 N Pg' Cm D' o (u + 303))
  (fun W p D hk hp hm hfi hpl => ?_) (fun W r hs hm hR => ?_)).mono ?_
 ·refine (ifwrite_good (k := 0) (kk := 1 + 2 * (needN (max z f.data.length) - f.cnt) + (fillN z - a / 512) + 2) hm h.mF ⟨D, rm100 h.few _ _, hp⟩ h.good hf hfi (fun hh => by have := h.lt _ hh; omega) (by omega) a z _ l blk of cp (fun j hj => hk.cell (hl j hj) (by rw [Addr.add_mid]; exact hbF)) hcp hbF (by omega) (by have := hk.size; omega) haz h0 hz7 rfl (Nat.le_refl _)).mono ?_
  rintro e w' ⟨hk', ⟨hy, rfl, Pg', f', h1, h2, h3, h4, h5, D', -, h6⟩ | ⟨hx, -⟩⟩
  ·exact ⟨0, rfl, hk', rfl, Pg', f', h1, h2, h3, h4, h5, D', h6⟩
  ·exact absurd hfr (Nat.not_le.2 hx)
 ·obtain ⟨rfl, hR⟩ := hR
  refine (iend_ok s W).mono ?_
  rintro e w' ⟨rfl, rfl⟩
  exact ⟨rfl, Keeps.refl _ _, rfl, hR⟩
 ·rintro e w' ⟨r, rfl, hk, rfl, Pg', f', h1, h2, h3, h4, h5, h6⟩
  exact ⟨rfl, hk, Pg', f', h1, h2, h3, h4, h.map.keep hk h.mF, h.store.keep hk h.sF, h.mF, h.sF, h.few, h6, h5⟩
end
end
section
open Go.RowKit
end
section
open Go.RowKit Go.Shelf
attribute [local go_sem] Oper.semAt_some
end
section
open Go.RowKit
end
section
open Go.RowKit
theorem good_none {N : Nat} {Pg : Nat -> List UInt8} (hN : 8 <= N) (hN1 : N <= 100) (hl : ∀ p, p < N -> (Pg p).length = 512) (h1 : Pg 1 = bitsTo 1) (h2 : Pg 2 = bitsTo 5) : GoodX noSk N 16 Pg (fun _ => none) := by
 refine ⟨by omega, by omega, by decide, by omega, hl, fun i hi => ?_, fun i f h => (by cases h), fun i f h => (by cases h), fun i f h => (by cases h), fun i f h => (by cases h), fun i f h => (by cases h), fun p hp1 hp2 => ?_, fun i f j i' f' j' h => (by cases h)⟩
 ·rw [h1, bitL_bitsTo 1 i (by omega)]
  simp
 ·rw [h2, bitL_bitsTo 5 p (by omega), decide_eq_false (by omega)]
  exact ⟨fun h => (by cases h), fun ⟨_, _, _, h, _⟩ => (by cases h)⟩
end
section
open Go.RowKit
theorem clr_at : ∀ (n : Nat) (l : List UInt8) (o k : Nat), k < o \/ o + n <= k -> (clr l o n)[k]? = l[k]?
 | 0, _, _, _, _ => rfl
 | n + 1, l, o, k, h => by
  show (clr (l.set o 0) (o + 1) n)[k]? = l[k]?
  rw [clr_at n _ _ k (by omega), List.getElem?_set_ne (by omega)]
theorem inoL_clr {L : List UInt8} {q k : Nat} (h : k % 8 ≠ q % 8) : inoL (clr L (q % 8 * 64) 64) k = inoL L k := by
 unfold inoL
 refine List.ext_getElem? (fun j => ?_)
 by_cases hj : j < 64
 ·rw [List.getElem?_take_of_lt hj, List.getElem?_take_of_lt hj, List.getElem?_drop, List.getElem?_drop]
  exact clr_at 64 L _ _ (by omega)
 ·rw [List.getElem?_eq_none (by rw [List.length_take]; omega), List.getElem?_eq_none (by rw [List.length_take]; omega)]
def newA (k mode : Nat) : FileA := ⟨k, mode, 1, List.replicate 139 0, 0, []⟩
theorem newA_slot (k mode j : Nat) : (newA k mode).slot j = 0 := by
 unfold newA FileA.slot
 rw [List.getD_eq_getElem?_getD]
 by_cases h : j < 139
 ·rw [List.getElem?_eq_getElem (by rw [List.length_replicate]; exact h), List.getElem_replicate]; rfl
 ·rw [List.getElem?_eq_none (by rw [List.length_replicate]; omega)]; rfl
theorem needN_zero : needN 0 = 0 := rfl
theorem newA_ok {k mode a N : Nat} (hk : k <= 3) (hm : mode <= 4095) : (newA k mode).ok a N :=
 ⟨hk, hm, by show 1 <= 65535; omega, by show 0 <= 70656; omega, rfl, by show 0 <= 139; omega, by show needN 0 <= 0; rw [needN_zero]; exact Nat.le_refl _, fun j hj => absurd hj (Nat.not_lt_zero j), fun j _ => newA_slot k mode j⟩
section
variable {N ino : Nat} {Pg : Nat -> List UInt8} {fs : Nat -> Option FileA}
theorem inoP_one (q : Nat) : inoP Pg q 1 = flipL (Pg 1) q := by
 unfold inoP
 split
 ·unfold updP; exact if_pos rfl
 ·unfold updP; rw [if_neg (by omega)]; exact if_pos rfl
theorem inoP_other {q p : Nat} (h1 : p ≠ 1) (h2 : p ≠ 3 + q / 8) : inoP Pg q p = Pg p := by
 unfold inoP
 split
 ·unfold updP; exact if_neg h1
 ·unfold updP; rw [if_neg h2]; exact if_neg h1
theorem inoP_tab (q : Nat) : inoP Pg q (3 + q / 8) = clr (Pg (3 + q / 8)) (q % 8 * 64) 64 := by
 unfold inoP
 split
 ·rename_i e
  unfold updP
  rw [if_neg (by omega)]
  exact e.symm
 ·unfold updP
  rw [if_pos rfl]; rfl
theorem inoP_ino {q k : Nat} (h : k ≠ q) : inoL (inoP Pg q (3 + k / 8)) k = inoL (Pg (3 + k / 8)) k := by
 by_cases e : k / 8 = q / 8
 ·rw [e, inoP_tab, inoL_clr (by omega)]
 ·rw [inoP_other (by omega) (by omega)]
theorem makP_two {q k mode : Nat} : makP Pg q k mode 2 = Pg 2 := by
 have hmk : makP Pg q k mode = tabP (inoP Pg q) q (newN k mode) := rfl
 rw [hmk, tabP_other (by omega), inoP_other (by omega) (by omega)]
theorem GoodX.make (h : GoodX noSk N ino Pg fs) {q : Nat} {rest : List Nat} (hq : freeTo (Pg 1) 1 ino 4096 = q :: rest) {k mode : Nat} (hk : k <= 3) (hm : mode <= 4095) : GoodX noSk N ino (makP Pg q k mode) (updA fs q (some (newA k mode))) := by
 obtain ⟨q1, q2, q3⟩ := freeTo_first hq
 have hnf := h.nf
 have hn4 := h.n4
 have hi5 := h.i5
 have hl1 := h.len 1 (by omega)
 have hnone : ∀ g, fs q ≠ some g := fun g hg => by
  have := (h.ibit q q2).2 (.inr (by rw [hg]; rfl))
  rw [q3] at this; cases this
 have htq := h.tabLt q2
 have hmk : makP Pg q k mode = tabP (inoP Pg q) q (newN k mode) := rfl
 have hno : (newN k mode).ok := newN_ok k mode hk hm
 have hL : (inoP Pg q (3 + q / 8)).length = 512 := by rw [inoP_tab, length_clr]; exact h.len _ (by omega)
 have hup : ∀ p, 3 + ino / 8 <= p -> makP Pg q k mode p = Pg p := fun p hp => by rw [hmk, tabP_other (by omega), inoP_other (by omega) (by omega)]
 have h2 : makP Pg q k mode 2 = Pg 2 := makP_two
 have h1 : makP Pg q k mode 1 = flipL (Pg 1) q := by rw [hmk, tabP_other (by omega), inoP_one]
 have hino : ∀ j, inoL (makP Pg q k mode (3 + j / 8)) j = if j = q then encL (newN k mode) else inoL (Pg (3 + j / 8)) j := fun j => by
  rw [hmk, tabP_ino hno hL]
  by_cases e : j = q
  ·rw [if_pos e, if_pos e]
  ·rw [if_neg e, if_neg e, inoP_ino e]
 refine ⟨h.n4, h.nf, h.h8, h.i5, fun p hp => ?_, fun j hj => ?_, fun j g hg => ?_, fun j g hg => ?_, fun j g hg => ?_, fun j g hg hns => ?_, fun j g hg x hx => ?_, fun p hp1 hp2 => ?_, fun j g x j' g' x' hg hg' hx hx' e => ?_⟩
 ·rw [hmk]
  by_cases e : p = 3 + q / 8
  ·rw [e, tabP_self]; exact length_putT hL q (length_encTo _ 11 (Nat.le_refl _) hno.pages)
  ·rw [tabP_other e]
   by_cases e1 : p = 1
   ·rw [e1, inoP_one, length_flipL]; exact hl1
   ·rw [inoP_other e1 e]; exact h.len p hp
 ·rw [h1, bitL_flipL _ _ _ (by omega)]
  by_cases e : j = q
  ·rw [if_pos e, q3, e, updA_self]; simp
  ·rw [if_neg e, updA_ne e]; exact h.ibit j hj
 ·rcases updA_cases hg with ⟨rfl, -⟩ | ⟨-, hg⟩
  ·exact ⟨q1, q2⟩
  ·exact h.out j g hg
 ·rcases updA_cases hg with ⟨rfl, e⟩ | ⟨-, hg⟩
  ·cases e; exact newA_ok hk hm
  ·exact h.file j g hg
 ·unfold tabOk
  rw [hino j]
  rcases updA_cases hg with ⟨rfl, -⟩ | ⟨hne, hg⟩
  ·rw [if_pos rfl]; exact ⟨_, hno, rfl⟩
  ·rw [if_neg hne]; exact h.tab j g hg
 ·rw [hino j]
  rcases updA_cases hg with ⟨rfl, e⟩ | ⟨hne, hg⟩
  ·cases e
   rw [if_pos rfl]
   exact ⟨rfl, needN_zero.symm, fun hb => absurd hb (by show ¬ 5120 < 0; omega)⟩
  ·obtain ⟨a1, a2, a3⟩ := h.node j g hg hns
   rw [if_neg hne]
   refine ⟨a1, a2, fun hb => ?_⟩
   have := need_far hb (h.file j g hg).size
   rw [hup _ ((h.file j g hg).in_ 10 (by omega)).1]
   exact a3 hb
 ·rcases updA_cases hg with ⟨rfl, e⟩ | ⟨-, hg⟩
  ·cases e; exact absurd hx (Nat.not_lt_zero x)
  ·rw [hup _ ((h.file j g hg).in_ _ (h.at_ hg hx).1).1]
   exact h.data j g hg x hx
 ·rw [h2, h.pbit p hp1 hp2]
  constructor
  ·rintro ⟨j, g, x, hg, hx, e⟩
   exact ⟨j, g, x, (updA_ne (fun e' => hnone g (by rw [<- e']; exact hg))).trans hg, hx, e⟩
  ·rintro ⟨j, g, x, hg, hx, e⟩
   rcases updA_cases hg with ⟨rfl, e'⟩ | ⟨-, hg⟩
   ·cases e'; exact absurd hx (Nat.not_lt_zero x)
   ·exact ⟨j, g, x, hg, hx, e⟩
 ·rcases updA_cases hg with ⟨rfl, e'⟩ | ⟨-, hg⟩
  ·cases e'; exact absurd hx (Nat.not_lt_zero x)
  ·rcases updA_cases hg' with ⟨rfl, e'⟩ | ⟨-, hg'⟩
   ·cases e'; exact absurd hx' (Nat.not_lt_zero x')
   ·exact h.apart j g x j' g' x' hg hg' hx hx' e
end
end
section
open Go.RowKit
end
section
open Go.RowKit
end
section
set_option maxRecDepth 100000
open Go.RowKit
def PcB (w : World) (B c : Nat) (F : Nat -> Prop) (size N : Nat) (Pg Cm : Nat -> List UInt8) (D : Int -> Bool) (o u : Nat) : Prop := ∃ L C, PcIn w c F size N Pg Cm D o u L C /\ c < B /\ L.um < B /\ B <= w.heap.size /\ ∀ W, Keeps (fun i => B <= i) w W -> CacheAt W c L C
section
variable {w w' : World} {B m c ino : Nat} {F : Nat -> Prop} {size N : Nat} {Pg Cm : Nat -> List UInt8} {D : Int -> Bool} {o u : Nat}
theorem PcB.start (h : Pc w c F size N Pg Cm D o u) : PcB w w.heap.size c F size N Pg Cm D o u := by
 obtain ⟨L, C, h⟩ := h
 obtain ⟨es, k, hu⟩ := h.at_.umap
 exact ⟨L, C, h, lt_of_heap h.at_.heap, lt_of_heap hu, Nat.le_refl _, fun W hW => h.at_.below (hW.below (Nat.le_refl _) (fun i e => e))⟩
theorem PcB.keep (h : PcB w B c F size N Pg Cm D o u) (k : Keeps (fun i => B <= i) w w') : PcB w' B c F size N Pg Cm D o u := by
 obtain ⟨L, C, h, h1, h2, h3, h4⟩ := h
 exact ⟨L, C, ⟨h4 w' k, h.sz, h.nn, h.made, h.ops, h.uses, h.pg, h.cm, h.dirty, h.room, h.foot, fun i hi => Nat.lt_of_lt_of_le (h.lt i hi) k.size, Nat.lt_of_lt_of_le h.p0 k.size, h.sep.mono k.size, h.quiet⟩, h1, h2, Nat.le_trans h3 k.size, fun W hW => h4 W (k.trans hW (fun i e => .inl e))⟩
theorem PcB.pc (h : PcB w B c F size N Pg Cm D o u) : Pc w c F size N Pg Cm D o u := by
 obtain ⟨L, C, h, -⟩ := h
 exact ⟨L, C, h⟩
theorem PcB.le (h : PcB w B c F size N Pg Cm D o u) : B <= w.heap.size := by
 obtain ⟨L, C, -, -, -, h, -⟩ := h
 exact h
theorem PcB.step {L L' : CLay} {C C' : CS} (hB : ∀ W, Keeps (fun i => B <= i) w W -> CacheAt W c L C) (hc : c < B) (hu : L.um < B) (hBs : B <= w.heap.size) (hk : Keeps (fun i => i = c \/ i = L.um) w w') (h' : CacheAt w' c L' C')
  (hL : L' = { L with Du := L'.Du }) (hC : C' = { C with uses := C'.uses, used := C'.used }) : ∀ W, Keeps (fun i => B <= i) w' W -> CacheAt W c L' C' := fun V hV => by
 have h0 := hB w (Keeps.refl _ _)
 obtain ⟨es, kk, hum⟩ := h0.umap
 have hcw := h0.heap
 obtain ⟨W, hW⟩ : ∃ W : World, W = { V with heap := (V.heap.setIfInBounds c (.cells #[.pointer (some ⟨L.p, 0, none⟩), .map (some L.dm), .int .i64 C.most, .int .i64 C.uses, .map (some L.um)] 120 (0, 0))).setIfInBounds L.um (.map es kk) } := ⟨_, rfl⟩
 have hs1 := hk.size
 have hs2 := hV.size
 have hWs : W.heap.size = V.heap.size := by rw [hW]; simp
 have hne : ∀ k, k ≠ c -> k ≠ L.um -> W.heap[k]? = V.heap[k]? := fun k h1 h2 => by
  rw [hW]
  show ((V.heap.setIfInBounds c _).setIfInBounds L.um _)[k]? = V.heap[k]?
  rw [Array.getElem?_setIfInBounds_ne (fun e => h2 e.symm), Array.getElem?_setIfInBounds_ne (fun e => h1 e.symm)]
 have hcu : c ≠ L.um := fun e => by rw [e, hum] at hcw; cases hcw
 have hWc : W.heap[c]? = w.heap[c]? := by
  rw [hcw, hW]
  show ((V.heap.setIfInBounds c _).setIfInBounds L.um _)[c]? = _
  rw [Array.getElem?_setIfInBounds_ne (fun e => hcu e.symm), Array.getElem?_setIfInBounds_self_of_lt (by omega)]
 have hWu : W.heap[L.um]? = w.heap[L.um]? := by
  rw [hum, hW]
  show ((V.heap.setIfInBounds c _).setIfInBounds L.um _)[L.um]? = _
  rw [Array.getElem?_setIfInBounds_self_of_lt (by rw [Array.size_setIfInBounds]; omega)]
 have kW : Keeps (fun i => B <= i) w W := by
  refine ⟨?_, ?_, ?_, by omega, fun k hk1 hk2 => ?_⟩
  ·rw [hW]; exact hV.os.trans hk.os
  ·rw [hW]; exact hV.tape.trans hk.tape
  ·rw [hW]; exact hV.output.trans hk.output
  ·by_cases e1 : k = c
   ·rw [e1]; exact hWc
   ·by_cases e2 : k = L.um
    ·rw [e2]; exact hWu
    ·rw [hne k e1 e2, hV.block k (by omega) hk2, hk.block k hk1 (fun hh => hh.elim e1 e2)]
 have kV : Keeps (fun i => i = c \/ i = L.um) W V := by
  refine ⟨by rw [hW], by rw [hW], by rw [hW], by omega, fun k _ hk2 => (hne k (fun e => hk2 (.inl e)) (fun e => hk2 (.inr e))).symm⟩
 have hA := hB W kW
 have hG : ∀ i, (i = c \/ i = L.um) -> i = c \/ i = L.dm \/ i = L.um := fun i hi => hi.elim .inl (fun e => .inr (.inr e))
 have eum : L'.um = L.um := by rw [hL]
 have hcV : V.heap[c]? = w'.heap[c]? := hV.block c (by omega) (fun e => by omega)
 rw [hL, hC] at h' ⊢
 exact {
  heap := hcV.trans h'.heap
  log := hA.logKeep hG kV
  lt := fun i hi => Nat.lt_of_lt_of_le (h'.lt i hi) hV.size
  dirty := hA.dirty.keep kV (fun e => e.elim (fun e => hA.cd e.symm) (fun e => hA.ne e))
  bytes := hA.bytesKeep hG kV
  clean := h'.clean
  used := h'.used.keep hV (fun e => by have e' : B <= L.um := e; omega)
  offc := h'.offc
  offd := h'.offd
  offu := h'.offu
  ne := h'.ne
  pages := h'.pages
  fits := h'.fits
  few := h'.few
  ub := h'.ub }
theorem PcB.read (h : PcB w B c F size N Pg Cm D o u) (n : Nat) (hn : n < N) (hu : u < 1000000) :
  Calls Tryz.prog 161 #[.pointer (some ⟨c, 0, none⟩), .int .i64 n] w fun e w' => ∃ g cap, e = .returned (.tuple #[.slice (some ⟨g, 0, none⟩) 512 cap, .int .i64 0]) /\ 512 <= cap /\ w.heap.size <= g /\ rowU w' g (Pg n) /\ Keeps F w w' /\ PcB w' B c F size N Pg Cm D o (u + 1) := by
 obtain ⟨L, C, h, h1, h2, h3, h4⟩ := h
 refine (bread_row n w h.at_ (Below.refl _ w) h.made (by have := h.uses; omega) (by rw [h.nn]; exact hn)).mono ?_
 rintro e w' ⟨g, cap, D', u', k, rfl, hc, hg, hr, hk, hW, hK⟩
 have hf : ∀ i, (i = c \/ i = L.um) -> F i := fun i hi => h.foot i (hi.elim (fun e => .inr (.inl e)) (fun e => .inr (.inr (.inr e))))
 have hA := hW w' (Keeps.refl _ _)
 refine ⟨g, cap, rfl, hc, hg, by rw [<- h.pg n hn]; exact hr, hK.mono hf, { L with Du := D' }, { C with uses := C.uses + k, used := u' }, ⟨hA, h.sz, h.nn, h.made, h.ops, by show C.uses + k <= u + 1; have := h.uses; omega, h.pg, h.cm, h.dirty, h.room, h.foot, fun i hi => Nat.lt_of_lt_of_le (h.lt i hi) hK.size, Nat.lt_of_lt_of_le h.p0 hK.size, h.sep.mono hK.size, h.quiet⟩, h1, h2, Nat.le_trans h3 hK.size, PcB.step h4 h1 h2 h3 hK hA rfl rfl⟩
theorem ipage_pb (h : mapB w m c ino) (n : Nat) (hn : n < N) (hu : u < 1000000) (hp : PcB w B c F size N Pg Cm D o u) :
  Calls Tryz.prog 138 #[gV m, .int .i64 n] w fun e w' => ∃ g, e = .returned (.slice (some ⟨g, 0, none⟩) 512 512) /\ w.heap.size <= g /\ ownB w' g (Pg n) /\ Keeps F w w' /\ PcB w' B c F size N Pg Cm D o (u + 1) := by
 unfold gV
 have HLen := hid (hp.pc.len n hn)
 have HFl := hid hp.pc.lt
 have hBl := hp.le
 have hal : Below w.heap.size w (w.alloc (.cells #[.pointer (some ⟨m, 0, none⟩)] 87)) := (Below.refl _ w).alloc (Nat.le_refl _) _
 have HAl : Hid ((w.alloc (.cells #[.pointer (some ⟨m, 0, none⟩)] 87)).heap[w.heap.size]? = some (.cells #[.pointer (some ⟨m, 0, none⟩)] 87 (0, 0))) := block_new w _
 have HBa := hid hal
 have HP := hid hp
 have HM := hid h
 clear h hp hal
 go_enter Tryz.func138, Tryz.ntmps138
 go_wp2_with (refine wpList_make_u8 rfl (.const (.int .i64 512)) (.const (.int .i64 512)) rfl 512 512 rfl rfl rfl (by omega) ?_; intro w1 hb1 hr1 hz1; have hB1 := HBa.out.trans (hb1.mono HBa.out.size); have HB1 := hid hB1; have c0 : w1.cell? ⟨w.heap.size, 0, none⟩ = some (.pointer (some ⟨m, 0, none⟩)) := (cell_of_block (below_block hb1 HAl.out (lt_of_heap HAl.out)) 0); have HO1 : Hid (ownB w1 (w.heap.size + 1) (zN 512)) := (by unfold Hid ownB; rw [<- rep_U8]; simpa using hr1); have HCa := hid (amCache_any (HM.out.below hB1)); have HRd := hid ((HP.out.keep (Keeps.of_below hB1)).read n hn hu); clear hb1 hr1 hz1 hB1)
 refine HCa.out.mono ?_
 clear HCa
 rintro e w2 ⟨rfl, h2⟩
 obtain rfl := h2.symm
 clear h2
 go_wp2_with fail
 refine HRd.out.mono ?_
 clear HRd
 rintro e w3 ⟨g, cap, rfl, hcap, hg, hrow, hk, hW⟩
 have HO3 := hid (HO1.out.keep hk (fun hf => by have := HFl.out _ hf; omega))
 have HRow := hid hrow
 have HK : Hid (Keeps F w w3) := (Keeps.of_below HB1.out : Keeps F w w1).trans hk (fun i e => .inl e)
 have HW := hid hW
 have HSz : Hid (w.heap.size + 1 < w3.heap.size) := lt_of_heap HO3.out
 clear hrow hk hW hg HO1 c0
 go_wp2_with (refine wpList_copy_own8 rfl (.tmp 17) (.tmp 18) rfl (w.heap.size + 1) 0 512 512 ⟨g, 0, none⟩ 512 cap rfl rfl (zN 512) (Pg n) HO3.out HRow.out.1 (by rw [HLen.out]; rfl) (by rw [HLen.out, length_zN]; omega) ?_; intro w4 hk4 ho4 hz4; have HO4 := hid ho4; have HK4 := hid hk4; clear hk4 ho4 hz4)
 go_ret
 have ho := HO4.out
 rw [List.take_zero, List.nil_append, Nat.zero_add, HLen.out, drop_zN, show zN (512 - 512) = [] from rfl, List.append_nil] at ho
 have k34 : Keeps (fun i => B <= i) w3 w4 := HK4.out.mono (fun i e => by have e' : i = w.heap.size + 1 := e; show B <= i; omega)
 have k35 : Keeps (fun i => w.heap.size <= i) w3 w4 := HK4.out.mono (fun i e => by have e' : i = w.heap.size + 1 := e; show w.heap.size <= i; omega)
 exact ⟨w.heap.size + 1, rfl, by omega, ho, HK.out.trans k35 (fun i e => .inr e), HW.out.keep k34⟩
end
end
section
set_option maxRecDepth 100000
set_option maxHeartbeats 4000000
open Go.RowKit Go.Shelf
attribute [local go_sem] Oper.semAt_some
def rowY (w : World) (base : Nat) (v : Value) (xs : List UInt8) : Prop := w.ownsRow base 5 1 v xs.length (xs.map U8)
def boxY (w : World) (b base : Nat) (xs : List UInt8) : Prop := ∃ v, w.heap[b]? = some (.cells #[v] 81 (0, 0)) /\ rowY w base v xs
def partL (sl : List Nat) (a z : Nat) (Pg : Nat -> List UInt8) (k : Nat) : List UInt8 := ((Pg (sl.getD (dslot k) 0)).drop (a - k * 512)).take (min (z - k * 512) 512 - (a - k * 512))
def partsL (sl : List Nat) (a z : Nat) (Pg : Nat -> List UInt8) (ks : List Nat) : List UInt8 := ks.flatMap (partL sl a z Pg)
theorem infoU8r : (Tryz.prog.info? 5).map (fun i => (i.zero, i.size, i.bytes)) = some (some (.int .u8 0), 1, 1) := by kernel_rfl
theorem wp_append_bytes {w : World} {base : Nat} {v : Value} {xs : List UInt8} {o : Oper} {a : Act} {K : Act -> World -> Prop} {Q : Exit -> Act -> World -> Prop} (s x : Operand)
  (ho : o.op = .call { callee := .builtin .append, args := #[s, x], argTypes := #[81, 81] }) (hs : a.eval s = v) (ad : Addr) (m c : Nat) (hx : a.eval x = .slice (some ad) m c)
  (h : rowY w base v xs) (news : List UInt8) (hl : news.length = m) (hb : bytesAt w ad news) (hn : xs.length + m <= 100000) (hbase : base <= w.heap.size)
  (k : ∀ ag n cap w', rowY w' base (.slice ag n cap) (xs ++ news) -> w.grownBy w' v.ownBlock -> K (a.put o.dst (.slice ag n cap)) w') : Oper.wp Tryz.prog o a w K Q := by
 obtain ⟨i0, hi, hz0, hz1, hz2⟩ := info_parts infoU8r
 rcases Nat.eq_zero_or_pos m with rfl | h0
 ·obtain rfl : news = [] := List.eq_nil_of_length_eq_zero hl
  rw [List.append_nil] at k
  have hrun : (Builtin.append_ #[81, 81] o.type #[v, .slice (some ad) 0 c]).run Tryz.prog w = .ok v w /\ ∃ ag n cap, v = .slice ag n cap := by
   rcases h.2 with ⟨rfl, -⟩ | ⟨g, cap, cur, rfl, -, -, hle, -⟩
   ·exact ⟨run_append_noneP 81 o.type 5 i0 Tryz.underlying81 hi _ c, _, _, _, rfl⟩
   ·exact ⟨run_append_more 81 o.type 5 i0 Tryz.underlying81 hi _ _ cap hle _ c, _, _, _, rfl⟩
  obtain ⟨hrun, ag, n, cap, rfl⟩ := hrun
  unfold Oper.wp
  simp [execOp, ho, resolve, invoke, builtin, hs, hx, hrun, Result.andThen]
  exact k _ _ _ w h (grown_refl _ _)
 ·have hnews : ∀ j y, (news.map U8)[j]? = some y -> w.cell? (ad.add j) = some y := fun j y hy => by
   have hj : j < news.length := by simpa using (List.getElem?_eq_some_iff.1 hy).1
   rw [List.getElem?_map, List.getElem?_eq_getElem hj] at hy
   rw [hb j hj]; exact hy
  have h1 : ∀ y ∈ news.map U8, y.oneCell' = true := fun y hy => by
   obtain ⟨x, -, rfl⟩ := List.mem_map.1 hy
   rfl
  obtain ⟨g, cap, w', hr, h2, h3, -, -⟩ := run_append_lies (P := Tryz.prog) w 81 o.type base 5 i0 (.int .u8 0) 1 1 Tryz.underlying81 hi hz0 hz1 hz2 rfl (by omega) v xs.length (xs.map U8) h ad m c (news.map U8) (by rw [List.length_map]; omega) hnews h1 h0 (by unfold maxLen; omega) (by omega) hbase w.heap.size rfl
  unfold Oper.wp
  simp [execOp, ho, resolve, invoke, builtin, hs, hx, hr, Result.andThen]
  refine k _ _ cap w' ?_ h3
  unfold rowY
  rw [List.length_append, hl, List.map_append]
  exact h2
theorem results_ifread {w : World} {tmps : Array Value} {x : Value} (h1 : tmps.getD 6 undef = x) : (results Tryz.f212 tmps).run Tryz.prog w = .ok x w := by
 have h1' : tmps[6]?.getD undef = x := by simpa using h1
 simp only [results, Tryz.results212]
 simp [go_sem, h1']
theorem rowY.down {w : World} {base b' : Nat} {v : Value} {xs : List UInt8} (h : rowY w base v xs) (hb : b' <= base) : rowY w b' v xs := by
 refine ⟨h.1, ?_⟩
 rcases h.2 with h1 | ⟨g0, cap0, cur, e, h1, h2⟩
 ·exact .inl h1
 ·exact .inr ⟨g0, cap0, cur, e, Nat.le_trans hb h1, h2⟩
theorem rowY.ge {w : World} {base : Nat} {v : Value} {xs : List UInt8} (h : rowY w base v xs) {g : Nat} (hg : v.ownBlock = some g) : base <= g /\ ∃ cs, w.heap[g]? = some (.cells cs 5 (0, 0)) := by
 rcases h.2 with ⟨e, -⟩ | ⟨g0, cap0, cur, e, h1, h2, -⟩
 ·rw [e] at hg; cases hg
 ·rw [e] at hg; cases hg; exact ⟨h1, _, h2⟩
section
variable {w : World} {f m c ino : Nat} {F : Nat -> Prop} {size N : Nat} {Pg Cm : Nat -> List UInt8} {D : Int -> Bool} {o u : Nat} {S : FileS}
theorem ifread_any (a z : Nat) (h : mapB w m c ino) (hmF : ¬ F m) (hf : fileB w f m S) (hfF : ¬ F f) (hS : S.slots.length = 139) (haz : a <= z) (hz : z <= 70656) (hu : u < 990000) (hsl : ∀ k, a / 512 <= k -> k < fillN z -> S.slots.getD (dslot k) 0 < N) (hp : Pc w c F size N Pg Cm D o u) :
  Calls Tryz.prog 212 #[.pointer (some ⟨f, 0, none⟩), .int .i64 a, .int .i64 z] w fun e w' => ∃ v, e = .returned v /\ rowY w' w.heap.size v (partsL S.slots a z Pg (upTo (a / 512) (fillN z))) /\ Keeps F w w' /\ Pc w' c F size N Pg Cm D o (u + 138) := by
 refine (callsIn_wide (n := 8)).1 ?_
 obtain ⟨wA, hA⟩ : ∃ wA, wA = (w.alloc (.cells #[.pointer (some ⟨f, 0, none⟩)] 168)).alloc (.cells #[.slice none 0 0] 81) := ⟨_, rfl⟩
 have hAB : Below w.heap.size w wA := by rw [hA]; exact ((Below.refl _ w).alloc (Nat.le_refl _) _).alloc (by simp) _
 have hA0 : wA.heap[w.heap.size]? = some (.cells #[.pointer (some ⟨f, 0, none⟩)] 168 (0, 0)) := by rw [hA]; exact block_alloc (block_new w _) _
 have hA1 : wA.heap[w.heap.size + 1]? = some (.cells #[.slice none 0 0] 81 (0, 0)) := by
  have h1 := block_new (w.alloc (.cells #[.pointer (some ⟨f, 0, none⟩)] 168)) (.cells #[.slice none 0 0] 81)
  rw [World.size_alloc] at h1
  rw [hA]; exact h1
 have hAs : wA.heap.size = w.heap.size + 2 := by rw [hA]; simp
 have hfA := hf.below hAB
 have HF := hid hfA
 have HMp := hid (h.below hAB)
 have HPc := hid ((PcB.start hp).keep (Keeps.of_below hAB))
 have HFl := hid hp.lt
 have HA0 := hid hA0
 have HA1 := hid hA1
 have HAB := hid hAB
 have HAs := hid hAs
 have HS := hid hS
 have HSl := hid hsl
 have hfl : f < w.heap.size := hf.lt
 have hml : m < w.heap.size := lt_of_heap h
 clear hf hfA hA0 hA1 hAB hAs hS h hp hsl
 refine callsIn_of_wp_marks Tryz.func212 rfl trivial ?_ rfl
 simp only [Tryz.ntmps212, List.size_toArray, List.length_cons, List.length_nil, Nat.reduceAdd, Nat.reduceSub, Array.replicate_succ, Array.replicate_zero, List.push_toArray, List.append_toArray, List.nil_append, List.cons_append]
 have hf2 : Fence.wide.fn 153 := trivial
 have hf4 : Fence.wide.fn 138 := trivial
 gi_wp2
 rw [<- hA]
 clear hA
 refine (callsIn_wide.2 (iparts_any f a z wA)).mono ?_
 rintro e wD ⟨rfl, hD⟩
 have hDB : Below wA.heap.size wA wD := by rw [hD]; exact (((Below.refl _ wA).alloc (Nat.le_refl _) _).alloc (by simp) _).alloc (by simp; omega) _
 have hsD : wD.heap.size = wA.heap.size + 3 := by rw [hD]; simp
 have x0 : wD.cell? ⟨wA.heap.size, 0, none⟩ = some (.pointer (some ⟨f, 0, none⟩)) := by rw [hD]; exact cell_of_block (block_alloc (block_alloc (block_new wA _) _) _) 0
 have x1 : wD.cell? ⟨wA.heap.size + 1, 0, none⟩ = some (.int .i64 a) := by
  have h1 := block_new (wA.alloc (.cells #[.pointer (some ⟨f, 0, none⟩)] 168)) (.cells #[.int .i64 a] 3)
  rw [World.size_alloc] at h1
  rw [hD]; exact cell_of_block (block_alloc h1 _) 0
 have x2 : wD.cell? ⟨wA.heap.size + 1 + 1, 0, none⟩ = some (.int .i64 z) := by
  have h1 := block_new ((wA.alloc (.cells #[.pointer (some ⟨f, 0, none⟩)] 168)).alloc (.cells #[.int .i64 a] 3)) (.cells #[.int .i64 z] 3)
  rw [World.size_alloc, World.size_alloc] at h1
  rw [hD]; exact cell_of_block h1 0
 have HDB := hid hDB
 have HsD := hid hsD
 have hws := HAs.out
 have HFD := hid (HF.out.below hDB)
 have HMD := hid (HMp.out.below hDB)
 have HPD := hid (HPc.out.keep (Keeps.of_below hDB))
 have HR0 := hid (below_block hDB HA0.out (lt_of_heap HA0.out))
 have HR1 := hid (below_block hDB HA1.out (lt_of_heap HA1.out))
 have HSt := hid (iparts_stops 7 (by omega) wA.heap.size (wA.heap.size + 1) (wA.heap.size + 1 + 1) f m a z S HS.out (fun i => F i \/ i = w.heap.size + 1 \/ wD.heap.size <= i) hz (by omega) wD
  (fun hh => by rcases hh with hh | hh | hh; (have := HFl.out _ hh; omega); omega; omega) (fun hh => by rcases hh with hh | hh | hh; (have := HFl.out _ hh; omega); omega; omega) (fun hh => by rcases hh with hh | hh | hh; (have := HFl.out _ hh; omega); omega; omega)
  (fun hh => by rcases hh with hh | hh | hh; exact hfF hh; omega; omega) HFD.out x0 x1 x2 (fillN z - a / 512) rfl)
 clear hD hDB hsD x0 x1 x2 HF HMp HPc HA0 HA1 hws
 gi_wp2
 generalize hM : fillN z - a / 512 = M at *
 have HMM := hid hM
 clear hM
 refine wpIn_rangeFunc_ownH rfl (by omega) (gf := 208) (lb := #[.pointer (some ⟨wA.heap.size + 1, 0, none⟩), .pointer (some ⟨wA.heap.size + 1 + 1, 0, none⟩), .pointer (some ⟨wA.heap.size, 0, none⟩)]) rfl trivial (enters_of Tryz.func208 (by kernel_rfl) rfl)
  HSt.out (fun h k => keepsK_t h k) (keepsK_b (fun i h => .inr (.inr h))) (Below.refl _ _) (fun _ => rfl)
  (fun pre W => Hid (fileB W f m S) /\ Hid (mapB W m c ino) /\ Hid (PcB W w.heap.size c F size N Pg Cm D o (u + pre.length)) /\
   Hid (boxY W (w.heap.size + 1) wD.heap.size (partsL S.slots a z Pg (pre.map (fun x : Fin M => a / 512 + x.val)))) /\ Hid (Keeps (fun i => F i \/ i = w.heap.size + 1) wD W))
  (fun _ _ _ => False)
  (fun s A B row hs hgr hr => ⟨grown_block hgr hs.1.out (fun e => by obtain ⟨-, ob, h1, h2⟩ := hr _ e; have h3 := hs.1.out; unfold fileB at h3; rw [h3] at h1; cases h1; cases h2), grown_block hgr hs.2.1.out (fun e => by obtain ⟨-, ob, h1, h2⟩ := hr _ e; have h3 := hs.2.1.out; unfold mapB at h3; rw [h3] at h1; cases h1; cases h2), ?own1, ?own2, ?own3⟩)
  (fun cd s A B row hs hgr hr => hs)
  ⟨HFD, HMD, HPD, ?st, Keeps.refl _ _⟩
  (fun x a' W => ∃ pb, wD.heap.size <= pb /\ a' = { tmps := #[.pointer (some ⟨f, 0, none⟩), .int .i64 a, .int .i64 z, .pointer (some ⟨w.heap.size, 0, none⟩), undef, undef, .slice none 0 0, .pointer (some ⟨w.heap.size + 1, 0, none⟩), .int .i64 (S.slots.getD (dslot (a / 512 + x.val)) 0 : Nat), .pointer (some ⟨pb, 0, none⟩), .pointer (some ⟨f, 0, none⟩), .int .i64 a, .int .i64 z, .func (.func 208) #[] #[.pointer (some ⟨wA.heap.size + 1, 0, none⟩), .pointer (some ⟨wA.heap.size + 1 + 1, 0, none⟩), .pointer (some ⟨wA.heap.size, 0, none⟩)], .int .i64 (S.slots.getD (dslot (a / 512 + x.val)) 0 : Nat), .agg #[.int .i64 (a - (a / 512 + x.val) * 512 : Nat), .int .i64 (min (z - (a / 512 + x.val) * 512) 512 : Nat)], undef, undef, undef, undef, undef, undef, undef, undef, undef, undef, undef, undef, undef, undef], defers := [] } /\ W.heap[pb]? = some (.cells #[.int .i64 (a - (a / 512 + x.val) * 512 : Nat), .int .i64 (min (z - (a / 512 + x.val) * 512) 512 : Nat)] 239 (0, 0))) (fun x a' s A B row hs hgr hr => ?own4) ?assign ?body ?done ?stop
 case assign =>
  rintro l1 pre x W K hI hK
  have HK := hid hK
  have HI := hid hI
  clear hK hI
  unfold partV
  obtain ⟨a1, ha1⟩ : ∃ a1 : Int, a1 = ((S.slots.getD (dslot (a / 512 + x.val)) 0 : Nat) : Int) := ⟨_, rfl⟩
  obtain ⟨a2, ha2⟩ : ∃ a2 : Int, a2 = ((a - (a / 512 + x.val) * 512 : Nat) : Int) := ⟨_, rfl⟩
  obtain ⟨a3, ha3⟩ : ∃ a3 : Int, a3 = ((min (z - (a / 512 + x.val) * 512) 512 : Nat) : Int) := ⟨_, rfl⟩
  rw [<- ha1, <- ha2, <- ha3]
  have HA123 := hid (And.intro ha1 (And.intro ha2 ha3))
  clear ha1 ha2 ha3
  gi_wp2
  obtain ⟨rfl, rfl, rfl⟩ := HA123.out
  obtain ⟨i1, i2, i3, i4, i5⟩ := HI.out
  have hwD := i5.out.size
  have hba : Below W.heap.size W (W.alloc (.cells #[.int .i64 (a - (a / 512 + x.val) * 512 : Nat), .int .i64 (min (z - (a / 512 + x.val) * 512) 512 : Nat)] 239)) := (Below.refl _ W).alloc (Nat.le_refl _) _
  refine HK.out _ _ ⟨by simp, fun i ob hi ho _ => block_alloc ho _⟩ (Keeps.of_below hba) ⟨i1.out.below hba, i2.out.below hba, i3.out.keep (Keeps.of_below hba), ?_, i5.out.trans (Keeps.of_below hba : Keeps (fun _ => False) W _) (fun i e => e.elim)⟩ ⟨W.heap.size, hwD, rfl, block_new W _⟩
  obtain ⟨v, h1, h2⟩ := i4.out
  exact ⟨v, below_block hba h1 (lt_of_heap h1), (Keeps.of_below hba : Keeps (fun _ => False) W _).row h2 (fun _ _ h => h)⟩
 case body =>
  rintro l1 pre x a' W hl1 hrec ⟨HFw, HMw, HPw, HBw, HKw⟩ ⟨pb, hpb, rfl, hpW⟩ hlt
  obtain ⟨v, hv1, hv2⟩ := HBw.out
  have hsD := HsD.out
  have hsA := HAs.out
  have hx := x.isLt
  have hMM := HMM.out
  have hnw : ∀ i, w.heap.size <= i -> ¬ F i := fun i hi hh => by have := HFl.out i hh; omega
  have c0b := HKw.out.heap HR0.out (fun hh => hh.elim (hnw _ (Nat.le_refl _)) (fun e => by omega))
  obtain ⟨pn, hpn⟩ : ∃ pn, pn = S.slots.getD (dslot (a / 512 + x.val)) 0 := ⟨_, rfl⟩
  obtain ⟨fa, hfa⟩ : ∃ fa, fa = a - (a / 512 + x.val) * 512 := ⟨_, rfl⟩
  obtain ⟨fz, hfz⟩ : ∃ fz, fz = min (z - (a / 512 + x.val) * 512) 512 := ⟨_, rfl⟩
  have hpN : pn < N := by rw [hpn]; exact HSl.out _ (by omega) (by omega)
  have HNx : Hid (partsL S.slots a z Pg ((pre ++ [x]).map (fun x : Fin M => a / 512 + x.val)) = partsL S.slots a z Pg (pre.map (fun x : Fin M => a / 512 + x.val)) ++ ((Pg pn).drop fa).take (fz - fa)) := by
   unfold Hid partsL
   rw [List.map_append, List.flatMap_append, List.map_singleton, List.flatMap_singleton]
   unfold partL
   rw [hpn, hfa, hfz]
  obtain ⟨xs, hxs⟩ : ∃ xs, xs = partsL S.slots a z Pg (pre.map (fun x : Fin M => a / 512 + x.val)) := ⟨_, rfl⟩
  rw [<- hpn, <- hfa, <- hfz]
  rw [<- hfa, <- hfz] at hpW
  rw [<- hxs] at HNx hv2
  have hk1 : (a / 512 + x.val) * 512 < z := by unfold fillN at hMM; omega
  have hq1 : fa <= fz := by omega
  have hq2 : fz <= 512 := by omega
  have hq3 : (fz : Int) <= 512 := by omega
  have hq4 : ¬ (512 = fa) := by omega
  have hxl : xs.length <= 512 * pre.length := by
   rw [hxs]; unfold partsL
   clear hxs hv2 HNx hlt HPw HBw hv1
   induction pre with
   | nil => simp
   | cons y ys ih =>
    rw [List.map_cons, List.flatMap_cons, List.length_append, List.length_cons]
    have h1 : (partL S.slots a z Pg (a / 512 + y.val)).length <= 512 := by unfold partL; rw [List.length_take]; omega
    have h2 := ih
    omega
  have hM1 : M <= 138 := by unfold fillN at hMM; omega
  have HPg := hid (fun V (hV : Below W.heap.size W V) => ipage_pb (HMw.out.below hV) pn hpN (show u + pre.length < 1000000 by omega) (HPw.out.keep (Keeps.of_below hV)))
  have HLn := hid (HPw.out.pc.len pn hpN)
  have HV1 := hid hv1
  have HV2 := hid hv2
  have HC0 := hid c0b
  have HPW := hid hpW
  have HXl := hid hxl
  have HM1 := hid hM1
  have HLt := hid hlt
  have hbd : Below W.heap.size W W.drew := (Below.refl _ W).drew
  have q0 : W.drew.cell? ⟨w.heap.size + 1, 0, none⟩ = some v := cell_of_block (below_block hbd hv1 (lt_of_heap hv1)) 0
  have q1 : W.drew.cell? ⟨w.heap.size, 0, none⟩ = some (.pointer (some ⟨f, 0, none⟩)) := cell_of_block (below_block hbd c0b (lt_of_heap c0b)) 0
  obtain ⟨q2, -⟩ := (HFw.out.below hbd).head
  have q3 : W.drew.cell? ⟨pb, 0, none⟩ = some (.int .i64 fa) := cell_of_block (below_block hbd hpW (lt_of_heap hpW)) 0
  have q4 : W.drew.cell? ⟨pb, 1, none⟩ = some (.int .i64 fz) := cell_of_block (below_block hbd hpW (lt_of_heap hpW)) 1
  have hpbW := lt_of_heap hpW
  have HBd := hid hbd
  have HPg2 := hid (HPg.out W.drew hbd)
  unfold gV at HPg2
  clear HPg hbd hpW c0b hv1 hv2 hxs hpn hfa hfz hMM hx hxl hM1 hk1 hsD hlt HBw
  refine wpIn_block ?_
  refine wpInR_drewL 13 (S := fun V => V.cell? ⟨w.heap.size + 1, 0, none⟩ = some v /\ V.cell? ⟨w.heap.size, 0, none⟩ = some (.pointer (some ⟨f, 0, none⟩)) /\ V.cell? ⟨f, 0, none⟩ = some (.pointer (some ⟨m, 0, none⟩)) /\ V.cell? ⟨pb, 0, none⟩ = some (.int .i64 fa) /\ V.cell? ⟨pb, 1, none⟩ = some (.int .i64 fz)) (by kernel_rfl) (by kernel_rfl) ⟨q0, q1, q2, q3, q4⟩ (fun hHeld => ?_)
  generalize W.drew = wd at *
  refine wpAnyL_take (hwt := by kernel_rfl) (i := 0) (v := ?_) rfl (by kernel_rfl) (by kernel_rfl) (by kernel_rfl) (fun _ _ _ h => h) (Or.inl ⟨by rfl, ?_⟩) (by assumption) ?_
  rotate_left
  ·(intro W h; (try dsimp only at h); obtain ⟨s0, s1, s2, s3, s4⟩ := h; go_simp; try with_reducible rfl)
  try simp only [tS]
  refine wpAnyL_take (hwt := by kernel_rfl) (i := 1) (v := ?_) rfl (by kernel_rfl) (by kernel_rfl) (by kernel_rfl) (fun _ _ _ h => h) (Or.inl ⟨by rfl, ?_⟩) (by assumption) ?_
  rotate_left
  ·(intro W h; (try dsimp only at h); obtain ⟨s0, s1, s2, s3, s4⟩ := h; go_simp; try with_reducible rfl)
  try simp only [tS]
  refine wpAnyL_take (hwt := by kernel_rfl) (i := 2) (v := ?_) rfl (by kernel_rfl) (by kernel_rfl) (by kernel_rfl) (fun _ _ _ h => h) (Or.inl ⟨by rfl, ?_⟩) (by assumption) ?_
  rotate_left
  ·(intro W h; (try dsimp only at h); obtain ⟨s0, s1, s2, s3, s4⟩ := h; go_simp; try with_reducible rfl)
  try simp only [tS]
  refine wpAnyL_take (hwt := by kernel_rfl) (i := 3) (v := ?_) rfl (by kernel_rfl) (by kernel_rfl) (by kernel_rfl) (fun _ _ _ h => h) (Or.inl ⟨by rfl, ?_⟩) (by assumption) ?_
  rotate_left
  ·(intro W h; (try dsimp only at h); obtain ⟨s0, s1, s2, s3, s4⟩ := h; go_simp; try with_reducible rfl)
  try simp only [tS]
  refine wpAnyL_take (hwt := by kernel_rfl) (i := 4) (v := ?_) rfl (by kernel_rfl) (by kernel_rfl) (by kernel_rfl) (fun _ _ _ h => h) (Or.inl ⟨by rfl, ?_⟩) (by assumption) ?_
  rotate_left
  ·(intro W h; (try dsimp only at h); obtain ⟨s0, s1, s2, s3, s4⟩ := h; go_simp; try with_reducible rfl)
  try simp only [tS]
  refine wpAnyL_take (hwt := by kernel_rfl) (i := 5) (v := ?_) rfl (by kernel_rfl) (by kernel_rfl) (by kernel_rfl) (fun _ _ _ h => h) (Or.inl ⟨by rfl, ?_⟩) (by assumption) ?_
  rotate_left
  ·(intro W h; (try dsimp only at h); obtain ⟨s0, s1, s2, s3, s4⟩ := h; go_simp; try with_reducible rfl)
  try simp only [tS]
  refine wpAnyL_take (hwt := by kernel_rfl) (i := 7) (v := ?_) rfl (by kernel_rfl) (by kernel_rfl) (by kernel_rfl) (fun _ _ _ h => h) (Or.inl ⟨by rfl, ?_⟩) (by assumption) ?_
  rotate_left
  ·(intro W h; (try dsimp only at h); obtain ⟨s0, s1, s2, s3, s4⟩ := h; go_simp; try with_reducible rfl)
  try simp only [tS]
  refine wpAnyL_take (hwt := by kernel_rfl) (i := 8) (v := ?_) rfl (by kernel_rfl) (by kernel_rfl) (by kernel_rfl) (fun _ _ _ h => h) (Or.inl ⟨by rfl, ?_⟩) (by assumption) ?_
  rotate_left
  ·(intro W h; (try dsimp only at h); obtain ⟨s0, s1, s2, s3, s4⟩ := h; go_simp; try with_reducible rfl)
  try simp only [tS]
  refine wpAnyL_take (hwt := by kernel_rfl) (i := 9) (v := ?_) rfl (by kernel_rfl) (by kernel_rfl) (by kernel_rfl) (fun _ _ _ h => h) (Or.inl ⟨by rfl, ?_⟩) (by assumption) ?_
  rotate_left
  ·(intro W h; (try dsimp only at h); obtain ⟨s0, s1, s2, s3, s4⟩ := h; go_simp; try with_reducible rfl)
  try simp only [tS]
  refine wpAnyL_take (hwt := by kernel_rfl) (i := 10) (v := ?_) rfl (by kernel_rfl) (by kernel_rfl) (by kernel_rfl) (fun _ _ _ h => h) (Or.inl ⟨by rfl, ?_⟩) (by assumption) ?_
  rotate_left
  ·(intro W h; (try dsimp only at h); obtain ⟨s0, s1, s2, s3, s4⟩ := h; go_simp; try with_reducible rfl)
  try simp only [tS]
  refine wpAnyL_one (i := 6) (by kernel_rfl) rfl (fun K hK => ?_)
  rw [if_pos (by rfl)]
  go_simp
  refine HPg2.out.mono ?_
  clear HPg2
  rintro e W2 ⟨g, rfl, hg, ho2, hk2, hp2⟩
  have hsD := HsD.out
  have hWD := HKw.out.size
  have hdW := HBd.out.size
  have kW2 : Keeps F W W2 := (Keeps.of_below HBd.out : Keeps F W wd).trans hk2 (fun i e => .inl e)
  have v2 := kW2.heap HV1.out (hnw _ (by omega))
  have r0 : W2.cell? ⟨w.heap.size + 1, 0, none⟩ = some v := cell_of_block v2 0
  have r1 : W2.cell? ⟨w.heap.size, 0, none⟩ = some (.pointer (some ⟨f, 0, none⟩)) := cell_of_block (kW2.heap HC0.out (hnw _ (Nat.le_refl _))) 0
  obtain ⟨r2, -⟩ := (HFw.out.keep kW2 hfF).head
  have p2 := kW2.heap HPW.out (hnw _ (by omega))
  have r3 : W2.cell? ⟨pb, 0, none⟩ = some (.int .i64 fa) := cell_of_block p2 0
  have r4 : W2.cell? ⟨pb, 1, none⟩ = some (.int .i64 fz) := cell_of_block p2 1
  have hrow2 : rowY W2 wD.heap.size v xs := kW2.row HV2.out (fun i e hh => hnw i (by have := (rowY.ge HV2.out e).1; omega) hh)
  have HRo2 := hid hrow2
  have HV2b := hid v2
  have HP2 := hid hp2
  have HO2 := hid ho2
  have HK2 := hid kW2
  have HPb2 := hid p2
  clear hk2 kW2 v2 p2 hrow2 ho2 hp2 q0 q1 q2 q3 q4
  go_wp2_with fail
  refine hK.out _ _ (fun _ => ⟨r0, r1, r2, r3, r4⟩) (fun hHeld6 => ?_)
  have hHeld := hHeld6 (by decide)
  clear hK K hHeld6
  try simp only [tS]
  refine wpAnyL_take (hwt := by kernel_rfl) (i := 11) (v := .slice (some ⟨g, fa, none⟩) (fz - fa) (512 - fa)) rfl (by kernel_rfl) (by kernel_rfl) (by kernel_rfl) (fun _ _ _ h => h) (Or.inl ⟨by rfl, ?_⟩) (by assumption) ?_
  ·(intro W h; (try dsimp only at h); obtain ⟨s0, s1, s2, s3, s4⟩ := h; go_simp; try first | with_reducible rfl | go_num | (rw [if_pos (by assumption)]; simp only [*]) | simp only [*])
  try simp only [tS]
  refine wpAnyL_one (i := 12) (by kernel_rfl) rfl (fun K hK => ?_)
  rw [if_pos (by rfl)]
  have hby : bytesAt W2 ⟨g, fa, none⟩ (((Pg pn).drop fa).take (fz - fa)) := fun j hj => by
   have hj1 : j < fz - fa := by rw [List.length_take] at hj; omega
   have h1 := HO2.out.cell (fa + j) (by rw [HLn.out]; omega)
   rw [Addr.add_mid, h1, List.getElem_take, List.getElem_drop]
  refine wp_append_bytes (.tmp 16) (.tmp 27) rfl rfl ⟨g, fa, none⟩ (fz - fa) (512 - fa) rfl HRo2.out _ (by rw [List.length_take, List.length_drop, HLn.out]; omega) hby (by have h1 := HXl.out; have h2 := HM1.out; have h3 := HLt.out; omega) (by have := HK2.out.size; omega) ?_
  intro ag9 n9 cap9 w9 hr9 hg9
  have k9 : Keeps (fun i => v.ownBlock = some i) W2 w9 := Keeps.of_grown hg9 (fun i e => e)
  have hge : ∀ i, v.ownBlock = some i -> wD.heap.size <= i := fun i e => (rowY.ge HRo2.out e).1
  have hv9 := k9.heap HV2b.out (fun e => by have := hge _ e; omega)
  have t0 : w9.cell? ⟨w.heap.size + 1, 0, none⟩ = some v := cell_of_block hv9 0
  have f9 : w9.frozen? ⟨w.heap.size + 1, 0, none⟩ = false := frozen_of_block hv9 0
  have t1 := k9.cell r1 (fun e => by have e' : v.ownBlock = some w.heap.size := e; have := hge _ e'; omega)
  have t2 := k9.cell r2 (fun e => by have e' : v.ownBlock = some f := e; have := hge _ e'; omega)
  have hnpb : ¬ v.ownBlock = some pb := fun e => by
   obtain ⟨cs, h1⟩ := (rowY.ge HRo2.out e).2
   rw [HPb2.out] at h1
   simp only [Option.some.injEq, Obj.cells.injEq] at h1
   exact absurd h1.2.1 (by decide)
  have t3 := k9.cell r3 (fun e => hnpb e)
  have t4 := k9.cell r4 (fun e => hnpb e)
  have HV9 := hid hv9
  have HR9 := hid hr9
  have HK9 := hid k9
  have HGe := hid hge
  clear hv9 hr9 hg9 k9 r0 r1 r2 r3 r4 hby hge
  refine hK.out _ _ (fun _ => ⟨t0, t1, t2, t3, t4⟩) (fun hHeld8 => ?_)
  have hHeld := hHeld8 (by decide)
  clear hK K hHeld8
  try simp only [tS]
  refine wpAnyL_one (i := 13) (by kernel_rfl) rfl (fun K hK => ?_)
  rw [if_pos (by rfl)]
  go_simp
  refine hK.out _ _ (fun hne => absurd rfl hne) (fun _ => ?_)
  clear hK K
  refine wpAnyL_done (by kernel_rfl) ?_ _
  refine JustN.normal ?_
  have kb : Keeps (fun i => i = w.heap.size + 1) w9 (w9.setCell ⟨w.heap.size + 1, 0, none⟩ (.slice ag9 n9 cap9)) := (Keeps.refl _ _).grown (grown_setCell (grown_refl _ _) _ _) (fun i e => .inl (Option.some.inj e).symm)
  have hvb := block_setCell HV9.out 0 (.slice ag9 n9 cap9)
  generalize w9.setCell ⟨w.heap.size + 1, 0, none⟩ (.slice ag9 n9 cap9) = wF at *
  have k2F : Keeps (fun i => v.ownBlock = some i \/ i = w.heap.size + 1) W2 wF := (HK9.out.mono (fun i e => .inl e)).trans kb (fun i e => .inl (.inr e))
  have k2B : Keeps (fun i => w.heap.size <= i) W2 wF := k2F.mono (fun i e => e.elim (fun e => by have := HGe.out i e; show w.heap.size <= i; omega) (fun e => by show w.heap.size <= i; omega))
  have kWF : Keeps (fun i => F i \/ v.ownBlock = some i \/ i = w.heap.size + 1) W wF := (HK2.out.mono (fun i e => .inl e)).trans k2F (fun i e => .inl (.inr e))
  have hnf : ∀ j, j < w.heap.size -> ¬ F j -> ¬ (F j \/ v.ownBlock = some j \/ j = w.heap.size + 1) := fun j hj hF hh => by
   rcases hh with hh | hh | hh
   ·exact hF hh
   ·have := HGe.out j hh; omega
   ·omega
  refine ⟨⟨kWF.size, fun i ob hi ho hn => ?_⟩, kWF.mono (fun i e => by rcases e with e | e | e; exact .inl e; exact .inr (.inr (HGe.out i e)); exact .inr (.inl e)), HFw.out.keep kWF (hnf f hfl hfF), HMw.out.keep kWF (hnf m hml hmF), ?_, ?_, HKw.out.trans kWF (fun i e => by rcases e with e | e | e; exact .inl (.inl e); exact .inr (HGe.out i e); exact .inl (.inr e))⟩
  ·refine kWF.heap ho (fun hh => ?_)
   rcases hh with hh | hh | hh
   ·exact hnw i (by omega) hh
   ·obtain ⟨cs, h1⟩ := (rowY.ge HV2.out hh).2
    rw [ho] at h1; cases h1; cases hn
   ·omega
  ·have h1 := HP2.out.keep k2B
   rw [show u + (pre ++ [x]).length = u + pre.length + 1 by rw [List.length_append, List.length_singleton, Nat.add_assoc]]
   exact h1
  ·unfold Hid boxY
   rw [HNx.out]
   exact ⟨_, hvb, kb.row HR9.out (fun i e => by have h1 := (rowY.ge HR9.out e).1; show ¬ i = w.heap.size + 1; omega)⟩
 case own1 => exact hs.2.2.1.out.keep (Keeps.of_grown hgr (fun i e => by have h1 := (hr i e).1; have h2 := HsD.out; have h3 := HAs.out; show w.heap.size <= i; omega))
 case own2 =>
  obtain ⟨v, h1, h2⟩ := hs.2.2.2.1.out
  have kk : Keeps (fun i => row = some i) A B := Keeps.of_grown hgr (fun i e => e)
  have hne : ∀ {i : Nat} {cs : Array Value} {t : TypeId} {fr : Nat × Nat}, A.heap[i]? = some (.cells cs t fr) -> ¬ row = some i := fun {i cs t fr} hc e => by
   obtain ⟨-, ob, h4, h5⟩ := hr _ e
   rw [hc] at h4; cases h4; cases h5
  refine ⟨v, kk.heap h1 (hne h1), kk.row h2 (fun i hi => ?_)⟩
  obtain ⟨cs, hb⟩ := (rowY.ge h2 hi).2
  exact hne hb
 case own3 => exact hs.2.2.2.2.out.trans (Keeps.of_grown hgr (F := fun i => row = some i) (fun i e => e)) (fun i e => .inr (hr i e).1)
 case st => exact ⟨_, HR1.out, World.ownsRow_nil _ _ _ _⟩
 case own4 =>
  obtain ⟨pb, h1, h2, h3⟩ := hs
  exact ⟨pb, h1, h2, grown_block hgr h3 (fun e => by obtain ⟨-, ob, h4, h5⟩ := hr _ e; rw [h3] at h4; cases h4; cases h5)⟩
 case done =>
  rintro D1 ys W hD1 hys ⟨HFw, HMw, HPw, HBw, HKw⟩ hK1
  have hyl : ys.length = M := by
   have h1 := congrArg List.length hys
   rw [List.length_map, length_upTo, HMM.out] at h1
   exact h1
  rw [hys] at HBw
  rw [hyl] at HPw
  obtain ⟨v, hv1, hv2⟩ := HBw.out
  have c0 : W.cell? ⟨w.heap.size + 1, 0, none⟩ = some v := cell_of_block hv1 0
  have HV2 := hid hv2
  have HKD := hid hK1
  have HHD := hid hD1
  clear hys hyl hv1 hv2 hK1 HBw HSt hD1
  gi_wp2
  have hD1 := HHD.out
  have hWD := HKw.out.size
  have hsA := HAs.out
  have hsD := HsD.out
  have hM1 : M <= 138 := by have := HMM.out; unfold fillN at this; omega
  have hg5 := grownBy_putObj' W D1 (.deferred none)
  have k5 : Keeps (fun i => some D1 = some i) W (W.putObj D1 (.deferred none)) := Keeps.of_grown hg5 (fun i e => e)
  have hb0 : Below w.heap.size w wD := HAB.out.trans (HDB.out.mono HAB.out.size)
  have hr5 := k5.row HV2.out (fun i e e2 => by
   cases e2
   obtain ⟨cs, h1⟩ := (rowY.ge HV2.out e).2
   rw [HKD.out] at h1; cases h1)
  refine ⟨by simp, .inl ⟨_, _, rfl, run_takeDeferred HKD.out, ?_⟩⟩
  refine ⟨_, results_ifread rfl, ?_⟩
  refine ⟨_, rfl, rowY.down hr5 (by have h1 := hb0.size; omega), ?_, ?_⟩
  ·exact (((Keeps.of_below hb0 : Keeps F w wD).trans HKw.out (fun i e => e.elim .inl (fun e => .inr (by omega)))).trans k5 (fun i e => .inr (by cases e; omega)))
  ·exact (HPw.out.keep (k5.mono (fun i e => by cases e; show w.heap.size <= D1; omega))).pc.more (Nat.le_refl _) (by omega)
 case stop =>
  intro D c pre W hD hpre hx
  exact hx.elim
end
end
section
set_option maxRecDepth 100000
open Go.RowKit
theorem getD_partL {sl : List Nat} {a z k : Nat} {Pg : Nat -> List UInt8} (j : Nat) (hj : j < min (z - k * 512) 512 - (a - k * 512)) : (partL sl a z Pg k).getD j 0 = (Pg (sl.getD (dslot k) 0)).getD (a - k * 512 + j) 0 := by
 unfold partL
 rw [getD_take _ _ _ hj, getD_drop]
theorem length_partL {sl : List Nat} {a z k : Nat} {Pg : Nat -> List UInt8} (hL : (Pg (sl.getD (dslot k) 0)).length = 512) : (partL sl a z Pg k).length = min (z - k * 512) 512 - (a - k * 512) := by
 unfold partL
 rw [List.length_take, List.length_drop, hL]
 omega
section
variable {sk : Nat -> Prop} {N ino : Nat} {Pg : Nat -> List UInt8} {fs : Nat -> Option FileA} {i : Nat} {f : FileA}
theorem GoodX.parts (h : GoodX sk N ino Pg fs) (hf : fs i = some f) (a z : Nat) (haz : a < z) (hz : z <= f.data.length) : ∀ d, a / 512 + d <= fillN z -> partsL f.slots a z Pg (upTo (a / 512) (a / 512 + d)) = (f.data.drop a).take (min z ((a / 512 + d) * 512) - a)
 | 0, _ => by
  rw [Nat.add_zero, upTo_none, show min z (a / 512 * 512) - a = 0 by omega, List.take_zero]
  rfl
 | d + 1, hd => by
  have ih := GoodX.parts h hf a z haz hz d (by omega)
  have hok := h.file i f hf
  have hkz : (a / 512 + d) * 512 < z := by unfold fillN at hd; omega
  have hat := h.at_ hf (k := (a / 512 + d) * 512) (by omega)
  rw [Nat.mul_div_cancel _ (by omega)] at hat
  have hL : (Pg (f.slots.getD (dslot (a / 512 + d)) 0)).length = 512 := h.len _ (hok.in_ _ hat.1).2
  rw [<- Nat.add_assoc, upTo_succ (by omega)]
  have e1 : partsL f.slots a z Pg (upTo (a / 512) (a / 512 + d) ++ [a / 512 + d]) = partsL f.slots a z Pg (upTo (a / 512) (a / 512 + d)) ++ partL f.slots a z Pg (a / 512 + d) := by
   unfold partsL; rw [List.flatMap_append, List.flatMap_singleton]
  rw [e1, ih]
  have hl1 : ((f.data.drop a).take (min z ((a / 512 + d) * 512) - a)).length = (a / 512 + d) * 512 - a := by rw [List.length_take, List.length_drop]; omega
  have hl2 := length_partL (z := z) (a := a) hL
  refine List.ext_getElem (by rw [List.length_append, hl1, hl2, List.length_take, List.length_drop]; omega) (fun j h1 h2 => ?_)
  have hj : j < min z ((a / 512 + d + 1) * 512) - a := by rw [List.length_take, List.length_drop] at h2; omega
  rw [List.getElem_take, List.getElem_drop]
  by_cases hc : j < (a / 512 + d) * 512 - a
  ·rw [List.getElem_append_left (by rw [hl1]; exact hc), List.getElem_take, List.getElem_drop]
  ·rw [List.getElem_append_right (by rw [hl1]; omega)]
   have hq : j - ((a / 512 + d) * 512 - a) < min (z - (a / 512 + d) * 512) 512 - (a - (a / 512 + d) * 512) := by omega
   have g1 := getD_partL (sl := f.slots) (Pg := Pg) (k := a / 512 + d) (z := z) (a := a) (j - ((a / 512 + d) * 512 - a)) hq
   have hlt : j - ((f.data.drop a).take (min z ((a / 512 + d) * 512) - a)).length < (partL f.slots a z Pg (a / 512 + d)).length := by rw [hl1, hl2]; exact hq
   have g2 : (partL f.slots a z Pg (a / 512 + d))[j - ((f.data.drop a).take (min z ((a / 512 + d) * 512) - a)).length] = (partL f.slots a z Pg (a / 512 + d)).getD (j - ((a / 512 + d) * 512 - a)) 0 := by
    rw [List.getD_eq_getElem?_getD, List.getElem?_eq_getElem (by rw [hl2]; exact hq)]
    simp only [hl1, Option.getD_some]
   rw [g2, g1]
   have hda := h.data i f hf (a + j) (by omega)
   have e2 : (a + j) / 512 = a / 512 + d := by omega
   have e3 : (a + j) % 512 = a - (a / 512 + d) * 512 + (j - ((a / 512 + d) * 512 - a)) := by omega
   rw [e2, e3] at hda
   unfold FileA.slot at hda
   rw [hda, List.getD_eq_getElem?_getD, List.getElem?_eq_getElem (by omega)]
   rfl
end
section
variable {w w' : World} {s m c ino : Nat} {F : Nat -> Prop} {N : Nat} {Pg Cm : Nat -> List UInt8} {fs : Nat -> Option FileA} {o u : Nat} {i : Nat} {f : FileA}
theorem iRead_none (h : St w s m c F N ino Pg Cm fs o u) (hf : fs i = some f) (hu : u < 900000) (a n : Nat) (ha : f.data.length <= a) :
  Calls Tryz.prog 156 #[.pointer (some ⟨s, 0, none⟩), .int .i64 i, .int .i64 a, .int .i64 n] w fun e w' => e = .returned (.tuple #[.slice none 0 0, .int .i64 0]) /\ Keeps F w w' /\ St w' s m c F N ino Pg Cm fs o (u + 2) := by
 have HGt := hid (iGet_st h hf (by omega))
 have hok := h.good.file i f hf
 have hnf := h.good.nf
 have HNl : Hid ((nodeC f.node).length = 15) := by unfold Hid nodeC; rw [List.length_append, List.length_map, (hok.node (by omega) h.good.n4).pages]; rfl
 have HN3 : Hid ((nodeC f.node)[3]? = some (.int .i64 f.data.length)) := rfl
 have HFl := hid h.lt
 have ha0 : ¬ ((a : Int) < 0) := by omega
 have hn0 : ¬ ((n : Int) < 0) := by omega
 have hz : (f.data.length : Int) <= (a : Int) := by omega
 unfold nodeV at HGt
 clear h hf hok hnf
 have hnc1 := nodeC_one f.node
 generalize nodeC f.node = nc at *
 have HN1 := hid hnc1
 clear hnc1
 go_enter Tryz.func156, Tryz.ntmps156
 go_wp2_with fail
 refine HGt.out.mono ?_
 clear HGt
 rintro e w1 ⟨rfl, hk1, hs1⟩
 have HS1 := hid hs1
 have HK1 := hid hk1
 clear hk1 hs1
 go_wp2_with (refine wpList_store_block rfl 153 (.tmp 10) (.tmp 16) rfl w1.heap.size nc.toArray rfl rfl _ _ (block_new w1 _) (by rw [List.size_toArray, HNl.out]; rfl) (by rw [List.size_toArray, HNl.out]; kernel_rfl) HN1.out ?_; intro w2 hg2 hb2 hz2; have c3 : w2.cell? ⟨w1.heap.size, 3, none⟩ = some (.int .i64 f.data.length) := (by rw [cell_of_block hb2, List.getElem?_toArray]; exact HN3.out); have hb12 : Below w1.heap.size w1 w2 := ((Below.refl _ w1).alloc (Nat.le_refl _) _).grown hg2 (by simp) (fun k e => by cases e; exact Nat.le_refl _); have HB12 := hid hb12; have HR2 := hid hb2; clear hg2 hb2 hz2 hb12)
 go_returns
 exact ⟨rfl, HK1.out.trans (Keeps.of_below HB12.out : Keeps F w1 w2) (fun i e => .inl e), HS1.out.below HB12.out⟩
theorem iRead_st (h : St w s m c F N ino Pg Cm fs o u) (hf : fs i = some f) (hu : u < 900000) (a n : Nat) (ha : a < f.data.length) :
  Calls Tryz.prog 156 #[.pointer (some ⟨s, 0, none⟩), .int .i64 i, .int .i64 a, .int .i64 n] w fun e w' => ∃ v, e = .returned (.tuple #[v, .int .i64 0]) /\ rowY w' w.heap.size v ((f.data.drop a).take n) /\ Keeps F w w' /\ St w' s m c F N ino Pg Cm fs o (u + 141) := by
 obtain ⟨z, hz⟩ : ∃ z, z = a + min n (f.data.length - a) := ⟨_, rfl⟩
 have hok := h.good.file i f hf
 have hnf := h.good.nf
 have hsz := hok.size
 have hgp : partsL f.slots a z Pg (upTo (a / 512) (fillN z)) = (f.data.drop a).take n := by
  by_cases hn : n = 0
  ·subst hn
   rw [List.take_zero]
   unfold partsL
   refine List.flatMap_eq_nil_iff.2 (fun k _ => ?_)
   unfold partL
   rw [hz, show min (a + min 0 (f.data.length - a) - k * 512) 512 - (a - k * 512) = 0 by omega, List.take_zero]
  ·have hgp := h.good.parts hf a z (by omega) (by omega) (fillN z - a / 512) (by unfold fillN; omega)
   rw [show a / 512 + (fillN z - a / 512) = fillN z by unfold fillN; omega, show min z (fillN z * 512) - a = min n (f.data.length - a) by unfold fillN; omega] at hgp
   have hgp2 : (f.data.drop a).take (min n (f.data.length - a)) = (f.data.drop a).take n := by
    rw [show min n (f.data.length - a) = min n (f.data.drop a).length by rw [List.length_drop], List.take_eq_take_min.symm]
   rw [hgp2] at hgp
   exact hgp
 have HGt := hid (iGet_st h hf (by omega))
 have HOp := hid (fun W D (hm : mapB W m c ino) (hp : Pc W c F 100 N Pg Cm D o (u + 2)) => iopen_good hm hp h.good hf (by omega))
 have HRd := hid (fun W p D (hm : mapB W m c ino) (hW : fileB W p m (f.S i f.data.length)) (hpF : ¬ F p) (hp : Pc W c F 100 N Pg Cm D o (u + 3)) => ifread_any a z hm h.mF hW hpF hok.len (by omega) (by omega) (by omega) (fun k _ hk => hok.lt (by omega) (dslot k)) hp)
 have HGp : Hid (partsL (f.S i f.data.length).slots a z Pg (upTo (a / 512) (fillN z)) = (f.data.drop a).take n) := hgp
 have HNl : Hid ((nodeC f.node).length = 15) := by unfold Hid nodeC; rw [List.length_append, List.length_map, (hok.node (by omega) h.good.n4).pages]; rfl
 have HN3 : Hid ((nodeC f.node)[3]? = some (.int .i64 f.data.length)) := rfl
 have HFl := hid h.lt
 have HGd := hid h.good
 have HFw := hid h.few
 have ha0 : ¬ ((a : Int) < 0) := by omega
 have hn0 : ¬ ((n : Int) < 0) := by omega
 obtain ⟨sz, hszd⟩ : ∃ sz, sz = f.data.length := ⟨_, rfl⟩
 rw [<- hszd] at HN3 ha hsz hz
 have hlt : ¬ ((sz : Int) <= (a : Int)) := by omega
 have hmn : min (n : Int) ((sz : Int) - (a : Int)) = ((min n (sz - a) : Nat) : Int) := by omega
 have hzz : (a : Int) + ((min n (sz - a) : Nat) : Int) = (z : Int) := by omega
 have hsz7 : (sz : Int) <= 70656 := by omega
 have hz7 : (z : Int) <= 70656 := by omega
 have HMn := hid hmn
 have HZz := hid hzz
 unfold nodeV at HGt HOp
 unfold gV at HOp
 clear h hf hok hnf hgp hz hmn hzz hszd
 have hnc1 := nodeC_one f.node
 generalize nodeC f.node = nc at *
 have HN1 := hid hnc1
 clear hnc1
 go_enter Tryz.func156, Tryz.ntmps156
 go_wp2_with fail
 refine HGt.out.mono ?_
 clear HGt
 rintro e w1 ⟨rfl, hk1, hs1⟩
 have c1 := hs1.store.cell
 have HS1 := hid hs1
 have HK1 := hid hk1
 clear hk1 hs1
 go_wp2_with (refine wpList_store_block rfl 153 (.tmp 10) (.tmp 16) rfl w1.heap.size nc.toArray rfl rfl _ _ (block_new w1 _) (by rw [List.size_toArray, HNl.out]; rfl) (by rw [List.size_toArray, HNl.out]; kernel_rfl) HN1.out ?_; intro w2 hg2 hb2 hz2; have c3 : w2.cell? ⟨w1.heap.size, 3, none⟩ = some (.int .i64 sz) := (by rw [cell_of_block hb2, List.getElem?_toArray]; exact HN3.out); have hb12 : Below w1.heap.size w1 w2 := ((Below.refl _ w1).alloc (Nat.le_refl _) _).grown hg2 (by simp) (fun k e => by cases e; exact Nat.le_refl _); have HB12 := hid hb12; have HR2 := hid hb2; clear hg2 hb2 hz2 hb12)
 have hs2 := HS1.out.below HB12.out
 have hbd : Below w2.heap.size w2 w2.drew := (Below.refl _ w2).drew
 have hs3 := hs2.below hbd
 have hr3 := below_block hbd HR2.out (lt_of_heap HR2.out)
 have d0 := hs3.store.cell
 have d3 := (hbd.cell (World.block_lt_of_cell? w2 _ c3)).trans c3
 have HBd := hid hbd
 have HS3 := hid hs3
 have HR3 := hid hr3
 obtain ⟨D, hp3⟩ := hs3.pc
 have HO3 := hid (HOp.out w2.drew D hs3.map hp3)
 clear hbd hs2 hs3 hp3 HOp c1 c3
 refine wp_region_noPanic ?_
 refine wp_region_held_drew (S := fun W => W.cell? ⟨s, 0, none⟩ = some (.pointer (some ⟨m, 0, none⟩)) /\ W.heap[w1.heap.size]? = some (.cells nc.toArray 153 (0, 0)) /\ W.cell? ⟨w1.heap.size, 3, none⟩ = some (.int .i64 sz)) (by kernel_rfl) ⟨d0, hr3, d3⟩ (fun hHeld => ?_)
 clear hr3
 generalize w2.drew = wd at *
 refine tq 0 _ ?_
 try simp only [tS]
 refine tq 1 _ ?_
 try simp only [tS]
 refine tq 2 _ ?_
 try simp only [tS]
 refine tq 3 _ ?_
 try simp only [tS]
 refine tq 4 _ ?_
 try simp only [tS]
 refine wpAnyH_take (i := 5) (v := .agg nc.toArray) rfl (by kernel_rfl) (by kernel_rfl) (by kernel_rfl) (fun _ _ _ h => h) (yieldsIf_load_mid (by rfl) 153 (.tmp 10) rfl w1.heap.size 0 rfl nc _ (fun W hW => by have := range_of_block hW.2.1; exact this) Tryz.underlying153 rfl (by rw [HNl.out]; kernel_rfl)) (by assumption) ?_
 try simp only [tS]
 refine tq 7 _ ?_
 try simp only [tS]
 refine tq 8 _ ?_
 try simp only [tS]
 refine tq 9 _ ?_
 try simp only [tS]
 refine tq 10 _ ?_
 try simp only [tS]
 refine tq 11 _ ?_
 try simp only [tS]
 refine tq 12 _ ?_
 try simp only [tS]
 have hw1 : IntKind.i64.wrap ((sz : Int) - (a : Int)) = (sz : Int) - (a : Int) := IntWalk.i64_in _ (by omega)
 refine tq 13 (.int .i64 ((sz : Int) - (a : Int))) ?_
 try simp only [tS]
 have hmn := HMn.out
 refine tq 14 (.int .i64 (min n (sz - a) : Nat)) ?_
 try simp only [tS]
 have hzz := HZz.out
 have hw2 : IntKind.i64.wrap (z : Int) = (z : Int) := IntWalk.i64_in _ (by omega)
 refine tq 15 (.int .i64 (z : Int)) ?_
 try simp only [tS]
 clear hw1 hmn hzz hw2
 refine tr 6 (fun K hK => ?_)
 go_simp
 refine HO3.out.mono ?_
 clear HO3
 rintro e w4 ⟨p, rfl, hp4, hf4, hk4, hq4⟩
 have hwl := HB12.out.size
 have hwk := HK1.out.size
 have hwd := HBd.out.size
 have kw4 : Keeps F w w4 := ((HK1.out.trans (Keeps.of_below HB12.out : Keeps F w1 w2) (fun i e => .inl e)).trans (Keeps.of_below HBd.out : Keeps F w2 wd) (fun i e => .inl e)).trans hk4 (fun i e => .inl e)
 have hnF : ∀ j, w.heap.size <= j -> ¬ F j := fun j hj hh => by have := HFl.out j hh; omega
 have HP4 := hid (HRd.out w4 p D (HS3.out.map.keep hk4 HS3.out.mF) hf4 (hnF p (by omega)) hq4)
 have hst4 := HS3.out.store.keep hk4 HS3.out.sF
 have e0 := hst4.cell
 have r4 := hk4.heap HR3.out (hnF _ (by omega))
 have e3 := hk4.cell d3 (hnF _ (by omega))
 have HST4 : Hid (mapB w4 m c ino /\ storeB w4 s m) := ⟨HS3.out.map.keep hk4 HS3.out.mF, hst4⟩
 have HR4 := hid r4
 have HK4 := hid kw4
 have HNF := hid hnF
 clear hf4 hk4 hq4 kw4 hst4 hnF HRd HR3 d0 d3
 go_wp2_with fail
 refine hK.out _ _ ⟨e0, r4, e3⟩ (fun hHeld => ?_)
 clear hK K r4
 try simp only [tS]
 refine tr 16 (fun K hK => ?_)
 go_simp
 refine HP4.out.mono ?_
 clear HP4
 rintro e w5 ⟨v, rfl, hr5, hk5, hp5⟩
 have r5 := hk5.heap HR4.out (HNF.out _ (by omega))
 have g3 := hk5.cell e3 (HNF.out _ (by omega))
 have hst5 : St w5 s m c F N ino Pg Cm fs o (u + 141) := ⟨HST4.out.1.keep hk5 HS3.out.mF, HST4.out.2.keep hk5 HS3.out.sF, HS3.out.mF, HS3.out.sF, HFw.out, ⟨D, hp5⟩, HGd.out⟩
 have g0 := hst5.store.cell
 have HST5 := hid hst5
 rw [HGp.out] at hr5
 have HR5 := hid (rowY.down (b' := w.heap.size) hr5 HK4.out.size)
 have HK5 : Hid (Keeps F w w5) := HK4.out.trans hk5 (fun i e => .inl e)
 clear hr5 hk5 hst5 e0 e3 hp5
 go_wp2_with fail
 refine hK.out _ _ ⟨g0, r5, g3⟩ (fun hHeld => ?_)
 clear hK K
 try simp only [tS]
 refine tq 17 _ ?_
 try simp only [tS]
 refine tq 18 _ ?_
 try simp only [tS]
 refine wpAnyH_done (by kernel_rfl) ?_ _
 refine NoPanic.normal ?_
 clear hHeld
 go_wp2_with fail
 go_returns
 exact ⟨v, rfl, HR5.out, HK5.out, HST5.out⟩
end
end
section
open Go.RowKit
end
section
open Go.RowKit
section
variable {w w' : World} {s m c ino : Nat} {F : Nat -> Prop} {N : Nat} {Pg Cm : Nat -> List UInt8} {fs : Nat -> Option FileA} {o u : Nat} {i : Nat} {f : FileA}
theorem rowY.in_ {base : Nat} {v : Value} {xs : List UInt8} (h : rowY w base v xs) : ∃ ad cp, v = .slice ad xs.length cp /\ bytesIn w ad xs := by
 rcases h.2 with ⟨e, h0⟩ | ⟨g0, cap0, cur, e, h1, h2, h3, h4, h5, h6⟩
 ·exact ⟨none, 0, by rw [e, h0], fun j hj => by omega⟩
 ·refine ⟨some ⟨g0, 0, none⟩, cap0, e, fun j hj => ⟨g0, 0, rfl, fun i hi => ?_⟩⟩
  rw [cell_of_block h2, Nat.zero_add]
  have h7 : (cur.toList.take (xs.length * 1))[i]? = (xs.map U8)[i]? := by rw [h6]
  rw [List.getElem?_take_of_lt (by omega), List.getElem?_map, List.getElem?_eq_getElem hi] at h7
  rw [<- Array.getElem?_toList, h7]
  rfl
end
end
section
set_option maxRecDepth 100000
open Go.RowKit
theorem rowY.bytes {w : World} {base : Nat} {ad : Option Addr} {n cp : Nat} {xs : List UInt8} (h : rowY w base (.slice ad n cp) xs) : bytesIn w ad xs := by
 obtain ⟨ad', cp', e, hb⟩ := rowY.in_ h
 simp only [Value.slice.injEq] at e
 rw [e.1]; exact hb
section
variable {w w' : World} {s m c ino : Nat} {F : Nat -> Prop} {N : Nat} {Pg Cm : Nat -> List UInt8} {fs : Nat -> Option FileA} {o u : Nat} {i : Nat} {f : FileA}
theorem iRead_neg (h : St w s m c F N ino Pg Cm fs o u) (hf : fs i = some f) (hu : u < 900000) (a n : Int) (ha : a < 0 \/ (¬ a < 0 /\ n < 0)) :
  Calls Tryz.prog 156 #[.pointer (some ⟨s, 0, none⟩), .int .i64 i, .int .i64 a, .int .i64 n] w fun e w' => e = .returned (.tuple #[.slice none 0 0, .int .i64 2]) /\ Keeps F w w' /\ St w' s m c F N ino Pg Cm fs o (u + 2) := by
 have HGt := hid (iGet_st h hf (by omega))
 have hok := h.good.file i f hf
 have hnf := h.good.nf
 have HNl : Hid ((nodeC f.node).length = 15) := by unfold Hid nodeC; rw [List.length_append, List.length_map, (hok.node (by omega) h.good.n4).pages]; rfl
 unfold nodeV at HGt
 clear h hf hok hnf
 have hnc1 := nodeC_one f.node
 generalize nodeC f.node = nc at *
 have HN1 := hid hnc1
 clear hnc1
 go_enter Tryz.func156, Tryz.ntmps156
 go_wp2_with fail
 refine HGt.out.mono ?_
 clear HGt
 rintro e w1 ⟨rfl, hk1, hs1⟩
 have HS1 := hid hs1
 have HK1 := hid hk1
 clear hk1 hs1
 rcases ha with ha | ⟨ha, hn⟩
 ·go_wp2_with (refine wpList_store_block rfl 153 (.tmp 10) (.tmp 16) rfl w1.heap.size nc.toArray rfl rfl _ _ (block_new w1 _) (by rw [List.size_toArray, HNl.out]; rfl) (by rw [List.size_toArray, HNl.out]; kernel_rfl) HN1.out ?_; intro w2 hg2 hb2 hz2; have hb12 : Below w1.heap.size w1 w2 := ((Below.refl _ w1).alloc (Nat.le_refl _) _).grown hg2 (by simp) (fun k e => by cases e; exact Nat.le_refl _); have HB12 := hid hb12; clear hg2 hb2 hz2 hb12)
  go_returns
  exact ⟨rfl, HK1.out.trans (Keeps.of_below HB12.out : Keeps F w1 w2) (fun i e => .inl e), HS1.out.below HB12.out⟩
 ·go_wp2_with (refine wpList_store_block rfl 153 (.tmp 10) (.tmp 16) rfl w1.heap.size nc.toArray rfl rfl _ _ (block_new w1 _) (by rw [List.size_toArray, HNl.out]; rfl) (by rw [List.size_toArray, HNl.out]; kernel_rfl) HN1.out ?_; intro w2 hg2 hb2 hz2; have hb12 : Below w1.heap.size w1 w2 := ((Below.refl _ w1).alloc (Nat.le_refl _) _).grown hg2 (by simp) (fun k e => by cases e; exact Nat.le_refl _); have HB12 := hid hb12; clear hg2 hb2 hz2 hb12)
  go_returns
  exact ⟨rfl, HK1.out.trans (Keeps.of_below HB12.out : Keeps F w1 w2) (fun i e => .inl e), HS1.out.below HB12.out⟩
theorem iRead_any (h : St w s m c F N ino Pg Cm fs o u) (hf : fs i = some f) (hu : u < 900000) (a n : Int) :
  Calls Tryz.prog 156 #[.pointer (some ⟨s, 0, none⟩), .int .i64 i, .int .i64 a, .int .i64 n] w fun e w' => ∃ (v : Value) (r : Int) (l : List UInt8), e = .returned (.tuple #[v, .int .i64 r]) /\ rowY w' w.heap.size v l /\ Keeps F w w' /\ St w' s m c F N ino Pg Cm fs o (u + 141) /\ (((a < 0 \/ n < 0) /\ r = 2 /\ l = []) \/ (0 <= a /\ 0 <= n /\ r = 0 /\ l = (f.data.drop a.toNat).take n.toNat)) := by
 by_cases h1 : a < 0 \/ (¬ a < 0 /\ n < 0)
 ·refine (iRead_neg h hf hu a n h1).mono ?_
  rintro e w' ⟨rfl, hk, hst⟩
  exact ⟨_, 2, [], rfl, World.ownsRow_nil _ _ _ _, hk, hst.more (by omega), .inl ⟨by omega, rfl, rfl⟩⟩
 ·obtain ⟨an, rfl⟩ : ∃ an : Nat, a = (an : Int) := ⟨a.toNat, by omega⟩
  obtain ⟨nn, rfl⟩ : ∃ nn : Nat, n = (nn : Int) := ⟨n.toNat, by omega⟩
  by_cases h0 : f.data.length <= an
  ·refine (iRead_none h hf hu an nn h0).mono ?_
   rintro e w' ⟨rfl, hk, hst⟩
   refine ⟨_, 0, [], rfl, World.ownsRow_nil _ _ _ _, hk, hst.more (by omega), .inr ⟨by omega, by omega, rfl, ?_⟩⟩
   show [] = (f.data.drop an).take nn
   rw [List.drop_eq_nil_of_le h0, List.take_nil]
  ·refine (iRead_st h hf hu an nn (by omega)).mono ?_
   rintro e w' ⟨v, rfl, hr, hk, hst⟩
   exact ⟨v, 0, _, rfl, hr, hk, hst, .inr ⟨by omega, by omega, rfl, rfl⟩⟩
end
end
end Go.Proofs.YtehkeadpgedolaaGreatDoor
