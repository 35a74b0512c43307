/- Cached: the pages in the cache, the one that was used longest ago first. -/
import Derived.Test.YtjgclmlclkfgpaaGreatBCmp
import Derived.Test.YtjgclmlclkfgpaaGreatSortF
import Derived.Sort.OwnSortedInts
import Derived.Shelf.SlSortCmp.Whole1
namespace Go.Proofs.YtjgclmlclkfgpaaGreat
open Go.RowKit Go.Maps Go.Sort Go.Shelf
set_option maxRecDepth 100000 in
theorem bitsLen64_zero (w : World) : Calls Tryz.prog 149 #[.int .u64 0] w fun e w' => e = .returned (.int .i64 0) ∧ w' = w := by
  go_enter Tryz.func149, Tryz.ntmps149
  go_wp2
  go_ret
  exact ⟨by kernel_rfl, rfl⟩
set_option maxRecDepth 100000 in
theorem bitsLen_zero (w : World) : Calls Tryz.prog 125 #[.int .u64 0] w fun e w' => e = .returned (.int .i64 0) ∧ w' = w := by
  have HL := hid (bitsLen64_zero w)
  go_enter Tryz.func125, Tryz.ntmps125
  go_wp2_with fail
  refine HL.out.mono ?_
  rintro e w' ⟨rfl, rfl⟩
  go_wp2
  go_ret
  exact ⟨rfl, rfl⟩
set_option maxRecDepth 100000 in
theorem insF_zero (v f : Value) (w : World) : Calls Tryz.prog 153 #[v, .int .i64 0, .int .i64 0, f] w fun e w' => e = .returned (.tuple #[]) ∧ w' = w := by
  go_enter Tryz.func153, Tryz.ntmps153
  go_wp2
  go_loopw [8] (fun i wr => i = .int .i64 1 ∧ wr = w) (fun _ _ => 0)
  case atStart => exact ⟨rfl, rfl⟩
  case round =>
    obtain ⟨rfl, rfl⟩ := hrel
    go_wp2
    go_end0
    exact ⟨rfl, rfl⟩
set_option maxRecDepth 100000 in
theorem pdqF_zero (v f : Value) (w : World) : Calls Tryz.prog 138 #[v, .int .i64 0, .int .i64 0, .int .i64 0, f] w fun e w' => e = .returned (.tuple #[]) ∧ w' = w := by
  have HI := hid (insF_zero v f w)
  go_enter Tryz.func138, Tryz.ntmps138
  go_wp2
  go_loopw [1, 2, 3] (fun a b c wr => a = .int .i64 0 ∧ b = .int .i64 0 ∧ wr = w) (fun _ _ _ _ => 0)
  case atStart => exact ⟨rfl, rfl, rfl⟩
  case round =>
    obtain ⟨rfl, rfl, rfl⟩ := hrel
    go_wp2_with fail
    refine HI.out.mono ?_
    rintro e w' ⟨rfl, rfl⟩
    go_wp2
    refine bodyPost_ret (results_none rfl _ _ _) rfl ?_
    exact ⟨rfl, rfl⟩
set_option maxRecDepth 100000 in
theorem sortFuncI_zero (a : Option Addr) (c : Nat) (f : Value) (w : World) : Calls Tryz.prog 120 #[.slice a 0 c, f] w fun e w' => e = .returned (.tuple #[]) ∧ w' = w := by
  have HL := hid (bitsLen_zero w)
  have HP := hid (pdqF_zero (.slice a 0 c) f w)
  go_enter Tryz.func120, Tryz.ntmps120
  go_wp2_with fail
  refine HL.out.mono ?_
  rintro e w' ⟨rfl, rfl⟩
  go_wp2_with fail
  refine HP.out.mono ?_
  rintro e w' ⟨rfl, rfl⟩
  go_wp2
  go_end0
  exact ⟨rfl, rfl⟩
theorem putRow_encN (w : World) (blk off : Nat) (d : Array Nat) : putRow encN w blk off d = putRow (Value.int .i64) w blk off (d.map kz) := by
  unfold putRow
  congr 1
  funext c
  unfold putCells
  refine Array.ext (by simp) (fun k h1 h2 => ?_)
  simp only [Array.getElem_mapIdx, Array.size_map]
  split
  · rename_i h
    rw [getElem!_pos d _ (by omega), getElem!_pos (d.map kz) _ (by simp; omega), Array.getElem_map]
    rfl
  · rfl
def cfU (u : Int → Option Nat) (x y : Nat) : Int := cmpZ (uOf u (kz x)) (uOf u (kz y))
theorem lt_cfU (u : Int → Option Nat) (x y : Nat) : ltOf (cfU u) x y = decide (uOf u (kz x) < uOf u (kz y)) := by
  unfold ltOf cfU cmpZ
  by_cases h1 : uOf u (kz x) < uOf u (kz y)
  · simp [h1]
  · by_cases h2 : uOf u (kz y) < uOf u (kz x) <;> simp [h1, h2]
theorem swo_cfU (u : Int → Option Nat) : SWO (ltOf (cfU u)) where
  irrefl x := by rw [lt_cfU]; simp
  trans x y z h1 h2 := by rw [lt_cfU] at *; simp at *; omega
  ntrans x y z h1 h2 := by rw [lt_cfU] at *; simp at *; omega
theorem kz_of {x : Int} (h0 : 0 ≤ x) (h1 : x < 4096) : kz x.toNat = x := by unfold kz; omega
theorem cmp_reads {W : World} {g rb c um N size : Nat} {D : DataW Value} {u : Int → Option Nat} (h0 : W.cell? ⟨rb, 0, none⟩ = some (.pointer (some ⟨c, 2, none⟩))) (h4 : W.cell? ⟨c, 4, none⟩ = some (.map (some um))) (hm : GrpIn W um 4096 D N (usedV u)) (hr : rb ≠ g) (hc : c ≠ g) (hu : um ≠ g) :
    CmpReads Tryz.prog 85 #[.pointer (some ⟨rb, 0, none⟩)] encN (cfU u) g 0 size W := fun m os dk _ x y => by
  have hgr : W.grownBy (sortWorld encN W g 0 m dk os) (some g) := by unfold sortWorld; rw [putRow_encN]; exact grownBy_sortedI _
  have hK : Keeps (fun i => i = g) W (sortWorld encN W g 0 m dk os) := (Keeps.refl _ _).grown hgr (fun i e => .inl (Option.some.inj e).symm)
  exact inOrder1_any x y rb c um N D u _ (hK.cell h0 hr) (hK.cell h4 hc) (hm.keep hK hu)
/-- What is told: these numbers, each page's use at most that of the next one. -/
def RiseU (u : Int → Option Nat) (ts : List Int) : Prop := ts.Pairwise (fun a b => uOf u a ≤ uOf u b)
theorem sortFunc_any (u : Int → Option Nat) (ss : List Int) (v : Value) (lo : Nat) (rb c um N : Nat) (D : DataW Value) (W : World) (hrow : W.ownsRow lo 3 1 v ss.length (ss.map encZ)) (hdom : ∀ x ∈ ss, 0 ≤ x ∧ x < 4096) (hlen : ss.length ≤ 4096)
    (h0 : W.cell? ⟨rb, 0, none⟩ = some (.pointer (some ⟨c, 2, none⟩))) (h4 : W.cell? ⟨c, 4, none⟩ = some (.map (some um))) (hm : GrpIn W um 4096 D N (usedV u)) (hr : rb < lo) (hc : c < lo) (hu : um < lo) :
    Calls Tryz.prog 120 #[v, .func (.func 85) #[] #[.pointer (some ⟨rb, 0, none⟩)]] W fun e w' => e = .returned (.tuple #[]) ∧ ∃ ts, ts.Perm ss ∧ RiseU u ts ∧ w'.ownsRow lo 3 1 v ts.length (ts.map encZ) ∧ Below lo W w' := by
  by_cases hn : ss = []
  · subst hn
    obtain ⟨p, cap, rfl⟩ : ∃ p cap, v = .slice p 0 cap := by
      rcases hrow.2 with ⟨rfl, _⟩ | ⟨g, cap, cur, rfl, _⟩
      · exact ⟨none, 0, rfl⟩
      · exact ⟨_, cap, rfl⟩
    have hcon := sortFuncI_zero p cap (.func (.func 85) #[] #[.pointer (some ⟨rb, 0, none⟩)]) W
    refine hcon.mono ?_
    rintro e w' ⟨rfl, rfl⟩
    exact ⟨rfl, [], .nil, List.Pairwise.nil, hrow, Below.refl _ _⟩
  · have hpos : 0 < ss.length := List.length_pos_iff.2 hn
    rcases hrow.2 with ⟨rfl, h⟩ | ⟨g, cap, cur, rfl, hg, hb, h1, h2, h3, h5⟩
    · omega
    have hglt : g < W.heap.size := (Array.getElem?_eq_some_iff.1 hb).1
    have hd0 := holds_of_blockI (ss := ss) hb (by rw [Nat.mul_one] at h5; exact h5)
    have hH : Holds encN W g 0 (ss.map Int.toNat).toArray := by
      intro j hj
      have hj' : j < ss.length := by simpa using hj
      obtain ⟨e1, e2⟩ := hd0 j (by simpa using hj')
      refine ⟨?_, e2⟩
      rw [e1, getElem!_pos _ j (by simpa using hj'), getElem!_pos _ j (by simpa using hj')]
      simp only [List.getElem_toArray, List.getElem_map, encN]
      obtain ⟨k0, k1⟩ := hdom ss[j] (List.getElem_mem hj')
      rw [kz_of k0 k1]
    have hcon := Any.slices_SortFunc Tryz.sortF encN (fun _ => rfl) (cfU u) (swo_cfU u) 85 #[.pointer (some ⟨rb, 0, none⟩)] g 0 cap (ss.map Int.toNat).toArray W (enters_of Tryz.func85 (by kernel_rfl) rfl) (cmp_reads h0 h4 hm (by omega) (by omega) (by omega)).lays hH hglt (by simp; omega)
    change Calls Tryz.prog 120 _ _ _ at hcon
    have hsz : (ss.map Int.toNat).toArray.size = ss.length := by simp
    rw [hsz] at hcon
    refine hcon.mono ?_
    rintro e w' ⟨rfl, d', n, os, hp, hs, rfl⟩
    obtain ⟨p1, -, p3⟩ := hp
    have hl' : d'.size = ss.length := by rw [p1, hsz]
    have hperm : (d'.toList.map kz).Perm ss := by
      have p4 : d'.toList.Perm (ss.map Int.toNat) := by
        have e1 : d'.extract 0 ss.length = d' := by rw [← hl']; exact Array.extract_size
        have e2 : ((ss.map Int.toNat).toArray).extract 0 ss.length = (ss.map Int.toNat).toArray := by rw [← hsz]; exact Array.extract_size
        rw [e1, e2] at p3
        exact p3
      have p5 := p4.map kz
      have e3 : (ss.map Int.toNat).map kz = ss := by
        rw [List.map_map]
        conv => rhs; rw [← List.map_id ss]
        exact List.map_congr_left (fun x hx => kz_of (hdom x hx).1 (hdom x hx).2)
      rwa [e3] at p5
    have hlt : (d'.toList.map kz).length = ss.length := hperm.length_eq
    refine ⟨rfl, d'.toList.map kz, hperm, ?_, ?_, ?_⟩
    · refine List.pairwise_iff_getElem.2 (fun i j hi hj hij => ?_)
      have hi' : i < d'.size := by simpa using hi
      have hj' : j < d'.size := by simpa using hj
      have := hs i j (Nat.zero_le _) hij (by omega)
      rw [lt_cfU, getElem!_pos d' j hj', getElem!_pos d' i hi'] at this
      simp only [List.getElem_map, Array.getElem_toList]
      simpa using this
    · unfold sortWorld
      rw [putRow_encN, hlt]
      have e4 : d'.map kz = (d'.toList.map kz).toArray := by rw [← Array.toList_map]
      rw [e4]
      exact ownsRow_sortedI hlt hg hb h1 h2 h3
    · unfold sortWorld
      rw [putRow_encN]
      exact below_of_row (grownBy_sortedI _) (by omega) (fun i e => by have := Option.some.inj e; omega)
set_option maxRecDepth 100000 in
theorem sortedFunc_any (lb : Array Value) (u : Int → Option Nat) (D : DataW Value) (rb c um N : Nat) (W : World) (hseq : SeqGives Fence.wide 2 Tryz.prog 121 lb encZ (fun ss => ss.Perm (intKeys D)) (Maps.size D) W) (hdom : ∀ x ∈ intKeys D, 0 ≤ x ∧ x < 4096) (hl : (intKeys D).length ≤ 4096) (hs : Maps.size D ≤ 4096)
    (h0 : W.cell? ⟨rb, 0, none⟩ = some (.pointer (some ⟨c, 2, none⟩))) (h4 : W.cell? ⟨c, 4, none⟩ = some (.map (some um))) (hm : GrpIn W um 4096 D N (usedV u)) (hu : um < W.heap.size) :
    Calls Tryz.prog 83 #[.func (.func 121) #[] lb, .func (.func 85) #[] #[.pointer (some ⟨rb, 0, none⟩)]] W fun e w' => ∃ v ts, e = .returned v ∧ ts.Perm (intKeys D) ∧ RiseU u ts ∧ w'.ownsRow W.heap.size 3 1 v ts.length (ts.map encZ) ∧ Below W.heap.size W w' := by
  have cC := AnyZI.collect_in { Tryz.sortedA with } Fence.wide 4 trivial trivial rfl (by omega) 121 lb trivial (enters_of Tryz.func121 (by kernel_rfl) rfl) _ _ (by unfold maxLen; omega) (by omega) _ hseq
  have hC := callsIn_wide.1 cC
  change Calls Tryz.prog 87 _ _ _ at hC
  have HC := hid hC
  have H0 := hid (And.intro h0 (And.intro h4 hm))
  have hr : rb < W.heap.size := World.block_lt_of_cell? W _ h0
  have hcl : c < W.heap.size := World.block_lt_of_cell? W _ h4
  clear cC hC hseq h0 h4 hm
  go_enter Tryz.func83, Tryz.ntmps83
  go_wp2_with fail
  refine HC.out.mono ?_
  clear HC
  rintro e w1 ⟨v, ss, rfl, hS, hrow, hnil, hb⟩
  have hsl : ss.length ≤ 4096 := by rw [hS.length_eq]; exact hl
  have HSo := hid (sortFunc_any u ss v W.heap.size rb c um N D w1 hrow (fun x hx => hdom x (hS.mem_iff.1 hx)) hsl ((hb.cell (p := ⟨rb, 0, none⟩) hr).trans H0.out.1) ((hb.cell (p := ⟨c, 4, none⟩) hcl).trans H0.out.2.1) (H0.out.2.2.below hb) hr hcl hu)
  have HB := hid hb
  have HP := hid hS
  clear hrow hnil hb hS H0
  go_wp2_with fail
  refine HSo.out.mono ?_
  clear HSo
  rintro e w2 ⟨rfl, ts, hp, hrise, hrow, hb2⟩
  have HE : Hid (ts.Perm (intKeys D) ∧ RiseU u ts ∧ w2.ownsRow W.heap.size 3 1 v ts.length (ts.map encZ) ∧ Below W.heap.size W w2) := ⟨hp.trans HP.out, hrise, hrow, HB.out.trans hb2⟩
  clear hp hrise hrow hb2
  go_wp2
  go_ret
  exact ⟨v, ts, rfl, HE.out⟩
section
variable {c : Nat} {L : CLay} {C : CS}
theorem CacheAt.usedKeys {w : World} (h : CacheAt w c L C) : (∀ x ∈ intKeys L.Du, 0 ≤ x ∧ x < 4096) ∧ (intKeys L.Du).length ≤ 4096 ∧ (grpKeys (usedV C.used) C.N).Perm (intKeys L.Du) := by
  have hp := h.used.perm
  have hN := h.pagesLe
  refine ⟨fun x hx => ?_, ?_, hp⟩
  · have := mem_grpKeys.1 (hp.mem_iff.2 hx)
    omega
  · rw [← hp.length_eq]
    unfold grpKeys
    refine Nat.le_trans (List.length_filter_le _ _) ?_
    simpa using hN
set_option maxRecDepth 100000 in
set_option maxHeartbeats 1000000 in
theorem binOrder_any (w : World) (h : CacheAt w c L C) :
    Calls Tryz.prog 47 #[.pointer (some ⟨c, 2, none⟩)] w fun e w' => ∃ v ts, e = .returned v ∧ ts.Perm (grpKeys (usedV C.used) C.N) ∧ RiseU C.used ts ∧ w'.ownsRow w.heap.size 3 1 v ts.length (ts.map encZ) ∧ Below w.heap.size w w' := by
  obtain ⟨-, -, -, -, c4⟩ := h.cells
  have hcl := lt_of_heap h.heap
  obtain ⟨k1, k2, k3⟩ := h.usedKeys
  obtain ⟨wA, hA⟩ : ∃ wA, wA = w.alloc (.cells #[.pointer (some ⟨c, 2, none⟩)] 133) := ⟨_, rfl⟩
  have hbA : Below w.heap.size w wA := by rw [hA]; exact (Below.refl _ w).alloc (Nat.le_refl _) _
  have hown := (h.below hbA).used.mapOwn
  have hbl := hown.lt
  have hsz := hown.size_le
  have hseq : SeqGives Fence.wide 2 Tryz.prog 121 #[.pointer (some ⟨wA.heap.size, 0, none⟩)] encZ (fun ss => ss.Perm (intKeys L.Du)) (Maps.size L.Du) (wA.alloc (.cells #[.map (some L.um)] 81)) :=
    AnyZI.keys_gives (ρ := Tryz.keysU_ren) { Tryz.keysU with } Fence.wide _ trivial rfl (by omega) wA.heap.size L.um 4096 L.Du _ (by simp) (by simp) (by
      obtain ⟨es, clock, hb, Ft, hs, hD⟩ := hown
      exact ⟨es, clock, (Below.heap_alloc _ _ L.um hbl).trans hb, Ft, hs, hD⟩)
  have cK : ∀ mb W, Calls Tryz.prog 84 #[.map mb] W fun e w' => e = .returned (.func (.func 121) #[] #[.pointer (some ⟨W.heap.size, 0, none⟩)]) ∧ w' = W.alloc (.cells #[.map mb] 81) := fun mb W => callsIn_wide.1 (AnyZI.keys_in Tryz.keysU Fence.wide 5 trivial rfl mb W)
  have HK := hid cK
  have cA : wA.cell? ⟨w.heap.size, 0, none⟩ = some (.pointer (some ⟨c, 2, none⟩)) := by rw [hA]; exact cell_of_block (block_new w _) 0
  have cc : wA.cell? ⟨c, 4, none⟩ = some (.map (some L.um)) := (hbA.cell (p := ⟨c, 4, none⟩) hcl).trans c4
  have hbB : Below wA.heap.size wA (wA.alloc (.cells #[.map (some L.um)] 81)) := (Below.refl _ wA).alloc (Nat.le_refl _) _
  have hbW : Below w.heap.size w (wA.alloc (.cells #[.map (some L.um)] 81)) := hbA.trans (hbB.mono hbA.size)
  have HS := hid (sortedFunc_any #[.pointer (some ⟨wA.heap.size, 0, none⟩)] C.used L.Du w.heap.size c L.um C.N _ hseq k1 k2 hsz ((hbB.cell (p := ⟨w.heap.size, 0, none⟩) (World.block_lt_of_cell? wA _ cA)).trans cA) ((hbB.cell (p := ⟨c, 4, none⟩) (World.block_lt_of_cell? wA _ cc)).trans cc) (h.below hbW).used (Nat.lt_of_lt_of_le hbl hbB.size))
  have HB := hid hbA
  have HA := hid hA
  have HBW := hid hbW
  have HP := hid k3
  clear h hown hbl hsz hseq cK hbA hbB hbW k1 k2 k3
  go_enter Tryz.func47, Tryz.ntmps47
  go_upto_region 1 with (fail)
  rw [← hA]
  clear hA
  go_wp2_with fail
  refine (HK.out _ _).mono ?_
  rintro e w1 ⟨rfl, rfl⟩
  go_wp2_with fail
  refine HS.out.mono ?_
  clear HS
  rintro e w2 ⟨v, ts, rfl, hp, hrise, hrow, hb⟩
  have HE : Hid (ts.Perm (grpKeys (usedV C.used) C.N) ∧ RiseU C.used ts ∧ w2.ownsRow w.heap.size 3 1 v ts.length (ts.map encZ) ∧ Below w.heap.size w w2) := ⟨hp.trans HP.out.symm, hrise, World.ownsRow.mono hrow HBW.out.size, HBW.out.trans (hb.mono HBW.out.size)⟩
  clear hp hrise hrow hb
  go_wp2
  go_ret
  exact ⟨v, ts, rfl, HE.out⟩
set_option maxRecDepth 100000 in
/-- Cached. -/
theorem bcached_any (w : World) (h : CacheAt w c L C) :
    Calls Tryz.prog 11 #[.pointer (some ⟨c, 0, none⟩)] w fun e w' => ∃ v ts, e = .returned v ∧ ts.Perm (grpKeys (usedV C.used) C.N) ∧ RiseU C.used ts ∧ w'.ownsRow w.heap.size 3 1 v ts.length (ts.map encZ) ∧ Below w.heap.size w w' := by
  have HI := hid (binOrder_any w h)
  clear h
  go_enter Tryz.func11, Tryz.ntmps11
  go_wp2_with fail
  refine HI.out.mono ?_
  clear HI
  rintro e w1 ⟨v, ts, rfl, hE⟩
  have HE := hid hE
  clear hE
  go_wp2
  go_ret
  exact ⟨v, ts, rfl, HE.out⟩
end
end Go.Proofs.YtjgclmlclkfgpaaGreat
