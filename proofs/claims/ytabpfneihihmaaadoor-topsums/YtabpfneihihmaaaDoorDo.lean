/- plates.do at a write: the sector's writes that wait are one more. -/
import Derived.Test.YtabpfneihihmaaaDoorState
import Derived.Test.YtabpfneihihmaaaDoorRepeat
namespace Go.Proofs.YtabpfneihihmaaaDoor
open Go.RowKit Go.Maps
theorem wp_lookup_run {P : Program} {w : World} {o : Oper} {a : Act} {K : Act → World → Prop} {Q : Exit → Act → World → Prop} (m x : Operand) (t : TypeId) (hop : o.op = Op.lookup t m x false) (M k v : Value) (hm : a.eval m = M) (hx : a.eval x = k)
    (hrun : (Instr.lookup t M k false).run P w = .ok v w) (h : K (a.put o.dst v) w) : o.wp P a w K Q := by
  unfold Oper.wp
  simp [execOp, hop, hm, hx, hrun, Result.andThen]
  exact h
theorem wp_mapUpdate_self {P : Program} {w : World} {o : Oper} {a : Act} {K : Act → World → Prop} {Q : Exit → Act → World → Prop} (m x v : Operand) (t : TypeId) (hop : o.op = Op.mapUpdate t m x v) (k e : TypeId) (KK : Keyed P k) (ht : P.underlying t = some (.map k e)) (b n : Nat) (D : DataW Value)
    (hm : a.eval m = .map (some b)) (hown : w.ownsMap P k selfElem b n D) (hn : n < maxLen) (key val : Value) (kl : Lit) (hx : a.eval x = key) (hv : a.eval v = val) (hkey : keyOf P k key = some kl)
    (h : ∀ w', w'.ownsMap P k selfElem b (n + 1) (D.put kl (.held val)) → w.grownBy w' (some b) → K (a.put o.dst undef) w') : o.wp P a w K Q := by
  obtain ⟨w', hrun, r1, r2⟩ := hown.update KK ht hn hkey (val := val) (d := .held val) (ps := []) rfl
  unfold Oper.wp
  simp [execOp, hop, hm, hx, hv, hrun, Result.andThen]
  exact h w' r1 r2
theorem assert_write (W : World) (v : Value) : (Instr.typeAssert (.iface 52 v) 81 52 true).run Tryd.prog W = .ok (.tuple #[v, .bool true]) W := by kernel_rfl
set_option maxRecDepth 100000 in
set_option maxHeartbeats 1000000 in
theorem do_write (p : Nat) (fv ov : Value) (L : PL) (safe : List ByteArray) (waits : Int → List ByteArray) (B : Nat) (n : Int) (s : ByteArray) (w : World)
    (hp : w.heap[p]? = some (.cells #[fv, ov, .slice (some ⟨L.g, 0, none⟩) safe.length L.cap, .map (some L.m)] 49 (0, 0))) (h : PlatesIn w L safe waits B) (hB : B < opsMax) (h0 : 0 ≤ n) (h1 : n < safe.length) :
    Calls Tryd.prog 30 #[.pointer (some ⟨p, 2, none⟩), .iface 52 (.agg #[.int .i64 n, .string s])] w fun e w' => e = .returned (.tuple #[]) ∧
      ∃ L', PlatesIn w' L' safe (upd waits n (waits n ++ [s])) (B + 1) ∧ L'.g = L.g ∧ L'.cap = L.cap ∧ L'.m = L.m ∧ (∀ i, L'.foot (upd waits n (waits n ++ [s])) i → L.foot waits i ∨ w.heap.size ≤ i) ∧ Keeps (L.foot waits) w w' := by
  have c3 : w.cell? ⟨p, 3, none⟩ = some (.map (some L.m)) := by rw [cell_of_block hp]; rfl
  go_enter Tryd.func30, Tryd.ntmps30
  have hta := assert_write
  have HP := hid hp
  have H := hid h
  clear hp h
  go_wp2
  obtain ⟨i0, hi, hz0, hz1, hz2⟩ := info_parts infoS
  have HI := hid hi
  clear hi
  obtain ⟨n1, n2, n3, n4⟩ := new2 w (.cells #[.int .i64 n, .string s] 52) (.cells #[.string s] 39)
  have HN1 := hid n1
  have HN2 := hid n2
  have HN3 := hid n3
  have HN4 := hid n4
  have HR := hid (((H.out.rowOwn n).alloc (.cells #[.int .i64 n, .string s] 52)).alloc (.cells #[.string s] 39))
  have HL := hid (opsMax_len (Nat.lt_of_le_of_lt (H.out.len n) hB))
  have HNP := hid (H.out.foot_other HP.out (by decide))
  have HNX : Hid (¬ L.foot waits w.heap.size) := fun hf => absurd (H.out.foot_lt hf) (Nat.lt_irrefl _)
  have HPM : Hid (p ≠ L.m) := fun e => HNP.out (.inr (.inl e))
  have HXM : Hid (w.heap.size ≠ L.m) := fun e => HNX.out (.inr (.inl e))
  clear n1 n2 n3 n4
  have hz : p ≠ w.heap.size := fun e => by have := lt_of_heap HP.out; omega
  refine wp_region_noPanic ?_
  refine wp_region_held_drew (S := fun W => W.cell? ⟨p, 3, none⟩ = some (.map (some L.m)) ∧ W.cell? ⟨w.heap.size, 0, none⟩ = some (.int .i64 n) ∧ W.cell? ⟨w.heap.size, 1, none⟩ = some (.string s)) (by kernel_rfl) ?_ (fun hHeld => ?_)
  · refine ⟨?_, ?_, ?_⟩
    · exact (cell_of_block (block_alloc HP.out _) 3)
    · exact (cell_of_block (block_new w _) 0)
    · exact (cell_of_block (block_new w _) 1)
  refine wpAnyH_take (i := 0) (v := ?_) rfl (by kernel_rfl) (by kernel_rfl) (by kernel_rfl) (fun _ _ _ h => h) (Or.inl ⟨by rfl, ?_⟩) (by assumption) ?_
  rotate_left
  · (intro W hSw; (try dsimp only at hSw); obtain ⟨s1, s2, s3⟩ := hSw; go_simp; try with_reducible rfl)
  try simp only [List.getElem_toArray, List.getElem_cons_zero, Act.put, List.setIfInBounds_toArray, List.set_cons_zero, List.set_cons_succ]
  refine wpAnyH_take (i := 1) (v := ?_) rfl (by kernel_rfl) (by kernel_rfl) (by kernel_rfl) (fun _ _ _ h => h) (Or.inl ⟨by rfl, ?_⟩) (by assumption) ?_
  rotate_left
  · (intro W hSw; (try dsimp only at hSw); obtain ⟨s1, s2, s3⟩ := hSw; go_simp; try with_reducible rfl)
  try simp only [List.getElem_toArray, List.getElem_cons_succ, List.getElem_cons_zero, Act.put, List.setIfInBounds_toArray, List.set_cons_zero, List.set_cons_succ]
  refine wpAnyH_take (i := 2) (v := ?_) rfl (by kernel_rfl) (by kernel_rfl) (by kernel_rfl) (fun _ _ _ h => h) (Or.inl ⟨by rfl, ?_⟩) (by assumption) ?_
  rotate_left
  · (intro W hSw; (try dsimp only at hSw); obtain ⟨s1, s2, s3⟩ := hSw; go_simp; try with_reducible rfl)
  try simp only [List.getElem_toArray, List.getElem_cons_succ, List.getElem_cons_zero, Act.put, List.setIfInBounds_toArray, List.set_cons_zero, List.set_cons_succ]
  refine wpAnyH_take (i := 3) (v := ?_) rfl (by kernel_rfl) (by kernel_rfl) (by kernel_rfl) (fun _ _ _ h => h) (Or.inl ⟨by rfl, ?_⟩) (by assumption) ?_
  rotate_left
  · (intro W hSw; (try dsimp only at hSw); obtain ⟨s1, s2, s3⟩ := hSw; go_simp; try with_reducible rfl)
  try simp only [List.getElem_toArray, List.getElem_cons_succ, List.getElem_cons_zero, Act.put, List.setIfInBounds_toArray, List.set_cons_zero, List.set_cons_succ]
  refine wpAnyH_take (i := 4) (v := ?_) rfl (by kernel_rfl) (by kernel_rfl) (by kernel_rfl) (fun _ _ _ h => h) (Or.inl ⟨by rfl, ?_⟩) (by assumption) ?_
  rotate_left
  · (intro W hSw; (try dsimp only at hSw); obtain ⟨s1, s2, s3⟩ := hSw; go_simp; try with_reducible rfl)
  try simp only [List.getElem_toArray, List.getElem_cons_succ, List.getElem_cons_zero, Act.put, List.setIfInBounds_toArray, List.set_cons_zero, List.set_cons_succ]
  refine wpAnyH_take (i := 5) (v := ?_) rfl (by kernel_rfl) (by kernel_rfl) (by kernel_rfl) (fun _ _ _ h => h) (Or.inl ⟨by rfl, ?_⟩) (by assumption) ?_
  rotate_left
  · (intro W hSw; (try dsimp only at hSw); obtain ⟨s1, s2, s3⟩ := hSw; go_simp; try with_reducible rfl)
  try simp only [List.getElem_toArray, List.getElem_cons_succ, List.getElem_cons_zero, Act.put, List.setIfInBounds_toArray, List.set_cons_zero, List.set_cons_succ]
  refine wpAnyH_take (i := 6) (v := ?_) rfl (by kernel_rfl) (by kernel_rfl) (by kernel_rfl) (fun _ _ _ h => h) (Or.inl ⟨by rfl, ?_⟩) (by assumption) ?_
  rotate_left
  · (intro W hSw; (try dsimp only at hSw); obtain ⟨s1, s2, s3⟩ := hSw; go_simp; try with_reducible rfl)
  try simp only [List.getElem_toArray, List.getElem_cons_succ, List.getElem_cons_zero, Act.put, List.setIfInBounds_toArray, List.set_cons_zero, List.set_cons_succ]
  refine wpAnyH_take (i := 7) (v := ?_) rfl (by kernel_rfl) (by kernel_rfl) (by kernel_rfl) (fun _ _ _ h => h) (Or.inl ⟨by rfl, ?_⟩) (by assumption) ?_
  rotate_left
  · (intro W hSw; (try dsimp only at hSw); obtain ⟨s1, s2, s3⟩ := hSw; go_simp; try with_reducible rfl)
  try simp only [List.getElem_toArray, List.getElem_cons_succ, List.getElem_cons_zero, Act.put, List.setIfInBounds_toArray, List.set_cons_zero, List.set_cons_succ]
  refine wpAnyH_take (i := 8) (v := ?_) rfl (by kernel_rfl) (by kernel_rfl) (by kernel_rfl) (fun _ _ _ h => h) (Or.inl ⟨by rfl, ?_⟩) (by assumption) ?_
  rotate_left
  · (intro W hSw; (try dsimp only at hSw); obtain ⟨s1, s2, s3⟩ := hSw; go_simp; try with_reducible rfl)
  try simp only [List.getElem_toArray, List.getElem_cons_succ, List.getElem_cons_zero, Act.put, List.setIfInBounds_toArray, List.set_cons_zero, List.set_cons_succ]
  refine wpAnyH_take (i := 9) (v := ?_) rfl (by kernel_rfl) (by kernel_rfl) (by kernel_rfl) (fun _ _ _ h => h) (Or.inl ⟨by rfl, ?_⟩) (by assumption) ?_
  rotate_left
  · (intro W hSw; (try dsimp only at hSw); obtain ⟨s1, s2, s3⟩ := hSw; go_simp; try with_reducible rfl)
  try simp only [List.getElem_toArray, List.getElem_cons_succ, List.getElem_cons_zero, Act.put, List.setIfInBounds_toArray, List.set_cons_zero, List.set_cons_succ]
  refine wpAnyH_take (i := 10) (v := ?_) rfl (by kernel_rfl) (by kernel_rfl) (by kernel_rfl) (fun _ _ _ h => h) (Or.inl ⟨by rfl, ?_⟩) (by assumption) ?_
  rotate_left
  · (intro W hSw; (try dsimp only at hSw); obtain ⟨s1, s2, s3⟩ := hSw; go_simp; try with_reducible rfl)
  try simp only [List.getElem_toArray, List.getElem_cons_succ, List.getElem_cons_zero, Act.put, List.setIfInBounds_toArray, List.set_cons_zero, List.set_cons_succ]
  refine wpAnyH_take (i := 11) (v := ?_) rfl (by kernel_rfl) (by kernel_rfl) (by kernel_rfl) (fun _ _ _ h => h) (Or.inl ⟨by rfl, ?_⟩) (by assumption) ?_
  rotate_left
  · (intro W hSw; (try dsimp only at hSw); obtain ⟨s1, s2, s3⟩ := hSw; go_simp; try with_reducible rfl)
  try simp only [List.getElem_toArray, List.getElem_cons_succ, List.getElem_cons_zero, Act.put, List.setIfInBounds_toArray, List.set_cons_zero, List.set_cons_succ]
  refine wpAnyH_take (i := 13) (v := ?_) rfl (by kernel_rfl) (by kernel_rfl) (by kernel_rfl) (fun _ _ _ h => h) (Or.inl ⟨by rfl, ?_⟩) (by assumption) ?_
  rotate_left
  · (intro W hSw; (try dsimp only at hSw); obtain ⟨s1, s2, s3⟩ := hSw; go_simp; try with_reducible rfl)
  try simp only [List.getElem_toArray, List.getElem_cons_succ, List.getElem_cons_zero, Act.put, List.setIfInBounds_toArray, List.set_cons_zero, List.set_cons_succ]
  refine wpAnyH_take (i := 14) (v := ?_) rfl (by kernel_rfl) (by kernel_rfl) (by kernel_rfl) (fun _ _ _ h => h) (Or.inl ⟨by rfl, ?_⟩) (by assumption) ?_
  rotate_left
  · (intro W hSw; (try dsimp only at hSw); obtain ⟨s1, s2, s3⟩ := hSw; go_simp; try with_reducible rfl)
  try simp only [List.getElem_toArray, List.getElem_cons_succ, List.getElem_cons_zero, Act.put, List.setIfInBounds_toArray, List.set_cons_zero, List.set_cons_succ]
  refine wpAnyH_ready (rs := [12, 15]) (by kernel_rfl) (by simp) (AllReadyH.cons rfl (fun K hK => ?_) (AllReadyH.cons rfl (fun K hK => ?_) AllReadyH.nil))
  · -- the look-up first
    rw [if_pos (by rfl)]
    refine wp_lookup_run (.tmp 20) (.tmp 22) 45 rfl (.map (some L.m)) (.int .i64 n) (L.rowV waits n) rfl rfl (H.out.look2 n h0 h1 _ ((Keeps.of_below ((Below.refl _ _).alloc (Nat.le_refl _) _)).drew)) ?_
    refine hK.out _ _ hHeld (fun hHeld => ?_)
    clear hK K
    try simp only [List.getElem_toArray, List.getElem_cons_succ, List.getElem_cons_zero, Act.put, List.setIfInBounds_toArray, List.set_cons_zero, List.set_cons_succ]
    refine wpAnyH_ready (rs := [15]) (by kernel_rfl) (by simp) (AllReadyH.cons rfl (fun K hK => ?_) AllReadyH.nil)
    rw [if_pos (by rfl)]
    unfold Oper.wp
    go_simp
    refine hK.out _ _ ⟨cell_of_block (block_alloc (block_alloc HP.out _) _) 3, cell_of_block (block_alloc (block_new w _) _) 0, cell_of_block (block_alloc (block_new w _) _) 1⟩ (fun hHeld => ?_)
    clear hK K
    refine wpAnyH_ready (rs := [16]) (by kernel_rfl) (by simp) (AllReadyH.cons rfl (fun K hK => ?_) AllReadyH.nil)
    rw [if_pos (by rfl)]
    refine wp_append_lies _ (.tmp 23) (.tmp 26) 42 rfl 0 39 i0 (.string ⟨#[]⟩) 1 16 Tryd.underlying42 HI.out hz0 hz1 hz2 rfl (by omega) (L.rowV waits n) (waits n).length (strs (waits n)) rfl HR.out ⟨w.heap.size + 1, 0, none⟩ 1 1 [.string s] rfl rfl (World.news_of_block (cs := #[.string s]) HN2.out) (by intro u hu; rw [List.mem_singleton.1 hu]; rfl) (by omega) HL.out.1 HL.out.2.1 (Nat.zero_le _) (w.heap.size + 1 + 1) HN4.out ?_
    intro g cap w1 hown hgr hat hlt
    have HG := hid hgr
    have HO := hid hown
    have HA := hid hat
    clear hown hgr hat hlt
    obtain ⟨hm1, hk1⟩ := H.out.mid HN3.out.drew HG.out
    have Hm1 := hid hm1
    have hk1p := hid (hk1 p _ (block_alloc (block_alloc HP.out _) _) HNP.out)
    have hk1x := hid (hk1 w.heap.size _ HN1.out HNX.out)
    clear hm1 hk1
    refine hK.out _ _ ⟨cell_of_block hk1p.out 3, cell_of_block hk1x.out 0, cell_of_block hk1x.out 1⟩ (fun hHeld => ?_)
    clear hK K
    try simp only [List.getElem_toArray, List.getElem_cons_succ, List.getElem_cons_zero, Act.put, List.setIfInBounds_toArray, List.set_cons_zero, List.set_cons_succ]
    refine wpAnyH_ready (rs := [17]) (by kernel_rfl) (by simp) (AllReadyH.cons rfl (fun K hK => ?_) AllReadyH.nil)
    rw [if_pos (by rfl)]
    refine wp_mapUpdate_self (.tmp 14) (.tmp 16) (.tmp 27) 45 rfl 3 42 (int_keyed Tryd.underlying3) Tryd.underlying45 L.m B L.D rfl Hm1.out (opsMax_len hB).2.2 (.int .i64 n) (.slice (some ⟨g, 0, none⟩) ((waits n).length + 1) cap) (.int .i64 n) rfl rfl (keyI (by omega) (by have := H.out.most; omega)) ?_
    intro w2 hown2 hgr2
    have HO2 := hid hown2
    have HG2 := hid hgr2
    clear hown2 hgr2
    refine hK.out _ _ ⟨cell_of_block (grown_block HG2.out hk1p.out (fun e => HPM.out (Option.some.inj e).symm)) 3, cell_of_block (grown_block HG2.out hk1x.out (fun e => HXM.out (Option.some.inj e).symm)) 0, cell_of_block (grown_block HG2.out hk1x.out (fun e => HXM.out (Option.some.inj e).symm)) 1⟩ (fun hHeld => ?_)
    clear hK K
    refine wpAnyH_done (by kernel_rfl) ?_ _
    refine NoPanic.normal ?_
    have HW := hid (H.out.wrote h0 h1 HN3.out.drew HO.out HG.out (HA.out.imp id (fun e => e.trans HN4.out.symm)) HO2.out HG2.out)
    clear HG HG2 HO HO2 HA Hm1 hk1p hk1x hHeld
    go_wp2
    go_end0
    exact ⟨rfl, _, HW.out.1, rfl, rfl, rfl, HW.out.2.1, HW.out.2.2⟩
  · -- the new element first
    rw [if_pos (by rfl)]
    unfold Oper.wp
    go_simp
    refine hK.out _ _ ⟨cell_of_block (block_alloc (block_alloc HP.out _) _) 3, cell_of_block (block_alloc (block_new w _) _) 0, cell_of_block (block_alloc (block_new w _) _) 1⟩ (fun hHeld => ?_)
    clear hK K
    refine wpAnyH_ready (rs := [12]) (by kernel_rfl) (by simp) (AllReadyH.cons rfl (fun K hK => ?_) AllReadyH.nil)
    rw [if_pos (by rfl)]
    refine wp_lookup_run (.tmp 20) (.tmp 22) 45 rfl (.map (some L.m)) (.int .i64 n) (L.rowV waits n) rfl rfl (H.out.look2 n h0 h1 _ ((Keeps.of_below HN3.out).drew)) ?_
    refine hK.out _ _ hHeld (fun hHeld => ?_)
    clear hK K
    try simp only [List.getElem_toArray, List.getElem_cons_succ, List.getElem_cons_zero, Act.put, List.setIfInBounds_toArray, List.set_cons_zero, List.set_cons_succ]
    refine wpAnyH_ready (rs := [16]) (by kernel_rfl) (by simp) (AllReadyH.cons rfl (fun K hK => ?_) AllReadyH.nil)
    rw [if_pos (by rfl)]
    refine wp_append_lies _ (.tmp 23) (.tmp 26) 42 rfl 0 39 i0 (.string ⟨#[]⟩) 1 16 Tryd.underlying42 HI.out hz0 hz1 hz2 rfl (by omega) (L.rowV waits n) (waits n).length (strs (waits n)) rfl HR.out ⟨w.heap.size + 1, 0, none⟩ 1 1 [.string s] rfl rfl (World.news_of_block (cs := #[.string s]) HN2.out) (by intro u hu; rw [List.mem_singleton.1 hu]; rfl) (by omega) HL.out.1 HL.out.2.1 (Nat.zero_le _) (w.heap.size + 1 + 1) HN4.out ?_
    intro g cap w1 hown hgr hat hlt
    have HG := hid hgr
    have HO := hid hown
    have HA := hid hat
    clear hown hgr hat hlt
    obtain ⟨hm1, hk1⟩ := H.out.mid HN3.out.drew HG.out
    have Hm1 := hid hm1
    have hk1p := hid (hk1 p _ (block_alloc (block_alloc HP.out _) _) HNP.out)
    have hk1x := hid (hk1 w.heap.size _ HN1.out HNX.out)
    clear hm1 hk1
    refine hK.out _ _ ⟨cell_of_block hk1p.out 3, cell_of_block hk1x.out 0, cell_of_block hk1x.out 1⟩ (fun hHeld => ?_)
    clear hK K
    try simp only [List.getElem_toArray, List.getElem_cons_succ, List.getElem_cons_zero, Act.put, List.setIfInBounds_toArray, List.set_cons_zero, List.set_cons_succ]
    refine wpAnyH_ready (rs := [17]) (by kernel_rfl) (by simp) (AllReadyH.cons rfl (fun K hK => ?_) AllReadyH.nil)
    rw [if_pos (by rfl)]
    refine wp_mapUpdate_self (.tmp 14) (.tmp 16) (.tmp 27) 45 rfl 3 42 (int_keyed Tryd.underlying3) Tryd.underlying45 L.m B L.D rfl Hm1.out (opsMax_len hB).2.2 (.int .i64 n) (.slice (some ⟨g, 0, none⟩) ((waits n).length + 1) cap) (.int .i64 n) rfl rfl (keyI (by omega) (by have := H.out.most; omega)) ?_
    intro w2 hown2 hgr2
    have HO2 := hid hown2
    have HG2 := hid hgr2
    clear hown2 hgr2
    refine hK.out _ _ ⟨cell_of_block (grown_block HG2.out hk1p.out (fun e => HPM.out (Option.some.inj e).symm)) 3, cell_of_block (grown_block HG2.out hk1x.out (fun e => HXM.out (Option.some.inj e).symm)) 0, cell_of_block (grown_block HG2.out hk1x.out (fun e => HXM.out (Option.some.inj e).symm)) 1⟩ (fun hHeld => ?_)
    clear hK K
    refine wpAnyH_done (by kernel_rfl) ?_ _
    refine NoPanic.normal ?_
    have HW := hid (H.out.wrote h0 h1 HN3.out.drew HO.out HG.out (HA.out.imp id (fun e => e.trans HN4.out.symm)) HO2.out HG2.out)
    clear HG HG2 HO HO2 HA Hm1 hk1p hk1x hHeld
    go_wp2
    go_end0
    exact ⟨rfl, _, HW.out.1, rfl, rfl, rfl, HW.out.2.1, HW.out.2.2⟩
end Go.Proofs.YtabpfneihihmaaaDoor
