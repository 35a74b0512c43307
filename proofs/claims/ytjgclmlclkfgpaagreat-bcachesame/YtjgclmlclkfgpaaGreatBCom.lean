/- The cache's Abort and Commit. -/
import Derived.Test.YtjgclmlclkfgpaaGreatBRead
import Derived.Test.YtjgclmlclkfgpaaGreatRAppend
import Derived.Test.YtjgclmlclkfgpaaGreatWPlain
namespace Go.Proofs.YtjgclmlclkfgpaaGreat
open Go.RowKit Go.Maps
theorem run_clearB {w : World} {m : Nat} {es : Array MapEntry} {clock : Nat} (hb : w.heap[m]? = some (.map es clock)) : ∃ w', (∀ ty, (Builtin.clear_ #[80] ty #[.map (some m)]).run Tryz.prog w = .ok (.tuple #[]) w') ∧ w'.heap[m]? = some (.map #[] clock) ∧ w.grownBy w' (some m) := by
  refine ⟨{ w with heap := w.heap.setIfInBounds m (.map #[] clock) }, fun ty => ?_, ?_, ⟨rfl, rfl, rfl, by simp, fun k _ hk => ?_⟩⟩
  · simp [Builtin.clear_, run_underlying Tryz.underlying80, MapKept.run_getObj_map hb, MapKept.run_setObj_map _ hb, Result.andThen]
  · simp [lt_of_heap hb]
  · have hne : m ≠ k := fun e => hk (by rw [e])
    simp [hne]
section
variable {w w' : World} {c : Nat} {L : CLay} {C : CS}
theorem CacheAt.cleared (h : CacheAt w c L C) {clock : Nat} (hm : w'.heap[L.dm]? = some (.map #[] clock)) (hg : w.grownBy w' (some L.dm)) : CacheAt w' c { L with Dd := .map [], dv := fun _ => none } { C with dirty := fun _ => none } := by
  have hk : Keeps (fun i => i = L.dm) w w' := (Keeps.refl _ w).grown hg (fun i e => .inl (Option.some.inj e).symm)
  have hG : ∀ i, i = L.dm → i = c ∨ i = L.dm ∨ i = L.um := fun i e => .inr (.inl e)
  exact {
    heap := hk.heap h.heap (fun e => h.cd e)
    log := h.logKeep hG hk
    lt := fun i hi => Nat.lt_of_lt_of_le (h.lt i hi) hk.size
    dirty := grpIn_empty (ownsMap_tight (C := 4096) ⟨#[], clock, hm, ⟨by simp, MapKept.stamped_empty _, by simp⟩, Nat.le_refl _, rfl⟩ (Nat.zero_le _)) _
    bytes := fun n v hv => (by cases hv)
    clean := fun _ _ => rfl
    used := h.used.keep hk (fun e => h.ne e.symm)
    offc := h.offc
    offd := h.offd
    offu := h.offu
    ne := h.ne
    pages := h.pages
    fits := h.fits
    few := h.few
    ub := h.ub }
set_option maxRecDepth 100000 in
set_option maxHeartbeats 1000000 in
theorem babort_any (w : World) (h : CacheAt w c L C) : Calls Tryz.prog 30 #[.pointer (some ⟨c, 0, none⟩)] w fun e w' => e = .returned (.int .i64 (C.dirtyKeys.length : Int)) ∧ CacheAt w' c { L with Dd := .map [], dv := fun _ => none } { C with dirty := fun _ => none } ∧ Keeps (fun i => i = L.dm) w w' := by
  obtain ⟨c0, c1, -⟩ := h.cells
  obtain ⟨es, clock, hmb⟩ := h.dmap
  obtain ⟨w9, hclear, hm9, hg9⟩ := run_clearB hmb
  have HC := hid (h.cleared hm9 hg9)
  have HK : Hid (Keeps (fun i => i = L.dm) w w9) := (Keeps.refl _ w).grown hg9 (fun i e => .inl (Option.some.inj e).symm)
  have H := hid h
  have HKe := hid (congrArg List.length h.keys)
  clear h hm9 hg9 hmb
  go_enter Tryz.func30, Tryz.ntmps30
  go_wp2_with (refine wpList_len_grp rfl (.tmp 9) 80 rfl 49 Tryz.underlying80 rfl H.out.dirty C.dirtyKeys.length HKe.out ?_)
  go_ret
  exact ⟨rfl, HC.out, HK.out⟩
end
section
variable {w w' : World} {c : Nat} {L : CLay} {C : CS}
theorem CacheAt.committed (h : CacheAt w c L C) {S' : DiskS} {d' : DL} {F' : Nat → Prop} (hlog : LogIn w' L.p d' S' C.size 0 F') (hk : Keeps L.F w w') (hF : ∀ i, F' i → L.F i ∨ (w.heap.size ≤ i ∧ i < w'.heap.size)) (hS : S'.safe.length = C.S.safe.length) : CacheAt w' c { L with d := d', F := F' } { C with S := S' } := by
  have hoff : ∀ i, i < w.heap.size → ¬ L.F i → ¬ F' i := fun i h1 h2 h3 => by
    rcases hF i h3 with h4 | h4
    · exact h2 h4
    · omega
  obtain ⟨es, kk, hd⟩ := h.dmap
  obtain ⟨es', kk', hu⟩ := h.umap
  exact {
    heap := hk.heap h.heap h.offc
    log := hlog
    lt := fun i hi => by
      rcases hF i hi with h4 | h4
      · exact Nat.lt_of_lt_of_le (h.lt i h4) hk.size
      · exact h4.2
    dirty := h.dirty.keep hk h.offd
    bytes := fun n v hv => by
      obtain ⟨g, cap, bs, a1, a2, a3, a4, a5⟩ := h.bytes n v hv
      have hlt : g < w.heap.size := World.block_lt_of_cell? w _ (a3 0 (by omega))
      exact ⟨g, cap, bs, a1, a2, fun j hj => hk.cell (a3 j hj) (by rw [add_block]; exact a5), a4, hoff g hlt a5⟩
    clean := h.clean
    used := h.used.keep hk h.offu
    offc := hoff c (lt_of_heap h.heap) h.offc
    offd := hoff _ (lt_of_heap hd) h.offd
    offu := hoff _ (lt_of_heap hu) h.offu
    ne := h.ne
    pages := by rw [h.pages]; simp only [pagesS, hS]
    fits := by rw [show ({ C with S := S' } : CS).S.safe.length = C.S.safe.length from hS]; exact h.fits
    few := h.few
    ub := h.ub }
end
/-- The disk behind a Commit. -/
def CS.com (C : CS) : DiskS := if C.dirtyKeys = [] then C.S else writtenS C.S C.size (fun n => (C.dirty n).getD []) C.dirtyKeys
/-- The page that stands for a number. -/
def CLay.page (L : CLay) (n : Int) : PageS := match L.dv n with
  | some (.slice a l c) => ⟨n, a, l, c⟩
  | _ => ⟨n, none, 0, 0⟩
def CLay.ps (L : CLay) (ks : List Int) : List PageS := ks.map L.page
/-- The cells of pages. -/
def CLay.cells (L : CLay) (ks : List Int) : List Value := ks.flatMap (fun n => [.int .i64 n, (L.page n).val])
theorem length_cells (L : CLay) (ks : List Int) : (L.cells ks).length = ks.length * 2 := by
  induction ks with
  | nil => rfl
  | cons n ks ih => simp only [CLay.cells] at ih ⊢; simp [ih]; omega
theorem cells_at (L : CLay) : ∀ (ks : List Int) (j : Nat) (hj : j < ks.length), (L.cells ks)[j * 2]? = some (.int .i64 ks[j]) ∧ (L.cells ks)[j * 2 + 1]? = some (L.page ks[j]).val
  | n :: ks, 0, _ => ⟨rfl, rfl⟩
  | n :: ks, j + 1, hj => by
    have := cells_at L ks j (by simpa using hj)
    have e : L.cells (n :: ks) = .int .i64 n :: (L.page n).val :: L.cells ks := rfl
    rw [e, show (j + 1) * 2 = j * 2 + 1 + 1 by omega]
    simpa using this
theorem cells_snoc (L : CLay) (ks : List Int) (n : Int) : L.cells (ks ++ [n]) = L.cells ks ++ [.int .i64 n, (L.page n).val] := by simp [CLay.cells]
section
variable {w : World} {c : Nat} {L : CLay} {C : CS}
theorem CacheAt.page (h : CacheAt w c L C) {n : Int} (hn : n ∈ C.dirtyKeys) : ∃ g cap bs, L.dv n = some (.slice (some ⟨g, 0, none⟩) 512 cap) ∧ L.page n = ⟨n, some ⟨g, 0, none⟩, 512, cap⟩ ∧ C.dirty n = some bs ∧ bytesAt w ⟨g, 0, none⟩ bs ∧ bs.length = 512 ∧ ¬ L.F g ∧ 0 ≤ n ∧ n < (C.N : Int) := by
  rw [← h.keys, mem_grpKeys] at hn
  obtain ⟨h0, h1, h2⟩ := hn
  obtain ⟨v, hv⟩ := Option.isSome_iff_exists.1 h2
  obtain ⟨g, cap, bs, a1, rfl, a3, a4, a5⟩ := h.bytes n v hv
  exact ⟨g, cap, bs, hv, by simp [CLay.page, hv], a1, a3, a4, a5, h0, h1⟩
theorem CacheAt.psLen (_ : CacheAt w c L C) (j : Nat) (hj : j < C.dirtyKeys.length) : (L.ps C.dirtyKeys)[j]? = some (L.page C.dirtyKeys[j]) := by simp [CLay.ps, hj]
theorem page_n (L : CLay) (n : Int) : (L.page n).n = n := by
  unfold CLay.page
  split <;> rfl
theorem CacheAt.grpVal (h : CacheAt w c L C) : ∀ (j : Nat), j ≤ C.dirtyKeys.length → ∀ n, Go.Proofs.YtjgclmlclkfgpaaGreat.grpVal (L.ps C.dirtyKeys) j n = if n ∈ C.dirtyKeys.take j then L.dv n else none
  | 0, _, n => by simp [Go.Proofs.YtjgclmlclkfgpaaGreat.grpVal]
  | j + 1, hj, n => by
    rw [Go.Proofs.YtjgclmlclkfgpaaGreat.grpVal, h.psLen j hj]
    simp only [updV, page_n, h.grpVal j (by omega) n]
    rw [List.take_succ_eq_append_getElem hj]
    simp only [List.mem_append, List.mem_singleton]
    by_cases e : n = C.dirtyKeys[j]
    · obtain ⟨g, cap, bs, h1, h2, -⟩ := h.page (n := n) (by rw [e]; exact List.getElem_mem hj)
      simp only [e, if_true, or_true]
      rw [← e, h1, h2]; rfl
    · simp [e]
theorem CacheAt.grpL (h : CacheAt w c L C) : ∀ (j : Nat), j ≤ C.dirtyKeys.length → ∀ n, Go.Proofs.YtjgclmlclkfgpaaGreat.grpL (L.ps C.dirtyKeys) (fun j => (C.dirty (C.dirtyKeys.getD j 0)).getD []) j n = if n ∈ C.dirtyKeys.take j then (C.dirty n).getD [] else []
  | 0, _, n => by simp [Go.Proofs.YtjgclmlclkfgpaaGreat.grpL]
  | j + 1, hj, n => by
    rw [Go.Proofs.YtjgclmlclkfgpaaGreat.grpL, h.psLen j hj]
    simp only [Option.map_some, Option.some.injEq, page_n, h.grpL j (by omega) n]
    rw [List.take_succ_eq_append_getElem hj]
    simp only [List.mem_append, List.mem_singleton]
    by_cases e : n = C.dirtyKeys[j]
    · subst e
      have hj' : j < C.dirtyKeys.length := hj
      simp [List.getElem?_eq_getElem hj']
    · simp [e, Ne.symm e]
theorem CacheAt.grpErr (h : CacheAt w c L C) : ∀ (j : Nat), j ≤ C.dirtyKeys.length → Go.Proofs.YtjgclmlclkfgpaaGreat.grpErr (L.ps C.dirtyKeys) j = 0
  | 0, _ => rfl
  | j + 1, hj => by
    rw [Go.Proofs.YtjgclmlclkfgpaaGreat.grpErr, h.psLen j hj]
    simp only [page_n, h.grpErr j (by omega), h.grpVal j (by omega)]
    obtain ⟨g, cap, bs, h1, h2, -⟩ := h.page (n := C.dirtyKeys[j]) (List.getElem_mem hj)
    have hno : ¬ C.dirtyKeys[j] ∈ C.dirtyKeys.take j := fun hm => by
      obtain ⟨i, hi, e⟩ := List.mem_iff_getElem.1 hm
      have hp := sorted_grpKeys L.dv C.N
      rw [h.keys] at hp
      have hi' : i < j := by simp at hi; omega
      have := List.pairwise_iff_getElem.1 hp i j (by omega) hj hi'
      rw [List.getElem_take] at e
      omega
    rw [if_neg hno, if_neg (by rw [h2]; simp)]
theorem CacheAt.com (h : CacheAt w c L C) (hr : C.dirtyKeys.length ≤ min C.size 100) : comErr (pagesS C.S C.size) C.size (L.ps C.dirtyKeys) = 0 ∧ comS C.S C.size (L.ps C.dirtyKeys) (fun j => (C.dirty (C.dirtyKeys.getD j 0)).getD []) = C.com := by
  have hl : (L.ps C.dirtyKeys).length = C.dirtyKeys.length := by simp [CLay.ps]
  have he : comErr (pagesS C.S C.size) C.size (L.ps C.dirtyKeys) = 0 := by
    unfold comErr
    rw [hl]
    split
    · rfl
    · rw [if_neg (by omega), if_pos, h.grpErr _ (Nat.le_refl _)]
      rw [inPages_iff]
      intro j hj
      rw [hl] at hj
      have e : (L.ps C.dirtyKeys)[j] = L.page C.dirtyKeys[j] := by simp [CLay.ps]
      obtain ⟨g, cap, bs, -, -, -, -, -, -, h1, h2⟩ := h.page (n := C.dirtyKeys[j]) (List.getElem_mem hj)
      rw [e, page_n, ← h.pages]
      exact ⟨h1, h2⟩
  refine ⟨he, ?_⟩
  unfold comS CS.com
  rw [hl]
  by_cases h0 : C.dirtyKeys = []
  · rw [if_neg (fun hh => hh.2 (by rw [h0]; rfl)), if_pos h0]
  · rw [if_pos ⟨he, fun e => h0 (List.length_eq_zero_iff.1 e)⟩, if_neg h0]
    have e1 : Go.Proofs.YtjgclmlclkfgpaaGreat.grpL (L.ps C.dirtyKeys) (fun j => (C.dirty (C.dirtyKeys.getD j 0)).getD []) C.dirtyKeys.length = fun n => (C.dirty n).getD [] := by
      funext n
      rw [h.grpL _ (Nat.le_refl _), List.take_length]
      split
      · rfl
      · rename_i hn
        cases hv : L.dv n with
        | none => rw [h.clean n hv]; rfl
        | some v =>
          exact absurd (by rw [← h.keys, mem_grpKeys]; exact ⟨(h.dirty.dom n v hv).1, (h.dirty.dom n v hv).2, by rw [hv]; rfl⟩) hn
    have e2 : grpKeys (Go.Proofs.YtjgclmlclkfgpaaGreat.grpVal (L.ps C.dirtyKeys) C.dirtyKeys.length) (pagesS C.S C.size) = C.dirtyKeys := by
      rw [← h.pages]
      refine Eq.trans ?_ h.keys
      unfold grpKeys
      refine List.filter_congr (fun n hn => ?_)
      rw [h.grpVal _ (Nat.le_refl _), List.take_length]
      split
      · rfl
      · rename_i hq
        cases hv : L.dv n with
        | none => rfl
        | some v => exact absurd (by rw [← h.keys, mem_grpKeys]; exact ⟨(h.dirty.dom n v hv).1, (h.dirty.dom n v hv).2, by rw [hv]; rfl⟩) hq
    rw [e1, e2]
theorem CacheAt.pagesOf (_ : CacheAt w c L C) {W : World} {B : Nat} {v : Value} (hrow : W.ownsRow B 114 2 v C.dirtyKeys.length (L.cells C.dirtyKeys)) : ∃ pa cap, v = .slice pa C.dirtyKeys.length cap ∧ pagesAt W pa (L.ps C.dirtyKeys) := by
  have hl : (L.ps C.dirtyKeys).length = C.dirtyKeys.length := by simp [CLay.ps]
  rcases Joins.ownsRow_forms hrow with ⟨rfl, h0⟩ | ⟨g, cap, rfl⟩
  · rw [h0]
    exact ⟨none, 0, rfl, fun j hj => by omega⟩
  · refine ⟨some ⟨g, 0, none⟩, cap, rfl, fun j hj => ⟨g, 0, rfl, fun i hi => ?_⟩⟩
    rw [hl] at hi
    obtain ⟨a, b⟩ := cells_at L C.dirtyKeys i hi
    have c0 := hrow.cellAt (i * 2) (by omega)
    have c1 := hrow.cellAt (i * 2 + 1) (by omega)
    rw [a] at c0
    rw [b] at c1
    have e : (L.ps C.dirtyKeys)[i] = L.page C.dirtyKeys[i] := by simp [CLay.ps]
    rw [e, page_n, Nat.zero_add]
    exact ⟨c0, c1⟩
set_option maxRecDepth 100000 in
set_option maxHeartbeats 2000000 in
/-- Commit. -/
theorem bcommit_any (w : World) (h : CacheAt w c L C) (hr : C.dirtyKeys.length ≤ min C.size 100) (ho : C.S.ops.length ≤ 800000) :
    Calls Tryz.prog 29 #[.pointer (some ⟨c, 0, none⟩)] w fun e w' => e = .returned (.int .i64 0) ∧ ∃ d' F', (∀ i, L.F i → F' i) ∧ (∀ i, F' i → L.F i ∨ w.heap.size ≤ i) ∧ CacheAt w' c { L with d := d', F := F', Dd := .map [], dv := fun _ => none } { C with S := C.com, dirty := fun _ => none } ∧ Keeps (fun i => L.F i ∨ i = L.dm) w w' := by
  obtain ⟨c0, c1, -⟩ := h.cells
  obtain ⟨i0, hi, hz0, hz1, hz2⟩ := info_parts infoPage
  have HI0 := hid hi
  have HDi := hid (bdirty_any w h)
  have H := hid h
  have HPg := hid (fun n (hn : n ∈ C.dirtyKeys) => h.page hn)
  have HCo := hid (h.com hr)
  have HSl : Hid (C.com.safe.length = C.S.safe.length) := by unfold Hid; rw [← (h.com hr).2]; exact comS_len _ _ _ _
  have hks : C.dirtyKeys.length ≤ 100 := by omega
  have hcl := lt_of_heap h.heap
  clear h hi hr
  go_enter Tryz.func29, Tryz.ntmps29
  go_wp2_with fail
  refine HDi.out.mono ?_
  clear HDi
  rintro e w1 ⟨v, rfl, hrow, -, hb1⟩
  obtain ⟨ra, rc, rfl, hints⟩ := row_slice hrow
  have HI := hid hints
  have HB1 := hid hb1
  have hs1 := hb1.size
  clear hrow hb1 hints
  have hlook : ∀ n ∈ C.dirtyKeys, ∀ W : World, Below w.heap.size w W → (Instr.lookup 80 (.map (some L.dm)) (.int .i64 n) false).run Tryz.prog W = .ok (L.page n).val W := fun n hn W hW => by
    have hgW := H.out.dirty.below hW
    obtain ⟨g, cap, bs, h1, h2, -, -, -, -, h0, h3⟩ := HPg.out n hn
    have hN := H.out.pagesLe
    obtain ⟨u, hr, hu⟩ := self_lookup hgW.mapOwn (int_keyed Tryz.underlying3) Tryz.underlying80 (Tryz.zeroValue49 W) (keyI (n := n) (by omega) (by omega))
    rw [hr]
    rw [hgW.held n _ h1] at hu
    rw [← DataW.held.inj hu, h2]
    rfl
  have HLk := hid hlook
  clear hlook
  have HPo := hid (fun (W : World) (B : Nat) (v : Value) hrow => H.out.pagesOf (W := W) (B := B) (v := v) hrow)
  generalize hkeq : C.dirtyKeys = ks at *
  go_wp2
  go_loopw [3, 12] (fun v i wr => ∃ k : Nat, k ≤ ks.length ∧ i = .int .i64 k ∧ Hid (wr.ownsRow w1.heap.size 114 2 v k (L.cells (ks.take k))) ∧ Hid (Below w1.heap.size w1 wr)) (fun _ i _ => ks.length - (intOf i).toNat)
  case atStart => exact ⟨0, by omega, rfl, World.ownsRow_nil _ _ _ _, Below.refl _ _⟩
  case round =>
    obtain ⟨k, hk, rfl, hO, hB⟩ := hrel
    have hBw := HB1.out.trans (hB.out.mono hs1)
    have c1r : wr.cell? ⟨c, 1, none⟩ = some (.map (some L.dm)) := (hBw.cell (p := ⟨c, 1, none⟩) hcl).trans c1
    have c0r : wr.cell? ⟨c, 0, none⟩ = some (.pointer (some ⟨L.p, 0, none⟩)) := (hBw.cell (p := ⟨c, 0, none⟩) hcl).trans c0
    have HBw := hid hBw
    clear hBw
    by_cases hlt : k < ks.length
    · have hk0 : (0 : Int) ≤ (k : Int) := by omega
      have hk1 : (k : Int) < (ks.length : Int) := by omega
      obtain ⟨g, rfl, hg1, hg2, hgc⟩ := HI.out k hlt
      have hcj : wr.cell? ⟨g, k, none⟩ = some (.int .i64 ks[k]) := by
        refine (hB.out.cell (p := ⟨g, k, none⟩) hg1).trans ?_
        rw [hgc k hlt]; simp [hlt]
      have hmem : ks[k] ∈ ks := List.getElem_mem hlt
      obtain ⟨gp, cap, bs, -, hpg, -⟩ := HPg.out _ hmem
      have hlk := HLk.out _ hmem wr HBw.out
      rw [hpg] at hlk
      simp only [PageS.val] at hlk
      have HSn : Hid (L.cells (ks.take (k + 1)) = L.cells (ks.take k) ++ [.int .i64 ks[k], .slice (some ⟨gp, 0, none⟩) 512 cap]) := by unfold Hid; rw [List.take_succ_eq_append_getElem hlt, cells_snoc, hpg]; rfl
      clear hgc hmem hpg hg1 hg2 c0r
      generalize ks[k] = x at *
      have hsr := hB.out.size
      go_wp2_with (refine wpList_append_lies _ rfl (.tmp 16) (.tmp 25) 44 rfl w1.heap.size 114 i0 (.agg #[.int .i64 0, .slice none 0 0]) 2 32 Tryz.underlying44 HI0.out hz0 hz1 hz2 rfl (by omega) u3 k _ rfl (hO.out.alloc _) ⟨wr.heap.size, 0, none⟩ 1 1 [.int .i64 x, .slice (some ⟨gp, 0, none⟩) 512 cap] rfl rfl (World.news_of_block (cs := #[.int .i64 x, .slice (some ⟨gp, 0, none⟩) 512 cap]) (block_new wr _)) (by intro u hu; rcases List.mem_cons.1 hu with rfl | hu; rfl; rw [List.mem_singleton.1 hu]; rfl) (by omega) (by unfold maxLen; omega) (by omega) (by simp; omega) (wr.heap.size + 1) (by simp) ?_; intro g2 cap2 w5 hown hgr hat hlt2; have HOw := hid hown; have HGr := hid hgr; clear hown hgr hat hlt2)
      refine ⟨⟨k + 1, by omega, by go_num, ?_, ?_⟩, by simp [intOf]; omega⟩
      · unfold Hid
        rw [HSn.out]; exact HOw.out
      · have hb2 := hB.out.trans (((Below.refl wr.heap.size wr).alloc (Nat.le_refl _) (.cells #[.int .i64 x, .slice (some ⟨gp, 0, none⟩) 512 cap] 114)).mono hB.out.size)
        exact hb2.trans (below_of_row HGr.out hb2.size (fun i hi => (hO.out.lt i hi).1))
    · obtain rfl : k = ks.length := by omega
      have hge : ¬ ((ks.length : Int) < (ks.length : Int)) := by omega
      have hOf := hO.out
      rw [List.take_length] at hOf
      obtain ⟨pa, pc, rfl, hps⟩ := HPo.out _ _ _ hOf
      have HPs := hid hps
      have Hr := hid (H.out.below HBw.out)
      have HCm := hid (commit_any (L.ps ks) pa pc (fun j => (C.dirty (ks.getD j 0)).getD []) wr Hr.out.log Hr.out.lt Hr.out.fits HPs.out (fun j hj _ => by
        have hj' : j < ks.length := by simpa [CLay.ps] using hj
        obtain ⟨gp, cap, bs, -, hpg, h1, h2, h3, h4, -⟩ := HPg.out ks[j] (List.getElem_mem hj')
        have e : (L.ps ks)[j] = L.page ks[j] := by simp [CLay.ps]
        have e2 : (C.dirty (ks.getD j 0)).getD [] = bs := by simp [List.getElem?_eq_getElem hj', h1]
        rw [e, hpg]
        simp only [e2]
        exact ⟨⟨gp, 0, none⟩, rfl, fun i hi => (HBw.out.cell (World.block_lt_of_cell? w _ (h2 i hi))).trans (h2 i hi), h3, h4⟩) ho)
      have hpl : (L.ps ks).length = ks.length := by simp [CLay.ps]
      rw [hpl, HCo.out.1, HCo.out.2] at HCm
      clear hOf hps hpl hO c1r
      go_wp2_with fail
      refine HCm.out.mono ?_
      clear HCm
      rintro e w5 ⟨rfl, d', hlog, hk5⟩
      have HC5 := hid (Hr.out.committed hlog hk5 (fun i hi => hi) HSl.out)
      have HK5 := hid hk5
      obtain ⟨z0, z1, -⟩ := HC5.out.cells
      have z1' : w5.cell? ⟨c, 1, none⟩ = some (.map (some L.dm)) := z1
      obtain ⟨es, clock, hmb⟩ := HC5.out.dmap
      have hmb' : w5.heap[L.dm]? = some (.map es clock) := hmb
      obtain ⟨w9, hclear, hm9, hg9⟩ := run_clearB hmb'
      have HC9 := hid (HC5.out.cleared hm9 hg9)
      have HK9 : Hid (Keeps (fun i => L.F i ∨ i = L.dm) w w9) := ((Keeps.of_below HBw.out).trans hk5 (fun i e => .inl (.inl e))).grown hg9 (fun i e => .inl (.inr (Option.some.inj e).symm))
      have hsw := HBw.out.size
      clear hlog hk5 z0 z1 hmb hmb' hm9 hg9 c0r
      go_wp2
      go_ret
      exact ⟨rfl, d', _, fun i hi => .inl hi, fun i hi => hi.elim .inl (fun h => .inr (by omega)), HC9.out, HK9.out⟩
end
end Go.Proofs.YtjgclmlclkfgpaaGreat
