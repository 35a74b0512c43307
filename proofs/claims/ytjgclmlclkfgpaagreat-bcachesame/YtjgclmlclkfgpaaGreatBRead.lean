/- The cache's Read, Write and Abort. -/
import Derived.Test.YtjgclmlclkfgpaaGreatBCalls
import Derived.Test.YtjgclmlclkfgpaaGreatKeepN
import Derived.Test.YtjgclmlclkfgpaaGreatLogNo
namespace Go.Proofs.YtjgclmlclkfgpaaGreat
open Go.RowKit Go.Maps
section
variable {w w' : World} {c : Nat} {L : CLay} {C : CS} {G : Nat → Prop}
/-- What is no part of the cache itself lies elsewhere. -/
theorem CacheAt.out (h : CacheAt w c L C) (hG : ∀ i, G i → i = c ∨ i = L.dm ∨ i = L.um) {ad : Addr} {v : Value} (hc : w.cell? ad = some v) (h1 : ∀ x, v ≠ .pointer x) (h2 : ∀ x, v ≠ .map x) (h3 : ∀ x, v ≠ .int .i64 x) : ¬ G ad.block := fun hg => by
  obtain ⟨es, k, hd⟩ := h.dmap
  obtain ⟨es', k', hu⟩ := h.umap
  rcases hG _ hg with e | e | e
  · have hp := plain_addr hc
    rw [hp, e, cell_of_block h.heap] at hc
    match ad.off, hc with
    | 0, hc => simp at hc; exact h1 _ hc.symm
    | 1, hc => simp at hc; exact h2 _ hc.symm
    | 2, hc => simp at hc; exact h3 _ hc.symm
    | 3, hc => simp at hc; exact h3 _ hc.symm
    | 4, hc => simp at hc; exact h2 _ hc.symm
    | (n + 5), hc => simp at hc
  · exact cell_map hd hc e
  · exact cell_map hu hc e
theorem CacheAt.logKeep (h : CacheAt w c L C) (hG : ∀ i, G i → i = c ∨ i = L.dm ∨ i = L.um) (k : Keeps G w w') : LogIn w' L.p L.d C.S C.size 0 L.F := by
  obtain ⟨es, kk, hd⟩ := h.dmap
  obtain ⟨es', kk', hu⟩ := h.umap
  refine h.log.keepN (fun hg => ?_) (fun i hi hg => ?_) (fun ad o hc => h.out hG hc (fun x => by cases o <;> simp [encOp]) (fun x => by cases o <;> simp [encOp]) (fun x => by cases o <;> simp [encOp])) (fun ad s hc => h.out hG hc (fun x => by simp) (fun x => by simp) (fun x => by simp)) k
  · have hp := h.log.heap
    rcases hG _ hg with e | e | e
    · rw [e, h.heap] at hp
      simp only [Option.some.injEq, Obj.cells.injEq] at hp
      exact absurd hp.2.1 (by decide)
    · rw [e, hd] at hp; cases hp
    · rw [e, hu] at hp; cases hp
  · rcases hG _ hg with e | e | e
    · subst e; exact h.offc hi
    · subst e; exact h.offd hi
    · subst e; exact h.offu hi
theorem CacheAt.bytesKeep (h : CacheAt w c L C) (hG : ∀ i, G i → i = c ∨ i = L.dm ∨ i = L.um) (k : Keeps G w w') : ∀ n v, L.dv n = some v → ∃ g cap bs, C.dirty n = some bs ∧ v = .slice (some ⟨g, 0, none⟩) 512 cap ∧ bytesAt w' ⟨g, 0, none⟩ bs ∧ bs.length = 512 ∧ ¬ L.F g := fun n v hv => by
  obtain ⟨g, cap, bs, h1, h2, h3, h4, h5⟩ := h.bytes n v hv
  exact ⟨g, cap, bs, h1, h2, fun j hj => k.cell (h3 j hj) (h.out hG (h3 j hj) (fun x => by simp) (fun x => by simp) (fun x => by simp)), h4, h5⟩
/-- Behind a use. -/
theorem CacheAt.use {n : Int} (h : CacheAt w c L C) {u' : Int → Option Nat} {D' : DataW Value} (hc : w'.heap[c]? = some (.cells #[.pointer (some ⟨L.p, 0, none⟩), .map (some L.dm), .int .i64 C.most, .int .i64 (C.uses + 1 : Nat), .map (some L.um)] 85 (0, 0))) (hU : GrpIn w' L.um 4096 D' C.N (usedV u')) (hT : UseTo C.used C.most C.N (C.uses + 1) n u') (hk : Keeps (fun i => i = c ∨ i = L.um) w w') (hu : C.uses < 1000000) :
    CacheAt w' c { L with Du := D' } { C with uses := C.uses + 1, used := u' } where
  heap := hc
  log := h.logKeep (fun _ hi => hi.elim .inl (fun e => .inr (.inr e))) hk
  lt := fun i hi => Nat.lt_of_lt_of_le (h.lt i hi) hk.size
  dirty := h.dirty.keep hk (fun e => e.elim (fun e => h.cd e.symm) (fun e => h.ne e))
  bytes := h.bytesKeep (fun _ hi => hi.elim .inl (fun e => .inr (.inr e))) hk
  clean := h.clean
  used := hU
  offc := h.offc
  offd := h.offd
  offu := h.offu
  ne := h.ne
  pages := h.pages
  fits := h.fits
  few := hu
  ub := hT.ub (fun y j hy => Nat.le_succ_of_le (h.ub y j hy))
end
/-- What Read answers. -/
def ReadTo (w w' : World) (c : Nat) (L : CLay) (C : CS) (n : Int) (e : Ending) : Prop :=
  (¬ (0 ≤ n ∧ n < (C.N : Int)) ∧ C.dirty n = none ∧ e = .returned (.tuple #[.slice none 0 0, .int .i64 2]) ∧ Below w.heap.size w w') ∨
  (∃ bs, C.dirty n = some bs ∧ bs.length = 512 ∧ ∃ g cap, e = .returned (.tuple #[.slice (some ⟨g, 0, none⟩) 512 cap, .int .i64 0]) ∧ w.heap.size ≤ g ∧ bytesAt w' ⟨g, 0, none⟩ bs ∧ Below w.heap.size w w') ∨
  (0 ≤ n ∧ n < (C.N : Int) ∧ C.dirty n = none ∧ ∃ g cap, e = .returned (.tuple #[.slice (some ⟨g, 0, none⟩) 512 cap, .int .i64 0]) ∧ w.heap.size ≤ g ∧ bytesAt w' ⟨g, 0, none⟩ (secL C.S (1 + C.size + n.toNat)) ∧ ∃ u' D', UseTo C.used C.most C.N (C.uses + 1) n u' ∧ CacheAt w' c { L with Du := D' } { C with uses := C.uses + 1, used := u' } ∧ Keeps (fun i => i = c ∨ i = L.um) w w')
section
variable {c : Nat} {L : CLay} {C : CS}
set_option maxRecDepth 100000 in
set_option maxHeartbeats 2000000 in
theorem bread_any (n : Int) (hn0 : -9223372036854775808 ≤ n) (hn1 : n < 9223372036854775808) (w : World) (h : CacheAt w c L C) (hM : Made C.S) (hu : C.uses < 1000000) :
    Calls Tryz.prog 25 #[.pointer (some ⟨c, 0, none⟩), .int .i64 n] w fun e w' => ReadTo w w' c L C n e := by
  obtain ⟨c0, c1, -, -, -⟩ := h.cells
  have H := hid h
  have HM := hid hM
  cases hdv : L.dv n with
  | some v =>
    obtain ⟨g0, cap0, bs, h1, rfl, h3, h4, h5⟩ := h.bytes n v hdv
    have HDv := hid hdv
    have HDi := hid h1
    have hcl := bclone_any bs ⟨g0, 0, none⟩ cap0 w (by omega) (by omega) h3
    rw [h4] at hcl
    have HCl := hid hcl
    have H4 := hid h4
    clear h hM hdv h1 h3 h4 h5 hcl
    go_enter Tryz.func25, Tryz.ntmps25
    go_wp2_with (refine wpList_lookup_grp rfl (.tmp 16) (.tmp 17) 80 rfl 49 Tryz.underlying80 (Tryz.zeroValue49 _) rfl H.out.dirty n rfl hn0 hn1 (.slice (some ⟨g0, 0, none⟩) 512 cap0) true (by rw [HDv.out]; rfl) (by rw [HDv.out]; rfl) ?_)
    refine HCl.out.mono ?_
    clear HCl
    rintro e w1 ⟨g, cap, rfl, hrow, hb⟩
    have HB := hid hb
    have HR := hid hrow
    clear hb hrow
    go_wp2
    go_returns
    exact .inr (.inl ⟨bs, HDi.out, H4.out, g, cap, rfl, (HR.out.lt g rfl).1, row_bytesAt HR.out H4.out, HB.out⟩)
  | none =>
    have HDv := hid hdv
    have HDi := hid (h.clean n hdv)
    clear h hM hdv
    by_cases hin : 0 ≤ n ∧ n < (C.N : Int)
    · obtain ⟨hi0, hi1⟩ := hin
      obtain ⟨x, rfl⟩ : ∃ x : Nat, n = (x : Int) := ⟨n.toNat, by omega⟩
      have hxp : x < pagesS C.S C.size := by rw [← H.out.pages]; omega
      have hx1 : C.size + 1 + x < C.S.safe.length := by unfold pagesS at hxp; omega
      have hsz : (seenS C.S.safe C.S.waits ((1 + C.size + x : Nat) : Int)).size = 512 := HM.out.seen (1 + C.size + x) (by omega)
      have hlr := log_read x w H.out.log H.out.fits hxp
      rw [show (1 + (C.size : Int) + (x : Int)) = ((1 + C.size + x : Nat) : Int) by omega, hsz] at hlr
      have HLr := hid hlr
      have hcl := lt_of_heap H.out.heap
      have hpl := H.out.pagesLe
      clear hlr hsz hx1 hxp
      go_enter Tryz.func25, Tryz.ntmps25
      go_wp2_with (refine wpList_lookup_grp rfl (.tmp 16) (.tmp 17) 80 rfl 49 Tryz.underlying80 (Tryz.zeroValue49 _) rfl H.out.dirty (x : Int) rfl hn0 hn1 (.slice none 0 0) false (by rw [HDv.out]; rfl) (by rw [HDv.out]; rfl) ?_)
      refine HLr.out.mono ?_
      clear HLr
      rintro e w1 ⟨g, cap, rfl, hg1, hby, hb1⟩
      have H1 := hid (H.out.below hb1)
      have HBy := hid hby
      have HB1 := hid hb1
      have HUs := hid (buse_any C.used _ _ _ C.most C.uses hu H.out.ub (x : Int) hi0 hi1 hpl w1 H1.out.heap H1.out.used)
      clear hby hb1
      go_wp2_with fail
      refine HUs.out.mono ?_
      clear HUs
      rintro e w2 ⟨rfl, u', D', hc2, hU2, hT2, hK2⟩
      have hby2 : bytesAt w2 ⟨g, 0, none⟩ (secL C.S (1 + C.size + x)) := fun j hj => by
        have h1 := HBy.out j hj
        exact hK2.cell h1 (H1.out.out (G := fun i => i = c ∨ i = L.um) (fun i hi => hi.elim .inl (fun e => .inr (.inr e))) h1 (fun y => by simp) (fun y => by simp) (fun y => by simp))
      have HBy2 := hid hby2
      have HC2 := hid (H1.out.use hc2 hU2 hT2 hK2 hu)
      have HT2 := hid hT2
      have HK2 : Hid (Keeps (fun i => i = c ∨ i = L.um) w w2) := (Keeps.of_below HB1.out).trans hK2 (fun i e => .inl e)
      clear hc2 hU2 hT2 hK2 hby2
      go_wp2
      go_returns
      exact .inr (.inr ⟨hi0, hi1, HDi.out, g, cap, rfl, hg1, by rw [show ((x : Int)).toNat = x by omega]; exact HBy2.out, u', D', HT2.out, HC2.out, HK2.out⟩)
    · have HLr := hid (log_read_no n w H.out.log H.out.fits (by rw [← H.out.pages]; exact hin))
      have HIn := hid hin
      clear hin
      go_enter Tryz.func25, Tryz.ntmps25
      go_wp2_with (refine wpList_lookup_grp rfl (.tmp 16) (.tmp 17) 80 rfl 49 Tryz.underlying80 (Tryz.zeroValue49 _) rfl H.out.dirty n rfl hn0 hn1 (.slice none 0 0) false (by rw [HDv.out]; rfl) (by rw [HDv.out]; rfl) ?_)
      refine HLr.out.mono ?_
      clear HLr
      rintro e w1 ⟨rfl, hb1⟩
      have HB1 := hid hb1
      clear hb1
      go_wp2
      go_returns
      exact .inl ⟨HIn.out, HDi.out, rfl, HB1.out⟩
/-- Pages with one more that was written. -/
def updD (f : Int → Option (List UInt8)) (n : Int) (l : List UInt8) : Int → Option (List UInt8) := fun k => if k = n then some l else f k
theorem CacheAt.wrote {w w1 w2 w3 : World} (h : CacheAt w c L C) {n : Int} {l : List UInt8} {g cap : Nat} {Dd Du : DataW Value} (hl : l.length = 512) (hb1 : Below w.heap.size w w1) (hrow : w1.ownsRow w.heap.size 5 1 (.slice (some ⟨g, 0, none⟩) 512 cap) 512 (l.map U8)) (hd : GrpIn w2 L.dm 4096 Dd C.N (updV L.dv n (.slice (some ⟨g, 0, none⟩) 512 cap))) (hk2 : Keeps (fun i => i = L.dm) w1 w2) (hu : GrpIn w3 L.um 4096 Du C.N (usedV (delN C.used n))) (hk3 : Keeps (fun i => i = L.um) w2 w3) :
    CacheAt w3 c { L with dv := updV L.dv n (.slice (some ⟨g, 0, none⟩) 512 cap), Dd := Dd, Du := Du } { C with dirty := updD C.dirty n l, used := delN C.used n } := by
  have h1 := h.below hb1
  have hk13 : Keeps (fun i => i = L.dm ∨ i = L.um) w1 w3 := (hk2.mono (G := fun i => i = L.dm ∨ i = L.um) (fun i e => .inl e)).trans hk3 (fun i e => .inl (.inr e))
  have hG : ∀ i, (i = L.dm ∨ i = L.um) → i = c ∨ i = L.dm ∨ i = L.um := fun i hi => .inr hi
  have hby := row_bytesAt hrow hl
  obtain ⟨hg1, hg2⟩ := hrow.lt g rfl
  exact {
    heap := hk13.heap h1.heap (fun e => e.elim h.cd h.cu)
    log := h1.logKeep hG hk13
    lt := fun i hi => Nat.lt_of_lt_of_le (h1.lt i hi) hk13.size
    dirty := hd.keep hk3 (fun e => h.ne e)
    bytes := fun k v hv => by
      by_cases e : k = n
      · subst e
        simp only [updV, if_true, Option.some.injEq] at hv
        refine ⟨g, cap, l, by simp [updD], hv.symm, fun j hj => hk13.cell (hby j hj) (h1.out hG (hby j hj) (fun x => by simp) (fun x => by simp) (fun x => by simp)), hl, fun hf => ?_⟩
        have := h.lt g hf
        omega
      · have hv' : L.dv k = some v := by simpa [updV, e] using hv
        obtain ⟨g', cap', bs, a1, a2, a3, a4, a5⟩ := h1.bytesKeep hG hk13 k v hv'
        exact ⟨g', cap', bs, by simpa [updD, e] using a1, a2, a3, a4, a5⟩
    clean := fun k hk => by
      by_cases e : k = n
      · subst e; simp [updV] at hk
      · simp only [updD, if_neg e]; exact h.clean k (by simpa [updV, e] using hk)
    used := hu
    offc := h.offc
    offd := h.offd
    offu := h.offu
    ne := h.ne
    pages := h.pages
    fits := h.fits
    few := h.few
    ub := fun y j hy => by
      simp only [delN] at hy
      split at hy
      · cases hy
      · exact h.ub y j hy }
/-- What Write leaves. -/
def WroteTo (w w' : World) (c : Nat) (L : CLay) (C : CS) (n : Nat) (l : List UInt8) (e : Ending) : Prop :=
  e = .returned (.int .i64 0) ∧ ∃ g cap Dd Du, w.heap.size ≤ g ∧ CacheAt w' c { L with dv := updV L.dv n (.slice (some ⟨g, 0, none⟩) 512 cap), Dd := Dd, Du := Du } { C with dirty := updD C.dirty n l, used := delN C.used n } ∧ Keeps (fun i => i = L.dm ∨ i = L.um) w w'
set_option maxRecDepth 100000 in
set_option maxHeartbeats 4000000 in
theorem bwrite_ok (n : Nat) (l : List UInt8) (ad : Addr) (cp : Nat) (w : World) (h : CacheAt w c L C) (hn : n < C.N) (hl : l.length = 512) (hb : bytesAt w ad l) (hr : (C.dirty n).isSome ∨ C.dirtyKeys.length < min C.size 100) :
    Calls Tryz.prog 27 #[.pointer (some ⟨c, 0, none⟩), .int .i64 n, .slice (some ad) 512 cp] w fun e w' => WroteTo w w' c L C n l e := by
  obtain ⟨c0, c1, -, -, c4⟩ := h.cells
  have H := hid h
  have hcl := lt_of_heap h.heap
  have hpg := log_pages w h.log h.fits
  rw [← h.pages] at hpg
  have HPg := hid hpg
  have hN := h.pagesLe
  have HRm := hid (fun W (hW : Below w.heap.size w W) => broom_any W (h.below hW))
  have hb' : ∀ W, Below w.heap.size w W → bytesAt W ad l := fun W hW j hj => (hW.cell (World.block_lt_of_cell? w _ (hb j hj))).trans (hb j hj)
  have HCl : Hid (∀ W, Below w.heap.size w W → Calls Tryz.prog 58 #[.slice (some ad) 512 cp] W fun e w' => ∃ g cap, e = .returned (.slice (some ⟨g, 0, none⟩) 512 cap) ∧ w'.ownsRow W.heap.size 5 1 (.slice (some ⟨g, 0, none⟩) 512 cap) 512 (l.map U8) ∧ Below W.heap.size W w') := fun W hW => by
    have := bclone_any l ad cp W (by omega) (by omega) (hb' W hW)
    rw [hl] at this
    exact this
  have HL := hid hl
  have hsi := h.some_iff (n : Int)
  have HC : Hid (∀ W, Below w.heap.size w W → W.cell? ⟨c, 0, none⟩ = some (.pointer (some ⟨L.p, 0, none⟩)) ∧ W.cell? ⟨c, 1, none⟩ = some (.map (some L.dm)) ∧ W.cell? ⟨c, 4, none⟩ = some (.map (some L.um))) := fun W hW => by
    obtain ⟨x0, x1, -, -, x4⟩ := (h.below hW).cells
    exact ⟨x0, x1, x4⟩
  clear h hpg hb hb' hl
  have hn0 : ¬ ((n : Int) < 0) := by omega
  have hn1 : ¬ ((n : Int) ≥ (C.N : Int)) := by omega
  have hn2 : (n : Int) < 9223372036854775808 := by omega
  have hn3 : (-9223372036854775808 : Int) ≤ (n : Int) := by omega
  have HN4 := hid hN
  have HN5 := hid hn
  have HCl0 := hid hcl
  clear hn2 hn3 hN hn hcl
  cases hdv : L.dv (n : Int) with
  | some v =>
    have HDv := hid hdv
    clear hdv hr hsi
    go_enter Tryz.func27, Tryz.ntmps27
    go_wp2_with fail
    refine HPg.out.mono ?_
    clear HPg
    rintro e w1 ⟨rfl, hb1⟩
    have HB1 := hid hb1
    have HD1 := hid (H.out.dirty.below hb1)
    obtain ⟨d0, d1, -⟩ := HC.out w1 hb1
    clear hb1 c0 c1 c4
    go_wp2_with (first
      | (at_lookup; refine wpList_lookup_grp rfl (.tmp 29) (.tmp 30) 80 rfl 49 Tryz.underlying80 (Tryz.zeroValue49 _) rfl HD1.out (n : Int) rfl (by omega) (by have := HN4.out; have := HN5.out; omega) v true (by rw [HDv.out]; rfl) (by rw [HDv.out]; rfl) ?_)
      | fail)
    clear d0 d1
    obtain ⟨y0, y1, y4⟩ := HC.out w1 HB1.out
    have HK0 := hid (HCl.out w1.drew HB1.out.drew)
    go_wp2
    refine wp_region_noPanic ?_
    refine wp_region_held_drew (S := fun W => W.cell? ⟨c, 1, none⟩ = some (.map (some L.dm))) (by kernel_rfl) y1 (fun hHeld => ?_)
    refine wpAnyH_take (i := 0) (v := ?_) rfl (by kernel_rfl) (by kernel_rfl) (by kernel_rfl) (fun _ _ _ h => h) (Or.inl ⟨by rfl, ?_⟩) (by assumption) ?_
    rotate_left
    · (intro W hSw; (try dsimp only at hSw); obtain s1 := hSw; go_simp; try with_reducible rfl)
    try simp only [List.getElem_toArray, List.getElem_cons_zero, Act.put, List.setIfInBounds_toArray, List.set_cons_zero, List.set_cons_succ]
    refine wpAnyH_take (i := 1) (v := ?_) rfl (by kernel_rfl) (by kernel_rfl) (by kernel_rfl) (fun _ _ _ h => h) (Or.inl ⟨by rfl, ?_⟩) (by assumption) ?_
    rotate_left
    · (intro W hSw; (try dsimp only at hSw); obtain s1 := hSw; go_simp; try with_reducible rfl)
    try simp only [List.getElem_toArray, List.getElem_cons_succ, List.getElem_cons_zero, Act.put, List.setIfInBounds_toArray, List.set_cons_zero, List.set_cons_succ]
    refine wpAnyH_take (i := 2) (v := ?_) rfl (by kernel_rfl) (by kernel_rfl) (by kernel_rfl) (fun _ _ _ h => h) (Or.inl ⟨by rfl, ?_⟩) (by assumption) ?_
    rotate_left
    · (intro W hSw; (try dsimp only at hSw); obtain s1 := hSw; go_simp; try with_reducible rfl)
    try simp only [List.getElem_toArray, List.getElem_cons_succ, List.getElem_cons_zero, Act.put, List.setIfInBounds_toArray, List.set_cons_zero, List.set_cons_succ]
    refine wpAnyH_take (i := 3) (v := ?_) rfl (by kernel_rfl) (by kernel_rfl) (by kernel_rfl) (fun _ _ _ h => h) (Or.inl ⟨by rfl, ?_⟩) (by assumption) ?_
    rotate_left
    · (intro W hSw; (try dsimp only at hSw); obtain s1 := hSw; go_simp; try with_reducible rfl)
    try simp only [List.getElem_toArray, List.getElem_cons_succ, List.getElem_cons_zero, Act.put, List.setIfInBounds_toArray, List.set_cons_zero, List.set_cons_succ]
    refine wpAnyH_take (i := 4) (v := ?_) rfl (by kernel_rfl) (by kernel_rfl) (by kernel_rfl) (fun _ _ _ h => h) (Or.inl ⟨by rfl, ?_⟩) (by assumption) ?_
    rotate_left
    · (intro W hSw; (try dsimp only at hSw); obtain s1 := hSw; go_simp; try with_reducible rfl)
    try simp only [List.getElem_toArray, List.getElem_cons_succ, List.getElem_cons_zero, Act.put, List.setIfInBounds_toArray, List.set_cons_zero, List.set_cons_succ]
    refine wpAnyH_take (i := 5) (v := ?_) rfl (by kernel_rfl) (by kernel_rfl) (by kernel_rfl) (fun _ _ _ h => h) (Or.inl ⟨by rfl, ?_⟩) (by assumption) ?_
    rotate_left
    · (intro W hSw; (try dsimp only at hSw); obtain s1 := hSw; go_simp; try with_reducible rfl)
    try simp only [List.getElem_toArray, List.getElem_cons_succ, List.getElem_cons_zero, Act.put, List.setIfInBounds_toArray, List.set_cons_zero, List.set_cons_succ]
    refine wpAnyH_ready (rs := [6]) (by kernel_rfl) (by simp) (AllReadyH.cons rfl (fun K hK => ?_) AllReadyH.nil)
    rw [if_pos (by rfl)]
    go_simp
    refine HK0.out.mono ?_
    clear HK0
    rintro e w3 ⟨g, cap, rfl, hrow, hb3⟩
    have hB3 : Below w.heap.size w w3 := HB1.out.drew.trans (hb3.mono HB1.out.drew.size)
    have H3 := hid (H.out.below hB3)
    have HRw := hid (World.ownsRow.mono hrow HB1.out.drew.size)
    have HB3 := hid hB3
    obtain ⟨z0, z1, z4⟩ := HC.out w3 hB3
    clear hb3 hrow hB3 y0 y1 y4
    go_wp2_with fail
    refine hK.out _ _ z1 (fun hHeld => ?_)
    clear hK K
    try simp only [List.getElem_toArray, List.getElem_cons_succ, List.getElem_cons_zero, Act.put, List.setIfInBounds_toArray, List.set_cons_zero, List.set_cons_succ]
    refine wpAnyH_ready (rs := [7]) (by kernel_rfl) (by simp) (AllReadyH.cons rfl (fun K hK => ?_) AllReadyH.nil)
    rw [if_pos (by rfl)]
    refine wp_mapUpdate_self (.tmp 44) (.tmp 45) (.tmp 47) 80 rfl 3 49 (int_keyed Tryz.underlying3) Tryz.underlying80 L.dm 4096 L.Dd rfl H3.out.dirty.mapOwn (by unfold maxLen; omega) (.int .i64 (n : Int)) (.slice (some ⟨g, 0, none⟩) 512 cap) (.int .i64 (n : Int)) rfl rfl (keyI (by omega) (by have := HN4.out; have := HN5.out; omega)) ?_
    intro w4 hown4 hgr4
    have HG4 := hid ((H3.out.dirty.put (by omega) (by have := HN5.out; omega) hown4).norm HN4.out)
    have hK34 : Keeps (fun i => i = L.dm) w3 w4 := (Keeps.refl _ w3).grown hgr4 (fun i e => .inl (Option.some.inj e).symm)
    have HK34 := hid hK34
    have x1 : w4.cell? ⟨c, 1, none⟩ = some (.map (some L.dm)) := hK34.cell (ad := ⟨c, 1, none⟩) z1 (fun e => H.out.cd e)
    have x4 : w4.cell? ⟨c, 4, none⟩ = some (.map (some L.um)) := hK34.cell (ad := ⟨c, 4, none⟩) z4 (fun e => H.out.cd e)
    have HU4 := hid (H3.out.used.keep hK34 (fun e => H.out.ne e.symm))
    have HDr := hid (bdrop_any (c := c) (usedV C.used) (n : Int) (by omega) (by have := HN4.out; have := HN5.out; omega) w4 x4 HU4.out)
    clear hown4 hgr4 hK34 z0 z1 z4
    refine hK.out _ _ x1 (fun hHeld => ?_)
    clear hK K
    refine wpAnyH_done (by kernel_rfl) ?_ _
    refine NoPanic.normal ?_
    clear hHeld x1 x4
    go_wp2_with fail
    refine HDr.out.mono ?_
    clear HDr
    rintro e w5 ⟨rfl, D5, hG5, hg5⟩
    rw [usedV_del] at hG5
    have hK45 : Keeps (fun i => i = L.um) w4 w5 := (Keeps.refl _ w4).grown hg5 (fun i e => .inl (Option.some.inj e).symm)
    have HC5 := hid (H.out.wrote HL.out HB3.out HRw.out HG4.out HK34.out hG5 hK45)
    have HK5 : Hid (Keeps (fun i => i = L.dm ∨ i = L.um) w w5) := ((Keeps.of_below HB3.out).trans HK34.out (fun i e => .inl (.inl e))).trans hK45 (fun i e => .inl (.inr e))
    have HGe : Hid (w.heap.size ≤ g) := (HRw.out.lt g rfl).1
    clear hG5 hg5 hK45
    go_wp2
    go_ret
    exact ⟨rfl, g, cap, _, D5, HGe.out, HC5.out, HK5.out⟩
  | none =>
    have HDv := hid hdv
    have hdk : C.dirtyKeys.length < min C.size 100 := by
      rcases hr with h1 | h1
      · rw [hdv] at hsi; rw [← hsi] at h1; cases h1
      · exact h1
    clear hdv hr hsi
    have hcp : min C.size 100 ≤ 100 := by omega
    generalize min C.size 100 = cpp at *
    generalize C.dirtyKeys.length = dk at *
    have hne : ((cpp : Int) - (dk : Int) == 0) = false := beq_eq_false_iff_ne.2 (by omega)
    have hne' : ¬ ((cpp : Int) - (dk : Int) = 0) := by omega
    go_enter Tryz.func27, Tryz.ntmps27
    go_wp2_with fail
    refine HPg.out.mono ?_
    clear HPg
    rintro e w1 ⟨rfl, hb1⟩
    have HB1 := hid hb1
    have HD1 := hid (H.out.dirty.below hb1)
    obtain ⟨d0, d1, -⟩ := HC.out w1 hb1
    have HR1 := hid (HRm.out w1 hb1)
    clear hb1 c0 c1 c4 HRm
    go_wp2_with (first
      | (at_lookup; refine wpList_lookup_grp rfl (.tmp 29) (.tmp 30) 80 rfl 49 Tryz.underlying80 (Tryz.zeroValue49 _) rfl HD1.out (n : Int) rfl (by omega) (by have := HN4.out; have := HN5.out; omega) (.slice none 0 0) false (by rw [HDv.out]; rfl) (by rw [HDv.out]; rfl) ?_)
      | fail)
    refine HR1.out.mono ?_
    clear HR1
    rintro e w2 ⟨rfl, hb2⟩
    have HB2 := hid (HB1.out.trans (hb2.mono HB1.out.size))
    clear hb2 d0 d1
    obtain ⟨y0, y1, y4⟩ := HC.out w2 HB2.out
    have HK0 := hid (HCl.out w2.drew HB2.out.drew)
    go_wp2
    refine wp_region_noPanic ?_
    refine wp_region_held_drew (S := fun W => W.cell? ⟨c, 1, none⟩ = some (.map (some L.dm))) (by kernel_rfl) y1 (fun hHeld => ?_)
    refine wpAnyH_take (i := 0) (v := ?_) rfl (by kernel_rfl) (by kernel_rfl) (by kernel_rfl) (fun _ _ _ h => h) (Or.inl ⟨by rfl, ?_⟩) (by assumption) ?_
    rotate_left
    · (intro W hSw; (try dsimp only at hSw); obtain s1 := hSw; go_simp; try with_reducible rfl)
    try simp only [List.getElem_toArray, List.getElem_cons_zero, Act.put, List.setIfInBounds_toArray, List.set_cons_zero, List.set_cons_succ]
    refine wpAnyH_take (i := 1) (v := ?_) rfl (by kernel_rfl) (by kernel_rfl) (by kernel_rfl) (fun _ _ _ h => h) (Or.inl ⟨by rfl, ?_⟩) (by assumption) ?_
    rotate_left
    · (intro W hSw; (try dsimp only at hSw); obtain s1 := hSw; go_simp; try with_reducible rfl)
    try simp only [List.getElem_toArray, List.getElem_cons_succ, List.getElem_cons_zero, Act.put, List.setIfInBounds_toArray, List.set_cons_zero, List.set_cons_succ]
    refine wpAnyH_take (i := 2) (v := ?_) rfl (by kernel_rfl) (by kernel_rfl) (by kernel_rfl) (fun _ _ _ h => h) (Or.inl ⟨by rfl, ?_⟩) (by assumption) ?_
    rotate_left
    · (intro W hSw; (try dsimp only at hSw); obtain s1 := hSw; go_simp; try with_reducible rfl)
    try simp only [List.getElem_toArray, List.getElem_cons_succ, List.getElem_cons_zero, Act.put, List.setIfInBounds_toArray, List.set_cons_zero, List.set_cons_succ]
    refine wpAnyH_take (i := 3) (v := ?_) rfl (by kernel_rfl) (by kernel_rfl) (by kernel_rfl) (fun _ _ _ h => h) (Or.inl ⟨by rfl, ?_⟩) (by assumption) ?_
    rotate_left
    · (intro W hSw; (try dsimp only at hSw); obtain s1 := hSw; go_simp; try with_reducible rfl)
    try simp only [List.getElem_toArray, List.getElem_cons_succ, List.getElem_cons_zero, Act.put, List.setIfInBounds_toArray, List.set_cons_zero, List.set_cons_succ]
    refine wpAnyH_take (i := 4) (v := ?_) rfl (by kernel_rfl) (by kernel_rfl) (by kernel_rfl) (fun _ _ _ h => h) (Or.inl ⟨by rfl, ?_⟩) (by assumption) ?_
    rotate_left
    · (intro W hSw; (try dsimp only at hSw); obtain s1 := hSw; go_simp; try with_reducible rfl)
    try simp only [List.getElem_toArray, List.getElem_cons_succ, List.getElem_cons_zero, Act.put, List.setIfInBounds_toArray, List.set_cons_zero, List.set_cons_succ]
    refine wpAnyH_take (i := 5) (v := ?_) rfl (by kernel_rfl) (by kernel_rfl) (by kernel_rfl) (fun _ _ _ h => h) (Or.inl ⟨by rfl, ?_⟩) (by assumption) ?_
    rotate_left
    · (intro W hSw; (try dsimp only at hSw); obtain s1 := hSw; go_simp; try with_reducible rfl)
    try simp only [List.getElem_toArray, List.getElem_cons_succ, List.getElem_cons_zero, Act.put, List.setIfInBounds_toArray, List.set_cons_zero, List.set_cons_succ]
    refine wpAnyH_ready (rs := [6]) (by kernel_rfl) (by simp) (AllReadyH.cons rfl (fun K hK => ?_) AllReadyH.nil)
    rw [if_pos (by rfl)]
    go_simp
    refine HK0.out.mono ?_
    clear HK0
    rintro e w3 ⟨g, cap, rfl, hrow, hb3⟩
    have hB3 : Below w.heap.size w w3 := HB2.out.drew.trans (hb3.mono HB2.out.drew.size)
    have H3 := hid (H.out.below hB3)
    have HRw := hid (World.ownsRow.mono hrow HB2.out.drew.size)
    have HB3 := hid hB3
    obtain ⟨z0, z1, z4⟩ := HC.out w3 hB3
    clear hb3 hrow hB3 y0 y1 y4
    go_wp2_with fail
    refine hK.out _ _ z1 (fun hHeld => ?_)
    clear hK K
    try simp only [List.getElem_toArray, List.getElem_cons_succ, List.getElem_cons_zero, Act.put, List.setIfInBounds_toArray, List.set_cons_zero, List.set_cons_succ]
    refine wpAnyH_ready (rs := [7]) (by kernel_rfl) (by simp) (AllReadyH.cons rfl (fun K hK => ?_) AllReadyH.nil)
    rw [if_pos (by rfl)]
    refine wp_mapUpdate_self (.tmp 44) (.tmp 45) (.tmp 47) 80 rfl 3 49 (int_keyed Tryz.underlying3) Tryz.underlying80 L.dm 4096 L.Dd rfl H3.out.dirty.mapOwn (by unfold maxLen; omega) (.int .i64 (n : Int)) (.slice (some ⟨g, 0, none⟩) 512 cap) (.int .i64 (n : Int)) rfl rfl (keyI (by omega) (by have := HN4.out; have := HN5.out; omega)) ?_
    intro w4 hown4 hgr4
    have HG4 := hid ((H3.out.dirty.put (by omega) (by have := HN5.out; omega) hown4).norm HN4.out)
    have hK34 : Keeps (fun i => i = L.dm) w3 w4 := (Keeps.refl _ w3).grown hgr4 (fun i e => .inl (Option.some.inj e).symm)
    have HK34 := hid hK34
    have x1 : w4.cell? ⟨c, 1, none⟩ = some (.map (some L.dm)) := hK34.cell (ad := ⟨c, 1, none⟩) z1 (fun e => H.out.cd e)
    have x4 : w4.cell? ⟨c, 4, none⟩ = some (.map (some L.um)) := hK34.cell (ad := ⟨c, 4, none⟩) z4 (fun e => H.out.cd e)
    have HU4 := hid (H3.out.used.keep hK34 (fun e => H.out.ne e.symm))
    have HDr := hid (bdrop_any (c := c) (usedV C.used) (n : Int) (by omega) (by have := HN4.out; have := HN5.out; omega) w4 x4 HU4.out)
    clear hown4 hgr4 hK34 z0 z1 z4
    refine hK.out _ _ x1 (fun hHeld => ?_)
    clear hK K
    refine wpAnyH_done (by kernel_rfl) ?_ _
    refine NoPanic.normal ?_
    clear hHeld x1 x4
    go_wp2_with fail
    refine HDr.out.mono ?_
    clear HDr
    rintro e w5 ⟨rfl, D5, hG5, hg5⟩
    rw [usedV_del] at hG5
    have hK45 : Keeps (fun i => i = L.um) w4 w5 := (Keeps.refl _ w4).grown hg5 (fun i e => .inl (Option.some.inj e).symm)
    have HC5 := hid (H.out.wrote HL.out HB3.out HRw.out HG4.out HK34.out hG5 hK45)
    have HK5 : Hid (Keeps (fun i => i = L.dm ∨ i = L.um) w w5) := ((Keeps.of_below HB3.out).trans HK34.out (fun i e => .inl (.inl e))).trans hK45 (fun i e => .inl (.inr e))
    have HGe : Hid (w.heap.size ≤ g) := (HRw.out.lt g rfl).1
    clear hG5 hg5 hK45
    go_wp2
    go_ret
    exact ⟨rfl, g, cap, _, D5, HGe.out, HC5.out, HK5.out⟩
end
end Go.Proofs.YtjgclmlclkfgpaaGreat
