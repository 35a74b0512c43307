/- plates.copied: plates that hold the same, of their own. -/
import Derived.Test.YtoeiodiadanhkaaGreatJoined1
namespace Go.Proofs.YtoeiodiadanhkaaGreat
open Go.RowKit Go.Maps
/-- Plates that are being copied: the rows of the sectors ws are there. -/
structure CopyIn (w : World) (lo : Nat) (L : PL) (safe : List ByteArray) (ws : Int → List ByteArray) (B : Nat) : Prop where
  safeRow : w.ownsRow lo 108 1 (.slice (some ⟨L.g, 0, none⟩) safe.length L.cap) safe.length (strs safe)
  mapLo : lo ≤ L.m
  mapOwn : w.ownsMap Tryz.prog 3 selfElem L.m B L.D
  absent : ∀ n, ws n = [] → Maps.has L.D (.int .i64 n) = false
  there : ∀ n, ws n ≠ [] → Maps.has L.D (.int .i64 n) = true
  held : ∀ n, ws n ≠ [] → ∀ z, L.D.atKey (.int .i64 n) z = .held (.slice (some ⟨L.row n, 0, none⟩) (ws n).length (L.rcap n))
  rows : ∀ n, ws n ≠ [] → w.ownsRow lo 108 1 (.slice (some ⟨L.row n, 0, none⟩) (ws n).length (L.rcap n)) (ws n).length (strs (ws n))
  off : ∀ n, ws n ≠ [] → L.row n ≠ L.g
  apart : ∀ n n', ws n ≠ [] → ws n' ≠ [] → L.row n = L.row n' → n = n'
theorem row_lo {w : World} {lo : Nat} {e : TypeId} {g n cap : Nat} {xs : List Value} (h : w.ownsRow lo e 1 (.slice (some ⟨g, 0, none⟩) n cap) n xs) : lo ≤ g ∧ g < w.heap.size := h.lt g rfl
theorem CopyIn.foot_block {w : World} {lo : Nat} {L : PL} {safe : List ByteArray} {ws : Int → List ByteArray} {B : Nat} (h : CopyIn w lo L safe ws B) {i : Nat} (hi : L.foot ws i) : (∃ cur, w.heap[i]? = some (.cells cur 108 (0, 0))) ∨ ∃ es c, w.heap[i]? = some (.map es c) := by
  rcases hi with rfl | rfl | ⟨n, hn, rfl⟩
  · obtain ⟨cur, hc, _⟩ := row_block h.safeRow; exact .inl ⟨cur, hc⟩
  · obtain ⟨es, c, hm⟩ := map_block h.mapOwn; exact .inr ⟨es, c, hm⟩
  · obtain ⟨cur, hc, _⟩ := row_block (h.rows n hn); exact .inl ⟨cur, hc⟩
theorem CopyIn.keep {w w' : World} {lo : Nat} {L : PL} {safe : List ByteArray} {ws : Int → List ByteArray} {B : Nat} (h : CopyIn w lo L safe ws B) {G : Nat → Prop} (k : Keeps G w w') (hG : ∀ i, L.foot ws i → ¬ G i) : CopyIn w' lo L safe ws B where
  safeRow := k.row h.safeRow (fun i hi => hG i (.inl (Option.some.inj hi).symm))
  mapLo := h.mapLo
  mapOwn := k.map h.mapOwn (hG _ (.inr (.inl rfl)))
  absent := h.absent
  there := h.there
  held := h.held
  rows := fun n hn => k.row (h.rows n hn) (fun i hi => hG i (.inr (.inr ⟨n, hn, (Option.some.inj hi).symm⟩)))
  off := h.off
  apart := h.apart
/-- One row more. -/
theorem CopyIn.put {w w1 w2 : World} {lo : Nat} {L : PL} {safe : List ByteArray} {ws : Int → List ByteArray} {B : Nat} (h : CopyIn w lo L safe ws B) {n : Int} {xs : List ByteArray} {g cap : Nat} (hx : xs ≠ []) (hB : Below w.heap.size w w1) (hg : w.heap.size ≤ g) (hlo : lo ≤ w.heap.size)
    (hown : w1.ownsRow w.heap.size 108 1 (.slice (some ⟨g, 0, none⟩) xs.length cap) xs.length (strs xs))
    (hmap : w2.ownsMap Tryz.prog 3 selfElem L.m (B + 1) (L.D.put (.int .i64 n) (.held (.slice (some ⟨g, 0, none⟩) xs.length cap)))) (hgr : w1.grownBy w2 (some L.m)) :
    CopyIn w2 lo { L with D := L.D.put (.int .i64 n) (.held (.slice (some ⟨g, 0, none⟩) xs.length cap)), row := fun k => if k = n then g else L.row k, rcap := fun k => if k = n then cap else L.rcap k } safe (upd ws n xs) (B + 1) := by
  have K2 : Keeps (fun i => i = L.m) w w2 := (Keeps.of_below hB).grown hgr (fun i e => .inl (Option.some.inj e).symm)
  obtain ⟨es, mc, hmb⟩ := map_block h.mapOwn
  have hmlt := lt_of_heap hmb
  have hrm : ∀ k, ws k ≠ [] → L.row k ≠ L.m := fun k hk e => by
    obtain ⟨c, hc, _⟩ := row_block (h.rows k hk)
    rw [e, hmb] at hc; cases hc
  have hgm : L.g ≠ L.m := fun e => by
    obtain ⟨c, hc, _⟩ := row_block h.safeRow
    rw [e, hmb] at hc; cases hc
  refine ⟨?_, h.mapLo, hmap, ?_, ?_, ?_, ?_, ?_, ?_⟩
  · exact K2.row h.safeRow (fun i hi e => hgm (by
      have e1 : L.g = i := Option.some.inj hi
      have e2 : i = L.m := e
      rw [e1, e2]))
  · intro k hk
    by_cases hkn : k = n
    · subst hkn; rw [upd_same] at hk; exact absurd hk hx
    · rw [upd_other _ _ hkn] at hk
      rw [has_put_other (by simpa using hkn)]; exact h.absent k hk
  · intro k hk
    by_cases hkn : k = n
    · subst hkn; exact has_put_same h.mapOwn.isMap (keyLit_i64 _) _
    · rw [upd_other _ _ hkn] at hk
      rw [has_put_other (by simpa using hkn)]; exact h.there k hk
  · intro k hk z
    by_cases hkn : k = n
    · subst hkn
      rw [atKey_put_same h.mapOwn.isMap (keyLit_i64 _)]
      simp [upd_same]
    · rw [upd_other _ _ hkn] at hk
      rw [atKey_put_other (by simpa using hkn), h.held k hk]
      simp [upd_other _ _ hkn, hkn]
  · intro k hk
    by_cases hkn : k = n
    · subst hkn
      simp only [upd_same, if_true]
      exact (hown.mono hlo).kept hgr (.inr (fun e => by
        have e2 : g = L.m := Option.some.inj e
        omega))
    · rw [upd_other _ _ hkn] at hk
      simp only [upd_other _ _ hkn, hkn, if_false]
      exact K2.row (h.rows k hk) (fun i hi e => hrm k hk (by
        have e1 : L.row k = i := Option.some.inj hi
        have e2 : i = L.m := e
        rw [e1, e2]))
  · intro k hk
    by_cases hkn : k = n
    · subst hkn
      have := (row_lo h.safeRow).2
      simp only [if_true]; omega
    · rw [upd_other _ _ hkn] at hk
      simpa [hkn] using h.off k hk
  · intro k k' hk hk' e
    by_cases hkn : k = n
    · by_cases hkn' : k' = n
      · rw [hkn, hkn']
      · rw [upd_other _ _ hkn'] at hk'
        simp only [hkn, hkn', if_true, if_false] at e
        have := (row_lo (h.rows k' hk')).2
        omega
    · by_cases hkn' : k' = n
      · rw [upd_other _ _ hkn] at hk
        simp only [hkn, hkn', if_true, if_false] at e
        have := (row_lo (h.rows k hk)).2
        omega
      · rw [upd_other _ _ hkn] at hk
        rw [upd_other _ _ hkn'] at hk'
        simp only [hkn, hkn', if_false] at e
        exact h.apart k k' hk hk' e
theorem CopyIn.done {w : World} {lo : Nat} {L : PL} {safe : List ByteArray} {ws : Int → List ByteArray} {B B' : Nat} (h : CopyIn w lo L safe ws B) (hB : B ≤ B') (hl : ∀ n, (ws n).length ≤ B') (hd : ∀ n, ws n ≠ [] → 0 ≤ n ∧ n < safe.length) (hp : 0 < safe.length) (hm : safe.length ≤ 4096) :
    PlatesIn w L safe ws B' ∧ ∀ i, L.foot ws i → lo ≤ i := by
  refine ⟨⟨h.safeRow.mono (Nat.zero_le _), ?_, h.absent, h.there, h.held, fun n hn => (h.rows n hn).mono (Nat.zero_le _), h.off, h.apart, hl, hd, hp, hm⟩, ?_⟩
  · obtain ⟨es, c, h1, h2, h3, h4⟩ := h.mapOwn
    exact ⟨es, c, h1, h2, Nat.le_trans h3 hB, h4⟩
  · rintro i (rfl | rfl | ⟨n, hn, rfl⟩)
    · exact (row_lo h.safeRow).1
    · exact h.mapLo
    · exact (row_lo (h.rows n hn)).1
/-- The sectors that have come. -/
def cameS (waits : Int → List ByteArray) (left : Lit → Bool) (n : Int) : List ByteArray := if left (.int .i64 n) then [] else waits n
theorem came_step (waits : Int → List ByteArray) (left : Lit → Bool) (x : Int) (hx : left (.int .i64 x) = true) : cameS waits (fun z => left z && !z.sameKey (.int .i64 x)) = upd (cameS waits left) x (waits x) := by
  funext n
  unfold cameS upd
  by_cases e : n = x
  · subst e
    simp [Lit.sameKey]
  · have : (Lit.int .i64 n).sameKey (.int .i64 x) = false := by simp [Lit.sameKey, e]
    simp [this, e]
theorem came_start {w : World} {L : PL} {safe : List ByteArray} {waits : Int → List ByteArray} {B : Nat} (h : PlatesIn w L safe waits B) : cameS waits (Maps.has L.D) = fun _ => [] := by
  funext n
  unfold cameS
  by_cases hn : waits n = []
  · rw [h.absent n hn]; simp [hn]
  · rw [h.there n hn]; rfl
theorem came_end (waits : Int → List ByteArray) (left : Lit → Bool) (h : ∀ kl, left kl = false) : cameS waits left = waits := by
  funext n
  simp [cameS, h]
theorem ranges_le {w : World} {m r B cnt : Nat} {D : DataW Value} {left : Lit → Bool} (h : w.ranges Tryz.prog 3 selfElem m r B D left cnt) : cnt ≤ B := by
  obtain ⟨es, clock, since, seen, c0, _, _, hs, _, _, _, hc, _⟩ := h
  have : (leftOf es seen).size ≤ es.size := by unfold leftOf; exact Array.size_filter_le
  omega
theorem below_grown {w w' : World} (h : Below w.heap.size w w') : w.grownBy w' none := ⟨h.os, h.tape, h.output, h.size, fun k hk _ => h.block k hk⟩
theorem ranges_iter {w : World} {m r B cnt : Nat} {D : DataW Value} {left : Lit → Bool} (h : w.ranges Tryz.prog 3 selfElem m r B D left cnt) : ∃ a b c d, w.heap[r]? = some (.mapIter a b c d) := by
  obtain ⟨es, clock, since, seen, c0, _, _, _, _, hr, _⟩ := h
  exact ⟨_, _, _, _, hr⟩
set_option maxRecDepth 100000 in
set_option maxHeartbeats 2000000 in
theorem copied_any (p : Nat) (fv ov : Value) (L : PL) (safe : List ByteArray) (waits : Int → List ByteArray) (B : Nat) (w : World)
    (hp : w.heap[p]? = some (.cells #[fv, ov, .slice (some ⟨L.g, 0, none⟩) safe.length L.cap, .map (some L.m)] 98 (0, 0))) (h : PlatesIn w L safe waits B) (hB4 : B ≤ 4096) :
    Calls Tryz.prog 87 #[.pointer (some ⟨p, 2, none⟩)] w fun e w' => ∃ L', e = .returned (.agg #[.slice (some ⟨L'.g, 0, none⟩) safe.length L'.cap, .map (some L'.m)]) ∧ PlatesIn w' L' safe waits B ∧ (∀ i, L'.foot waits i → w.heap.size ≤ i) ∧ Below w.heap.size w w' := by
  have c2 : w.cell? ⟨p, 2, none⟩ = some (.slice (some ⟨L.g, 0, none⟩) safe.length L.cap) := by rw [cell_of_block hp]; rfl
  have c3 : w.cell? ⟨p, 3, none⟩ = some (.map (some L.m)) := by rw [cell_of_block hp]; rfl
  have HP := hid hp
  have H := hid h
  have hplt := lt_of_heap hp
  have HF := hid (flushed_any (strs safe) ⟨L.g, 0, none⟩ L.cap (by simpa using h.pos) (by simpa using h.most) (strs_one _) (w.alloc (.cells #[.slice none 0 0, .map none] 96)) (fun j u hu => by
    have hj : j < safe.length := by simpa using (List.getElem?_eq_some_iff.1 hu).1
    rw [Addr.add_mid, Nat.zero_add, World.cell?_alloc_lt _ _ _ (h.foot_lt (.inl rfl)), h.safeRow.cellAt j (by omega)]; exact hu))
  rw [show (strs safe).length = safe.length by simp] at HF
  clear hp h
  go_enter Tryz.func87, Tryz.ntmps87
  go_wp2_with fail
  refine HF.out.mono ?_
  clear HF
  rintro e w1 ⟨g, cap, m, rfl, hm, hmb, hown, hB⟩
  have hb0 := below_block hB (block_new w (.cells #[.slice none 0 0, .map none] 96)) (by simp)
  have HB0 := hid hb0
  have HOW := hid hown
  have HMB := hid hmb
  have HBB := hid hB
  have hz0 : (w.alloc (.cells #[.slice none 0 0, .map none] 96)).heap.size = w.heap.size + 1 := by simp
  rw [hz0] at hm HOW HBB
  have HBw : Hid (Below w.heap.size w w1) := ((Below.refl w.heap.size w).alloc (Nat.le_refl _) (.cells #[.slice none 0 0, .map none] 96)).trans (HBB.out.mono (by omega))
  clear hb0 hown hB hmb hz0
  have hpw1 : p < w1.heap.size := Nat.lt_of_lt_of_le hplt HBw.out.size
  have c3a : (w1.alloc (.cells #[.slice (some ⟨g, 0, none⟩) safe.length cap, .map (some m)] 96)).cell? ⟨p, 3, none⟩ = some (.map (some L.m)) := by
    rw [World.cell?_alloc_lt _ _ _ hpw1, HBw.out.cell (p := ⟨p, 3, none⟩) hplt]; exact c3
  have HBa : Hid (Below w.heap.size w (w1.alloc (.cells #[.slice (some ⟨g, 0, none⟩) safe.length cap, .map (some m)] 96))) := HBw.out.alloc HBw.out.size _
  have HPa := hid (H.out.keep (G := fun _ => False) (Keeps.of_below HBa.out) (fun _ _ e => e))
  have hbc := block_new w1 (.cells #[.slice (some ⟨g, 0, none⟩) safe.length cap, .map (some m)] 96)
  have HBc := hid hbc
  have HMa := hid (block_alloc HMB.out (.cells #[.slice (some ⟨g, 0, none⟩) safe.length cap, .map (some m)] 96))
  have HOa := hid (HOW.out.alloc (.cells #[.slice (some ⟨g, 0, none⟩) safe.length cap, .map (some m)] 96))
  have hza : (w1.alloc (.cells #[.slice (some ⟨g, 0, none⟩) safe.length cap, .map (some m)] 96)).heap.size = w1.heap.size + 1 := by simp
  have HZa := hid hza
  have hw01 := HBw.out.size
  have HRa := hid (block_alloc HB0.out (.cells #[.slice (some ⟨g, 0, none⟩) safe.length cap, .map (some m)] 96))
  have hriw : w.heap.size ≤ (w1.alloc (.cells #[.slice (some ⟨g, 0, none⟩) safe.length cap, .map (some m)] 96)).heap.size := by rw [hza]; omega
  clear hbc hza HOW HMB HB0 HBB HZa
  generalize hWa : w1.alloc (.cells #[.slice (some ⟨g, 0, none⟩) safe.length cap, .map (some m)] 96) = wa at *
  go_wp2_with (first
    | (at_range; refine wpList_range_own _ rfl (.tmp 14) 94 rfl 3 92 (int_keyed Tryz.underlying3) Tryz.underlying94 selfElem L.m B L.D rfl HPa.out.mapOwn ?_; intro w0 hrg0 hg0 hs0)
    | go_in)
  go_frame
  have hBg : Below wa.heap.size wa w0 := ⟨hg0.os, hg0.tape, hg0.output, hg0.size, fun k hk => hg0.block k hk (by simp)⟩
  have HB0 : Hid (Below w.heap.size w w0) := HBa.out.trans (hBg.mono HBa.out.size)
  have HPl0 := hid (H.out.keep (G := fun _ => False) (Keeps.of_below HB0.out) (fun _ _ e => e))
  have HRg0 := hid hrg0
  have HLe0 := hid (ranges_le hrg0)
  have HCp0 : Hid (CopyIn w0 (w.heap.size + 1) ⟨g, cap, m, .map [], fun _ => 0, fun _ => 0⟩ safe (cameS waits (Maps.has L.D)) 0) := by
    show CopyIn _ _ _ _ _ _
    rw [came_start H.out]
    have hmm := below_block hBg HMa.out (lt_of_heap HMa.out)
    have hrr := (Keeps.of_below (F := fun _ => False) hBg).row HOa.out (fun _ _ e => e)
    exact ⟨hrr, hm, map_empty hmm, fun _ _ => rfl, fun n hn => absurd rfl hn, fun n hn => absurd rfl hn, fun n hn => absurd rfl hn, fun n hn => absurd rfl hn, fun n n' hn => absurd rfl hn⟩
  have HBc0 := hid (below_block hBg HBc.out (lt_of_heap HBc.out))
  have HRc0 := hid (below_block hBg HRa.out (lt_of_heap HRa.out))
  clear hrg0 hg0 hs0 hBg HBa HPa HMa HOa HBc HBw HRa
  have HWt := hid (fun n (hn : waits n ≠ []) => H.out.held n hn)
  have HHas : Hid (∀ x, Maps.has L.D (.int .i64 x) = true → waits x ≠ []) := fun x hx e => by rw [H.out.absent x e] at hx; cases hx
  have HDom := hid H.out.dom
  have HMost := hid H.out.most
  have HLen := hid H.out.len
  have HPos := hid H.out.pos
  have HFl := hid (fun i hi => H.out.foot_lt (i := i) hi)
  generalize hri : wa.heap.size = ri at *
  clear hri hWa
  clear H
  go_loopw [4, 5] (fun _ _ wr => ∃ (left : Lit → Bool) (cnt : Nat) (L' : PL) (B1 : Nat), B1 + cnt ≤ B ∧ Hid (L'.g = g ∧ L'.cap = cap ∧ L'.m = m) ∧ Hid (wr.ranges Tryz.prog 3 selfElem L.m ri B L.D left cnt) ∧ Hid (PlatesIn wr L safe waits B) ∧ Hid (CopyIn wr (w.heap.size + 1) L' safe (cameS waits left) B1) ∧
    Hid (wr.heap[w1.heap.size]? = some (.cells #[.slice (some ⟨g, 0, none⟩) safe.length cap, .map (some m)] 96 (0, 0))) ∧ Hid (wr.heap[w.heap.size]? = some (.cells #[.slice none 0 0, .map none] 96 (0, 0))) ∧ Hid (Below w.heap.size w wr)) (fun _ _ wr => wr.rangeLeft L.m ri)
  case atStart => exact ⟨_, _, _, 0, by have := HLe0.out; omega, ⟨rfl, rfl, rfl⟩, HRg0, HPl0, HCp0, HBc0, HRc0, HB0⟩
  case round =>
    obtain ⟨left, cnt, L', B1, hBc, hE, hrg, hPl, hCp, hbc, hrc, hBr⟩ := hrel
    clear HRg0 HPl0 HCp0 HBc0 HB0 HLe0 HRc0
    go_wp2_with (first
      | (at_next; refine wpList_next_ranges _ rfl (.tmp 15) rfl 3 (int_keyed Tryz.underlying3) selfElem encZ id (fun key kl hk => by obtain ⟨x, hx, _⟩ := Maps.keyOf_i64 Tryz.underlying3 hk; exact ⟨x, hx⟩) (fun v _ _ => ⟨v, rfl⟩) L.m ri B _ _ _ rfl hrg.out ?_ ?_)
      | go_in)
    · -- nothing is left
      intro hc0 hl0
      have HD := hid (hCp.out.done (B' := B) (by omega) (by rw [came_end waits left hl0]; exact HLen.out) (by rw [came_end waits left hl0]; exact HDom.out) HPos.out HMost.out)
      rw [came_end waits left hl0] at HD
      have cp0 : wr.cell? ⟨w1.heap.size, 0, none⟩ = some (.slice (some ⟨g, 0, none⟩) safe.length cap) := cell_of_block hbc.out 0
      have cp1 : wr.cell? ⟨w1.heap.size, 1, none⟩ = some (.map (some m)) := cell_of_block hbc.out 1
      clear hc0 hl0 hrg hPl hCp
      go_wp2_with (refine wpList_store_block rfl 96 (.tmp 2) (.tmp 26) rfl w.heap.size #[.slice (some ⟨g, 0, none⟩) safe.length cap, .map (some m)] rfl rfl _ 96 hrc.out rfl info63 (by simp [Value.oneCell']) ?_; intro w9 hg9 hb9 hz9)
      refine bodyPost_ret (results_cell Tryz.results87 _ _ rfl hb9 _ Tryz.underlying96 rfl info63) rfl ⟨L', ?_, ?_, ?_, ?_⟩
      · rw [hE.out.1, hE.out.2.1, hE.out.2.2]
      · refine HD.out.1.keep (Keeps.of_grown hg9 (fun i e => e)) (fun i hi e => ?_)
        have := HD.out.2 i hi
        have := Option.some.inj e
        omega
      · exact fun i hi => Nat.le_trans (Nat.le_succ _) (HD.out.2 i hi)
      · exact hBr.out.trans (below_of_grown hg9 (Nat.le_refl _) hBr.out.size)
    · -- a sector has come
      intro x c kl yd yp w2 cnt2 hkey hlk hv hat hrg2 hlt hg2 hs2 hen
      obtain ⟨x', ex, rfl, _⟩ := Maps.keyOf_i64 Tryz.underlying3 hkey
      obtain rfl : x = x' := encZ_inj ex
      have hne : waits x ≠ [] := HHas.out x (has_true_of_atKey hat)
      obtain ⟨hx0, hx1⟩ := HDom.out x hne
      have hcv : c = .slice (some ⟨L.row x, 0, none⟩) (waits x).length (L.rcap x) := by
        have e1 := selfElem_inv hv
        have e2 := hat (.held c)
        rw [HWt.out x hne] at e2
        rw [e1] at e2
        exact (DataW.held.inj e2).symm
      subst hcv
      obtain ⟨ia, ib, ic, id', hit⟩ := ranges_iter hrg.out
      have hKn : Keeps (fun i => i = ri) wr w2 := Keeps.of_grown hg2 (fun i e => (Option.some.inj e).symm)
      have hPl2 : PlatesIn w2 L safe waits B := hPl.out.keep hKn (fun i hi e => by
        have e2 : i = ri := e
        rcases hPl.out.foot_block hi with ⟨_, h1⟩ | ⟨_, _, h1⟩ <;> (rw [e2, hit] at h1; cases h1))
      have hCp2 : CopyIn w2 (w.heap.size + 1) L' safe (cameS waits left) B1 := hCp.out.keep hKn (fun i hi e => by
        have e2 : i = ri := e
        rcases hCp.out.foot_block hi with ⟨_, h1⟩ | ⟨_, _, h1⟩ <;> (rw [e2, hit] at h1; cases h1))
      have hbc2 := hKn.heap hbc.out (fun e => by
        have e2 : w1.heap.size = ri := e
        have := hbc.out
        rw [e2, hit] at this; cases this)
      have hrc2 := hKn.heap hrc.out (fun e => by
        have e2 : w.heap.size = ri := e
        have := hrc.out
        rw [e2, hit] at this; cases this)
      have hB2 : Below w.heap.size w w2 := hBr.out.trans (hKn.below hBr.out.size (fun i e => by rw [show i = ri from e]; exact hriw))
      have hrow := hPl2.rows x hne
      have hlen4 : (waits x).length ≤ 4096 := Nat.le_trans (HLen.out x) hB4
      have hpos : 0 < (waits x).length := List.length_pos_iff.2 hne
      have hcl := clone_any (strs (waits x)) ⟨L.row x, 0, none⟩ (L.rcap x) (by simpa using hpos) (by simpa using hlen4) (strs_one _) w2.drew (fun j u hu => by
        have hj : j < (waits x).length := by simpa using (List.getElem?_eq_some_iff.1 hu).1
        rw [Addr.add_mid, Nat.zero_add]
        exact (hrow.cellAt j (by omega)).trans hu)
      rw [show (strs (waits x)).length = (waits x).length by simp] at hcl
      have HCl := hid hcl
      have HStep := hid (came_step waits left x hlk)
      have cpc : w2.cell? ⟨w1.heap.size, 1, none⟩ = some (.map (some m)) := cell_of_block hbc2 1
      have HPl2 := hid hPl2
      have Hrc2 := hid hrc2
      have HCp2 := hid hCp2
      have Hbc2 := hid hbc2
      have HB2 := hid hB2
      have HRg := hid hrg2
      have HLt : Hid (cnt2 < cnt) := hlt
      have hmost := HMost.out
      clear hcl hPl2 hCp2 hbc2 hB2 hrg2 hrow hkey hlk hv hat hlt hs2 hg2 hit hKn ex hPl hCp hbc hrc hrc2
      go_wp2
      refine wp_region_noPanic ?_
      refine wp_region_held_drew (S := fun W => W.cell? ⟨w1.heap.size, 1, none⟩ = some (.map (some m))) (by kernel_rfl) cpc (fun hHeld => ?_)
      refine wpAnyH_take (i := 0) (v := ?_) rfl (by kernel_rfl) (by kernel_rfl) (by kernel_rfl) (fun _ _ _ h => h) (Or.inl ⟨by rfl, ?_⟩) (by assumption) ?_
      rotate_left
      · (intro W hSw; (try dsimp only at hSw); go_simp; try with_reducible rfl)
      try simp only [List.getElem_toArray, List.getElem_cons_zero, Act.put, List.setIfInBounds_toArray, List.set_cons_zero, List.set_cons_succ]
      refine wpAnyH_take (i := 1) (v := ?_) rfl (by kernel_rfl) (by kernel_rfl) (by kernel_rfl) (fun _ _ _ h => h) (Or.inl ⟨by rfl, ?_⟩) (by assumption) ?_
      rotate_left
      · (intro W hSw; (try dsimp only at hSw); go_simp; try with_reducible rfl)
      try simp only [List.getElem_toArray, List.getElem_cons_succ, List.getElem_cons_zero, Act.put, List.setIfInBounds_toArray, List.set_cons_zero, List.set_cons_succ]
      refine wpAnyH_take (i := 2) (v := ?_) rfl (by kernel_rfl) (by kernel_rfl) (by kernel_rfl) (fun _ _ _ h => h) (Or.inl ⟨by rfl, ?_⟩) (by assumption) ?_
      rotate_left
      · (intro W hSw; (try dsimp only at hSw); go_simp; try with_reducible rfl)
      try simp only [List.getElem_toArray, List.getElem_cons_succ, List.getElem_cons_zero, Act.put, List.setIfInBounds_toArray, List.set_cons_zero, List.set_cons_succ]
      refine wpAnyH_take (i := 3) (v := ?_) rfl (by kernel_rfl) (by kernel_rfl) (by kernel_rfl) (fun _ _ _ h => h) (Or.inl ⟨by rfl, ?_⟩) (by assumption) ?_
      rotate_left
      · (intro W hSw; (try dsimp only at hSw); go_simp; try with_reducible rfl)
      try simp only [List.getElem_toArray, List.getElem_cons_succ, List.getElem_cons_zero, Act.put, List.setIfInBounds_toArray, List.set_cons_zero, List.set_cons_succ]
      refine wpAnyH_ready (rs := [4]) (by kernel_rfl) (by simp) (AllReadyH.cons rfl (fun K hK => ?_) AllReadyH.nil)
      rw [if_pos (by rfl)]
      go_simp
      refine HCl.out.mono ?_
      clear HCl
      rintro e w5 ⟨g5, cap5, rfl, hown5, hB5⟩
      have hB5' := below_undrew hB5
      have hsz2 := hB5'.size
      have hg5 : w2.heap.size ≤ g5 := (hown5.lt g5 rfl).1
      have hpcl := lt_of_heap Hbc2.out
      have cpc5 := (hB5'.cell (p := ⟨w1.heap.size, 1, none⟩) hpcl).trans cpc
      have hmo5 : w5.ownsMap Tryz.prog 3 selfElem m B1 L'.D := by
        have := (Keeps.of_below (F := fun _ => False) hB5').map HCp2.out.mapOwn (fun e => e)
        rwa [hE.out.2.2] at this
      have HMo := hid hmo5
      have HB5 := hid hB5'
      have HO5 := hid hown5
      clear hB5 hB5' hown5 hmo5
      go_wp2_with fail
      refine hK.out _ _ cpc5 (fun hHeld => ?_)
      clear hK K
      try simp only [List.getElem_toArray, List.getElem_cons_succ, List.getElem_cons_zero, Act.put, List.setIfInBounds_toArray, List.set_cons_zero, List.set_cons_succ]
      refine wpAnyH_ready (rs := [5]) (by kernel_rfl) (by simp) (AllReadyH.cons rfl (fun K hK => ?_) AllReadyH.nil)
      rw [if_pos (by rfl)]
      refine wp_mapUpdate_self (.tmp 22) (.tmp 23) (.tmp 25) 94 rfl 3 92 (int_keyed Tryz.underlying3) Tryz.underlying94 m B1 L'.D rfl HMo.out (by unfold maxLen; omega) (.int .i64 x) (.slice (some ⟨g5, 0, none⟩) (waits x).length cap5) (.int .i64 x) rfl rfl (keyI (by omega) (by omega)) ?_
      intro w6 hown6 hgr6
      have hK6 : Keeps (fun i => i = m) w2 w6 := (Keeps.of_below HB5.out).grown hgr6 (fun i e => .inl (Option.some.inj e).symm)
      obtain ⟨mes, mcl, hmb⟩ := map_block HMo.out
      have hmw : w.heap.size ≤ m := by omega
      have HCp6 := hid (HCp2.out.put (n := x) hne HB5.out hg5 (by omega) HO5.out (by rw [hE.out.2.2]; exact hown6) (by rw [hE.out.2.2]; exact hgr6))
      rw [← HStep.out] at HCp6
      have HPl6 := hid (HPl2.out.keep hK6 (fun i hi e => by
        have := HFl.out i hi
        have e2 : i = m := e
        omega))
      have HLm : Hid (L.m < w.heap.size) := HFl.out _ (.inr (.inl rfl))
      have HRg5 := hid (HRg.out.kept (below_grown HB5.out) (by simp) (by simp))
      obtain ⟨ia, ib, ic, id', hit⟩ := ranges_iter HRg5.out
      have HRg6 := hid (HRg5.out.kept hgr6 (fun e => by have := HLm.out; have := Option.some.inj e; omega) (fun e => by
        have e2 := Option.some.inj e
        rw [e2, hmb] at hit; cases hit))
      have hbc6 := hK6.heap Hbc2.out (fun e => by
        have e2 : w1.heap.size = m := e
        have h5 := below_block HB5.out Hbc2.out hpcl
        rw [e2, hmb] at h5; cases h5)
      have hrc6 := hK6.heap Hrc2.out (fun e => by
        have e2 : w.heap.size = m := e
        have h5 := below_block HB5.out Hrc2.out (lt_of_heap Hrc2.out)
        rw [e2, hmb] at h5; cases h5)
      have HB6 := hid (HB2.out.trans (hK6.below HB2.out.size (fun i e => by rw [show i = m from e]; exact hmw)))
      have Hbc6 := hid hbc6
      have Hrc6 := hid hrc6
      have cpc6 : w6.cell? ⟨w1.heap.size, 1, none⟩ = some (.map (some m)) := cell_of_block hbc6 1
      clear hown6 hgr6 hK6 hmb hit hbc6 hrc6 HMo HB5 HO5 HPl2 HCp2 Hbc2 Hrc2 HRg HRg5 HB2
      refine hK.out _ _ cpc6 (fun hHeld => ?_)
      clear hK K
      try simp only [List.getElem_toArray, List.getElem_cons_succ, List.getElem_cons_zero, Act.put]
      refine wpAnyH_done (by kernel_rfl) ?_ _
      refine NoPanic.normal ?_
      clear hHeld cpc6 cpc5 cpc
      go_wp2
      refine ⟨⟨_, cnt2, { L' with D := L'.D.put (.int .i64 x) (.held (.slice (some ⟨g5, 0, none⟩) (waits x).length cap5)), row := fun k => if k = x then g5 else L'.row k, rcap := fun k => if k = x then cap5 else L'.rcap k }, B1 + 1, by have := HLt.out; omega, hE, HRg6, HPl6, HCp6, Hbc6, Hrc6, HB6⟩, ?_⟩
      have h1 : w6.rangeLeft L.m ri = cnt2 := HRg6.out.left_eq
      rw [h1, hrg.out.left_eq]
      exact HLt.out
end Go.Proofs.YtoeiodiadanhkaaGreat
