/- The reference's waits, with what they are; its Crash. -/
import Derived.Test.YtpkjpkjcdpgaaaaPlaysPlain
import Derived.Test.YtpkjpkjcdpgaaaaSameRef
namespace Go.Proofs.Ytpkjpkjcdpgaaaa
open Go.RowKit
theorem waitsL_succ (l : List ROp) (n : Int) (f k : Nat) (h : k < l.length) (hf : f ≤ k) : waitsL l n f (k + 1) = if l[k].n = n then waitsL l n f k ++ [l[k].b] else waitsL l n f k := by
  rw [waitsL, List.getElem?_eq_getElem h]
  by_cases e : l[k].n = n
  · simp [e, hf]
  · simp [e]
/-- Slices that read as rows of bytes. -/
def slicesOf (w : World) (us : List Value) (L : List (List UInt8)) : Prop := us.length = L.length ∧ ∀ i (hi : i < L.length) (hi' : i < us.length), ∃ a c, us[i] = .slice a (L[i]).length c ∧ bytesIn w a L[i]
theorem slicesOf.snoc {w : World} {us : List Value} {L : List (List UInt8)} (h : slicesOf w us L) {b : List UInt8} {a : Option Addr} {c : Nat} (hb : bytesIn w a b) : slicesOf w (us ++ [.slice a b.length c]) (L ++ [b]) := by
  refine ⟨by simp [h.1], fun i hi hi' => ?_⟩
  by_cases e : i < L.length
  · obtain ⟨a', c', h1, h2⟩ := h.2 i e (by rw [h.1]; exact e)
    refine ⟨a', c', ?_, ?_⟩
    · rw [List.getElem_append_left (by rw [h.1]; exact e), List.getElem_append_left e]; exact h1
    · rw [List.getElem_append_left e]; exact h2
  · have e2 : i = L.length := by simp at hi; omega
    subst e2
    refine ⟨a, c, ?_, ?_⟩
    · rw [List.getElem_append_right (by rw [h.1]; exact Nat.le_refl _), List.getElem_append_right (Nat.le_refl _)]
      simp [h.1]
    · rw [List.getElem_append_right (Nat.le_refl _)]; simpa using hb
theorem rows_of_slices {w w' : World} {base : Nat} {e : TypeId} {v : Value} {us : List Value} {L : List (List UInt8)} (hv : w'.ownsRow base e 1 v L.length us) (h : slicesOf w us L) (hb : ∀ a l, bytesIn w a l → bytesIn w' a l) : ∃ a c, v = .slice a L.length c ∧ rowsAt w' a L := by
  obtain ⟨sa, c, rfl, hr⟩ := row_slice hv
  refine ⟨sa, c, rfl, fun j hj => ?_⟩
  obtain ⟨g, rfl, -, -, hc⟩ := hr j hj
  refine ⟨g, 0, rfl, fun i hi => ?_⟩
  obtain ⟨a', c', h1, h2⟩ := h.2 i hi (by rw [h.1]; exact hi)
  refine ⟨a', c', ?_, hb _ _ h2⟩
  rw [Nat.zero_add, hc i hi, List.getElem?_eq_getElem (by rw [h.1]; exact hi), h1]
set_option maxRecDepth 100000 in
set_option maxHeartbeats 2000000 in
theorem rwaits_rows (r : Nat) (fv lv : Value) (vs : List Value) (Rd : Nat → Prop) (R : RefS) (n : Int) (w : World) (h : RefIn w r fv lv vs Rd R) (hm : R.l.length ≤ 1000000) :
    Calls Try.prog 51 #[.pointer (some ⟨r, 0, none⟩), .int .i64 n] w fun e w' => Below w.heap.size w w' ∧ ∃ a c, e = .returned (.slice a (waitsL R.l n (flushedTo R.l R.l.length) R.l.length).length c) ∧ rowsAt w' a (waitsL R.l n (flushedTo R.l R.l.length) R.l.length) := by
  obtain ⟨i0, hi, hz0, hz1, hz2⟩ := info_parts infoRow
  have HI := hid hi
  have HF := hid (rflushed_any r fv lv vs Rd R w h hm)
  have HFl := hid (flushedTo_le R.l R.l.length)
  have H := hid h
  clear h hi
  generalize hff : flushedTo R.l R.l.length = ff at *
  clear hff
  go_enter Try.func51, Try.ntmps51
  go_wp2_with fail
  refine HF.out.mono ?_
  clear HF
  rintro e w9 ⟨rfl, h9⟩
  obtain rfl := h9.symm
  go_wp2
  go_loopw [5, 6] (fun v i wr => ∃ (k : Nat) (us : List Value), ff ≤ k ∧ k ≤ R.l.length ∧ i = .int .i64 k ∧ Hid (wr.ownsRow w.heap.size 28 1 v (waitsL R.l n ff k).length us) ∧ Hid (slicesOf w us (waitsL R.l n ff k)) ∧ Hid (Below w.heap.size w wr)) (fun _ i _ => R.l.length - (intOf i).toNat)
  case atStart => exact ⟨ff, [], Nat.le_refl _, HFl.out, rfl, by rw [waitsL_low _ _ _ _ (Nat.le_refl _)]; exact World.ownsRow_nil _ _ _ _, by rw [waitsL_low _ _ _ _ (Nat.le_refl _)]; exact ⟨rfl, fun i hi => by simp at hi⟩, Below.refl _ _⟩
  case round =>
    obtain ⟨k, us, hfk, hk, rfl, hM, hS, hB⟩ := hrel
    have hH := H.out.below hB.out
    obtain ⟨sa, cap, hlv, hs⟩ := hH.slice
    have t1 : wr.cell? ⟨r, 1, none⟩ = some (.slice sa R.l.length cap) := by rw [cell_of_block hH.heap, ← hlv]; rfl
    by_cases hlt : k < R.l.length
    · have hk0 : (0 : Int) ≤ (k : Int) := by omega
      have hk1 : (k : Int) < (R.l.length : Int) := by omega
      have hkv : k < vs.length := by rw [← hH.len]; exact hlt
      obtain ⟨g, rfl, -, q1, q2⟩ := hs k hlt hkv
      obtain ⟨ab, cb, ev, hby, -⟩ := H.out.bytes k hlt hkv
      rw [ev] at q2
      have HW := hid (waitsL_succ R.l n ff k hlt hfk)
      have hle := waitsIn_le R.l n ff k
      rw [← length_waitsL] at hle
      have HSn := hid (hS.out.snoc (c := cb) hby)
      generalize R.l[k].n = nn at *
      generalize R.l[k].b = bb at *
      clear hs hlv ev hH hby
      by_cases he : nn = n
      · subst he
        simp only [if_true] at HW
        generalize hwl : (waitsL R.l nn ff k).length = m at *
        generalize hbl : bb.length = bl at *
        have HWl := hid hwl
        clear hwl hbl
        go_wp2_with (refine wpList_append_lies _ rfl (.tmp 28) (.tmp 37) 46 rfl w.heap.size 28 i0 (.slice none 0 0) 1 24 Try.underlying46 HI.out hz0 hz1 hz2 rfl (by omega) u5 m us rfl (hM.out.alloc _) ⟨wr.heap.size, 0, none⟩ 1 1 [.slice ab bl cb] rfl rfl (World.news_of_block (cs := #[.slice ab bl cb]) (block_new wr _)) (by intro u hu; rw [List.mem_singleton.1 hu]; rfl) (by omega) (by unfold maxLen; omega) (by omega) (by have := hB.out.size; simp; omega) (wr.heap.size + 1) (by simp) ?_; intro g3 cap3 w3 hown hgr hat hlt2; have HO := hid hown; have HG := hid hgr; clear hown hgr hat hlt2)
        have hba := hB.out.alloc hB.out.size (.cells #[.slice ab bl cb] 28)
        exact ⟨⟨k + 1, _, by omega, by omega, by go_num, by rw [HW.out, List.length_append, HWl.out]; exact HO.out, by rw [HW.out]; exact HSn.out, hba.trans (below_of_row HG.out hba.size (fun i e => (hM.out.lt i e).1))⟩, by simp [intOf]; omega⟩
      · have he' : (nn == n) = false := by rw [beq_eq_false_iff_ne]; exact he
        simp only [he, if_false] at HW
        go_wp2
        exact ⟨⟨k + 1, us, by omega, by omega, by go_num, by rw [HW.out]; exact hM.out, by rw [HW.out]; exact hS.out, hB.out⟩, by simp [intOf]; omega⟩
    · obtain rfl : k = R.l.length := by omega
      have hge : ¬ ((R.l.length : Int) < (R.l.length : Int)) := by omega
      obtain ⟨oa, oc, rfl, hrows⟩ := rows_of_slices hM.out hS.out (fun a l hl => hl.below hB.out)
      have HRows := hid hrows
      clear hs hlv hH hrows
      go_wp2
      go_ret
      first | exact ⟨hB.out, oa, oc, rfl, HRows.out⟩ | exact ⟨hB.out, oa, ⟨oc, rfl⟩, HRows.out⟩
/-- A disk of the reference with no op, of rows that were copied. -/
theorem refIn_fresh {w w2 : World} {lo : Nat} {a : Option Addr} {c : Nat} {vk : List Value} {L : List (List UInt8)} (h : copiedTo w lo (.slice a L.length c) vk L L.length) (hB : Below w.heap.size w w2) (hb : w2.heap[w.heap.size]? = some (.cells #[.slice a L.length c, .slice none 0 0] 76 (0, 0))) :
    RefIn w2 w.heap.size (.slice a L.length c) (.slice none 0 0) [] (fun i => i < w.heap.size) ⟨L, []⟩ := by
  obtain ⟨a2, c2, e2, hrows⟩ := copiedTo_end h
  simp only [Value.slice.injEq, true_and] at e2
  obtain ⟨rfl, rfl⟩ := e2
  obtain ⟨sa, cp, e, hr⟩ := row_slice h.1
  simp only [Value.slice.injEq, true_and] at e
  obtain ⟨rfl, rfl⟩ := e
  refine ⟨hb, fun e => by omega, ⟨a, c, rfl, hrows.at.below hB, fun ad ha => ?_⟩, ?_, World.ownsRow_nil _ _ _ _, fun i hi => by simp [Value.ownBlock] at hi, rfl, fun _ => rfl, fun j hj => by simp at hj⟩
  · rcases h.1.2 with ⟨e, _⟩ | ⟨g, cap, cur, e, _, hg, _⟩
    · simp only [Value.slice.injEq] at e; rw [ha] at e; cases e.1
    · simp only [Value.slice.injEq] at e; rw [ha] at e; rw [Option.some.inj e.1]; exact lt_of_heap hg
  · intro a1 c1 e1 b o e3 i hi a' n' c' hcell ad had
    simp only [Value.slice.injEq, true_and] at e1
    obtain ⟨rfl, rfl⟩ := e1
    obtain ⟨g, e4, hg, -, hc⟩ := hr i hi
    rw [e3] at e4
    simp only [Option.some.injEq, Addr.mk.injEq, and_true] at e4
    obtain ⟨rfl, rfl⟩ := e4
    obtain ⟨gi, ci, h1, h2, h3, -⟩ := h.2 i hi hi
    rw [hB.cell (p := ⟨b, 0 + i, none⟩) hg, Nat.zero_add, hc i hi, h1] at hcell
    simp only [Option.some.injEq, Value.slice.injEq] at hcell
    rw [had] at hcell
    rw [← Option.some.inj hcell.1]
    exact h3
set_option maxRecDepth 100000 in
set_option maxHeartbeats 4000000 in
theorem rcrash_any (S : DiskS) (r : Nat) (fv lv : Value) (vs : List Value) (Rd : Nat → Prop) (R : RefS) (keep : List Int) (a : Option Addr) (c : Nat) (w : World) (h : RefIn w r fv lv vs Rd R) (hA : Alike S R) (hm : R.l.length ≤ 1000000) (hS : okS S) (hkm : keep.length ≤ 9223372036854775807)
    (hkeep : ∀ j, j < keep.length → ∃ kb ko, a = some ⟨kb, ko, none⟩ ∧ ∀ i (hi : i < keep.length), w.cell? ⟨kb, ko + i, none⟩ = some (.int .i64 keep[i])) :
    Calls Try.prog 18 #[.pointer (some ⟨r, 0, none⟩), .slice a keep.length c] w fun e w' => Below w.heap.size w w' ∧
      ((¬ goodKeep S.waits S.safe.length keep ∧ e = .returned (.tuple #[.pointer none, .int .i64 2])) ∨
       (goodKeep S.waits S.safe.length keep ∧ ∃ r' fv' Rd', e = .returned (.tuple #[.pointer (some ⟨r', 0, none⟩), .int .i64 0]) ∧ RefIn w' r' fv' (.slice none 0 0) [] Rd' ⟨bytesOf (crashL S.waits S.safe ((waitKeys S.waits S.safe.length).zip keep)), []⟩)) := by
  have hn := hA.ok.1
  have H := hid h
  have HA := hid hA
  have HK := hid hkeep
  have HW := hid (rwaiting_any r fv lv vs Rd R w h hm hn)
  have HGK := hid (goodKeep_iff S.waits S.safe.length keep)
  have HMem := hid (fun k => mem_waitKeys (waits := S.waits) (N := S.safe.length) (k := k))
  have HCt : Hid (∀ j (hj : j < (waitKeys S.waits S.safe.length).length) (hj' : j < (waitCounts S.waits S.safe.length).length), (waitCounts S.waits S.safe.length)[j] = ((S.waits (waitKeys S.waits S.safe.length)[j]).length : Int)) := fun j hj hj' => by simp [waitCounts]
  have hlc : (waitCounts S.waits S.safe.length).length = (waitKeys S.waits S.safe.length).length := by simp [waitCounts]
  have hkl := length_waitKeys S.waits S.safe.length
  have HLen := hid hA.len
  rw [hA.len] at hkl
  rw [← hA.keys, ← hA.counts] at HW
  clear h hkeep hA
  generalize goodKeep S.waits S.safe.length keep = GK at *
  generalize waitKeys S.waits S.safe.length = ks at *
  generalize waitCounts S.waits S.safe.length = cs at *
  go_enter Try.func18, Try.ntmps18
  go_wp2_with fail
  refine HW.out.mono ?_
  clear HW
  rintro e w1 ⟨v1, v2, rfl, hr1, hr2, hB1⟩
  obtain ⟨p1, c1, rfl, hi1⟩ := ints_of_row hr1
  rw [← hlc] at hr2
  obtain ⟨p2, c2, rfl, hi2⟩ := ints_of_row hr2
  have HI1 := hid hi1
  have HI2 := hid hi2
  have HB1 := hid hB1
  have HLc := hid hlc
  rw [hlc]
  clear hr1 hr2 hi1 hi2 hB1 hlc
  by_cases hlen : keep.length ≤ ks.length
  · have hlen' : ¬ ((ks.length : Int) < (keep.length : Int)) := by omega
    have hlen'' : ¬ (ks.length < keep.length) := by omega
    go_wp2
    go_loopw [8] (fun i wr => Hid (Below w1.heap.size w1 wr) ∧ ∃ k : Nat, k ≤ keep.length ∧ i = .int .i64 k ∧ Hid (∀ j (hj : j < keep.length) (hj' : j < ks.length), j < k → 0 ≤ keep[j] ∧ keep[j] ≤ (S.waits ks[j]).length)) (fun i _ => keep.length - (intOf i).toNat)
    case atStart => exact ⟨Below.refl _ _, 0, by omega, rfl, fun j hj hj' h => by omega⟩
    case round =>
      obtain ⟨hBq, k, hk, rfl, hgood⟩ := hrel
      have HBq := hid (HB1.out.trans (hBq.out.mono HB1.out.size))
      by_cases hlt : k < keep.length
      · obtain ⟨kb, ko, rfl, hkc⟩ := HK.out k hlt
        have hlt2 : k < ks.length := by omega
        have hlt3 : k < cs.length := by rw [HLc.out]; exact hlt2
        obtain ⟨cb, co, rfl, hcc⟩ := HI2.out k hlt3
        have hkbl : kb < w.heap.size := World.block_lt_of_cell? w _ (hkc k hlt)
        have ck : wr.cell? ⟨kb, ko + k, none⟩ = some (.int .i64 keep[k]) := by rw [HBq.out.cell (p := ⟨kb, ko + k, none⟩) hkbl]; exact hkc k hlt
        have cc : wr.cell? ⟨cb, co + k, none⟩ = some (.int .i64 ((S.waits ks[k]).length : Int)) := by rw [hBq.out.cell (p := ⟨cb, co + k, none⟩) (World.block_lt_of_cell? w1 _ (hcc k hlt3)), hcc k hlt3, HCt.out k hlt2 hlt3]
        have hk0 : (0 : Int) ≤ (k : Int) := by omega
        have hk2 : (k : Int) < (keep.length : Int) := by omega
        have hk3 : (k : Int) < (ks.length : Int) := by omega
        have HGood : Hid (¬ (0 ≤ keep[k] ∧ keep[k] ≤ (S.waits ks[k]).length) → ¬ GK) := fun hn hg => hn ((HGK.out.1 hg).2 k hlt hlt2)
        have HNext : Hid ((0 ≤ keep[k] ∧ keep[k] ≤ (S.waits ks[k]).length) → ∀ j (hj : j < keep.length) (hj' : j < ks.length), j < k + 1 → 0 ≤ keep[j] ∧ keep[j] ≤ (S.waits ks[j]).length) := fun hn j hj hj' hjk => by
          rcases Nat.lt_or_ge j k with h1 | h1
          · exact hgood.out j hj hj' h1
          · obtain rfl : j = k := by omega
            exact hn
        clear hkc hcc hkbl hgood
        generalize (S.waits ks[k]).length = m at *
        generalize keep[k] = x at *
        by_cases hneg : x < 0
        · go_wp2
          go_quiet (fail)
          go_wp2
          go_returns
          exact ⟨by first | exact HBq.out | exact HBq.out.drew | exact below_drewN' HBq.out _, .inl ⟨HGood.out (by omega), rfl⟩⟩
        · by_cases hbig : (m : Int) < x
          · go_wp2
            go_quiet (fail)
            go_wp2
            go_returns
            exact ⟨by first | exact HBq.out | exact HBq.out.drew | exact below_drewN' HBq.out _, .inl ⟨HGood.out (by omega), rfl⟩⟩
          · have hbig' : x ≤ (m : Int) := by omega
            have hneg' : (0 : Int) ≤ x := by omega
            go_wp2
            go_quiet (fail)
            go_wp2
            refine ⟨⟨by first | exact hBq.out | exact hBq.out.drew | exact below_drewN' hBq.out _, k + 1, by omega, by go_num, HNext.out ⟨by omega, by omega⟩⟩, by simp [intOf]; omega⟩
      · obtain rfl : k = keep.length := by omega
        have hge : ¬ ((keep.length : Int) < (keep.length : Int)) := by omega
        have HGood : Hid GK := HGK.out.2 ⟨hlen, fun j hj hj' => hgood.out j hj hj' hj⟩
        have HSf := hid (rsafe_own r fv lv vs Rd R wr (H.out.below HBq.out) HA.out.ok hm)
        rw [← HA.out.safe] at HSf
        go_wp2_with fail
        refine HSf.out.mono ?_
        clear HSf
        rintro e w2 ⟨hB2, a2, c2', vk0, rfl, hM0⟩
        have HM0 := hid hM0
        have HB12 := hid hB2
        have hs12 := HBq.out.size
        clear hB2 hM0
        go_wp2
        go_loopw [10] (fun i W => ∃ (k : Nat) (vk : List Value), k ≤ keep.length ∧ i = .int .i64 k ∧ Hid (copiedTo W wr.heap.size (.slice a2 R.first.length c2') vk (bytesOf (crashL S.waits S.safe ((ks.zip keep).take k))) R.first.length) ∧ Hid (Below wr.heap.size wr W)) (fun i _ => keep.length - (intOf i).toNat)
        case atStart => exact ⟨0, vk0, by omega, rfl, HM0.out, HB12.out⟩
        case round =>
          clear hk hge HM0 HB12
          obtain ⟨k, vk, hk, rfl, hM, hBr⟩ := hrel
          rename_i W9
          have HBw := hid (HBq.out.trans (hBr.out.mono HBq.out.size))
          by_cases hlt : k < keep.length
          · obtain ⟨kb, ko, rfl, hkc⟩ := HK.out k hlt
            have hlt2 : k < ks.length := by omega
            obtain ⟨sb, so, rfl, hsc⟩ := HI1.out k hlt2
            obtain ⟨m0, m1, m2⟩ := (HMem.out ks[k]).1 (List.getElem_mem hlt2)
            obtain ⟨x0, x1⟩ := (HGK.out.1 HGood.out).2 k hlt hlt2
            have hkbl : kb < w.heap.size := World.block_lt_of_cell? w _ (hkc k hlt)
            have hsbl := World.block_lt_of_cell? w1 _ (hsc k hlt2)
            have ck : wr.cell? ⟨kb, ko + k, none⟩ = some (.int .i64 keep[k]) := by rw [HBw.out.cell (p := ⟨kb, ko + k, none⟩) hkbl]; exact hkc k hlt
            have cs0 : wr.cell? ⟨sb, so + k, none⟩ = some (.int .i64 ks[k]) := by
              rw [hBr.out.cell (p := ⟨sb, so + k, none⟩) (Nat.lt_of_lt_of_le hsbl hBq.out.size), hBq.out.cell (p := ⟨sb, so + k, none⟩) hsbl]; exact hsc k hlt2
            have HSt := hid (crashL_step S.waits S.safe (ks.zip keep) k (by simp; omega))
            rw [List.getElem_zip] at HSt
            have hk0 : (0 : Int) ≤ (k : Int) := by omega
            have hk2 : (k : Int) < (keep.length : Int) := by omega
            have hk3 : (k : Int) < (ks.length : Int) := by omega
            have ck1 := hkc k hlt
            have cs1 := hsc k hlt2
            clear hkc hsc hkbl hsbl
            obtain ⟨q, hq⟩ : ∃ q : Nat, ks[k] = (q : Int) := ⟨ks[k].toNat, by omega⟩
            rw [hq] at cs0 HSt m0 m1 m2 x1
            clear hq
            generalize keep[k] = x at *
            have hqN : q < R.first.length := by have := HLen.out; omega
            by_cases hx : 0 < x
            · obtain ⟨y, rfl⟩ : ∃ y : Nat, x = (y : Int) + 1 := ⟨(x - 1).toNat, by omega⟩
              have hy : y < (S.waits q).length := by omega
              have hy0 : (0 : Int) ≤ (y : Int) := by omega
              have hwy : IntKind.i64.wrap (y : Int) = (y : Int) := by
                have : y ≤ 1000000 := by have := HA.out.count q; have := waitsIn_le R.l (q : Int) (flushedTo R.l R.l.length) R.l.length; unfold rWait at *; omega
                exact IntWalk.i64_in _ (by omega)
              have hyI : (y : Int) < ((S.waits q).length : Int) := by omega
              have hwl : (S.waits q).length ≤ R.l.length := by rw [HA.out.count q]; exact waitsIn_le _ _ _ _
              have HS2 : Hid (bytesOf (crashL S.waits S.safe ((ks.zip keep).take (k + 1))) = (bytesOf (crashL S.waits S.safe ((ks.zip keep).take k))).set q ((S.waits q)[y]).data.toList) := by
                have h2 := HSt.out
                simp only [hx, if_true] at h2
                show _ = _
                rw [h2, bytesOf_set, Int.toNat_natCast]
                simp [hy]
              have h512 : ((S.waits q)[y]).data.toList.length = 512 := by simpa using hS.2 q _ (List.getElem_mem hy)
              have HWr := hid (fun W (hW : Below wr.heap.size wr W) => rwaits_rows r fv lv vs Rd R (q : Int) W (H.out.below (HBw.out.trans (hW.mono HBw.out.size))) hm)
              rw [← HA.out.waits q] at HWr
              have HRow : Hid (∀ (W : World) (a' : Option Addr), rowsAt W a' (bytesOf (S.waits q)) → ∃ b o a1 c1, a' = some ⟨b, o, none⟩ ∧ W.cell? ⟨b, o + y, none⟩ = some (.slice a1 512 c1) ∧ bytesIn W a1 ((S.waits q)[y]).data.toList) := fun W a' hr => by
                obtain ⟨b, o, e, hc⟩ := hr y (by rw [length_bytesOf]; exact hy)
                obtain ⟨a1, c1, h1, h2⟩ := hc y (by rw [length_bytesOf]; exact hy)
                have e3 : (bytesOf (S.waits q))[y]'(by rw [length_bytesOf]; exact hy) = ((S.waits q)[y]).data.toList := by simp [bytesOf]
                rw [e3] at h1 h2
                rw [h512] at h1
                exact ⟨b, o, a1, c1, e, h1, h2⟩
              obtain ⟨sa2, cp2, e2, hr2⟩ := row_slice hM.out.1
              simp only [Value.slice.injEq, true_and] at e2
              obtain ⟨rfl, rfl⟩ := e2
              obtain ⟨go, rfl, hgo, hglo, hcv⟩ := hr2 q hqN
              have hLl : (bytesOf (crashL S.waits S.safe ((ks.zip keep).take k))).length = R.first.length := by rw [length_bytesOf, length_crashL, HLen.out]
              obtain ⟨gi, ci, y1, -⟩ := hM.out.2 q (by rw [hLl]; exact hqN) hqN
              obtain ⟨vo, cg⟩ : ∃ vo, wr.cell? ⟨go, q, none⟩ = some vo := ⟨_, (hcv q hqN).trans y1⟩
              have fg : wr.frozen? ⟨go, q, none⟩ = false := hM.out.1.frozenAt _
              have HSet := hid (fun w1 g cap (x1 : Below wr.heap.size wr w1) (x2 : wr.heap.size ≤ g) (x3 : g < w1.heap.size) (x4 : bytesIn w1 (some ⟨g, 0, none⟩) ((S.waits q)[y]).data.toList) => copiedTo_set (i := q) (cap := cap) hM.out hBr.out.size x1 x2 x3 x4 hqN hLl)
              rw [h512] at HSet
              rw [length_bytesOf] at HWr
              have hq0 : (0 : Int) ≤ (q : Int) := by omega
              have hq1 : (q : Int) < (R.first.length : Int) := by omega
              generalize ((S.waits q)[y]).data.toList = bb at *
              generalize (S.waits q).length = wl at *
              generalize bytesOf (S.waits q) = wL at *
              clear y1 hcv hr2 hM HSt hLl
              go_wp2
              refine wp_region_noPanic ?_
              refine wp_region_held_drew (S := fun W => W.cell? ⟨sb, so + k, none⟩ = some (.int .i64 (q : Int)) ∧ W.cell? ⟨kb, ko + k, none⟩ = some (.int .i64 ((y : Int) + 1))) (by kernel_rfl) ⟨cs0, ck⟩ (fun hHeld => ?_)
              refine wpAnyH_take (i := 0) (v := ?_) rfl (by kernel_rfl) (by kernel_rfl) (by kernel_rfl) (fun _ _ _ h => h) (Or.inl ⟨by rfl, ?_⟩) (by assumption) ?_
              rotate_left
              · (intro W hSw; (try dsimp only at hSw); obtain ⟨s1, s2⟩ := hSw; go_simp; try with_reducible rfl)
              try simp only [List.getElem_toArray, List.getElem_cons_zero, Act.put, List.setIfInBounds_toArray, List.set_cons_zero, List.set_cons_succ]
              refine wpAnyH_take (i := 1) (v := ?_) rfl (by kernel_rfl) (by kernel_rfl) (by kernel_rfl) (fun _ _ _ h => h) (Or.inl ⟨by rfl, ?_⟩) (by assumption) ?_
              rotate_left
              · (intro W hSw; (try dsimp only at hSw); obtain ⟨s1, s2⟩ := hSw; go_simp; try with_reducible rfl)
              try simp only [List.getElem_toArray, List.getElem_cons_succ, List.getElem_cons_zero, Act.put, List.setIfInBounds_toArray, List.set_cons_zero, List.set_cons_succ]
              refine wpAnyH_take (i := 2) (v := ?_) rfl (by kernel_rfl) (by kernel_rfl) (by kernel_rfl) (fun _ _ _ h => h) (Or.inl ⟨by rfl, ?_⟩) (by assumption) ?_
              rotate_left
              · (intro W hSw; (try dsimp only at hSw); obtain ⟨s1, s2⟩ := hSw; go_simp; try with_reducible rfl)
              try simp only [List.getElem_toArray, List.getElem_cons_succ, List.getElem_cons_zero, Act.put, List.setIfInBounds_toArray, List.set_cons_zero, List.set_cons_succ]
              refine wpAnyH_take (i := 3) (v := ?_) rfl (by kernel_rfl) (by kernel_rfl) (by kernel_rfl) (fun _ _ _ h => h) (Or.inl ⟨by rfl, ?_⟩) (by assumption) ?_
              rotate_left
              · (intro W hSw; (try dsimp only at hSw); obtain ⟨s1, s2⟩ := hSw; go_simp; try with_reducible rfl)
              try simp only [List.getElem_toArray, List.getElem_cons_succ, List.getElem_cons_zero, Act.put, List.setIfInBounds_toArray, List.set_cons_zero, List.set_cons_succ]
              refine wpAnyH_take (i := 4) (v := ?_) rfl (by kernel_rfl) (by kernel_rfl) (by kernel_rfl) (fun _ _ _ h => h) (Or.inl ⟨by rfl, ?_⟩) (by assumption) ?_
              rotate_left
              · (intro W hSw; (try dsimp only at hSw); obtain ⟨s1, s2⟩ := hSw; go_simp; try with_reducible rfl)
              try simp only [List.getElem_toArray, List.getElem_cons_succ, List.getElem_cons_zero, Act.put, List.setIfInBounds_toArray, List.set_cons_zero, List.set_cons_succ]
              refine wpAnyH_take (i := 5) (v := ?_) rfl (by kernel_rfl) (by kernel_rfl) (by kernel_rfl) (fun _ _ _ h => h) (Or.inl ⟨by rfl, ?_⟩) (by assumption) ?_
              rotate_left
              · (intro W hSw; (try dsimp only at hSw); obtain ⟨s1, s2⟩ := hSw; go_simp; try with_reducible rfl)
              try simp only [List.getElem_toArray, List.getElem_cons_succ, List.getElem_cons_zero, Act.put, List.setIfInBounds_toArray, List.set_cons_zero, List.set_cons_succ]
              refine wpAnyH_take (i := 6) (v := ?_) rfl (by kernel_rfl) (by kernel_rfl) (by kernel_rfl) (fun _ _ _ h => h) (Or.inl ⟨by rfl, ?_⟩) (by assumption) ?_
              rotate_left
              · (intro W hSw; (try dsimp only at hSw); obtain ⟨s1, s2⟩ := hSw; go_simp; try with_reducible rfl)
              try simp only [List.getElem_toArray, List.getElem_cons_succ, List.getElem_cons_zero, Act.put, List.setIfInBounds_toArray, List.set_cons_zero, List.set_cons_succ]
              refine wpAnyH_take (i := 7) (v := ?_) rfl (by kernel_rfl) (by kernel_rfl) (by kernel_rfl) (fun _ _ _ h => h) (Or.inl ⟨by rfl, ?_⟩) (by assumption) ?_
              rotate_left
              · (intro W hSw; (try dsimp only at hSw); obtain ⟨s1, s2⟩ := hSw; go_simp; try with_reducible rfl)
              try simp only [List.getElem_toArray, List.getElem_cons_succ, List.getElem_cons_zero, Act.put, List.setIfInBounds_toArray, List.set_cons_zero, List.set_cons_succ]
              refine wpAnyH_take (i := 8) (v := ?_) rfl (by kernel_rfl) (by kernel_rfl) (by kernel_rfl) (fun _ _ _ h => h) (Or.inl ⟨by rfl, ?_⟩) (by assumption) ?_
              rotate_left
              · (intro W hSw; (try dsimp only at hSw); obtain ⟨s1, s2⟩ := hSw; go_simp; try with_reducible rfl)
              try simp only [List.getElem_toArray, List.getElem_cons_succ, List.getElem_cons_zero, Act.put, List.setIfInBounds_toArray, List.set_cons_zero, List.set_cons_succ]
              refine wpAnyH_take (i := 9) (v := ?_) rfl (by kernel_rfl) (by kernel_rfl) (by kernel_rfl) (fun _ _ _ h => h) (Or.inl ⟨by rfl, ?_⟩) (by assumption) ?_
              rotate_left
              · (intro W hSw; (try dsimp only at hSw); obtain ⟨s1, s2⟩ := hSw; go_simp; try with_reducible rfl)
              try simp only [List.getElem_toArray, List.getElem_cons_succ, List.getElem_cons_zero, Act.put, List.setIfInBounds_toArray, List.set_cons_zero, List.set_cons_succ]
              refine wpAnyH_take (i := 11) (v := ?_) rfl (by kernel_rfl) (by kernel_rfl) (by kernel_rfl) (fun _ _ _ h => h) (Or.inl ⟨by rfl, ?_⟩) (by assumption) ?_
              rotate_left
              · (intro W hSw; (try dsimp only at hSw); obtain ⟨s1, s2⟩ := hSw; go_simp; try with_reducible rfl)
              try simp only [List.getElem_toArray, List.getElem_cons_succ, List.getElem_cons_zero, Act.put, List.setIfInBounds_toArray, List.set_cons_zero, List.set_cons_succ]
              refine wpAnyH_take (i := 12) (v := ?_) rfl (by kernel_rfl) (by kernel_rfl) (by kernel_rfl) (fun _ _ _ h => h) (Or.inl ⟨by rfl, ?_⟩) (by assumption) ?_
              rotate_left
              · (intro W hSw; (try dsimp only at hSw); obtain ⟨s1, s2⟩ := hSw; go_simp; try with_reducible rfl)
              try simp only [List.getElem_toArray, List.getElem_cons_succ, List.getElem_cons_zero, Act.put, List.setIfInBounds_toArray, List.set_cons_zero, List.set_cons_succ]
              refine wpAnyH_take (i := 13) (v := ?_) rfl (by kernel_rfl) (by kernel_rfl) (by kernel_rfl) (fun _ _ _ h => h) (Or.inl ⟨by rfl, ?_⟩) (by assumption) ?_
              rotate_left
              · (intro W hSw; (try dsimp only at hSw); obtain ⟨s1, s2⟩ := hSw; go_simp; try with_reducible rfl)
              try simp only [List.getElem_toArray, List.getElem_cons_succ, List.getElem_cons_zero, Act.put, List.setIfInBounds_toArray, List.set_cons_zero, List.set_cons_succ]
              refine wpAnyH_take (i := 14) (v := ?_) rfl (by kernel_rfl) (by kernel_rfl) (by kernel_rfl) (fun _ _ _ h => h) (Or.inl ⟨by rfl, ?_⟩) (by assumption) ?_
              rotate_left
              · (intro W hSw; (try dsimp only at hSw); obtain ⟨s1, s2⟩ := hSw; go_simp; try with_reducible rfl)
              try simp only [List.getElem_toArray, List.getElem_cons_succ, List.getElem_cons_zero, Act.put, List.setIfInBounds_toArray, List.set_cons_zero, List.set_cons_succ]
              refine wpAnyH_take (i := 15) (v := .int .i64 (y : Int)) rfl (by kernel_rfl) (by kernel_rfl) (by kernel_rfl) (fun _ _ _ h => h) (Or.inl ⟨by rfl, ?_⟩) (by assumption) ?_
              · (intro W hSw; (try dsimp only at hSw); obtain ⟨s1, s2⟩ := hSw; go_simp; try rw [hwy])
              try simp only [List.getElem_toArray, List.getElem_cons_succ, List.getElem_cons_zero, Act.put, List.setIfInBounds_toArray, List.set_cons_zero, List.set_cons_succ]
              refine wpAnyH_ready (rs := [10]) (by kernel_rfl) (by simp) (AllReadyH.cons rfl (fun K hK => ?_) AllReadyH.nil)
              rw [if_pos (by rfl)]
              go_simp
              refine (HWr.out wr.drew (Below.refl _ _).drew).mono ?_
              clear HWr
              rintro e w3 ⟨hB3, a3, c3, rfl, hr3⟩
              have hB3' := below_undrew hB3
              obtain ⟨b3, o3, a31, c31, rfl, q3, hby3⟩ := HRow.out w3 a3 hr3
              have v0 := (hB3'.cell (p := ⟨sb, so + k, none⟩) (World.block_lt_of_cell? wr _ cs0)).trans cs0
              have v1 := (hB3'.cell (p := ⟨kb, ko + k, none⟩) (World.block_lt_of_cell? wr _ ck)).trans ck
              have HCp := hid (fun W (hW : Below w3.heap.size w3 W) => copy_any bb a31 c31 W (hby3.below hW) (by omega) (by omega))
              rw [h512] at HCp
              have HB3 := hid hB3'
              clear hB3 hB3' hr3 hby3 HRow
              go_wp2_with fail
              refine hK.out _ _ ⟨v0, v1⟩ (fun hHeld => ?_)
              clear hK K
              try simp only [List.getElem_toArray, List.getElem_cons_succ, List.getElem_cons_zero, Act.put, List.setIfInBounds_toArray, List.set_cons_zero, List.set_cons_succ]
              refine wpAnyH_take (i := 16) (v := ?_) rfl (by kernel_rfl) (by kernel_rfl) (by kernel_rfl) (fun _ _ _ h => h) (Or.inl ⟨by rfl, ?_⟩) (by assumption) ?_
              rotate_left
              · (intro W hSw; (try dsimp only at hSw); obtain ⟨s1, s2⟩ := hSw; go_simp; try with_reducible rfl)
              try simp only [List.getElem_toArray, List.getElem_cons_succ, List.getElem_cons_zero, Act.put, List.setIfInBounds_toArray, List.set_cons_zero, List.set_cons_succ]
              refine wpAnyH_ready (rs := [17]) (by kernel_rfl) (by simp) (AllReadyH.cons rfl (fun K hK => ?_) AllReadyH.nil)
              rw [if_pos (by rfl)]
              unfold Oper.wp
              go_simp
              refine hK.out _ _ ⟨v0, v1⟩ (fun hHeld => ?_)
              clear hK K
              try simp only [List.getElem_toArray, List.getElem_cons_succ, List.getElem_cons_zero, Act.put, List.setIfInBounds_toArray, List.set_cons_zero, List.set_cons_succ]
              refine wpAnyH_ready (rs := [18]) (by kernel_rfl) (by simp) (AllReadyH.cons rfl (fun K hK => ?_) AllReadyH.nil)
              rw [if_pos (by rfl)]
              go_simp
              refine (HCp.out w3 (Below.refl _ _)).mono ?_
              clear HCp
              rintro e w5 ⟨g5, cap5, rfl, hb5, hg5, hg6, hB5⟩
              have hB35 := HB3.out.trans (hB5.mono HB3.out.size)
              have u0 := (hB5.cell (p := ⟨sb, so + k, none⟩) (World.block_lt_of_cell? w3 _ v0)).trans v0
              have u1 := (hB5.cell (p := ⟨kb, ko + k, none⟩) (World.block_lt_of_cell? w3 _ v1)).trans v1
              have z0 : w5.cell? ⟨go, q, none⟩ = some vo := (hB35.cell (p := ⟨go, q, none⟩) hgo).trans cg
              have z1 : w5.frozen? ⟨go, q, none⟩ = false := ((bcell hB35).2 go q hgo).trans fg
              have HSt := hid (HSet.out w5 g5 cap5 hB35 (Nat.le_trans HB3.out.size hg5) hg6 hb5)
              have HB5 := hid (hBr.out.trans (hB35.mono hBr.out.size))
              have hsgo : sb ≠ go := by
                have h1 : sb < w1.heap.size := World.block_lt_of_cell? w1 _ cs1
                have := hBq.out.size
                omega
              have hkgo : kb ≠ go := by
                have h1 : kb < w.heap.size := World.block_lt_of_cell? w _ ck1
                omega
              clear hB5 hB35 HB3 HSet hb5 q3
              go_wp2_with fail
              refine hK.out _ _ ⟨u0, u1⟩ (fun hHeld => ?_)
              clear hK K v0 v1
              try simp only [List.getElem_toArray, List.getElem_cons_succ, List.getElem_cons_zero, Act.put, List.setIfInBounds_toArray, List.set_cons_zero, List.set_cons_succ]
              refine wpAnyH_take (i := 19) (v := ?_) rfl (by kernel_rfl) (by kernel_rfl) (by kernel_rfl) (fun _ _ _ h => h) (Or.inl ⟨by rfl, ?_⟩) (by assumption) ?_
              rotate_left
              · (intro W hSw; (try dsimp only at hSw); obtain ⟨s1, s2⟩ := hSw; go_simp; try with_reducible rfl)
              try simp only [List.getElem_toArray, List.getElem_cons_succ, List.getElem_cons_zero, Act.put, List.setIfInBounds_toArray, List.set_cons_zero, List.set_cons_succ]
              refine wpAnyH_ready (rs := [20]) (by kernel_rfl) (by simp) (AllReadyH.cons rfl (fun K hK => ?_) AllReadyH.nil)
              rw [if_pos (by rfl)]
              unfold Oper.wp
              go_simp
              refine hK.out _ _ ⟨by rw [World.cell?_setCell_far _ _ _ _ (Ne.symm hsgo)]; exact u0, by rw [World.cell?_setCell_far _ _ _ _ (Ne.symm hkgo)]; exact u1⟩ (fun hHeld => ?_)
              clear hK K
              try simp only [List.getElem_toArray, List.getElem_cons_succ, List.getElem_cons_zero, Act.put, List.setIfInBounds_toArray, List.set_cons_zero, List.set_cons_succ]
              refine wpAnyH_done (by kernel_rfl) ?_ _
              refine NoPanic.normal ?_
              clear u0 u1 z0 z1 hHeld
              go_wp2
              exact ⟨⟨k + 1, _, by omega, by go_num, by rw [HS2.out]; exact HSt.out, HB5.out.setCell hglo _⟩, by simp [intOf]; omega⟩
            · have hx0 : x = 0 := by omega
              subst hx0
              have HS2 : Hid (crashL S.waits S.safe ((ks.zip keep).take (k + 1)) = crashL S.waits S.safe ((ks.zip keep).take k)) := by
                have := HSt.out; simpa [Hid] using this
              clear HSt
              go_wp2
              exact ⟨⟨k + 1, vk, by omega, by go_num, by rw [HS2.out]; exact hM.out, hBr.out⟩, by simp [intOf]; omega⟩
          · obtain rfl : k = keep.length := by omega
            have hge : ¬ ((keep.length : Int) < (keep.length : Int)) := by omega
            have HTake : Hid ((ks.zip keep).take keep.length = ks.zip keep) := List.take_of_length_le (by rw [List.length_zip]; exact Nat.min_le_right _ _)
            rw [HTake.out] at hM
            have hLl : (bytesOf (crashL S.waits S.safe (ks.zip keep))).length = R.first.length := by rw [length_bytesOf, length_crashL, HLen.out]
            have HFr := hid (fun w2 hB hb => refIn_fresh (w2 := w2) (by rw [hLl]; exact hM.out) hB hb)
            rw [hLl] at HFr
            clear hM
            go_wp2
            go_returns
            have hba := (Below.refl wr.heap.size wr).alloc (Nat.le_refl _) (.cells #[.slice a2 R.first.length c2', .slice none 0 0] 76)
            first | exact ⟨HBw.out.trans (hba.mono HBw.out.size), .inr ⟨HGood.out, wr.heap.size, _, _, rfl, HFr.out _ hba (block_new wr _)⟩⟩ | exact ⟨HBw.out.trans (hba.mono HBw.out.size), .inr ⟨HGood.out, wr.heap.size, rfl, _, _, HFr.out _ hba (block_new wr _)⟩⟩ | exact ⟨HBw.out.trans (hba.mono HBw.out.size), .inr ⟨HGood.out, wr.heap.size, _, rfl, _, HFr.out _ hba (block_new wr _)⟩⟩
  · have hlen' : (ks.length : Int) < (keep.length : Int) := by omega
    go_wp2
    go_returns
    exact ⟨HB1.out, .inl ⟨fun hg => hlen (HGK.out.1 hg).1, rfl⟩⟩
end Go.Proofs.Ytpkjpkjcdpgaaaa
