/- disk.Disk.Crash: what a crash leaves. -/
import Derived.Test.YtabpfneihihmaaaDoorNewDisk
import Derived.Test.YtabpfneihihmaaaDoorWaiting2
namespace Go.Proofs.YtabpfneihihmaaaDoor
open Go.RowKit Go.Maps
/-- What is left, sector by sector, when of those that are named so many writes are kept. -/
def crashL (waits : Int → List ByteArray) (left : List ByteArray) (nk : List (Int × Int)) : List ByteArray :=
  nk.foldl (fun l p => if 0 < p.2 then l.set p.1.toNat ((waits p.1).getD (p.2.toNat - 1) ⟨#[]⟩) else l) left
theorem length_crashL (waits : Int → List ByteArray) : ∀ (nk : List (Int × Int)) (left : List ByteArray), (crashL waits left nk).length = left.length
  | [], _ => rfl
  | p :: r, left => by
    show (crashL waits (if 0 < p.2 then left.set p.1.toNat ((waits p.1).getD (p.2.toNat - 1) ⟨#[]⟩) else left) r).length = _
    rw [length_crashL waits r]
    split <;> simp
theorem crashL_step (waits : Int → List ByteArray) (left : List ByteArray) (nk : List (Int × Int)) (k : Nat) (h : k < nk.length) :
    crashL waits left (nk.take (k + 1)) = (fun l (p : Int × Int) => if 0 < p.2 then l.set p.1.toNat ((waits p.1).getD (p.2.toNat - 1) ⟨#[]⟩) else l) (crashL waits left (nk.take k)) nk[k] := by
  rw [List.take_succ_eq_append_getElem h, crashL, List.foldl_append]; rfl
/-- The numbers that a crash may have. -/
def goodKeep (waits : Int → List ByteArray) (N : Nat) (keep : List Int) : Prop :=
  keep.length ≤ (waitKeys waits N).length ∧ ∀ j (hj : j < keep.length) (hj' : j < (waitKeys waits N).length), 0 ≤ keep[j] ∧ keep[j] ≤ (waits (waitKeys waits N)[j]).length
theorem goodKeep_iff (waits : Int → List ByteArray) (N : Nat) (keep : List Int) : goodKeep waits N keep ↔ (keep.length ≤ (waitKeys waits N).length ∧ ∀ j (hj : j < keep.length) (hj' : j < (waitKeys waits N).length), 0 ≤ keep[j] ∧ keep[j] ≤ (waits (waitKeys waits N)[j]).length) := Iff.rfl
theorem row_slice {w : World} {base : Nat} {e : TypeId} {v : Value} {n : Nat} {xs : List Value} (h : w.ownsRow base e 1 v n xs) : ∃ sa cap, v = .slice sa n cap ∧ ∀ j, j < n → ∃ g, sa = some ⟨g, 0, none⟩ ∧ g < w.heap.size ∧ base ≤ g ∧ ∀ i, i < n → w.cell? ⟨g, i, none⟩ = xs[i]? := by
  rcases Nat.eq_zero_or_pos n with rfl | hn
  · rcases h.2 with ⟨rfl, _⟩ | ⟨g, cap, cur, rfl, _⟩
    · exact ⟨none, 0, rfl, fun j hj => by omega⟩
    · exact ⟨some ⟨g, 0, none⟩, cap, rfl, fun j hj => by omega⟩
  · obtain ⟨g, cap, rfl, h1, h2⟩ := h.form hn
    exact ⟨some ⟨g, 0, none⟩, cap, rfl, fun j hj => ⟨g, rfl, h2, h1, fun i hi => h.cellAt i (by omega)⟩⟩
set_option maxRecDepth 100000 in
set_option maxHeartbeats 2000000 in
theorem crash_any_rd (d : DL) (S : DiskS) (keep : List Int) (a : Option Addr) (c : Nat) (w : World) (h : DiskRd w d S) (hB : S.ops.length ≤ opsMax) (hkm : keep.length ≤ 9223372036854775807)
    (hkeep : ∀ j, j < keep.length → ∃ kb ko, a = some ⟨kb, ko, none⟩ ∧ ∀ i (hi : i < keep.length), w.cell? ⟨kb, ko + i, none⟩ = some (.int .i64 keep[i])) :
    Calls Tryd.prog 7 #[.pointer (some ⟨d.p, 0, none⟩), .slice a keep.length c] w fun e w' => Below w.heap.size w w' ∧
      ((¬ goodKeep S.waits S.safe.length keep ∧ e = .returned (.tuple #[.pointer none, .int .i64 2])) ∨
       (goodKeep S.waits S.safe.length keep ∧ ∃ d', e = .returned (.tuple #[.pointer (some ⟨d'.p, 0, none⟩), .int .i64 0]) ∧ DiskIn w' d' (freshS (crashL S.waits S.safe ((waitKeys S.waits S.safe.length).zip keep))) ∧
         (∀ i, d'.foot (freshS (crashL S.waits S.safe ((waitKeys S.waits S.safe.length).zip keep))).waits i → w.heap.size ≤ i) ∧ (∀ i, d'.fv.ownBlock = some i → w.heap.size ≤ i))) := by
  have HW := hid (waiting_any d.p d.L S.safe S.waits S.ops.length w (by rw [cell_of_block h.heap]; rfl) h.plates hB)
  have H := hid h
  have HM := hid h.plates.most
  have HP := hid h.plates.pos
  have HLk := hid (length_waitKeys S.waits S.safe.length)
  have HMem := hid (fun k => @mem_waitKeys S.waits S.safe.length k)
  have HK := hid hkeep
  have HGK := hid (goodKeep_iff S.waits S.safe.length keep)
  clear h hkeep
  generalize hks : waitKeys S.waits S.safe.length = ks at *
  generalize hgk : goodKeep S.waits S.safe.length keep = GK at *
  clear hks hgk
  go_enter Tryd.func7, Tryd.ntmps7
  go_wp2_with fail
  refine HW.out.mono ?_
  clear HW
  rintro e w1 ⟨v, rfl, hrow, -, hb⟩
  obtain ⟨sa, scap, rfl, hsa⟩ := row_slice hrow
  have HSA := hid hsa
  have HB1 := hid hb
  clear hrow hb hsa
  by_cases hlen : keep.length ≤ ks.length
  · have hlen' : ¬ ((ks.length : Int) < (keep.length : Int)) := by omega
    have HP1 := hid (below_block HB1.out H.out.heap (lt_of_heap H.out.heap))
    have c2 : w1.cell? ⟨d.p, 2, none⟩ = some (.slice (some ⟨d.L.g, 0, none⟩) S.safe.length d.L.cap) := by rw [cell_of_block HP1.out]; rfl
    have hcl := clone_any (strs S.safe) ⟨d.L.g, 0, none⟩ d.L.cap (by simpa using HP.out) (by simpa using HM.out) (strs_one _) w1 (fun j u hu => by
      have hj : j < S.safe.length := by have := (List.getElem?_eq_some_iff.1 hu).1; simpa using this
      have hc := H.out.plates.safeRow.cellAt j (by omega)
      rw [Addr.add_mid, Nat.zero_add, HB1.out.cell (p := ⟨d.L.g, j, none⟩) (H.out.plates.foot_lt (.inl rfl)), hc]; exact hu)
    rw [show (strs S.safe).length = S.safe.length by simp] at hcl
    have HCl := hid hcl
    clear hcl
    go_wp2_with fail
    refine HCl.out.mono ?_
    clear HCl
    rintro e w2 ⟨g2, cap2, rfl, hown2, hB2⟩
    have HO2 := hid hown2
    have HB2 := hid hB2
    clear hown2 hB2 c2
    go_wp2
    go_loopw [30] (fun i wr => ∃ k : Nat, k ≤ keep.length ∧ i = .int .i64 k ∧ Hid (∀ j (hj : j < keep.length) (hj' : j < ks.length), j < k → 0 ≤ keep[j] ∧ keep[j] ≤ (S.waits ks[j]).length) ∧
      Hid (wr.ownsRow w1.heap.size 39 1 (.slice (some ⟨g2, 0, none⟩) S.safe.length cap2) S.safe.length (strs (crashL S.waits S.safe ((ks.zip keep).take k)))) ∧ Hid (Below w1.heap.size w1 wr)) (fun i _ => keep.length - (intOf i).toNat)
    case atStart => exact ⟨0, by omega, rfl, fun _ _ _ h => by omega, HO2.out, HB2.out⟩
    case round =>
      obtain ⟨k, hk, rfl, hgood, hF, hBr⟩ := hrel
      have hg2 := (HO2.out.lt g2 rfl).1
      by_cases hlt : k < keep.length
      · obtain ⟨kb, ko, rfl, hkc⟩ := HK.out k hlt
        have hlt2 : k < ks.length := by omega
        obtain ⟨sg, rfl, hsg, hsb, hsc⟩ := HSA.out k hlt2
        obtain ⟨m0, m1, m2⟩ := (HMem.out ks[k]).1 (List.getElem_mem hlt2)
        have hkbl : kb < w.heap.size := World.block_lt_of_cell? w _ (hkc k hlt)
        have hBw : Below w.heap.size w wr := HB1.out.trans (hBr.out.mono HB1.out.size)
        have ck : wr.cell? ⟨kb, ko + k, none⟩ = some (.int .i64 keep[k]) := by rw [hBw.cell (p := ⟨kb, ko + k, none⟩) hkbl]; exact hkc k hlt
        have cs : wr.cell? ⟨sg, k, none⟩ = some (.int .i64 ks[k]) := by rw [hBr.out.cell (p := ⟨sg, k, none⟩) hsg, hsc k hlt2]; simp [hlt2]
        have hkp := H.out.plates.keep (Keeps.of_below hBw) (fun _ _ e => e)
        have hlook : (Instr.lookup 45 (.map (some d.L.m)) (.int .i64 ks[k]) false).run Tryd.prog wr = .ok (.slice (some ⟨d.L.row ks[k], 0, none⟩) (S.waits ks[k]).length (d.L.rcap ks[k])) wr := by
          have := hkp.look ks[k] m0 m1 wr rfl
          rwa [PL.rowV, if_neg m2] at this
        have cp : wr.cell? ⟨d.p, 3, none⟩ = some (.map (some d.L.m)) := by rw [cell_of_block (below_block hBw H.out.heap (lt_of_heap H.out.heap))]; rfl
        have hlw := H.out.plates.len ks[k]
        have hlw2 : (S.waits ks[k]).length ≤ 1000000000 := by unfold opsMax at hB; omega
        have hrow := hkp.rows ks[k] m2
        have HS := hid (crashL_step S.waits S.safe (ks.zip keep) k (by simp; omega))
        rw [List.getElem_zip] at HS
        have hk0 : (0 : Int) ≤ (k : Int) := by omega
        have hk2 : (k : Int) < (keep.length : Int) := by omega
        have hk3 : (k : Int) < (ks.length : Int) := by omega
        have hmost := HM.out
        have HGood : Hid (¬ (0 ≤ keep[k] ∧ keep[k] ≤ (S.waits ks[k]).length) → ¬ GK) := fun hn hg => hn ((HGK.out.1 hg).2 k hlt hlt2)
        have HNext : Hid ((0 ≤ keep[k] ∧ keep[k] ≤ (S.waits ks[k]).length) → ∀ j (hj : j < keep.length) (hj' : j < ks.length), j < k + 1 → 0 ≤ keep[j] ∧ keep[j] ≤ (S.waits ks[j]).length) := fun hn j hj hj' hjk => by
          rcases Nat.lt_or_ge j k with h1 | h1
          · exact hgood.out j hj hj' h1
          · obtain rfl : j = k := by omega
            exact hn
        have HRow := hid hrow
        have HBw := hid hBw
        clear hkp hrow hsc hkc hkbl hBw hgood
        generalize ks[k] = n at *
        generalize keep[k] = x at *
        by_cases hneg : x < 0
        · go_wp2
          go_returns
          exact ⟨HBw.out, .inl ⟨HGood.out (by omega), rfl⟩⟩
        · by_cases hbig : ((S.waits n).length : Int) < x
          · go_wp2
            go_returns
            exact ⟨HBw.out, .inl ⟨HGood.out (by omega), rfl⟩⟩
          · by_cases hx0 : 0 < x
            · have hxt : (x - 1).toNat < (S.waits n).length := by omega
              have cr : wr.cell? ⟨d.L.row n, x.toNat - 1, none⟩ = some (.string ((S.waits n).getD (x.toNat - 1) ⟨#[]⟩)) := by
                have hxt' : x.toNat - 1 < (S.waits n).length := by omega
                rw [HRow.out.cellAt _ (by omega)]
                simp [hxt']
              have hnt : n.toNat < (crashL S.waits S.safe ((ks.zip keep).take k)).length := by rw [length_crashL]; omega
              obtain ⟨old, cl⟩ : ∃ o, wr.cell? ⟨g2, n.toNat, none⟩ = some o := ⟨.string ((crashL S.waits S.safe ((ks.zip keep).take k))[n.toNat]), by
                rw [hF.out.cellAt _ (by omega)]
                simp [hnt]⟩
              have fl : wr.frozen? ⟨g2, n.toNat, none⟩ = false := hF.out.frozenAt _
              have HS2 : Hid (crashL S.waits S.safe ((ks.zip keep).take (k + 1)) = (crashL S.waits S.safe ((ks.zip keep).take k)).set n.toNat ((S.waits n).getD (x.toNat - 1) ⟨#[]⟩)) := by
                have := HS.out; simpa [hx0, Hid] using this
              generalize (S.waits n).getD (x.toNat - 1) ⟨#[]⟩ = s at *
              clear hxt hnt HS HRow
              go_wp2
              refine ⟨⟨k + 1, by omega, by go_num, HNext.out ⟨by omega, by omega⟩, ?_, hBr.out.setCell hg2 _⟩, by simp [intOf]; omega⟩
              have := (hF.out.stored n.toNat (.string s)).1
              rw [HS2.out]
              unfold strs at this ⊢
              rw [List.map_set]
              exact this
            · have hx1 : x = 0 := by omega
              have HS2 : Hid (crashL S.waits S.safe ((ks.zip keep).take (k + 1)) = crashL S.waits S.safe ((ks.zip keep).take k)) := by
                have := HS.out; simpa [hx0, Hid] using this
              subst hx1
              clear HS HRow
              go_wp2
              refine ⟨⟨k + 1, by omega, by go_num, HNext.out ⟨by omega, by omega⟩, ?_, hBr.out⟩, by simp [intOf]; omega⟩
              rw [HS2.out]
              exact hF.out
      · obtain rfl : k = keep.length := by omega
        have hge : ¬ ((keep.length : Int) < (keep.length : Int)) := by omega
        have HTake : Hid ((ks.zip keep).take keep.length = ks.zip keep) := List.take_of_length_le (by rw [List.length_zip]; exact Nat.min_le_right _ _)
        rw [HTake.out] at hF
        have hlc : (strs (crashL S.waits S.safe (ks.zip keep))).length = S.safe.length := by simp [strs, length_crashL]
        have hmade := made_any (strs (crashL S.waits S.safe (ks.zip keep))) ⟨g2, 0, none⟩ cap2 (by rw [hlc]; exact HP.out) (by rw [hlc]; exact HM.out) (strs_one _) wr (fun j u hu => by
          have hj : j < S.safe.length := by rw [← hlc]; exact (List.getElem?_eq_some_iff.1 hu).1
          rw [Addr.add_mid, Nat.zero_add, hF.out.cellAt j (by omega)]; exact hu)
        have HLC := hid hlc
        rw [hlc] at hmade
        have HMade := hid hmade
        have HGood : Hid GK := HGK.out.2 ⟨hlen, fun j hj hj' => hgood.out j hj hj' hj⟩
        clear hmade hlc
        go_wp2_with fail
        refine HMade.out.mono ?_
        clear HMade
        rintro e w3 ⟨p, rfl, hFr⟩
        have HFr := hid hFr
        clear hFr
        go_wp2
        go_returns
        have hz1 := HB1.out.size
        have hz2 := hBr.out.size
        obtain ⟨d', e1, e2, e3, e4, e5⟩ := fresh_disk (w0 := wr) (w := w3) (p := p) (xs := crashL S.waits S.safe (ks.zip keep)) (ad := ⟨g2, 0, none⟩) (c := cap2) (by rw [HLC.out]; exact HFr.out) (by rw [length_crashL]; exact HP.out) (by rw [length_crashL]; exact HM.out) (hF.out.lt g2 rfl).2 (fun j u hu => by
          have hj : j < S.safe.length := by rw [← HLC.out]; exact (List.getElem?_eq_some_iff.1 hu).1
          rw [Addr.add_mid, Nat.zero_add, hF.out.cellAt j (by omega)]; exact hu)
        refine ⟨HB1.out.trans (hBr.out.trans (e5.mono hz2) |>.mono hz1), .inr ⟨HGood.out, d', by rw [e2]; rfl, e1, fun i hi => ?_, fun i hi => ?_⟩⟩
        · have := e4 i hi; omega
        · rw [e3] at hi
          have := Option.some.inj hi
          simp at this; omega
  · have hlen' : (ks.length : Int) < (keep.length : Int) := by omega
    go_wp2
    go_returns
    exact ⟨HB1.out, .inl ⟨fun hg => hlen (HGK.out.1 hg).1, rfl⟩⟩
theorem crash_any (d : DL) (S : DiskS) (keep : List Int) (a : Option Addr) (c : Nat) (w : World) (h : DiskIn w d S) (hB : S.ops.length ≤ opsMax) (hkm : keep.length ≤ 9223372036854775807)
    (hkeep : ∀ j, j < keep.length → ∃ kb ko, a = some ⟨kb, ko, none⟩ ∧ ∀ i (hi : i < keep.length), w.cell? ⟨kb, ko + i, none⟩ = some (.int .i64 keep[i])) :
    Calls Tryd.prog 7 #[.pointer (some ⟨d.p, 0, none⟩), .slice a keep.length c] w fun e w' => Below w.heap.size w w' ∧
      ((¬ goodKeep S.waits S.safe.length keep ∧ e = .returned (.tuple #[.pointer none, .int .i64 2])) ∨
       (goodKeep S.waits S.safe.length keep ∧ ∃ d', e = .returned (.tuple #[.pointer (some ⟨d'.p, 0, none⟩), .int .i64 0]) ∧ DiskIn w' d' (freshS (crashL S.waits S.safe ((waitKeys S.waits S.safe.length).zip keep))) ∧
         (∀ i, d'.foot (freshS (crashL S.waits S.safe ((waitKeys S.waits S.safe.length).zip keep))).waits i → w.heap.size ≤ i) ∧ (∀ i, d'.fv.ownBlock = some i → w.heap.size ≤ i))) :=
  crash_any_rd d S keep a c w h.rd hB hkm hkeep
end Go.Proofs.YtabpfneihihmaaaDoor
