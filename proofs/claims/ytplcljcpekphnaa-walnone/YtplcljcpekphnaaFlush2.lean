/- disk.Disk.Flush: what is read is safe, nothing waits. -/
import Derived.Test.YtplcljcpekphnaaFlush
namespace Go.Proofs.Ytplcljcpekphnaa
open Go.RowKit Go.Maps
/-- A disk behind a flush. -/
def DiskS.flushed (S : DiskS) : DiskS := { S with ops := S.ops ++ [.flush], safe := imgS S, waits := fun _ => [] }
set_option maxRecDepth 100000 in
set_option maxHeartbeats 1000000 in
theorem note_flush (d : DL) (S : DiskS) (w : World) (h : DiskIn w d S) (hB : S.ops.length < opsMax) :
    Calls Try.prog 47 #[.pointer (some ⟨d.p, 0, none⟩), .iface 92 (.agg #[])] w fun e w' => e = .returned (.tuple #[]) ∧
      ∃ d', DiskIn w' d' (S.flushed) ∧ d'.p = d.p ∧ d'.fv = d.fv ∧ (∀ i, d'.foot (S.flushed).waits i → d.foot S.waits i ∨ w.heap.size ≤ i) ∧ Keeps (d.foot S.waits) w w' := by
  have c1 : w.cell? ⟨d.p, 1, none⟩ = some d.ov := by rw [cell_of_block h.heap]; rfl
  have hlt := lt_of_heap h.heap
  obtain ⟨i0, hi, hz0, hz1, hz2⟩ := info_parts infoOp
  have HI := hid hi
  have H := hid h
  have HL := hid (opsMax_len hB)
  clear hi h
  go_enter Try.func47, Try.ntmps47
  go_wp2_with (refine wpList_append_lies _ rfl (.tmp 8) (.tmp 10) 56 rfl 0 107 i0 .nilIface 1 16 Try.underlying56 HI.out hz0 hz1 hz2 rfl (by omega) d.ov S.ops.length (S.ops.map encOp) rfl (H.out.ops.alloc _) ⟨w.heap.size, 0, none⟩ 1 1 [encOp .flush] rfl rfl (World.news_of_block (cs := #[encOp .flush]) (block_new w _)) (by intro u hu; rw [List.mem_singleton.1 hu]; rfl) (by omega) HL.out.1 HL.out.2.1 (Nat.zero_le _) (w.heap.size + 1) (by simp) ?_; intro g cap w1 hown hgr hat hlt1; have HO := hid hown; have HG := hid hgr; have HA := hid hat; have HP1 := hid ((hgr.block d.p (by simp; omega) (fun e => (H.out.ops_off e.symm).2 rfl)).trans (block_alloc H.out.heap _)); have f1 : w1.cell? ⟨d.p, 1, none⟩ = some d.ov := cell_of_block HP1.out 1; have f2 : w1.frozen? ⟨d.p, 1, none⟩ = false := frozen_of_block HP1.out 1; clear hown hgr hat hlt1)
  have K1 : Keeps (fun i => d.ov.ownBlock = some i) w w1 := (Keeps.of_below ((Below.refl _ _).alloc (Nat.le_refl _) _)).trans (Keeps.of_grown HG.out (fun i e => e)) (fun i e => .inl e)
  have K2 : Keeps (fun i => d.ov.ownBlock = some i ∨ i = d.p) w (w1.setCell ⟨d.p, 1, none⟩ (.slice (some ⟨g, 0, none⟩) (S.ops.length + 1) cap)) :=
    (K1.mono (fun _ => .inl)).grown (grown_setCell (grown_refl w1 (some d.p)) 1 _) (fun i e => .inl (.inr (Option.some.inj e).symm))
  have HK2 := hid K2
  have hP2 := block_setCell HP1.out 1 (.slice (some ⟨g, 0, none⟩) (S.ops.length + 1) cap)
  have HP2 := hid hP2
  have hgp : g ≠ d.p := by
    obtain ⟨cur, hc⟩ := row_type HO.out rfl
    refine ne_of_heap hc HP1.out (fun e => ?_)
    simp only [Obj.cells.injEq] at e
    exact absurd e.2.1 (by decide)
  have HO2 := hid (HO.out.kept (grown_setCell (grown_refl w1 (some d.p)) 1 (.slice (some ⟨g, 0, none⟩) (S.ops.length + 1) cap)) (.inr (fun e => hgp (by simpa [Value.ownBlock] using e))))
  have HPL := hid (H.out.plates.keep HK2.out (fun i hi e => by
    rcases e with e | e
    · exact (H.out.ops_off e).1 hi
    · exact H.out.p_off (e ▸ hi)))
  clear K1 K2 hP2 f1 f2 HO hgp
  generalize hW : w1.setCell ⟨d.p, 1, none⟩ (.slice (some ⟨g, 0, none⟩) (S.ops.length + 1) cap) = w2 at *
  clear hW
  refine (do_flush d.p d.fv (.slice (some ⟨g, 0, none⟩) (S.ops.length + 1) cap) d.L S.safe S.waits S.ops.length w2 HP2.out HPL.out).mono ?_
  rintro e w3 ⟨rfl, hP3, hK3⟩
  have HP3 := hid hP3
  have HK3 := hid hK3
  clear hP3 hK3
  have HFoot : Hid (∀ i, (DL.foot ⟨d.p, d.fv, .slice (some ⟨g, 0, none⟩) (S.ops.length + 1) cap, { d.L with D := .map [] }⟩ (S.flushed).waits i) → d.foot S.waits i ∨ w.heap.size ≤ i) := by
    rintro i (e | e | e)
    · exact .inl (.inl e)
    · obtain rfl : g = i := Option.some.inj e
      rcases HA.out with e | e
      · exact .inl (.inr (.inl e))
      · exact .inr (by omega)
    · rcases e with e | e | ⟨n, hn, _⟩
      · exact .inl (.inr (.inr (.inl e)))
      · exact .inl (.inr (.inr (.inr (.inl e))))
      · exact absurd rfl hn
  have HKall : Hid (Keeps (d.foot S.waits) w w3) := (HK2.out.mono (fun i e => by rcases e with e | e; exact .inr (.inl e); exact .inl e)).trans HK3.out (fun i e => .inl (.inr (.inr e)))
  go_wp2
  go_end0
  refine ⟨rfl, ⟨d.p, d.fv, .slice (some ⟨g, 0, none⟩) (S.ops.length + 1) cap, { d.L with D := .map [] }⟩, ⟨?_, ?_, ?_, ?_, ?_⟩, rfl, rfl, ?_, ?_⟩
  · have h3 := HK3.out.heap HP2.out H.out.p_off
    simpa [DiskS.flushed, length_imgS] using h3
  · have h2 := HK3.out.row HO2.out (fun i hi => by
      obtain ⟨cur, hc⟩ := row_type HO2.out hi
      exact HPL.out.foot_other hc (by decide))
    simpa [DiskS.flushed] using h2
  · exact HP3.out.moreB (Nat.zero_le _)
  · obtain ⟨ad, c, e, hc, hn⟩ := H.out.first
    refine ⟨ad, c, e, fun j u hj => ?_, fun hf => ?_⟩
    · refine HK3.out.cell (HK2.out.cell (hc j u hj) ?_) ?_
      · rw [add_block]; rintro (e | e)
        · exact hn (.inr (.inl e))
        · exact hn (.inl e)
      · rw [add_block]; exact fun e => hn (.inr (.inr e))
    · have hlt0 : S.first.length ≠ 0 := by have := H.out.flen; have := H.out.plates.pos; omega
      have hltad : ad.block < w.heap.size := by
        have h00 := hc 0 (S.first[0]'(by omega)) (by simp)
        have := World.block_lt_of_cell? w _ h00
        rwa [add_block] at this
      exact hn (by rcases HFoot.out _ hf with e | e; exact e; omega)
  · have := H.out.flen; simpa [DiskS.flushed, length_imgS] using this
  · exact HFoot.out
  · exact HKall.out
set_option maxRecDepth 100000 in
theorem flush_disk (d : DL) (S : DiskS) (w : World) (h : DiskIn w d S) (hB : S.ops.length < opsMax) :
    Calls Try.prog 35 #[.pointer (some ⟨d.p, 0, none⟩)] w fun e w' => e = .returned (.int .i64 0) ∧
      ∃ d', DiskIn w' d' S.flushed ∧ d'.p = d.p ∧ d'.fv = d.fv ∧ (∀ i, d'.foot S.flushed.waits i → d.foot S.waits i ∨ w.heap.size ≤ i) ∧ Keeps (d.foot S.waits) w w' := by
  have HN := hid (note_flush d S w h hB)
  clear h
  go_enter Try.func35, Try.ntmps35
  go_wp2_with fail
  refine HN.out.mono ?_
  rintro e w1 ⟨rfl, hq⟩
  have HQ := hid hq
  clear hq
  go_wp2
  go_ret
  exact ⟨rfl, HQ.out⟩
end Go.Proofs.Ytplcljcpekphnaa
