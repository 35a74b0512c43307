/- Writes and flushes of a disk whose ops lie in another's list. -/
import Derived.Test.YtoeiodiadanhkaaGreatCut
import Derived.Test.YtoeiodiadanhkaaGreatJoined1
import Derived.ArgAppend
namespace Go.Proofs.YtoeiodiadanhkaaGreat
open Go.RowKit Go.Maps
theorem CutIn.keep {w w' : World} {d : DL} {S : DiskS} (h : CutIn w d S) {G : Nat → Prop} (k : Keeps G w w') (hp : ¬ G d.p) (hG : ∀ i, d.L.foot S.waits i → ¬ G i) (hF : ∀ i, d.fv.ownBlock = some i ∨ d.ov.ownBlock = some i → ¬ G i) : CutIn w' d S := by
  obtain ⟨h1, ⟨a, e1, e2, e3⟩, ⟨ad, c, e4, e5, e6⟩, h4⟩ := h
  refine ⟨h1.keep k hp hG, ⟨a, e1, e2, fun b hb => ⟨fun j u hu => ?_, Nat.lt_of_lt_of_le (e3 b hb).2 k.size⟩⟩, ⟨ad, c, e4, fun j s hj => ?_, e6⟩, h4⟩
  · exact k.cell ((e3 b hb).1 j u hu) (by rw [add_block]; exact hF _ (.inr (by rw [e1, hb]; rfl)))
  · exact k.cell (e5 j s hj) (by rw [add_block]; exact hF _ (.inl (by rw [e4]; rfl)))
theorem CutIn.below {w w' : World} {d : DL} {S : DiskS} (h : CutIn w d S) (k : Below w.heap.size w w') : CutIn w' d S := h.keep (G := fun _ => False) (Keeps.of_below k) (fun e => e) (fun _ _ e => e) (fun _ _ e => e)
/-- The blocks that are written when it changes: not those of its ops. -/
def DL.cutFoot (d : DL) (waits : Int → List ByteArray) (i : Nat) : Prop := i = d.p ∨ d.L.foot waits i
theorem do_op (p : Nat) (fv ov : Value) (L : PL) (S : DiskS) (B : Nat) (o : OpS) (w : World)
    (hp : w.heap[p]? = some (.cells #[fv, ov, .slice (some ⟨L.g, 0, none⟩) S.safe.length L.cap, .map (some L.m)] 98 (0, 0))) (h : PlatesIn w L S.safe S.waits B) (hB : B < opsMax) (ho : okOp S.safe.length o) :
    Calls Tryz.prog 91 #[.pointer (some ⟨p, 2, none⟩), encOp o] w fun e w' => e = .returned (.tuple #[]) ∧
      ∃ L', PlatesIn w' L' (doOp S o).safe (doOp S o).waits (B + 1) ∧ L'.g = L.g ∧ L'.cap = L.cap ∧ L'.m = L.m ∧ (∀ i, L'.foot (doOp S o).waits i → L.foot S.waits i ∨ w.heap.size ≤ i) ∧ Keeps (L.foot S.waits) w w' := by
  cases o with
  | write n s => exact do_write p fv ov L S.safe S.waits B n s w hp h hB ho.1 ho.2.1
  | flush =>
    refine (do_flush p fv ov L S.safe S.waits B w hp h).mono ?_
    rintro e w' ⟨rfl, hP, hK⟩
    refine ⟨rfl, { L with D := .map [] }, hP.moreB (Nat.zero_le _), rfl, rfl, rfl, fun i hi => ?_, hK⟩
    rcases hi with e | e | ⟨n, hn, _⟩
    · exact .inl (.inl e)
    · exact .inl (.inr (.inl e))
    · exact absurd rfl hn
set_option maxRecDepth 100000 in
set_option maxHeartbeats 2000000 in
theorem note_cut (d : DL) (S : DiskS) (o : OpS) (w : World) (h : CutIn w d S) (hB : S.ops.length ≤ 1000000) (ho : okOp S.first.length o) :
    Calls Tryz.prog 104 #[.pointer (some ⟨d.p, 0, none⟩), encOp o] w fun e w' => e = .returned (.tuple #[]) ∧
      ∃ d', DiskIn w' d' (doOp S o) ∧ d'.p = d.p ∧ d'.fv = d.fv ∧ (∀ i, d'.foot (doOp S o).waits i → d.cutFoot S.waits i ∨ w.heap.size ≤ i) ∧ Keeps (d.cutFoot S.waits) w w' := by
  obtain ⟨oa, hov, hnone, hcells⟩ := h.ops
  have c1 : w.cell? ⟨d.p, 1, none⟩ = some (.slice oa S.ops.length S.ops.length) := by rw [cell_of_block h.rd.heap, ← hov]; rfl
  have hlt := lt_of_heap h.rd.heap
  obtain ⟨i0, hi, hz0, hz1, hz2⟩ := info_parts infoOp
  have HI := hid hi
  have H := hid h
  have HCl := hid (show ∀ b, oa = some b → ∀ j u, (S.ops.map encOp)[j]? = some u → (w.alloc (.cells #[encOp o] 129)).cell? (b.add j) = some u from fun b hb j u hu => by
    rw [World.cell?_alloc_lt _ _ _ (by rw [add_block]; exact (hcells b hb).2)]
    exact (hcells b hb).1 j u hu)
  have HNo : Hid (oa = none → S.ops.length = 0 ∧ S.ops.length = 0) := fun e => by rw [hnone e]; exact ⟨rfl, rfl⟩
  have HOo := hid ho
  obtain ⟨t, ov, hev⟩ : ∃ t v, encOp o = .iface t v := by cases o <;> exact ⟨_, _, rfl⟩
  rw [hev] at HCl ⊢
  have HEv := hid hev
  clear hi h hcells hnone hev ho
  go_enter Tryz.func104, Tryz.ntmps104
  go_wp2_with (refine wpList_append_grows _ rfl (.tmp 8) (.tmp 10) 93 rfl 129 i0 .nilIface 1 16 Tryz.underlying93 HI.out hz0 hz1 hz2 rfl (by omega) oa S.ops.length S.ops.length (S.ops.map encOp) rfl HNo.out (by simp) HCl.out ⟨w.heap.size, 0, none⟩ 1 1 [.iface t ov] rfl rfl (World.news_of_block (cs := #[.iface t ov]) (block_new w _)) (by intro u hu; rw [List.mem_singleton.1 hu]; rfl) (by omega) (by unfold maxLen; omega) (by omega) ?_; intro v1 w1 hown hgr; have HO := hid hown; have HG := hid hgr; have HP1 := hid ((hgr.block d.p (by simp; omega) (fun e => by cases e)).trans (block_alloc H.out.rd.heap _)); have f1 : w1.cell? ⟨d.p, 1, none⟩ = some d.ov := cell_of_block HP1.out 1; have f2 : w1.frozen? ⟨d.p, 1, none⟩ = false := frozen_of_block HP1.out 1; obtain ⟨g, cap, hv1, hgb, hgl⟩ := hown.form (by omega); subst hv1; clear hown hgr)
  have K1 : Keeps (fun i => i = d.p) w w1 := (Keeps.of_below ((Below.refl _ _).alloc (Nat.le_refl _) _)).trans (Keeps.of_grown HG.out (F := fun _ => False) (fun i e => by cases e)) (fun i e => .inl e.elim)
  have K2 : Keeps (fun i => i = d.p) w (w1.setCell ⟨d.p, 1, none⟩ (.slice (some ⟨g, 0, none⟩) (S.ops.length + 1) cap)) :=
    K1.grown (grown_setCell (grown_refl w1 (some d.p)) 1 _) (fun i e => .inl (Option.some.inj e).symm)
  have HK2 := hid K2
  have HP2 := hid (block_setCell HP1.out 1 (.slice (some ⟨g, 0, none⟩) (S.ops.length + 1) cap))
  have hgw : w.heap.size ≤ g := by simp at hgb; omega
  have hgp : g ≠ d.p := by omega
  have HO2 := hid (HO.out.kept (grown_setCell (grown_refl w1 (some d.p)) 1 (.slice (some ⟨g, 0, none⟩) (S.ops.length + 1) cap)) (.inr (fun e => hgp (by simpa [Value.ownBlock] using e))))
  have hpo := H.out.rd.plates.foot_other H.out.rd.heap (by decide)
  have HPL := hid (H.out.rd.plates.keep HK2.out (fun i hi e => hpo (by rw [← e]; exact hi)))
  clear K1 K2 f1 f2 HO
  generalize hW : w1.setCell ⟨d.p, 1, none⟩ (.slice (some ⟨g, 0, none⟩) (S.ops.length + 1) cap) = w2 at *
  clear hW
  rw [← HEv.out]
  refine (do_op d.p d.fv (.slice (some ⟨g, 0, none⟩) (S.ops.length + 1) cap) d.L S S.ops.length o w2 HP2.out HPL.out (by unfold opsMax; omega) (by rw [← H.out.flen]; exact HOo.out)).mono ?_
  rintro e w3 ⟨rfl, L', hP3, e1, e2, e3, hfoot, hK3⟩
  have HP3 := hid hP3
  have HF3 := hid hfoot
  have HK3 := hid hK3
  have HE := hid (And.intro e1 (And.intro e2 e3))
  clear hP3 hfoot hK3 e1 e2 e3
  have HFoot : Hid (∀ i, (DL.foot ⟨d.p, d.fv, .slice (some ⟨g, 0, none⟩) (S.ops.length + 1) cap, L'⟩ (doOp S o).waits i) → d.cutFoot S.waits i ∨ w.heap.size ≤ i) := by
    rintro i (e | e | e)
    · exact .inl (.inl e)
    · obtain rfl : g = i := Option.some.inj e
      exact .inr hgw
    · rcases HF3.out i e with e | e
      · exact .inl (.inr e)
      · exact .inr (Nat.le_trans HK2.out.size e)
  have HKall : Hid (Keeps (d.cutFoot S.waits) w w3) := (HK2.out.mono (fun i e => .inl e)).trans HK3.out (fun i e => .inl (.inr e))
  have hfirst := H.out.first
  have HFi := hid hfirst
  clear hfirst
  go_wp2
  go_end0
  refine ⟨rfl, ⟨d.p, d.fv, .slice (some ⟨g, 0, none⟩) (S.ops.length + 1) cap, L'⟩, ⟨?_, ?_, ?_, ?_, ?_⟩, rfl, rfl, HFoot.out, HKall.out⟩
  · rw [HE.out.1, HE.out.2.1, HE.out.2.2, doOp_len]
    exact HK3.out.heap HP2.out hpo
  · have h2 := HK3.out.row HO2.out (fun i hi => by
      obtain ⟨cur, hc⟩ := row_type HO2.out hi
      exact HPL.out.foot_other hc (by decide))
    rw [doOp_ops]
    have h3 := h2.mono (Nat.zero_le _)
    rw [← HEv.out] at h3
    simpa using h3
  · rw [doOp_ops]; simpa using HP3.out
  · obtain ⟨ad, c, e, hc, hn⟩ := HFi.out
    rw [doOp_first]
    refine ⟨ad, c, e, fun j u hj => ?_, fun hf => ?_⟩
    · refine HK3.out.cell (HK2.out.cell (hc j u hj) ?_) ?_
      · rw [add_block]; exact fun e => hn (.inl e)
      · rw [add_block]; exact fun e => hn (.inr e)
    · have hlt0 : S.first.length ≠ 0 := by have := H.out.flen; have := H.out.rd.plates.pos; omega
      have hltad : ad.block < w.heap.size := by
        have h00 := hc 0 (S.first[0]'(by omega)) (by simp)
        have := World.block_lt_of_cell? w _ h00
        rwa [add_block] at this
      exact hn (by rcases HFoot.out _ hf with e | e; exact e; omega)
  · rw [doOp_first, doOp_len]; exact H.out.flen
set_option maxRecDepth 100000 in
theorem flush_cut (d : DL) (S : DiskS) (w : World) (h : CutIn w d S) (hB : S.ops.length ≤ 1000000) :
    Calls Tryz.prog 77 #[.pointer (some ⟨d.p, 0, none⟩)] w fun e w' => e = .returned (.int .i64 0) ∧
      ∃ d', DiskIn w' d' S.flushed ∧ d'.p = d.p ∧ d'.fv = d.fv ∧ (∀ i, d'.foot S.flushed.waits i → d.cutFoot S.waits i ∨ w.heap.size ≤ i) ∧ Keeps (d.cutFoot S.waits) w w' := by
  have hn := note_cut d S .flush w h hB trivial
  simp only [encOp, doOp] at hn
  have HN := hid hn
  clear hn
  clear h
  go_enter Tryz.func77, Tryz.ntmps77
  go_wp2_with fail
  refine HN.out.mono ?_
  rintro e w1 ⟨rfl, hq⟩
  have HQ := hid hq
  clear hq
  go_wp2
  go_ret
  exact ⟨rfl, HQ.out⟩
set_option maxRecDepth 100000 in
set_option maxHeartbeats 1000000 in
theorem write_cut_ok (d : DL) (S : DiskS) (n : Int) (l : List UInt8) (ad : Addr) (c : Nat) (w : World) (h : CutIn w d S) (hB : S.ops.length ≤ 1000000) (h0 : 0 ≤ n) (h1 : n < S.safe.length) (hl : l.length = 512) (hb : bytesAt w ad l) :
    Calls Tryz.prog 76 #[.pointer (some ⟨d.p, 0, none⟩), .int .i64 n, .slice (some ad) 512 c] w fun e w' => e = .returned (.int .i64 0) ∧
      ∃ d', DiskIn w' d' (S.wrote n ⟨l.toArray⟩) ∧ d'.p = d.p ∧ d'.fv = d.fv ∧ (∀ i, d'.foot (S.wrote n ⟨l.toArray⟩).waits i → d.cutFoot S.waits i ∨ w.heap.size ≤ i) ∧ Keeps (d.cutFoot S.waits) w w' := by
  have hcv := run_convert_bytes_back (P := Tryz.prog) w 37 108 5 ad c l Tryz.underlying37 Tryz.underlying5 Tryz.underlying108 hb
  rw [hl] at hcv
  have c2 : w.cell? ⟨d.p, 2, none⟩ = some (.slice (some ⟨d.L.g, 0, none⟩) S.safe.length d.L.cap) := by rw [cell_of_block h.rd.heap]; rfl
  have HD := hid (decide_eq_true (And.intro h0 h1))
  have HC2 := hid c2
  have hn := note_cut d S (.write n ⟨l.toArray⟩) w h hB ⟨h0, by rw [h.flen]; exact h1, by show l.toArray.size = 512; simpa using hl⟩
  simp only [encOp, doOp] at hn
  have HN := hid hn
  clear hb hl h c2 hn
  generalize hs : (⟨l.toArray⟩ : ByteArray) = s at *
  clear hs
  go_enter Tryz.func76, Tryz.ntmps76
  go_wp2_with fail
  refine (has_any d.p 2 _ _ _ _ _ HC2.out).mono ?_
  rintro e w9 ⟨rfl, h9⟩
  obtain rfl := h9.symm
  rw [HD.out]
  go_wp2_with fail
  refine HN.out.mono ?_
  rintro e w1 ⟨rfl, hq⟩
  have HQ := hid hq
  clear hq
  go_wp2
  go_ret
  exact ⟨rfl, HQ.out⟩
set_option maxRecDepth 100000 in
theorem write_bad (d : DL) (S : DiskS) (n : Int) (l : List UInt8) (a : Option Addr) (k c : Nat) (w : World) (h : DiskRd w d S) (hk : l.length = k) (he : errW S n l ≠ 0) :
    Calls Tryz.prog 76 #[.pointer (some ⟨d.p, 0, none⟩), .int .i64 n, .slice a k c] w fun e w' => e = .returned (.int .i64 (errW S n l)) ∧ w' = w := by
  have HC2 := hid (show w.cell? ⟨d.p, 2, none⟩ = some (.slice (some ⟨d.L.g, 0, none⟩) S.safe.length d.L.cap) by rw [cell_of_block h.heap]; rfl)
  clear h
  by_cases h1 : 0 ≤ n ∧ n < S.safe.length
  · have hk' : ¬ ((k : Int) = 512) := fun e => he (by rw [errW, if_neg (not_not_intro h1), if_neg (not_not_intro (by omega))])
    have e0 : errW S n l = 3 := by rw [errW, if_neg (not_not_intro h1), if_pos (by omega)]
    have HD := hid (decide_eq_true h1)
    rw [e0]
    clear h1 he e0
    go_enter Tryz.func76, Tryz.ntmps76
    go_wp2_with fail
    refine (has_any d.p 2 _ _ _ _ _ HC2.out).mono ?_
    rintro e w9 ⟨rfl, h9⟩
    obtain rfl := h9.symm
    rw [HD.out]
    go_wp2
    go_ret
    exact ⟨rfl, rfl⟩
  · have e0 : errW S n l = 2 := by rw [errW, if_pos h1]
    have HD := hid (decide_eq_false h1)
    rw [e0]
    clear h1 he e0
    go_enter Tryz.func76, Tryz.ntmps76
    go_wp2_with fail
    refine (has_any d.p 2 _ _ _ _ _ HC2.out).mono ?_
    rintro e w9 ⟨rfl, h9⟩
    obtain rfl := h9.symm
    rw [HD.out]
    go_wp2
    go_ret
    exact ⟨rfl, rfl⟩
/-- A disk that was cut or forked, whether its ops are its own already or not; all that it writes lies from B on. -/
def AnyIn (B : Nat) (w : World) (d : DL) (S : DiskS) : Prop := (CutIn w d S ∧ ∀ i, d.cutFoot S.waits i → B ≤ i) ∨ (DiskIn w d S ∧ ∀ i, d.foot S.waits i → B ≤ i)
theorem AnyIn.rd {B : Nat} {w : World} {d : DL} {S : DiskS} (h : AnyIn B w d S) : DiskRd w d S := by
  rcases h with h | h
  · exact h.1.rd
  · exact h.1.rd
theorem AnyIn.below {B : Nat} {w w' : World} {d : DL} {S : DiskS} (h : AnyIn B w d S) (k : Below w.heap.size w w') : AnyIn B w' d S := by
  rcases h with h | h
  · exact .inl ⟨h.1.below k, h.2⟩
  · exact .inr ⟨h.1.below k, h.2⟩
theorem any_flush (B : Nat) (d : DL) (S : DiskS) (w : World) (h : AnyIn B w d S) (hBw : B ≤ w.heap.size) (hB : S.ops.length ≤ 1000000) :
    Calls Tryz.prog 77 #[.pointer (some ⟨d.p, 0, none⟩)] w fun e w' => e = .returned (.int .i64 0) ∧ ∃ d', d'.p = d.p ∧ AnyIn B w' d' S.flushed ∧ Below B w w' := by
  rcases h with ⟨h, hf⟩ | ⟨h, hf⟩
  · refine (flush_cut d S w h hB).mono ?_
    rintro e w' ⟨rfl, d', hD, e1, e2, e3, e4⟩
    exact ⟨rfl, d', e1, .inr ⟨hD, fun i hi => by rcases e3 i hi with e | e; exact hf i e; omega⟩, e4.below hBw hf⟩
  · refine (flush_disk d S w h (by unfold opsMax; omega)).mono ?_
    rintro e w' ⟨rfl, d', hD, e1, e2, e3, e4⟩
    exact ⟨rfl, d', e1, .inr ⟨hD, fun i hi => by rcases e3 i hi with e | e; exact hf i e; omega⟩, e4.below hBw hf⟩
theorem any_write (B : Nat) (d : DL) (S : DiskS) (n : Int) (l : List UInt8) (ad : Addr) (k c : Nat) (w : World) (h : AnyIn B w d S) (hBw : B ≤ w.heap.size) (hB : S.ops.length ≤ 1000000) (hk : l.length = k) (hb : bytesAt w ad l) :
    Calls Tryz.prog 76 #[.pointer (some ⟨d.p, 0, none⟩), .int .i64 n, .slice (some ad) k c] w fun e w' => e = .returned (.int .i64 (errW S n l)) ∧ ∃ d', d'.p = d.p ∧ AnyIn B w' d' (S.put n l) ∧ Below B w w' := by
  by_cases he : errW S n l = 0
  · have hn : 0 ≤ n ∧ n < S.safe.length := Decidable.byContradiction fun hn => by rw [errW, if_pos hn] at he; cases he
    have hl : l.length = 512 := Decidable.byContradiction fun hl => by rw [errW, if_neg (not_not_intro hn), if_pos hl] at he; cases he
    have e1 : S.put n l = S.wrote n ⟨l.toArray⟩ := by rw [DiskS.put, if_pos he]
    rw [e1, he]
    obtain rfl : k = 512 := by omega
    rcases h with ⟨h, hf⟩ | ⟨h, hf⟩
    · refine (write_cut_ok d S n l ad c w h hB hn.1 hn.2 hl hb).mono ?_
      rintro e w' ⟨rfl, d', hD, e1, e2, e3, e4⟩
      exact ⟨rfl, d', e1, .inr ⟨hD, fun i hi => by rcases e3 i hi with e | e; exact hf i e; omega⟩, e4.below hBw hf⟩
    · refine (write_ok d S n l ad c w h (by unfold opsMax; omega) hn.1 hn.2 hl hb).mono ?_
      rintro e w' ⟨rfl, d', hD, e1, e2, e3, e4⟩
      exact ⟨rfl, d', e1, .inr ⟨hD, fun i hi => by rcases e3 i hi with e | e; exact hf i e; omega⟩, e4.below hBw hf⟩
  · have e1 : S.put n l = S := by rw [DiskS.put, if_neg he]
    rw [e1]
    refine (write_bad d S n l (some ad) k c w h.rd hk he).mono ?_
    rintro e w' ⟨rfl, rfl⟩
    exact ⟨rfl, d, rfl, h, Below.refl _ _⟩
end Go.Proofs.YtoeiodiadanhkaaGreat
