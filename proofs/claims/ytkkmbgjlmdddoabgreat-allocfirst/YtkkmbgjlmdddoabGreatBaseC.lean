/- Several of my texts in one: Cut, Shared, Copied, Fork, Any, ForkAny, Row, DeedsArg, IntsArg. -/
import Derived.Test.YtkkmbgjlmdddoabGreatBaseB
import Derived.Test.YtkkmbgjlmdddoabGreatBaseA
import Derived.ArgAppend
import Derived.Test.YtkkmbgjlmdddoabGreatRows
import Derived.OpenShut
import Derived.Lib.SmallJoins
import Derived.SizedLaws
/- disk.Disk.Cut: the disk as it stood behind its first k ops. -/
namespace Go.Proofs.YtkkmbgjlmdddoabGreat
open Go.RowKit Go.Maps
/-- A disk whose ops lie in a list that is another's: full, and only read. -/
structure CutIn (w : World) (d : DL) (S : DiskS) : Prop where
  rd : DiskRd w d S
  ops : ∃ a, d.ov = .slice a S.ops.length S.ops.length ∧ (a = none → S.ops = []) ∧ ∀ b, a = some b → (∀ j u, (S.ops.map encOp)[j]? = some u → w.cell? (b.add j) = some u) ∧ b.block < w.heap.size
  first : ∃ ad c, d.fv = .slice (some ad) S.first.length c ∧ (∀ j s, S.first[j]? = some s → w.cell? (ad.add j) = some (.string s)) ∧ ¬ (ad.block = d.p ∨ d.L.foot S.waits ad.block)
  flen : S.first.length = S.safe.length
set_option maxRecDepth 100000 in
theorem noted_some (p : Nat) (oa : Addr) (n oc k : Nat) (w : World) (c1 : w.cell? ⟨p, 1, none⟩ = some (.slice (some oa) n oc)) (hk : k ≤ n) (hn : n ≤ oc) :
    Calls Tryz.prog 101 #[.pointer (some ⟨p, 0, none⟩), .int .i64 k] w fun e w' => e = .returned (.slice (some oa) k k) ∧ w' = w := by
  have hk0 : (0 : Int) ≤ (k : Int) := by omega
  have hk1 : (k : Int) ≤ (oc : Int) := by omega
  go_enter Tryz.func101, Tryz.ntmps101
  go_wp2
  go_ret
  exact ⟨rfl, rfl⟩
set_option maxRecDepth 100000 in
theorem noted_none (p : Nat) (w : World) (c1 : w.cell? ⟨p, 1, none⟩ = some (.slice none 0 0)) :
    Calls Tryz.prog 101 #[.pointer (some ⟨p, 0, none⟩), .int .i64 0] w fun e w' => e = .returned (.slice none 0 0) ∧ w' = w := by
  go_enter Tryz.func101, Tryz.ntmps101
  go_wp2
  go_ret
  exact ⟨rfl, rfl⟩
end Go.Proofs.YtkkmbgjlmdddoabGreat
/- Writes and flushes of a disk whose ops lie in another's list. -/
namespace Go.Proofs.YtkkmbgjlmdddoabGreat
open Go.RowKit Go.Maps
theorem CutIn.keep {w w' : World} {d : DL} {S : DiskS} (h : CutIn w d S) {G : Nat → Prop} (k : Keeps G w w') (hp : ¬ G d.p) (hG : ∀ i, d.L.foot S.waits i → ¬ G i) (hF : ∀ i, d.fv.ownBlock = some i ∨ d.ov.ownBlock = some i → ¬ G i) : CutIn w' d S := by
  obtain ⟨h1, ⟨a, e1, e2, e3⟩, ⟨ad, c, e4, e5, e6⟩, h4⟩ := h
  refine ⟨h1.keep k hp hG, ⟨a, e1, e2, fun b hb => ⟨fun j u hu => ?_, Nat.lt_of_lt_of_le (e3 b hb).2 k.size⟩⟩, ⟨ad, c, e4, fun j s hj => ?_, e6⟩, h4⟩
  · exact k.cell ((e3 b hb).1 j u hu) (by rw [add_block]; exact hF _ (.inr (by rw [e1, hb]; rfl)))
  · exact k.cell (e5 j s hj) (by rw [add_block]; exact hF _ (.inl (by rw [e4]; rfl)))
theorem CutIn.below {w w' : World} {d : DL} {S : DiskS} (h : CutIn w d S) (k : Below w.heap.size w w') : CutIn w' d S := h.keep (G := fun _ => False) (Keeps.of_below k) (fun e => e) (fun _ _ e => e) (fun _ _ e => e)
/-- The blocks that are written when it changes: not those of its ops. -/
def DL.cutFoot (d : DL) (waits : Int → List ByteArray) (i : Nat) : Prop := i = d.p ∨ d.L.foot waits i
theorem do_op (p : Nat) (fv ov : Value) (L : PL) (S : DiskS) (B : Nat) (o : OpS) (w : World)
    (hp : w.heap[p]? = some (.cells #[fv, ov, .slice (some ⟨L.g, 0, none⟩) S.safe.length L.cap, .map (some L.m)] 154 (0, 0))) (h : PlatesIn w L S.safe S.waits B) (hB : B < opsMax) (ho : okOp S.safe.length o) :
    Calls Tryz.prog 128 #[.pointer (some ⟨p, 2, none⟩), encOp o] w fun e w' => e = .returned (.tuple #[]) ∧
      ∃ L', PlatesIn w' L' (doOp S o).safe (doOp S o).waits (B + 1) ∧ L'.g = L.g ∧ L'.cap = L.cap ∧ L'.m = L.m ∧ (∀ i, L'.foot (doOp S o).waits i → L.foot S.waits i ∨ w.heap.size ≤ i) ∧ Keeps (L.foot S.waits) w w' := by
  cases o with
  | write n s => exact do_write p fv ov L S.safe S.waits B n s w hp h hB ho.1 ho.2.1
  | flush =>
    refine (do_flush p fv ov L S.safe S.waits B w hp h).mono ?_
    rintro e w' ⟨rfl, hP, hK⟩
    refine ⟨rfl, { L with D := .map [] }, hP.moreB (Nat.zero_le _), rfl, rfl, rfl, fun i hi => ?_, hK⟩
    rcases hi with e | e | ⟨n, hn, _⟩
    · exact .inl (.inl e)
    · exact .inl (.inr (.inl e))
    · exact absurd rfl hn
set_option maxRecDepth 100000 in
set_option maxHeartbeats 2000000 in
theorem note_cut (d : DL) (S : DiskS) (o : OpS) (w : World) (h : CutIn w d S) (hB : S.ops.length ≤ 1000000) (ho : okOp S.first.length o) :
    Calls Tryz.prog 121 #[.pointer (some ⟨d.p, 0, none⟩), encOp o] w fun e w' => e = .returned (.tuple #[]) ∧
      ∃ d', DiskIn w' d' (doOp S o) ∧ d'.p = d.p ∧ d'.fv = d.fv ∧ (∀ i, d'.foot (doOp S o).waits i → d.cutFoot S.waits i ∨ w.heap.size ≤ i) ∧ Keeps (d.cutFoot S.waits) w w' := by
  obtain ⟨oa, hov, hnone, hcells⟩ := h.ops
  have c1 : w.cell? ⟨d.p, 1, none⟩ = some (.slice oa S.ops.length S.ops.length) := by rw [cell_of_block h.rd.heap, ← hov]; rfl
  have hlt := lt_of_heap h.rd.heap
  obtain ⟨i0, hi, hz0, hz1, hz2⟩ := info_parts infoOp
  have HI := hid hi
  have H := hid h
  have HCl := hid (show ∀ b, oa = some b → ∀ j u, (S.ops.map encOp)[j]? = some u → (w.alloc (.cells #[encOp o] 183)).cell? (b.add j) = some u from fun b hb j u hu => by
    rw [World.cell?_alloc_lt _ _ _ (by rw [add_block]; exact (hcells b hb).2)]
    exact (hcells b hb).1 j u hu)
  have HNo : Hid (oa = none → S.ops.length = 0 ∧ S.ops.length = 0) := fun e => by rw [hnone e]; exact ⟨rfl, rfl⟩
  have HOo := hid ho
  obtain ⟨t, ov, hev⟩ : ∃ t v, encOp o = .iface t v := by cases o <;> exact ⟨_, _, rfl⟩
  rw [hev] at HCl ⊢
  have HEv := hid hev
  clear hi h hcells hnone hev ho
  go_enter Tryz.func121, Tryz.ntmps121
  go_wp2_with (refine wpList_append_grows _ rfl (.tmp 8) (.tmp 10) 152 rfl 183 i0 .nilIface 1 16 Tryz.underlying152 HI.out hz0 hz1 hz2 rfl (by omega) oa S.ops.length S.ops.length (S.ops.map encOp) rfl HNo.out (by simp) HCl.out ⟨w.heap.size, 0, none⟩ 1 1 [.iface t ov] rfl rfl (World.news_of_block (cs := #[.iface t ov]) (block_new w _)) (by intro u hu; rw [List.mem_singleton.1 hu]; rfl) (by omega) (by unfold maxLen; omega) (by omega) ?_; intro v1 w1 hown hgr; have HO := hid hown; have HG := hid hgr; have HP1 := hid ((hgr.block d.p (by simp; omega) (fun e => by cases e)).trans (block_alloc H.out.rd.heap _)); have f1 : w1.cell? ⟨d.p, 1, none⟩ = some d.ov := cell_of_block HP1.out 1; have f2 : w1.frozen? ⟨d.p, 1, none⟩ = false := frozen_of_block HP1.out 1; obtain ⟨g, cap, hv1, hgb, hgl⟩ := hown.form (by omega); subst hv1; clear hown hgr)
  have K1 : Keeps (fun i => i = d.p) w w1 := (Keeps.of_below ((Below.refl _ _).alloc (Nat.le_refl _) _)).trans (Keeps.of_grown HG.out (F := fun _ => False) (fun i e => by cases e)) (fun i e => .inl e.elim)
  have K2 : Keeps (fun i => i = d.p) w (w1.setCell ⟨d.p, 1, none⟩ (.slice (some ⟨g, 0, none⟩) (S.ops.length + 1) cap)) :=
    K1.grown (grown_setCell (grown_refl w1 (some d.p)) 1 _) (fun i e => .inl (Option.some.inj e).symm)
  have HK2 := hid K2
  have HP2 := hid (block_setCell HP1.out 1 (.slice (some ⟨g, 0, none⟩) (S.ops.length + 1) cap))
  have hgw : w.heap.size ≤ g := by simp at hgb; omega
  have hgp : g ≠ d.p := by omega
  have HO2 := hid (HO.out.kept (grown_setCell (grown_refl w1 (some d.p)) 1 (.slice (some ⟨g, 0, none⟩) (S.ops.length + 1) cap)) (.inr (fun e => hgp (by simpa [Value.ownBlock] using e))))
  have hpo := H.out.rd.plates.foot_other H.out.rd.heap (by decide)
  have HPL := hid (H.out.rd.plates.keep HK2.out (fun i hi e => hpo (by rw [← e]; exact hi)))
  clear K1 K2 f1 f2 HO
  generalize hW : w1.setCell ⟨d.p, 1, none⟩ (.slice (some ⟨g, 0, none⟩) (S.ops.length + 1) cap) = w2 at *
  clear hW
  rw [← HEv.out]
  refine (do_op d.p d.fv (.slice (some ⟨g, 0, none⟩) (S.ops.length + 1) cap) d.L S S.ops.length o w2 HP2.out HPL.out (by unfold opsMax; omega) (by rw [← H.out.flen]; exact HOo.out)).mono ?_
  rintro e w3 ⟨rfl, L', hP3, e1, e2, e3, hfoot, hK3⟩
  have HP3 := hid hP3
  have HF3 := hid hfoot
  have HK3 := hid hK3
  have HE := hid (And.intro e1 (And.intro e2 e3))
  clear hP3 hfoot hK3 e1 e2 e3
  have HFoot : Hid (∀ i, (DL.foot ⟨d.p, d.fv, .slice (some ⟨g, 0, none⟩) (S.ops.length + 1) cap, L'⟩ (doOp S o).waits i) → d.cutFoot S.waits i ∨ w.heap.size ≤ i) := by
    rintro i (e | e | e)
    · exact .inl (.inl e)
    · obtain rfl : g = i := Option.some.inj e
      exact .inr hgw
    · rcases HF3.out i e with e | e
      · exact .inl (.inr e)
      · exact .inr (Nat.le_trans HK2.out.size e)
  have HKall : Hid (Keeps (d.cutFoot S.waits) w w3) := (HK2.out.mono (fun i e => .inl e)).trans HK3.out (fun i e => .inl (.inr e))
  have hfirst := H.out.first
  have HFi := hid hfirst
  clear hfirst
  go_wp2
  go_end0
  refine ⟨rfl, ⟨d.p, d.fv, .slice (some ⟨g, 0, none⟩) (S.ops.length + 1) cap, L'⟩, ⟨?_, ?_, ?_, ?_, ?_⟩, rfl, rfl, HFoot.out, HKall.out⟩
  · rw [HE.out.1, HE.out.2.1, HE.out.2.2, doOp_len]
    exact HK3.out.heap HP2.out hpo
  · have h2 := HK3.out.row HO2.out (fun i hi => by
      obtain ⟨cur, hc⟩ := row_type HO2.out hi
      exact HPL.out.foot_other hc (by decide))
    rw [doOp_ops]
    have h3 := h2.mono (Nat.zero_le _)
    rw [← HEv.out] at h3
    simpa using h3
  · rw [doOp_ops]; simpa using HP3.out
  · obtain ⟨ad, c, e, hc, hn⟩ := HFi.out
    rw [doOp_first]
    refine ⟨ad, c, e, fun j u hj => ?_, fun hf => ?_⟩
    · refine HK3.out.cell (HK2.out.cell (hc j u hj) ?_) ?_
      · rw [add_block]; exact fun e => hn (.inl e)
      · rw [add_block]; exact fun e => hn (.inr e)
    · have hlt0 : S.first.length ≠ 0 := by have := H.out.flen; have := H.out.rd.plates.pos; omega
      have hltad : ad.block < w.heap.size := by
        have h00 := hc 0 (S.first[0]'(by omega)) (by simp)
        have := World.block_lt_of_cell? w _ h00
        rwa [add_block] at this
      exact hn (by rcases HFoot.out _ hf with e | e; exact e; omega)
  · rw [doOp_first, doOp_len]; exact H.out.flen
set_option maxRecDepth 100000 in
theorem flush_cut (d : DL) (S : DiskS) (w : World) (h : CutIn w d S) (hB : S.ops.length ≤ 1000000) :
    Calls Tryz.prog 107 #[.pointer (some ⟨d.p, 0, none⟩)] w fun e w' => e = .returned (.int .i64 0) ∧
      ∃ d', DiskIn w' d' S.flushed ∧ d'.p = d.p ∧ d'.fv = d.fv ∧ (∀ i, d'.foot S.flushed.waits i → d.cutFoot S.waits i ∨ w.heap.size ≤ i) ∧ Keeps (d.cutFoot S.waits) w w' := by
  have hn := note_cut d S .flush w h hB trivial
  simp only [encOp, doOp] at hn
  have HN := hid hn
  clear hn
  clear h
  go_enter Tryz.func107, Tryz.ntmps107
  go_wp2_with fail
  refine HN.out.mono ?_
  rintro e w1 ⟨rfl, hq⟩
  have HQ := hid hq
  clear hq
  go_wp2
  go_ret
  exact ⟨rfl, HQ.out⟩
set_option maxRecDepth 100000 in
set_option maxHeartbeats 1000000 in
theorem write_cut_ok (d : DL) (S : DiskS) (n : Int) (l : List UInt8) (ad : Addr) (c : Nat) (w : World) (h : CutIn w d S) (hB : S.ops.length ≤ 1000000) (h0 : 0 ≤ n) (h1 : n < S.safe.length) (hl : l.length = 512) (hb : bytesAt w ad l) :
    Calls Tryz.prog 106 #[.pointer (some ⟨d.p, 0, none⟩), .int .i64 n, .slice (some ad) 512 c] w fun e w' => e = .returned (.int .i64 0) ∧
      ∃ d', DiskIn w' d' (S.wrote n ⟨l.toArray⟩) ∧ d'.p = d.p ∧ d'.fv = d.fv ∧ (∀ i, d'.foot (S.wrote n ⟨l.toArray⟩).waits i → d.cutFoot S.waits i ∨ w.heap.size ≤ i) ∧ Keeps (d.cutFoot S.waits) w w' := by
  have hcv := run_convert_bytes_back (P := Tryz.prog) w 57 116 5 ad c l Tryz.underlying57 Tryz.underlying5 Tryz.underlying116 hb
  rw [hl] at hcv
  have c2 : w.cell? ⟨d.p, 2, none⟩ = some (.slice (some ⟨d.L.g, 0, none⟩) S.safe.length d.L.cap) := by rw [cell_of_block h.rd.heap]; rfl
  have HD := hid (decide_eq_true (And.intro h0 h1))
  have HC2 := hid c2
  have hn := note_cut d S (.write n ⟨l.toArray⟩) w h hB ⟨h0, by rw [h.flen]; exact h1, by show l.toArray.size = 512; simpa using hl⟩
  simp only [encOp, doOp] at hn
  have HN := hid hn
  clear hb hl h c2 hn
  generalize hs : (⟨l.toArray⟩ : ByteArray) = s at *
  clear hs
  go_enter Tryz.func106, Tryz.ntmps106
  go_wp2_with fail
  refine (has_any d.p 2 _ _ _ _ _ HC2.out).mono ?_
  rintro e w9 ⟨rfl, h9⟩
  obtain rfl := h9.symm
  rw [HD.out]
  go_wp2_with fail
  refine HN.out.mono ?_
  rintro e w1 ⟨rfl, hq⟩
  have HQ := hid hq
  clear hq
  go_wp2
  go_ret
  exact ⟨rfl, HQ.out⟩
set_option maxRecDepth 100000 in
theorem write_bad (d : DL) (S : DiskS) (n : Int) (l : List UInt8) (a : Option Addr) (k c : Nat) (w : World) (h : DiskRd w d S) (hk : l.length = k) (he : errW S n l ≠ 0) :
    Calls Tryz.prog 106 #[.pointer (some ⟨d.p, 0, none⟩), .int .i64 n, .slice a k c] w fun e w' => e = .returned (.int .i64 (errW S n l)) ∧ w' = w := by
  have HC2 := hid (show w.cell? ⟨d.p, 2, none⟩ = some (.slice (some ⟨d.L.g, 0, none⟩) S.safe.length d.L.cap) by rw [cell_of_block h.heap]; rfl)
  clear h
  by_cases h1 : 0 ≤ n ∧ n < S.safe.length
  · have hk' : ¬ ((k : Int) = 512) := fun e => he (by rw [errW, if_neg (not_not_intro h1), if_neg (not_not_intro (by omega))])
    have e0 : errW S n l = 3 := by rw [errW, if_neg (not_not_intro h1), if_pos (by omega)]
    have HD := hid (decide_eq_true h1)
    rw [e0]
    clear h1 he e0
    go_enter Tryz.func106, Tryz.ntmps106
    go_wp2_with fail
    refine (has_any d.p 2 _ _ _ _ _ HC2.out).mono ?_
    rintro e w9 ⟨rfl, h9⟩
    obtain rfl := h9.symm
    rw [HD.out]
    go_wp2
    go_ret
    exact ⟨rfl, rfl⟩
  · have e0 : errW S n l = 2 := by rw [errW, if_pos h1]
    have HD := hid (decide_eq_false h1)
    rw [e0]
    clear h1 he e0
    go_enter Tryz.func106, Tryz.ntmps106
    go_wp2_with fail
    refine (has_any d.p 2 _ _ _ _ _ HC2.out).mono ?_
    rintro e w9 ⟨rfl, h9⟩
    obtain rfl := h9.symm
    rw [HD.out]
    go_wp2
    go_ret
    exact ⟨rfl, rfl⟩
/-- A disk that was cut or forked, whether its ops are its own already or not; all that it writes lies from B on. -/
def AnyIn (B : Nat) (w : World) (d : DL) (S : DiskS) : Prop := (CutIn w d S ∧ ∀ i, d.cutFoot S.waits i → B ≤ i) ∨ (DiskIn w d S ∧ ∀ i, d.foot S.waits i → B ≤ i)
theorem AnyIn.rd {B : Nat} {w : World} {d : DL} {S : DiskS} (h : AnyIn B w d S) : DiskRd w d S := by
  rcases h with h | h
  · exact h.1.rd
  · exact h.1.rd
theorem AnyIn.below {B : Nat} {w w' : World} {d : DL} {S : DiskS} (h : AnyIn B w d S) (k : Below w.heap.size w w') : AnyIn B w' d S := by
  rcases h with h | h
  · exact .inl ⟨h.1.below k, h.2⟩
  · exact .inr ⟨h.1.below k, h.2⟩
theorem any_flush (B : Nat) (d : DL) (S : DiskS) (w : World) (h : AnyIn B w d S) (hBw : B ≤ w.heap.size) (hB : S.ops.length ≤ 1000000) :
    Calls Tryz.prog 107 #[.pointer (some ⟨d.p, 0, none⟩)] w fun e w' => e = .returned (.int .i64 0) ∧ ∃ d', d'.p = d.p ∧ AnyIn B w' d' S.flushed ∧ Below B w w' := by
  rcases h with ⟨h, hf⟩ | ⟨h, hf⟩
  · refine (flush_cut d S w h hB).mono ?_
    rintro e w' ⟨rfl, d', hD, e1, e2, e3, e4⟩
    exact ⟨rfl, d', e1, .inr ⟨hD, fun i hi => by rcases e3 i hi with e | e; exact hf i e; omega⟩, e4.below hBw hf⟩
  · refine (flush_disk d S w h (by unfold opsMax; omega)).mono ?_
    rintro e w' ⟨rfl, d', hD, e1, e2, e3, e4⟩
    exact ⟨rfl, d', e1, .inr ⟨hD, fun i hi => by rcases e3 i hi with e | e; exact hf i e; omega⟩, e4.below hBw hf⟩
theorem any_write (B : Nat) (d : DL) (S : DiskS) (n : Int) (l : List UInt8) (ad : Addr) (k c : Nat) (w : World) (h : AnyIn B w d S) (hBw : B ≤ w.heap.size) (hB : S.ops.length ≤ 1000000) (hk : l.length = k) (hb : bytesAt w ad l) :
    Calls Tryz.prog 106 #[.pointer (some ⟨d.p, 0, none⟩), .int .i64 n, .slice (some ad) k c] w fun e w' => e = .returned (.int .i64 (errW S n l)) ∧ ∃ d', d'.p = d.p ∧ AnyIn B w' d' (S.put n l) ∧ Below B w w' := by
  by_cases he : errW S n l = 0
  · have hn : 0 ≤ n ∧ n < S.safe.length := Decidable.byContradiction fun hn => by rw [errW, if_pos hn] at he; cases he
    have hl : l.length = 512 := Decidable.byContradiction fun hl => by rw [errW, if_neg (not_not_intro hn), if_pos hl] at he; cases he
    have e1 : S.put n l = S.wrote n ⟨l.toArray⟩ := by rw [DiskS.put, if_pos he]
    rw [e1, he]
    obtain rfl : k = 512 := by omega
    rcases h with ⟨h, hf⟩ | ⟨h, hf⟩
    · refine (write_cut_ok d S n l ad c w h hB hn.1 hn.2 hl hb).mono ?_
      rintro e w' ⟨rfl, d', hD, e1, e2, e3, e4⟩
      exact ⟨rfl, d', e1, .inr ⟨hD, fun i hi => by rcases e3 i hi with e | e; exact hf i e; omega⟩, e4.below hBw hf⟩
    · refine (write_ok d S n l ad c w h (by unfold opsMax; omega) hn.1 hn.2 hl hb).mono ?_
      rintro e w' ⟨rfl, d', hD, e1, e2, e3, e4⟩
      exact ⟨rfl, d', e1, .inr ⟨hD, fun i hi => by rcases e3 i hi with e | e; exact hf i e; omega⟩, e4.below hBw hf⟩
  · have e1 : S.put n l = S := by rw [DiskS.put, if_neg he]
    rw [e1]
    refine (write_bad d S n l (some ad) k c w h.rd hk he).mono ?_
    rintro e w' ⟨rfl, rfl⟩
    exact ⟨rfl, d, rfl, h, Below.refl _ _⟩
end Go.Proofs.YtkkmbgjlmdddoabGreat
/- plates.copied: plates that hold the same, of their own. -/
namespace Go.Proofs.YtkkmbgjlmdddoabGreat
open Go.RowKit Go.Maps
/-- Plates that are being copied: the rows of the sectors ws are there. -/
structure CopyIn (w : World) (lo : Nat) (L : PL) (safe : List ByteArray) (ws : Int → List ByteArray) (B : Nat) : Prop where
  safeRow : w.ownsRow lo 116 1 (.slice (some ⟨L.g, 0, none⟩) safe.length L.cap) safe.length (strs safe)
  mapLo : lo ≤ L.m
  mapOwn : w.ownsMap Tryz.prog 3 selfElem L.m B L.D
  absent : ∀ n, ws n = [] → Maps.has L.D (.int .i64 n) = false
  there : ∀ n, ws n ≠ [] → Maps.has L.D (.int .i64 n) = true
  held : ∀ n, ws n ≠ [] → ∀ z, L.D.atKey (.int .i64 n) z = .held (.slice (some ⟨L.row n, 0, none⟩) (ws n).length (L.rcap n))
  rows : ∀ n, ws n ≠ [] → w.ownsRow lo 116 1 (.slice (some ⟨L.row n, 0, none⟩) (ws n).length (L.rcap n)) (ws n).length (strs (ws n))
  off : ∀ n, ws n ≠ [] → L.row n ≠ L.g
  apart : ∀ n n', ws n ≠ [] → ws n' ≠ [] → L.row n = L.row n' → n = n'
theorem row_lo {w : World} {lo : Nat} {e : TypeId} {g n cap : Nat} {xs : List Value} (h : w.ownsRow lo e 1 (.slice (some ⟨g, 0, none⟩) n cap) n xs) : lo ≤ g ∧ g < w.heap.size := h.lt g rfl
theorem CopyIn.foot_block {w : World} {lo : Nat} {L : PL} {safe : List ByteArray} {ws : Int → List ByteArray} {B : Nat} (h : CopyIn w lo L safe ws B) {i : Nat} (hi : L.foot ws i) : (∃ cur, w.heap[i]? = some (.cells cur 116 (0, 0))) ∨ ∃ es c, w.heap[i]? = some (.map es c) := by
  rcases hi with rfl | rfl | ⟨n, hn, rfl⟩
  · obtain ⟨cur, hc, _⟩ := row_block h.safeRow; exact .inl ⟨cur, hc⟩
  · obtain ⟨es, c, hm⟩ := map_block h.mapOwn; exact .inr ⟨es, c, hm⟩
  · obtain ⟨cur, hc, _⟩ := row_block (h.rows n hn); exact .inl ⟨cur, hc⟩
theorem CopyIn.keep {w w' : World} {lo : Nat} {L : PL} {safe : List ByteArray} {ws : Int → List ByteArray} {B : Nat} (h : CopyIn w lo L safe ws B) {G : Nat → Prop} (k : Keeps G w w') (hG : ∀ i, L.foot ws i → ¬ G i) : CopyIn w' lo L safe ws B where
  safeRow := k.row h.safeRow (fun i hi => hG i (.inl (Option.some.inj hi).symm))
  mapLo := h.mapLo
  mapOwn := k.map h.mapOwn (hG _ (.inr (.inl rfl)))
  absent := h.absent
  there := h.there
  held := h.held
  rows := fun n hn => k.row (h.rows n hn) (fun i hi => hG i (.inr (.inr ⟨n, hn, (Option.some.inj hi).symm⟩)))
  off := h.off
  apart := h.apart
/-- One row more. -/
theorem CopyIn.put {w w1 w2 : World} {lo : Nat} {L : PL} {safe : List ByteArray} {ws : Int → List ByteArray} {B : Nat} (h : CopyIn w lo L safe ws B) {n : Int} {xs : List ByteArray} {g cap : Nat} (hx : xs ≠ []) (hB : Below w.heap.size w w1) (hg : w.heap.size ≤ g) (hlo : lo ≤ w.heap.size)
    (hown : w1.ownsRow w.heap.size 116 1 (.slice (some ⟨g, 0, none⟩) xs.length cap) xs.length (strs xs))
    (hmap : w2.ownsMap Tryz.prog 3 selfElem L.m (B + 1) (L.D.put (.int .i64 n) (.held (.slice (some ⟨g, 0, none⟩) xs.length cap)))) (hgr : w1.grownBy w2 (some L.m)) :
    CopyIn w2 lo { L with D := L.D.put (.int .i64 n) (.held (.slice (some ⟨g, 0, none⟩) xs.length cap)), row := fun k => if k = n then g else L.row k, rcap := fun k => if k = n then cap else L.rcap k } safe (upd ws n xs) (B + 1) := by
  have K2 : Keeps (fun i => i = L.m) w w2 := (Keeps.of_below hB).grown hgr (fun i e => .inl (Option.some.inj e).symm)
  obtain ⟨es, mc, hmb⟩ := map_block h.mapOwn
  have hmlt := lt_of_heap hmb
  have hrm : ∀ k, ws k ≠ [] → L.row k ≠ L.m := fun k hk e => by
    obtain ⟨c, hc, _⟩ := row_block (h.rows k hk)
    rw [e, hmb] at hc; cases hc
  have hgm : L.g ≠ L.m := fun e => by
    obtain ⟨c, hc, _⟩ := row_block h.safeRow
    rw [e, hmb] at hc; cases hc
  refine ⟨?_, h.mapLo, hmap, ?_, ?_, ?_, ?_, ?_, ?_⟩
  · exact K2.row h.safeRow (fun i hi e => hgm (by
      have e1 : L.g = i := Option.some.inj hi
      have e2 : i = L.m := e
      rw [e1, e2]))
  · intro k hk
    by_cases hkn : k = n
    · subst hkn; rw [upd_same] at hk; exact absurd hk hx
    · rw [upd_other _ _ hkn] at hk
      rw [has_put_other (by simpa using hkn)]; exact h.absent k hk
  · intro k hk
    by_cases hkn : k = n
    · subst hkn; exact has_put_same h.mapOwn.isMap (keyLit_i64 _) _
    · rw [upd_other _ _ hkn] at hk
      rw [has_put_other (by simpa using hkn)]; exact h.there k hk
  · intro k hk z
    by_cases hkn : k = n
    · subst hkn
      rw [atKey_put_same h.mapOwn.isMap (keyLit_i64 _)]
      simp [upd_same]
    · rw [upd_other _ _ hkn] at hk
      rw [atKey_put_other (by simpa using hkn), h.held k hk]
      simp [upd_other _ _ hkn, hkn]
  · intro k hk
    by_cases hkn : k = n
    · subst hkn
      simp only [upd_same, if_true]
      exact (hown.mono hlo).kept hgr (.inr (fun e => by
        have e2 : g = L.m := Option.some.inj e
        omega))
    · rw [upd_other _ _ hkn] at hk
      simp only [upd_other _ _ hkn, hkn, if_false]
      exact K2.row (h.rows k hk) (fun i hi e => hrm k hk (by
        have e1 : L.row k = i := Option.some.inj hi
        have e2 : i = L.m := e
        rw [e1, e2]))
  · intro k hk
    by_cases hkn : k = n
    · subst hkn
      have := (row_lo h.safeRow).2
      simp only [if_true]; omega
    · rw [upd_other _ _ hkn] at hk
      simpa [hkn] using h.off k hk
  · intro k k' hk hk' e
    by_cases hkn : k = n
    · by_cases hkn' : k' = n
      · rw [hkn, hkn']
      · rw [upd_other _ _ hkn'] at hk'
        simp only [hkn, hkn', if_true, if_false] at e
        have := (row_lo (h.rows k' hk')).2
        omega
    · by_cases hkn' : k' = n
      · rw [upd_other _ _ hkn] at hk
        simp only [hkn, hkn', if_true, if_false] at e
        have := (row_lo (h.rows k hk)).2
        omega
      · rw [upd_other _ _ hkn] at hk
        rw [upd_other _ _ hkn'] at hk'
        simp only [hkn, hkn', if_false] at e
        exact h.apart k k' hk hk' e
theorem CopyIn.done {w : World} {lo : Nat} {L : PL} {safe : List ByteArray} {ws : Int → List ByteArray} {B B' : Nat} (h : CopyIn w lo L safe ws B) (hB : B ≤ B') (hl : ∀ n, (ws n).length ≤ B') (hd : ∀ n, ws n ≠ [] → 0 ≤ n ∧ n < safe.length) (hp : 0 < safe.length) (hm : safe.length ≤ 4096) :
    PlatesIn w L safe ws B' ∧ ∀ i, L.foot ws i → lo ≤ i := by
  refine ⟨⟨h.safeRow.mono (Nat.zero_le _), ?_, h.absent, h.there, h.held, fun n hn => (h.rows n hn).mono (Nat.zero_le _), h.off, h.apart, hl, hd, hp, hm⟩, ?_⟩
  · obtain ⟨es, c, h1, h2, h3, h4⟩ := h.mapOwn
    exact ⟨es, c, h1, h2, Nat.le_trans h3 hB, h4⟩
  · rintro i (rfl | rfl | ⟨n, hn, rfl⟩)
    · exact (row_lo h.safeRow).1
    · exact h.mapLo
    · exact (row_lo (h.rows n hn)).1
/-- The sectors that have come. -/
def cameS (waits : Int → List ByteArray) (left : Lit → Bool) (n : Int) : List ByteArray := if left (.int .i64 n) then [] else waits n
theorem came_step (waits : Int → List ByteArray) (left : Lit → Bool) (x : Int) (hx : left (.int .i64 x) = true) : cameS waits (fun z => left z && !z.sameKey (.int .i64 x)) = upd (cameS waits left) x (waits x) := by
  funext n
  unfold cameS upd
  by_cases e : n = x
  · subst e
    simp [Lit.sameKey]
  · have : (Lit.int .i64 n).sameKey (.int .i64 x) = false := by simp [Lit.sameKey, e]
    simp [this, e]
theorem came_start {w : World} {L : PL} {safe : List ByteArray} {waits : Int → List ByteArray} {B : Nat} (h : PlatesIn w L safe waits B) : cameS waits (Maps.has L.D) = fun _ => [] := by
  funext n
  unfold cameS
  by_cases hn : waits n = []
  · rw [h.absent n hn]; simp [hn]
  · rw [h.there n hn]; rfl
theorem came_end (waits : Int → List ByteArray) (left : Lit → Bool) (h : ∀ kl, left kl = false) : cameS waits left = waits := by
  funext n
  simp [cameS, h]
theorem ranges_le {w : World} {m r B cnt : Nat} {D : DataW Value} {left : Lit → Bool} (h : w.ranges Tryz.prog 3 selfElem m r B D left cnt) : cnt ≤ B := by
  obtain ⟨es, clock, since, seen, c0, _, _, hs, _, _, _, hc, _⟩ := h
  have : (leftOf es seen).size ≤ es.size := by unfold leftOf; exact Array.size_filter_le
  omega
theorem below_grown {w w' : World} (h : Below w.heap.size w w') : w.grownBy w' none := ⟨h.os, h.tape, h.output, h.size, fun k hk _ => h.block k hk⟩
theorem ranges_iter {w : World} {m r B cnt : Nat} {D : DataW Value} {left : Lit → Bool} (h : w.ranges Tryz.prog 3 selfElem m r B D left cnt) : ∃ a b c d, w.heap[r]? = some (.mapIter a b c d) := by
  obtain ⟨es, clock, since, seen, c0, _, _, _, _, hr, _⟩ := h
  exact ⟨_, _, _, _, hr⟩
set_option maxRecDepth 100000 in
set_option maxHeartbeats 2000000 in
theorem copied_any (p : Nat) (fv ov : Value) (L : PL) (safe : List ByteArray) (waits : Int → List ByteArray) (B : Nat) (w : World)
    (hp : w.heap[p]? = some (.cells #[fv, ov, .slice (some ⟨L.g, 0, none⟩) safe.length L.cap, .map (some L.m)] 154 (0, 0))) (h : PlatesIn w L safe waits B) (hB4 : B ≤ 4096) :
    Calls Tryz.prog 102 #[.pointer (some ⟨p, 2, none⟩)] w fun e w' => ∃ L', e = .returned (.agg #[.slice (some ⟨L'.g, 0, none⟩) safe.length L'.cap, .map (some L'.m)]) ∧ PlatesIn w' L' safe waits B ∧ (∀ i, L'.foot waits i → w.heap.size ≤ i) ∧ Below w.heap.size w w' := by
  have c2 : w.cell? ⟨p, 2, none⟩ = some (.slice (some ⟨L.g, 0, none⟩) safe.length L.cap) := by rw [cell_of_block hp]; rfl
  have c3 : w.cell? ⟨p, 3, none⟩ = some (.map (some L.m)) := by rw [cell_of_block hp]; rfl
  have HP := hid hp
  have H := hid h
  have hplt := lt_of_heap hp
  have HF := hid (flushed_any (strs safe) ⟨L.g, 0, none⟩ L.cap (by simpa using h.pos) (by simpa using h.most) (strs_one _) (w.alloc (.cells #[.slice none 0 0, .map none] 150)) (fun j u hu => by
    have hj : j < safe.length := by simpa using (List.getElem?_eq_some_iff.1 hu).1
    rw [Addr.add_mid, Nat.zero_add, World.cell?_alloc_lt _ _ _ (h.foot_lt (.inl rfl)), h.safeRow.cellAt j (by omega)]; exact hu))
  rw [show (strs safe).length = safe.length by simp] at HF
  clear hp h
  go_enter Tryz.func102, Tryz.ntmps102
  go_wp2_with fail
  refine HF.out.mono ?_
  clear HF
  rintro e w1 ⟨g, cap, m, rfl, hm, hmb, hown, hB⟩
  have hb0 := below_block hB (block_new w (.cells #[.slice none 0 0, .map none] 150)) (by simp)
  have HB0 := hid hb0
  have HOW := hid hown
  have HMB := hid hmb
  have HBB := hid hB
  have hz0 : (w.alloc (.cells #[.slice none 0 0, .map none] 150)).heap.size = w.heap.size + 1 := by simp
  rw [hz0] at hm HOW HBB
  have HBw : Hid (Below w.heap.size w w1) := ((Below.refl w.heap.size w).alloc (Nat.le_refl _) (.cells #[.slice none 0 0, .map none] 150)).trans (HBB.out.mono (by omega))
  clear hb0 hown hB hmb hz0
  have hpw1 : p < w1.heap.size := Nat.lt_of_lt_of_le hplt HBw.out.size
  have c3a : (w1.alloc (.cells #[.slice (some ⟨g, 0, none⟩) safe.length cap, .map (some m)] 150)).cell? ⟨p, 3, none⟩ = some (.map (some L.m)) := by
    rw [World.cell?_alloc_lt _ _ _ hpw1, HBw.out.cell (p := ⟨p, 3, none⟩) hplt]; exact c3
  have HBa : Hid (Below w.heap.size w (w1.alloc (.cells #[.slice (some ⟨g, 0, none⟩) safe.length cap, .map (some m)] 150))) := HBw.out.alloc HBw.out.size _
  have HPa := hid (H.out.keep (G := fun _ => False) (Keeps.of_below HBa.out) (fun _ _ e => e))
  have hbc := block_new w1 (.cells #[.slice (some ⟨g, 0, none⟩) safe.length cap, .map (some m)] 150)
  have HBc := hid hbc
  have HMa := hid (block_alloc HMB.out (.cells #[.slice (some ⟨g, 0, none⟩) safe.length cap, .map (some m)] 150))
  have HOa := hid (HOW.out.alloc (.cells #[.slice (some ⟨g, 0, none⟩) safe.length cap, .map (some m)] 150))
  have hza : (w1.alloc (.cells #[.slice (some ⟨g, 0, none⟩) safe.length cap, .map (some m)] 150)).heap.size = w1.heap.size + 1 := by simp
  have HZa := hid hza
  have hw01 := HBw.out.size
  have HRa := hid (block_alloc HB0.out (.cells #[.slice (some ⟨g, 0, none⟩) safe.length cap, .map (some m)] 150))
  have hriw : w.heap.size ≤ (w1.alloc (.cells #[.slice (some ⟨g, 0, none⟩) safe.length cap, .map (some m)] 150)).heap.size := by rw [hza]; omega
  clear hbc hza HOW HMB HB0 HBB HZa
  generalize hWa : w1.alloc (.cells #[.slice (some ⟨g, 0, none⟩) safe.length cap, .map (some m)] 150) = wa at *
  go_wp2_with (first
    | (at_range; refine wpList_range_own _ rfl (.tmp 14) 148 rfl 3 119 (int_keyed Tryz.underlying3) Tryz.underlying148 selfElem L.m B L.D rfl HPa.out.mapOwn ?_; intro w0 hrg0 hg0 hs0)
    | go_in)
  go_frame
  have hBg : Below wa.heap.size wa w0 := ⟨hg0.os, hg0.tape, hg0.output, hg0.size, fun k hk => hg0.block k hk (by simp)⟩
  have HB0 : Hid (Below w.heap.size w w0) := HBa.out.trans (hBg.mono HBa.out.size)
  have HPl0 := hid (H.out.keep (G := fun _ => False) (Keeps.of_below HB0.out) (fun _ _ e => e))
  have HRg0 := hid hrg0
  have HLe0 := hid (ranges_le hrg0)
  have HCp0 : Hid (CopyIn w0 (w.heap.size + 1) ⟨g, cap, m, .map [], fun _ => 0, fun _ => 0⟩ safe (cameS waits (Maps.has L.D)) 0) := by
    show CopyIn _ _ _ _ _ _
    rw [came_start H.out]
    have hmm := below_block hBg HMa.out (lt_of_heap HMa.out)
    have hrr := (Keeps.of_below (F := fun _ => False) hBg).row HOa.out (fun _ _ e => e)
    exact ⟨hrr, hm, map_empty hmm, fun _ _ => rfl, fun n hn => absurd rfl hn, fun n hn => absurd rfl hn, fun n hn => absurd rfl hn, fun n hn => absurd rfl hn, fun n n' hn => absurd rfl hn⟩
  have HBc0 := hid (below_block hBg HBc.out (lt_of_heap HBc.out))
  have HRc0 := hid (below_block hBg HRa.out (lt_of_heap HRa.out))
  clear hrg0 hg0 hs0 hBg HBa HPa HMa HOa HBc HBw HRa
  have HWt := hid (fun n (hn : waits n ≠ []) => H.out.held n hn)
  have HHas : Hid (∀ x, Maps.has L.D (.int .i64 x) = true → waits x ≠ []) := fun x hx e => by rw [H.out.absent x e] at hx; cases hx
  have HDom := hid H.out.dom
  have HMost := hid H.out.most
  have HLen := hid H.out.len
  have HPos := hid H.out.pos
  have HFl := hid (fun i hi => H.out.foot_lt (i := i) hi)
  generalize hri : wa.heap.size = ri at *
  clear hri hWa
  clear H
  go_loopw [4, 5] (fun _ _ wr => ∃ (left : Lit → Bool) (cnt : Nat) (L' : PL) (B1 : Nat), B1 + cnt ≤ B ∧ Hid (L'.g = g ∧ L'.cap = cap ∧ L'.m = m) ∧ Hid (wr.ranges Tryz.prog 3 selfElem L.m ri B L.D left cnt) ∧ Hid (PlatesIn wr L safe waits B) ∧ Hid (CopyIn wr (w.heap.size + 1) L' safe (cameS waits left) B1) ∧
    Hid (wr.heap[w1.heap.size]? = some (.cells #[.slice (some ⟨g, 0, none⟩) safe.length cap, .map (some m)] 150 (0, 0))) ∧ Hid (wr.heap[w.heap.size]? = some (.cells #[.slice none 0 0, .map none] 150 (0, 0))) ∧ Hid (Below w.heap.size w wr)) (fun _ _ wr => wr.rangeLeft L.m ri)
  case atStart => exact ⟨_, _, _, 0, by have := HLe0.out; omega, ⟨rfl, rfl, rfl⟩, HRg0, HPl0, HCp0, HBc0, HRc0, HB0⟩
  case round =>
    obtain ⟨left, cnt, L', B1, hBc, hE, hrg, hPl, hCp, hbc, hrc, hBr⟩ := hrel
    clear HRg0 HPl0 HCp0 HBc0 HB0 HLe0 HRc0
    go_wp2_with (first
      | (at_next; refine wpList_next_ranges _ rfl (.tmp 15) rfl 3 (int_keyed Tryz.underlying3) selfElem encZ id (fun key kl hk => by obtain ⟨x, hx, _⟩ := Maps.keyOf_i64 Tryz.underlying3 hk; exact ⟨x, hx⟩) (fun v _ _ => ⟨v, rfl⟩) L.m ri B _ _ _ rfl hrg.out ?_ ?_)
      | go_in)
    · -- nothing is left
      intro hc0 hl0
      have HD := hid (hCp.out.done (B' := B) (by omega) (by rw [came_end waits left hl0]; exact HLen.out) (by rw [came_end waits left hl0]; exact HDom.out) HPos.out HMost.out)
      rw [came_end waits left hl0] at HD
      have cp0 : wr.cell? ⟨w1.heap.size, 0, none⟩ = some (.slice (some ⟨g, 0, none⟩) safe.length cap) := cell_of_block hbc.out 0
      have cp1 : wr.cell? ⟨w1.heap.size, 1, none⟩ = some (.map (some m)) := cell_of_block hbc.out 1
      clear hc0 hl0 hrg hPl hCp
      go_wp2_with (refine wpList_store_block rfl 150 (.tmp 2) (.tmp 26) rfl w.heap.size #[.slice (some ⟨g, 0, none⟩) safe.length cap, .map (some m)] rfl rfl _ 150 hrc.out rfl info63 (by simp [Value.oneCell']) ?_; intro w9 hg9 hb9 hz9)
      refine bodyPost_ret (results_cell Tryz.results102 _ _ rfl hb9 _ Tryz.underlying150 rfl info63) rfl ⟨L', ?_, ?_, ?_, ?_⟩
      · rw [hE.out.1, hE.out.2.1, hE.out.2.2]
      · refine HD.out.1.keep (Keeps.of_grown hg9 (fun i e => e)) (fun i hi e => ?_)
        have := HD.out.2 i hi
        have := Option.some.inj e
        omega
      · exact fun i hi => Nat.le_trans (Nat.le_succ _) (HD.out.2 i hi)
      · exact hBr.out.trans (below_of_grown hg9 (Nat.le_refl _) hBr.out.size)
    · -- a sector has come
      intro x c kl yd yp w2 cnt2 hkey hlk hv hat hrg2 hlt hg2 hs2 hen
      obtain ⟨x', ex, rfl, _⟩ := Maps.keyOf_i64 Tryz.underlying3 hkey
      obtain rfl : x = x' := encZ_inj ex
      have hne : waits x ≠ [] := HHas.out x (has_true_of_atKey hat)
      obtain ⟨hx0, hx1⟩ := HDom.out x hne
      have hcv : c = .slice (some ⟨L.row x, 0, none⟩) (waits x).length (L.rcap x) := by
        have e1 := selfElem_inv hv
        have e2 := hat (.held c)
        rw [HWt.out x hne] at e2
        rw [e1] at e2
        exact (DataW.held.inj e2).symm
      subst hcv
      obtain ⟨ia, ib, ic, id', hit⟩ := ranges_iter hrg.out
      have hKn : Keeps (fun i => i = ri) wr w2 := Keeps.of_grown hg2 (fun i e => (Option.some.inj e).symm)
      have hPl2 : PlatesIn w2 L safe waits B := hPl.out.keep hKn (fun i hi e => by
        have e2 : i = ri := e
        rcases hPl.out.foot_block hi with ⟨_, h1⟩ | ⟨_, _, h1⟩ <;> (rw [e2, hit] at h1; cases h1))
      have hCp2 : CopyIn w2 (w.heap.size + 1) L' safe (cameS waits left) B1 := hCp.out.keep hKn (fun i hi e => by
        have e2 : i = ri := e
        rcases hCp.out.foot_block hi with ⟨_, h1⟩ | ⟨_, _, h1⟩ <;> (rw [e2, hit] at h1; cases h1))
      have hbc2 := hKn.heap hbc.out (fun e => by
        have e2 : w1.heap.size = ri := e
        have := hbc.out
        rw [e2, hit] at this; cases this)
      have hrc2 := hKn.heap hrc.out (fun e => by
        have e2 : w.heap.size = ri := e
        have := hrc.out
        rw [e2, hit] at this; cases this)
      have hB2 : Below w.heap.size w w2 := hBr.out.trans (hKn.below hBr.out.size (fun i e => by rw [show i = ri from e]; exact hriw))
      have hrow := hPl2.rows x hne
      have hlen4 : (waits x).length ≤ 4096 := Nat.le_trans (HLen.out x) hB4
      have hpos : 0 < (waits x).length := List.length_pos_iff.2 hne
      have hcl := clone_any (strs (waits x)) ⟨L.row x, 0, none⟩ (L.rcap x) (by simpa using hpos) (by simpa using hlen4) (strs_one _) w2.drew (fun j u hu => by
        have hj : j < (waits x).length := by simpa using (List.getElem?_eq_some_iff.1 hu).1
        rw [Addr.add_mid, Nat.zero_add]
        exact (hrow.cellAt j (by omega)).trans hu)
      rw [show (strs (waits x)).length = (waits x).length by simp] at hcl
      have HCl := hid hcl
      have HStep := hid (came_step waits left x hlk)
      have cpc : w2.cell? ⟨w1.heap.size, 1, none⟩ = some (.map (some m)) := cell_of_block hbc2 1
      have HPl2 := hid hPl2
      have Hrc2 := hid hrc2
      have HCp2 := hid hCp2
      have Hbc2 := hid hbc2
      have HB2 := hid hB2
      have HRg := hid hrg2
      have HLt : Hid (cnt2 < cnt) := hlt
      have hmost := HMost.out
      clear hcl hPl2 hCp2 hbc2 hB2 hrg2 hrow hkey hlk hv hat hlt hs2 hg2 hit hKn ex hPl hCp hbc hrc hrc2
      go_wp2
      refine wp_region_noPanic ?_
      refine wp_region_held_drew (S := fun W => W.cell? ⟨w1.heap.size, 1, none⟩ = some (.map (some m))) (by kernel_rfl) cpc (fun hHeld => ?_)
      refine wpAnyH_take (i := 0) (v := ?_) rfl (by kernel_rfl) (by kernel_rfl) (by kernel_rfl) (fun _ _ _ h => h) (Or.inl ⟨by rfl, ?_⟩) (by assumption) ?_
      rotate_left
      · (intro W hSw; (try dsimp only at hSw); go_simp; try with_reducible rfl)
      try simp only [List.getElem_toArray, List.getElem_cons_zero, Act.put, List.setIfInBounds_toArray, List.set_cons_zero, List.set_cons_succ]
      refine wpAnyH_take (i := 1) (v := ?_) rfl (by kernel_rfl) (by kernel_rfl) (by kernel_rfl) (fun _ _ _ h => h) (Or.inl ⟨by rfl, ?_⟩) (by assumption) ?_
      rotate_left
      · (intro W hSw; (try dsimp only at hSw); go_simp; try with_reducible rfl)
      try simp only [List.getElem_toArray, List.getElem_cons_succ, List.getElem_cons_zero, Act.put, List.setIfInBounds_toArray, List.set_cons_zero, List.set_cons_succ]
      refine wpAnyH_take (i := 2) (v := ?_) rfl (by kernel_rfl) (by kernel_rfl) (by kernel_rfl) (fun _ _ _ h => h) (Or.inl ⟨by rfl, ?_⟩) (by assumption) ?_
      rotate_left
      · (intro W hSw; (try dsimp only at hSw); go_simp; try with_reducible rfl)
      try simp only [List.getElem_toArray, List.getElem_cons_succ, List.getElem_cons_zero, Act.put, List.setIfInBounds_toArray, List.set_cons_zero, List.set_cons_succ]
      refine wpAnyH_take (i := 3) (v := ?_) rfl (by kernel_rfl) (by kernel_rfl) (by kernel_rfl) (fun _ _ _ h => h) (Or.inl ⟨by rfl, ?_⟩) (by assumption) ?_
      rotate_left
      · (intro W hSw; (try dsimp only at hSw); go_simp; try with_reducible rfl)
      try simp only [List.getElem_toArray, List.getElem_cons_succ, List.getElem_cons_zero, Act.put, List.setIfInBounds_toArray, List.set_cons_zero, List.set_cons_succ]
      refine wpAnyH_ready (rs := [4]) (by kernel_rfl) (by simp) (AllReadyH.cons rfl (fun K hK => ?_) AllReadyH.nil)
      rw [if_pos (by rfl)]
      go_simp
      refine HCl.out.mono ?_
      clear HCl
      rintro e w5 ⟨g5, cap5, rfl, hown5, hB5⟩
      have hB5' := below_undrew hB5
      have hsz2 := hB5'.size
      have hg5 : w2.heap.size ≤ g5 := (hown5.lt g5 rfl).1
      have hpcl := lt_of_heap Hbc2.out
      have cpc5 := (hB5'.cell (p := ⟨w1.heap.size, 1, none⟩) hpcl).trans cpc
      have hmo5 : w5.ownsMap Tryz.prog 3 selfElem m B1 L'.D := by
        have := (Keeps.of_below (F := fun _ => False) hB5').map HCp2.out.mapOwn (fun e => e)
        rwa [hE.out.2.2] at this
      have HMo := hid hmo5
      have HB5 := hid hB5'
      have HO5 := hid hown5
      clear hB5 hB5' hown5 hmo5
      go_wp2_with fail
      refine hK.out _ _ cpc5 (fun hHeld => ?_)
      clear hK K
      try simp only [List.getElem_toArray, List.getElem_cons_succ, List.getElem_cons_zero, Act.put, List.setIfInBounds_toArray, List.set_cons_zero, List.set_cons_succ]
      refine wpAnyH_ready (rs := [5]) (by kernel_rfl) (by simp) (AllReadyH.cons rfl (fun K hK => ?_) AllReadyH.nil)
      rw [if_pos (by rfl)]
      refine wp_mapUpdate_self (.tmp 22) (.tmp 23) (.tmp 25) 148 rfl 3 119 (int_keyed Tryz.underlying3) Tryz.underlying148 m B1 L'.D rfl HMo.out (by unfold maxLen; omega) (.int .i64 x) (.slice (some ⟨g5, 0, none⟩) (waits x).length cap5) (.int .i64 x) rfl rfl (keyI (by omega) (by omega)) ?_
      intro w6 hown6 hgr6
      have hK6 : Keeps (fun i => i = m) w2 w6 := (Keeps.of_below HB5.out).grown hgr6 (fun i e => .inl (Option.some.inj e).symm)
      obtain ⟨mes, mcl, hmb⟩ := map_block HMo.out
      have hmw : w.heap.size ≤ m := by omega
      have HCp6 := hid (HCp2.out.put (n := x) hne HB5.out hg5 (by omega) HO5.out (by rw [hE.out.2.2]; exact hown6) (by rw [hE.out.2.2]; exact hgr6))
      rw [← HStep.out] at HCp6
      have HPl6 := hid (HPl2.out.keep hK6 (fun i hi e => by
        have := HFl.out i hi
        have e2 : i = m := e
        omega))
      have HLm : Hid (L.m < w.heap.size) := HFl.out _ (.inr (.inl rfl))
      have HRg5 := hid (HRg.out.kept (below_grown HB5.out) (by simp) (by simp))
      obtain ⟨ia, ib, ic, id', hit⟩ := ranges_iter HRg5.out
      have HRg6 := hid (HRg5.out.kept hgr6 (fun e => by have := HLm.out; have := Option.some.inj e; omega) (fun e => by
        have e2 := Option.some.inj e
        rw [e2, hmb] at hit; cases hit))
      have hbc6 := hK6.heap Hbc2.out (fun e => by
        have e2 : w1.heap.size = m := e
        have h5 := below_block HB5.out Hbc2.out hpcl
        rw [e2, hmb] at h5; cases h5)
      have hrc6 := hK6.heap Hrc2.out (fun e => by
        have e2 : w.heap.size = m := e
        have h5 := below_block HB5.out Hrc2.out (lt_of_heap Hrc2.out)
        rw [e2, hmb] at h5; cases h5)
      have HB6 := hid (HB2.out.trans (hK6.below HB2.out.size (fun i e => by rw [show i = m from e]; exact hmw)))
      have Hbc6 := hid hbc6
      have Hrc6 := hid hrc6
      have cpc6 : w6.cell? ⟨w1.heap.size, 1, none⟩ = some (.map (some m)) := cell_of_block hbc6 1
      clear hown6 hgr6 hK6 hmb hit hbc6 hrc6 HMo HB5 HO5 HPl2 HCp2 Hbc2 Hrc2 HRg HRg5 HB2
      refine hK.out _ _ cpc6 (fun hHeld => ?_)
      clear hK K
      try simp only [List.getElem_toArray, List.getElem_cons_succ, List.getElem_cons_zero, Act.put]
      refine wpAnyH_done (by kernel_rfl) ?_ _
      refine NoPanic.normal ?_
      clear hHeld cpc6 cpc5 cpc
      go_wp2
      refine ⟨⟨_, cnt2, { L' with D := L'.D.put (.int .i64 x) (.held (.slice (some ⟨g5, 0, none⟩) (waits x).length cap5)), row := fun k => if k = x then g5 else L'.row k, rcap := fun k => if k = x then cap5 else L'.rcap k }, B1 + 1, by have := HLt.out; omega, hE, HRg6, HPl6, HCp6, Hbc6, Hrc6, HB6⟩, ?_⟩
      have h1 : w6.rangeLeft L.m ri = cnt2 := HRg6.out.left_eq
      rw [h1, hrg.out.left_eq]
      exact HLt.out
end Go.Proofs.YtkkmbgjlmdddoabGreat
/- disk.Disk.Fork. -/
namespace Go.Proofs.YtkkmbgjlmdddoabGreat
open Go.RowKit Go.Maps
set_option maxRecDepth 100000 in
set_option maxHeartbeats 2000000 in
theorem fork_disk_fv (d : DL) (S : DiskS) (w : World) (h : DiskIn w d S) (hB : S.ops.length ≤ 4096) :
    Calls Tryz.prog 74 #[.pointer (some ⟨d.p, 0, none⟩)] w fun e w' => Below w.heap.size w w' ∧ ∃ d', e = .returned (.pointer (some ⟨d'.p, 0, none⟩)) ∧ CutIn w' d' S ∧ (∀ i, d'.cutFoot S.waits i → w.heap.size ≤ i) ∧ d'.fv = d.fv := by
  obtain ⟨ad, fc, hfv, hfc, hfn⟩ := h.first
  obtain ⟨oa, oc, hov, hoa, hocc⟩ : ∃ oa oc, d.ov = .slice oa S.ops.length oc ∧ ((oa = none ∧ oc = 0 ∧ S.ops.length = 0) ∨ ∃ g, oa = some ⟨g, 0, none⟩ ∧ S.ops.length ≤ oc ∧ g < w.heap.size) ∧ ∀ b, oa = some b → ∀ j u, (S.ops.map encOp)[j]? = some u → w.cell? (b.add j) = some u := by
    rcases h.ops.2 with ⟨e1, e2⟩ | ⟨g, cap, cur, e1, e2, e3, e4, e5⟩
    · exact ⟨none, 0, by rw [e1, e2], .inl ⟨rfl, rfl, e2⟩, fun b e => by cases e⟩
    · have ho := h.ops
      rw [e1] at ho
      refine ⟨some ⟨g, 0, none⟩, cap, e1, .inr ⟨g, rfl, e4, lt_of_heap e3⟩, fun b e j u hu => ?_⟩
      obtain rfl := Option.some.inj e
      have hj : j < S.ops.length := by simpa using (List.getElem?_eq_some_iff.1 hu).1
      rw [Addr.add_mid, Nat.zero_add, ho.cellAt j (by omega)]
      exact hu
  have c0 : w.cell? ⟨d.p, 0, none⟩ = some (.slice (some ad) S.first.length fc) := by rw [cell_of_block h.heap, ← hfv]; rfl
  have c1 : w.cell? ⟨d.p, 1, none⟩ = some (.slice oa S.ops.length oc) := by rw [cell_of_block h.heap, ← hov]; rfl
  have HNt : Hid (∀ W : World, Below w.heap.size w W → Calls Tryz.prog 101 #[.pointer (some ⟨d.p, 0, none⟩), .int .i64 S.ops.length] W fun e w' => e = .returned (.slice oa S.ops.length S.ops.length) ∧ w' = W) := fun W hW => by
    have cw := (hW.cell (p := ⟨d.p, 1, none⟩) (World.block_lt_of_cell? w _ c1)).trans c1
    rcases hoa with ⟨rfl, rfl, e⟩ | ⟨g, rfl, e, -⟩
    · rw [e] at cw ⊢
      exact noted_none d.p W cw
    · exact noted_some d.p ⟨g, 0, none⟩ S.ops.length oc S.ops.length W cw (Nat.le_refl _) e
  have HCp := hid (fun W (hW : Below w.heap.size w W) => copied_any d.p d.fv d.ov d.L S.safe S.waits S.ops.length W (h.below hW).heap (h.below hW).plates hB)
  have H := hid h
  have hFl := h.flen
  have HFl := hid hFl
  have HFC := hid (And.intro hfc hfn)
  have HOc := hid hocc
  have HOa := hid hoa
  clear h hFl hfc hfn hocc hoa
  go_enter Tryz.func74, Tryz.ntmps74
  go_wp2
  refine wp_region_noPanic ?_
  refine wp_region_held_drew (S := fun W => W.cell? ⟨d.p, 0, none⟩ = some (.slice (some ad) S.first.length fc) ∧ W.cell? ⟨d.p, 1, none⟩ = some (.slice oa S.ops.length oc)) (by kernel_rfl) ⟨c0, c1⟩ (fun hHeld => ?_)
  refine wpAnyH_take (i := 0) (v := ?_) rfl (by kernel_rfl) (by kernel_rfl) (by kernel_rfl) (fun _ _ _ h => h) (Or.inl ⟨by rfl, ?_⟩) (by assumption) ?_
  rotate_left
  · (intro W hSw; (try dsimp only at hSw); obtain ⟨s1, s2⟩ := hSw; go_simp; try with_reducible rfl)
  try simp only [List.getElem_toArray, List.getElem_cons_zero, Act.put, List.setIfInBounds_toArray, List.set_cons_zero, List.set_cons_succ]
  refine wpAnyH_take (i := 1) (v := ?_) rfl (by kernel_rfl) (by kernel_rfl) (by kernel_rfl) (fun _ _ _ h => h) (Or.inl ⟨by rfl, ?_⟩) (by assumption) ?_
  rotate_left
  · (intro W hSw; (try dsimp only at hSw); obtain ⟨s1, s2⟩ := hSw; go_simp; try with_reducible rfl)
  try simp only [List.getElem_toArray, List.getElem_cons_succ, List.getElem_cons_zero, Act.put, List.setIfInBounds_toArray, List.set_cons_zero, List.set_cons_succ]
  refine wpAnyH_take (i := 2) (v := ?_) rfl (by kernel_rfl) (by kernel_rfl) (by kernel_rfl) (fun _ _ _ h => h) (Or.inl ⟨by rfl, ?_⟩) (by assumption) ?_
  rotate_left
  · (intro W hSw; (try dsimp only at hSw); obtain ⟨s1, s2⟩ := hSw; go_simp; try with_reducible rfl)
  try simp only [List.getElem_toArray, List.getElem_cons_succ, List.getElem_cons_zero, Act.put, List.setIfInBounds_toArray, List.set_cons_zero, List.set_cons_succ]
  refine wpAnyH_take (i := 3) (v := ?_) rfl (by kernel_rfl) (by kernel_rfl) (by kernel_rfl) (fun _ _ _ h => h) (Or.inl ⟨by rfl, ?_⟩) (by assumption) ?_
  rotate_left
  · (intro W hSw; (try dsimp only at hSw); obtain ⟨s1, s2⟩ := hSw; go_simp; try with_reducible rfl)
  try simp only [List.getElem_toArray, List.getElem_cons_succ, List.getElem_cons_zero, Act.put, List.setIfInBounds_toArray, List.set_cons_zero, List.set_cons_succ]
  refine wpAnyH_take (i := 4) (v := ?_) rfl (by kernel_rfl) (by kernel_rfl) (by kernel_rfl) (fun _ _ _ h => h) (Or.inl ⟨by rfl, ?_⟩) (by assumption) ?_
  rotate_left
  · (intro W hSw; (try dsimp only at hSw); obtain ⟨s1, s2⟩ := hSw; go_simp; try with_reducible rfl)
  try simp only [List.getElem_toArray, List.getElem_cons_succ, List.getElem_cons_zero, Act.put, List.setIfInBounds_toArray, List.set_cons_zero, List.set_cons_succ]
  refine wpAnyH_take (i := 5) (v := ?_) rfl (by kernel_rfl) (by kernel_rfl) (by kernel_rfl) (fun _ _ _ h => h) (Or.inl ⟨by rfl, ?_⟩) (by assumption) ?_
  rotate_left
  · (intro W hSw; (try dsimp only at hSw); obtain ⟨s1, s2⟩ := hSw; go_simp; try with_reducible rfl)
  try simp only [List.getElem_toArray, List.getElem_cons_succ, List.getElem_cons_zero, Act.put, List.setIfInBounds_toArray, List.set_cons_zero, List.set_cons_succ]
  refine wpAnyH_take (i := 6) (v := ?_) rfl (by kernel_rfl) (by kernel_rfl) (by kernel_rfl) (fun _ _ _ h => h) (Or.inl ⟨by rfl, ?_⟩) (by assumption) ?_
  rotate_left
  · (intro W hSw; (try dsimp only at hSw); obtain ⟨s1, s2⟩ := hSw; go_simp; try with_reducible rfl)
  try simp only [List.getElem_toArray, List.getElem_cons_succ, List.getElem_cons_zero, Act.put, List.setIfInBounds_toArray, List.set_cons_zero, List.set_cons_succ]
  refine wpAnyH_take (i := 7) (v := ?_) rfl (by kernel_rfl) (by kernel_rfl) (by kernel_rfl) (fun _ _ _ h => h) (Or.inl ⟨by rfl, ?_⟩) (by assumption) ?_
  rotate_left
  · (intro W hSw; (try dsimp only at hSw); obtain ⟨s1, s2⟩ := hSw; go_simp; try with_reducible rfl)
  try simp only [List.getElem_toArray, List.getElem_cons_succ, List.getElem_cons_zero, Act.put, List.setIfInBounds_toArray, List.set_cons_zero, List.set_cons_succ]
  refine wpAnyH_take (i := 8) (v := ?_) rfl (by kernel_rfl) (by kernel_rfl) (by kernel_rfl) (fun _ _ _ h => h) (Or.inl ⟨by rfl, ?_⟩) (by assumption) ?_
  rotate_left
  · (intro W hSw; (try dsimp only at hSw); obtain ⟨s1, s2⟩ := hSw; go_simp; try with_reducible rfl)
  try simp only [List.getElem_toArray, List.getElem_cons_succ, List.getElem_cons_zero, Act.put, List.setIfInBounds_toArray, List.set_cons_zero, List.set_cons_succ]
  refine wpAnyH_take (i := 9) (v := ?_) rfl (by kernel_rfl) (by kernel_rfl) (by kernel_rfl) (fun _ _ _ h => h) (Or.inl ⟨by rfl, ?_⟩) (by assumption) ?_
  rotate_left
  · (intro W hSw; (try dsimp only at hSw); obtain ⟨s1, s2⟩ := hSw; go_simp; try with_reducible rfl)
  try simp only [List.getElem_toArray, List.getElem_cons_succ, List.getElem_cons_zero, Act.put, List.setIfInBounds_toArray, List.set_cons_zero, List.set_cons_succ]
  refine wpAnyH_take (i := 11) (v := ?_) rfl (by kernel_rfl) (by kernel_rfl) (by kernel_rfl) (fun _ _ _ h => h) (Or.inl ⟨by rfl, ?_⟩) (by assumption) ?_
  rotate_left
  · (intro W hSw; (try dsimp only at hSw); obtain ⟨s1, s2⟩ := hSw; go_simp; try with_reducible rfl)
  try simp only [List.getElem_toArray, List.getElem_cons_succ, List.getElem_cons_zero, Act.put, List.setIfInBounds_toArray, List.set_cons_zero, List.set_cons_succ]
  refine wpAnyH_take (i := 12) (v := ?_) rfl (by kernel_rfl) (by kernel_rfl) (by kernel_rfl) (fun _ _ _ h => h) (Or.inl ⟨by rfl, ?_⟩) (by assumption) ?_
  rotate_left
  · (intro W hSw; (try dsimp only at hSw); obtain ⟨s1, s2⟩ := hSw; go_simp; try with_reducible rfl)
  try simp only [List.getElem_toArray, List.getElem_cons_succ, List.getElem_cons_zero, Act.put, List.setIfInBounds_toArray, List.set_cons_zero, List.set_cons_succ]
  refine wpAnyH_take (i := 13) (v := ?_) rfl (by kernel_rfl) (by kernel_rfl) (by kernel_rfl) (fun _ _ _ h => h) (Or.inl ⟨by rfl, ?_⟩) (by assumption) ?_
  rotate_left
  · (intro W hSw; (try dsimp only at hSw); obtain ⟨s1, s2⟩ := hSw; go_simp; try with_reducible rfl)
  try simp only [List.getElem_toArray, List.getElem_cons_succ, List.getElem_cons_zero, Act.put, List.setIfInBounds_toArray, List.set_cons_zero, List.set_cons_succ]
  refine wpAnyH_ready (rs := [10]) (by kernel_rfl) (by simp) (AllReadyH.cons rfl (fun K hK => ?_) AllReadyH.nil)
  rw [if_pos (by rfl)]
  go_simp
  refine (HNt.out w.drew (Below.refl _ _).drew).mono ?_
  clear HNt
  rintro e w9 ⟨rfl, h9⟩
  subst h9
  go_wp2_with fail
  refine hK.out _ _ ⟨c0, c1⟩ (fun hHeld => ?_)
  clear hK K
  try simp only [List.getElem_toArray, List.getElem_cons_succ, List.getElem_cons_zero, Act.put, List.setIfInBounds_toArray, List.set_cons_zero, List.set_cons_succ]
  refine wpAnyH_ready (rs := [14]) (by kernel_rfl) (by simp) (AllReadyH.cons rfl (fun K hK => ?_) AllReadyH.nil)
  rw [if_pos (by rfl)]
  go_simp
  refine (HCp.out w.drew (Below.refl _ _).drew).mono ?_
  clear HCp
  rintro e w1 ⟨L', rfl, hP1, hft1, hB1⟩
  have hB1' := below_undrew hB1
  have hdp := World.block_lt_of_cell? w _ c0
  have d0 := (hB1'.cell (p := ⟨d.p, 0, none⟩) hdp).trans c0
  have d1 := (hB1'.cell (p := ⟨d.p, 1, none⟩) hdp).trans c1
  have HP1 := hid hP1
  have HF1 := hid hft1
  have HB1 := hid hB1'
  clear hP1 hft1 hB1 hB1'
  go_wp2_with fail
  refine hK.out _ _ ⟨d0, d1⟩ (fun hHeld => ?_)
  clear hK K
  try simp only [List.getElem_toArray, List.getElem_cons_succ, List.getElem_cons_zero, Act.put, List.setIfInBounds_toArray, List.set_cons_zero, List.set_cons_succ]
  refine wpAnyH_take (i := 15) (v := ?_) rfl (by kernel_rfl) (by kernel_rfl) (by kernel_rfl) (fun _ _ _ h => h) (Or.inl ⟨by rfl, ?_⟩) (by assumption) ?_
  rotate_left
  · (intro W hSw; (try dsimp only at hSw); obtain ⟨s1, s2⟩ := hSw; go_simp; try with_reducible rfl)
  try simp only [List.getElem_toArray, List.getElem_cons_succ, List.getElem_cons_zero, Act.put, List.setIfInBounds_toArray, List.set_cons_zero, List.set_cons_succ]
  refine wpAnyH_ready (rs := [16]) (by kernel_rfl) (by simp) (AllReadyH.cons rfl (fun K hK => ?_) AllReadyH.nil)
  rw [if_pos (by rfl)]
  unfold Oper.wp
  go_simp
  have hdp1 : d.p < w1.heap.size := Nat.lt_of_lt_of_le hdp HB1.out.size
  refine hK.out _ _ ⟨by rw [World.cell?_alloc_lt _ _ _ hdp1]; exact d0, by rw [World.cell?_alloc_lt _ _ _ hdp1]; exact d1⟩ (fun hHeld => ?_)
  clear hK K
  try simp only [List.getElem_toArray, List.getElem_cons_succ, List.getElem_cons_zero, Act.put, List.setIfInBounds_toArray, List.set_cons_zero, List.set_cons_succ]
  refine wpAnyH_take (i := 17) (v := ?_) rfl (by kernel_rfl) (by kernel_rfl) (by kernel_rfl) (fun _ _ _ h => h) (Or.inl ⟨by rfl, ?_⟩) (by assumption) ?_
  rotate_left
  · (intro W hSw; (try dsimp only at hSw); obtain ⟨s1, s2⟩ := hSw; go_simp; try with_reducible rfl)
  try simp only [List.getElem_toArray, List.getElem_cons_succ, List.getElem_cons_zero, Act.put, List.setIfInBounds_toArray, List.set_cons_zero, List.set_cons_succ]
  refine wpAnyH_done (by kernel_rfl) ?_ _
  refine NoPanic.normal ?_
  clear hHeld d0 d1 c0 c1
  have HBn : Hid (Below w.heap.size w (w1.alloc (.cells #[.slice (some ad) S.first.length fc, .slice oa S.ops.length S.ops.length, .slice (some ⟨L'.g, 0, none⟩) S.safe.length L'.cap, .map (some L'.m)] 154))) := HB1.out.alloc HB1.out.size _
  have HNb := hid (block_new w1 (.cells #[.slice (some ad) S.first.length fc, .slice oa S.ops.length S.ops.length, .slice (some ⟨L'.g, 0, none⟩) S.safe.length L'.cap, .map (some L'.m)] 154))
  have HPn := hid (HP1.out.keep (G := fun _ => False) (Keeps.of_below ((Below.refl w1.heap.size w1).alloc (Nat.le_refl _) (.cells #[.slice (some ad) S.first.length fc, .slice oa S.ops.length S.ops.length, .slice (some ⟨L'.g, 0, none⟩) S.safe.length L'.cap, .map (some L'.m)] 154))) (fun _ _ e => e))
  have hs1 := HB1.out.size
  go_wp2
  go_ret
  generalize hWn : w1.alloc (.cells #[.slice (some ad) S.first.length fc, .slice oa S.ops.length S.ops.length, .slice (some ⟨L'.g, 0, none⟩) S.safe.length L'.cap, .map (some L'.m)] 154) = wn at *
  have hpl := HPn.out
  have hadl : ad.block < w.heap.size := by
    have hpos := H.out.plates.pos
    have h00 := HFC.out.1 0 (S.first[0]'(by rw [HFl.out]; exact hpos)) (by simp)
    have := World.block_lt_of_cell? w _ h00
    rwa [add_block] at this
  refine ⟨HBn.out, ⟨w1.heap.size, .slice (some ad) S.first.length fc, .slice oa S.ops.length S.ops.length, L'⟩, rfl, ⟨⟨HNb.out, hpl, ⟨oa, S.ops.length, rfl⟩⟩, ⟨oa, rfl, fun e => ?_, fun b e => ⟨fun j u hu => ?_, ?_⟩⟩, ⟨ad, fc, rfl, fun j s hj => ?_, fun e => ?_⟩, HFl.out⟩, fun i hi => ?_, by first | exact hfv.symm | rfl⟩
  · rcases HOa.out with ⟨-, -, e2⟩ | ⟨g, e2, -⟩
    · exact List.eq_nil_of_length_eq_zero e2
    · rw [e] at e2; cases e2
  · have hc := HOc.out b e j u hu
    exact (HBn.out.cell (World.block_lt_of_cell? w _ hc)).trans hc
  · rcases HOa.out with ⟨e2, -, -⟩ | ⟨g, e2, -, hg⟩
    · rw [e] at e2; cases e2
    · rw [e] at e2
      rw [Option.some.inj e2]
      exact Nat.lt_of_lt_of_le hg HBn.out.size
  · have hc := HFC.out.1 j s hj
    exact (HBn.out.cell (World.block_lt_of_cell? w _ hc)).trans hc
  · rcases e with e | e
    · have e2 : ad.block = w1.heap.size := e
      omega
    · have := HF1.out _ e
      have h3 : w.drew.heap.size = w.heap.size := rfl
      omega
  · rcases hi with e | e
    · have e2 : i = w1.heap.size := e
      omega
    · exact HF1.out i e
theorem fork_disk (d : DL) (S : DiskS) (w : World) (h : DiskIn w d S) (hB : S.ops.length ≤ 4096) :
    Calls Tryz.prog 74 #[.pointer (some ⟨d.p, 0, none⟩)] w fun e w' => Below w.heap.size w w' ∧ ∃ d', e = .returned (.pointer (some ⟨d'.p, 0, none⟩)) ∧ CutIn w' d' S ∧ ∀ i, d'.cutFoot S.waits i → w.heap.size ≤ i := by
  refine (fork_disk_fv d S w h hB).mono ?_
  rintro e w' ⟨h1, d', h2, h3, h4, _⟩
  exact ⟨h1, d', h2, h3, h4⟩
end Go.Proofs.YtkkmbgjlmdddoabGreat
/- A disk, or a Fork of one, and a bound of the blocks that it writes. -/
namespace Go.Proofs.YtkkmbgjlmdddoabGreat
open Go.RowKit
/-- A disk, cut or its own; all that it writes lies in F. -/
def AnyAt (w : World) (d : DL) (S : DiskS) (F : Nat → Prop) : Prop := (CutIn w d S ∧ ∀ i, d.cutFoot S.waits i → F i) ∨ (DiskIn w d S ∧ ∀ i, d.foot S.waits i → F i)
theorem AnyAt.rd {w : World} {d : DL} {S : DiskS} {F : Nat → Prop} (h : AnyAt w d S F) : DiskRd w d S := by
  rcases h with h | h
  · exact h.1.rd
  · exact h.1.rd
theorem AnyAt.below {w w' : World} {d : DL} {S : DiskS} {F : Nat → Prop} (h : AnyAt w d S F) (k : Below w.heap.size w w') : AnyAt w' d S F := by
  rcases h with h | h
  · exact .inl ⟨h.1.below k, h.2⟩
  · exact .inr ⟨h.1.below k, h.2⟩
theorem AnyAt.mono {w : World} {d : DL} {S : DiskS} {F G : Nat → Prop} (h : AnyAt w d S F) (hG : ∀ i, F i → G i) : AnyAt w d S G := by
  rcases h with h | h
  · exact .inl ⟨h.1, fun i hi => hG i (h.2 i hi)⟩
  · exact .inr ⟨h.1, fun i hi => hG i (h.2 i hi)⟩
theorem AnyAt.next {w w1 w2 : World} {d : DL} {S : DiskS} {F : Nat → Prop} (h : AnyAt w2 d S (fun i => (F i ∨ (w.heap.size ≤ i ∧ i < w1.heap.size)) ∨ (w1.heap.size ≤ i ∧ i < w2.heap.size))) (h1 : w.heap.size ≤ w1.heap.size) (h2 : w1.heap.size ≤ w2.heap.size) : AnyAt w2 d S (fun i => F i ∨ (w.heap.size ≤ i ∧ i < w2.heap.size)) :=
  h.mono (fun i hi => by
    rcases hi with (h | h) | h
    · exact .inl h
    · exact .inr ⟨h.1, by omega⟩
    · exact .inr ⟨by omega, h.2⟩)
theorem AnyAt.later {w w1 w2 : World} {d : DL} {S : DiskS} {F : Nat → Prop} (h : AnyAt w2 d S (fun i => F i ∨ (w.heap.size ≤ i ∧ i < w1.heap.size))) (h2 : w1.heap.size ≤ w2.heap.size) : AnyAt w2 d S (fun i => F i ∨ (w.heap.size ≤ i ∧ i < w2.heap.size)) :=
  h.mono (fun i hi => hi.imp id (fun h => ⟨h.1, by omega⟩))
/-- A disk with ops of its own; all that it writes lies in F. -/
def OwnAt (w : World) (d : DL) (S : DiskS) (F : Nat → Prop) : Prop := DiskIn w d S ∧ ∀ i, d.foot S.waits i → F i
theorem OwnAt.mono {w : World} {d : DL} {S : DiskS} {F G : Nat → Prop} (h : OwnAt w d S F) (hG : ∀ i, F i → G i) : OwnAt w d S G := ⟨h.1, fun i hi => hG i (h.2 i hi)⟩
theorem OwnAt.next {w w1 w2 : World} {d : DL} {S : DiskS} {F : Nat → Prop} (h : OwnAt w2 d S (fun i => (F i ∨ (w.heap.size ≤ i ∧ i < w1.heap.size)) ∨ (w1.heap.size ≤ i ∧ i < w2.heap.size))) (h1 : w.heap.size ≤ w1.heap.size) (h2 : w1.heap.size ≤ w2.heap.size) : OwnAt w2 d S (fun i => F i ∨ (w.heap.size ≤ i ∧ i < w2.heap.size)) :=
  h.mono (fun i hi => by
    rcases hi with (h | h) | h
    · exact .inl h
    · exact .inr ⟨h.1, by omega⟩
    · exact .inr ⟨by omega, h.2⟩)
theorem at_flush (d : DL) (S : DiskS) (F : Nat → Prop) (w : World) (h : AnyAt w d S F) (hB : S.ops.length ≤ 1000000) :
    Calls Tryz.prog 107 #[.pointer (some ⟨d.p, 0, none⟩)] w fun e w' => e = .returned (.int .i64 0) ∧ ∃ d', (d'.p = d.p ∧ d'.fv = d.fv ∧ OwnAt w' d' S.flushed (fun i => F i ∨ (w.heap.size ≤ i ∧ i < w'.heap.size))) ∧ AnyAt w' d' S.flushed (fun i => F i ∨ (w.heap.size ≤ i ∧ i < w'.heap.size)) ∧ Keeps F w w' := by
  rcases h with ⟨h, hf⟩ | ⟨h, hf⟩
  · refine (flush_cut d S w h hB).mono ?_
    rintro e w' ⟨rfl, d', hD, e1, e2, e3, e4⟩
    exact ⟨rfl, d', ⟨e1, e2, hD, fun i hi => (e3 i hi).imp (hf i) (fun h => ⟨h, hD.foot_lt hi⟩)⟩, .inr ⟨hD, fun i hi => (e3 i hi).imp (hf i) (fun h => ⟨h, hD.foot_lt hi⟩)⟩, e4.mono hf⟩
  · refine (flush_disk d S w h (by unfold opsMax; omega)).mono ?_
    rintro e w' ⟨rfl, d', hD, e1, e2, e3, e4⟩
    exact ⟨rfl, d', ⟨e1, e2, hD, fun i hi => (e3 i hi).imp (hf i) (fun h => ⟨h, hD.foot_lt hi⟩)⟩, .inr ⟨hD, fun i hi => (e3 i hi).imp (hf i) (fun h => ⟨h, hD.foot_lt hi⟩)⟩, e4.mono hf⟩
theorem at_write (d : DL) (S : DiskS) (F : Nat → Prop) (n : Int) (l : List UInt8) (ad : Addr) (c : Nat) (w : World) (h : AnyAt w d S F) (hB : S.ops.length ≤ 1000000) (h0 : 0 ≤ n) (h1 : n < S.safe.length) (hl : l.length = 512) (hb : bytesAt w ad l) :
    Calls Tryz.prog 106 #[.pointer (some ⟨d.p, 0, none⟩), .int .i64 n, .slice (some ad) 512 c] w fun e w' => e = .returned (.int .i64 0) ∧ ∃ d', (d'.p = d.p ∧ d'.fv = d.fv ∧ OwnAt w' d' (S.wrote n ⟨l.toArray⟩) (fun i => F i ∨ (w.heap.size ≤ i ∧ i < w'.heap.size))) ∧ AnyAt w' d' (S.wrote n ⟨l.toArray⟩) (fun i => F i ∨ (w.heap.size ≤ i ∧ i < w'.heap.size)) ∧ Keeps F w w' := by
  rcases h with ⟨h, hf⟩ | ⟨h, hf⟩
  · refine (write_cut_ok d S n l ad c w h hB h0 h1 hl hb).mono ?_
    rintro e w' ⟨rfl, d', hD, e1, e2, e3, e4⟩
    exact ⟨rfl, d', ⟨e1, e2, hD, fun i hi => (e3 i hi).imp (hf i) (fun h => ⟨h, hD.foot_lt hi⟩)⟩, .inr ⟨hD, fun i hi => (e3 i hi).imp (hf i) (fun h => ⟨h, hD.foot_lt hi⟩)⟩, e4.mono hf⟩
  · refine (write_ok d S n l ad c w h (by unfold opsMax; omega) h0 h1 hl hb).mono ?_
    rintro e w' ⟨rfl, d', hD, e1, e2, e3, e4⟩
    exact ⟨rfl, d', ⟨e1, e2, hD, fun i hi => (e3 i hi).imp (hf i) (fun h => ⟨h, hD.foot_lt hi⟩)⟩, .inr ⟨hD, fun i hi => (e3 i hi).imp (hf i) (fun h => ⟨h, hD.foot_lt hi⟩)⟩, e4.mono hf⟩
/-- A layout: a disk, and how many of its sectors are the log's. -/
def layV (p size : Nat) : Value := .agg #[.pointer (some ⟨p, 0, none⟩), .int .i64 size]
def pagesS (S : DiskS) (size : Nat) : Nat := S.safe.length - 1 - size
set_option maxRecDepth 100000 in
set_option maxHeartbeats 1000000 in
theorem lay_pages (d : DL) (S : DiskS) (size : Nat) (w : World) (h : DiskRd w d S) (hs : size + 1 ≤ S.safe.length) :
    Calls Tryz.prog 51 #[layV d.p size] w fun e w' => e = .returned (.int .i64 (pagesS S size : Nat)) ∧ Below w.heap.size w w' := by
  have hm := h.plates.most
  have HSe := hid (fun W hW => sectors_disk_rd d S W (h.below (w' := W) hW))
  have HP : Hid (((pagesS S size : Nat) : Int) = (S.safe.length : Int) - 1 - (size : Int)) := by unfold Hid pagesS; omega
  clear h
  unfold layV
  go_enter Tryz.func51, Tryz.ntmps51
  go_wp2_with fail
  have hb := block_new w (.cells #[.pointer (some ⟨d.p, 0, none⟩), .int .i64 size] 98)
  have HBl := hid ((Below.refl w.heap.size w).alloc (Nat.le_refl _) (.cells #[.pointer (some ⟨d.p, 0, none⟩), .int .i64 size] 98))
  have c0 : (w.alloc (.cells #[.pointer (some ⟨d.p, 0, none⟩), .int .i64 size] 98)).cell? ⟨w.heap.size, 0, none⟩ = some (.pointer (some ⟨d.p, 0, none⟩)) := cell_of_block hb 0
  have c1 : (w.alloc (.cells #[.pointer (some ⟨d.p, 0, none⟩), .int .i64 size] 98)).cell? ⟨w.heap.size, 1, none⟩ = some (.int .i64 size) := cell_of_block hb 1
  clear hb
  generalize w.alloc (.cells #[.pointer (some ⟨d.p, 0, none⟩), .int .i64 size] 98) = w1 at *
  refine wp_region_noPanic ?_
  refine wp_region_held_drew (S := fun W => W.cell? ⟨w.heap.size, 0, none⟩ = some (.pointer (some ⟨d.p, 0, none⟩)) ∧ W.cell? ⟨w.heap.size, 1, none⟩ = some (.int .i64 size)) (by kernel_rfl) ⟨c0, c1⟩ (fun hHeld => ?_)
  refine wpAnyH_take (i := 0) (v := ?_) rfl (by kernel_rfl) (by kernel_rfl) (by kernel_rfl) (fun _ _ _ h => h) (Or.inl ⟨by rfl, ?_⟩) (by assumption) ?_
  rotate_left
  · (intro W hSw; (try dsimp only at hSw); obtain ⟨s1, s2⟩ := hSw; go_simp; try with_reducible rfl)
  try simp only [List.getElem_toArray, List.getElem_cons_zero, Act.put, List.setIfInBounds_toArray, List.set_cons_zero, List.set_cons_succ]
  refine wpAnyH_take (i := 1) (v := ?_) rfl (by kernel_rfl) (by kernel_rfl) (by kernel_rfl) (fun _ _ _ h => h) (Or.inl ⟨by rfl, ?_⟩) (by assumption) ?_
  rotate_left
  · (intro W hSw; (try dsimp only at hSw); obtain ⟨s1, s2⟩ := hSw; go_simp; try with_reducible rfl)
  try simp only [List.getElem_toArray, List.getElem_cons_succ, List.getElem_cons_zero, Act.put, List.setIfInBounds_toArray, List.set_cons_zero, List.set_cons_succ]
  refine wpAnyH_take (i := 4) (v := ?_) rfl (by kernel_rfl) (by kernel_rfl) (by kernel_rfl) (fun _ _ _ h => h) (Or.inl ⟨by rfl, ?_⟩) (by assumption) ?_
  rotate_left
  · (intro W hSw; (try dsimp only at hSw); obtain ⟨s1, s2⟩ := hSw; go_simp; try with_reducible rfl)
  try simp only [List.getElem_toArray, List.getElem_cons_succ, List.getElem_cons_zero, Act.put, List.setIfInBounds_toArray, List.set_cons_zero, List.set_cons_succ]
  refine wpAnyH_take (i := 5) (v := ?_) rfl (by kernel_rfl) (by kernel_rfl) (by kernel_rfl) (fun _ _ _ h => h) (Or.inl ⟨by rfl, ?_⟩) (by assumption) ?_
  rotate_left
  · (intro W hSw; (try dsimp only at hSw); obtain ⟨s1, s2⟩ := hSw; go_simp; try with_reducible rfl)
  try simp only [List.getElem_toArray, List.getElem_cons_succ, List.getElem_cons_zero, Act.put, List.setIfInBounds_toArray, List.set_cons_zero, List.set_cons_succ]
  refine wpAnyH_ready (rs := [2]) (by kernel_rfl) (by simp) (AllReadyH.cons rfl (fun K hK => ?_) AllReadyH.nil)
  rw [if_pos (by rfl)]
  go_simp
  refine (HSe.out _ HBl.out.drew).mono ?_
  rintro e w2 ⟨rfl, h2⟩
  obtain rfl := h2.symm
  go_wp2_with fail
  refine hK.out _ _ ⟨c0, c1⟩ (fun hHeld => ?_)
  clear hK K
  try simp only [List.getElem_toArray, List.getElem_cons_succ, List.getElem_cons_zero, Act.put, List.setIfInBounds_toArray, List.set_cons_zero, List.set_cons_succ]
  refine wpAnyH_take (i := 3) (v := ?_) rfl (by kernel_rfl) (by kernel_rfl) (by kernel_rfl) (fun _ _ _ h => h) (Or.inl ⟨by rfl, ?_⟩) (by assumption) ?_
  rotate_left
  · (intro W hSw; (try dsimp only at hSw); obtain ⟨s1, s2⟩ := hSw; go_simp; try with_reducible rfl)
  try simp only [List.getElem_toArray, List.getElem_cons_succ, List.getElem_cons_zero, Act.put, List.setIfInBounds_toArray, List.set_cons_zero, List.set_cons_succ]
  refine wpAnyH_take (i := 6) (v := ?_) rfl (by kernel_rfl) (by kernel_rfl) (by kernel_rfl) (fun _ _ _ h => h) (Or.inl ⟨by rfl, ?_⟩) (by assumption) ?_
  rotate_left
  · (intro W hSw; (try dsimp only at hSw); obtain ⟨s1, s2⟩ := hSw; go_simp; try with_reducible rfl)
  try simp only [List.getElem_toArray, List.getElem_cons_succ, List.getElem_cons_zero, Act.put, List.setIfInBounds_toArray, List.set_cons_zero, List.set_cons_succ]
  refine wpAnyH_take (i := 7) (v := ?_) rfl (by kernel_rfl) (by kernel_rfl) (by kernel_rfl) (fun _ _ _ h => h) (Or.inl ⟨by rfl, ?_⟩) (by assumption) ?_
  rotate_left
  · (intro W hSw; (try dsimp only at hSw); obtain ⟨s1, s2⟩ := hSw; go_simp; try with_reducible rfl)
  try simp only [List.getElem_toArray, List.getElem_cons_succ, List.getElem_cons_zero, Act.put, List.setIfInBounds_toArray, List.set_cons_zero, List.set_cons_succ]
  refine wpAnyH_done (by kernel_rfl) ?_ _
  refine NoPanic.normal ?_
  go_wp2
  go_ret
  refine ⟨?_, HBl.out.drew⟩
  show Ending.returned (Value.int .i64 (IntKind.i64.wrap (IntKind.i64.wrap ((S.safe.length : Int) - 1) - (size : Int)))) = _
  rw [IntWalk.i64_in ((S.safe.length : Int) - 1) (by omega), IntWalk.i64_in _ (by omega), HP.out]
set_option maxRecDepth 100000 in
set_option maxHeartbeats 1000000 in
theorem lay_has (d : DL) (S : DiskS) (size : Nat) (n : Int) (w : World) (h : DiskRd w d S) (hs : size + 1 ≤ S.safe.length) :
    Calls Tryz.prog 89 #[layV d.p size, .int .i64 n] w fun e w' => e = .returned (.bool (decide (0 ≤ n ∧ n < (pagesS S size : Nat)))) ∧ Below w.heap.size w w' := by
  have HPg := hid (fun W hW => lay_pages d S size W (h.below (w' := W) hW) hs)
  unfold layV at HPg ⊢
  have hm := h.plates.most
  have hpm : pagesS S size ≤ 4096 := by unfold pagesS; omega
  clear h
  by_cases hn : n < 0
  · have hd : decide (0 ≤ n) = false := decide_eq_false (by omega)
    go_enter Tryz.func89, Tryz.ntmps89
    go_wp2
    go_ret
    refine ⟨?_, ((Below.refl w.heap.size w).alloc (Nat.le_refl _) (.cells #[.pointer (some ⟨d.p, 0, none⟩), .int .i64 size] 98))⟩
    show Ending.returned (Value.bool false) = _
    simp [hd]
  · have hd : decide (0 ≤ n) = true := decide_eq_true (by omega)
    go_enter Tryz.func89, Tryz.ntmps89
    go_wp2_with fail
    refine (HPg.out _ ((Below.refl w.heap.size w).alloc (Nat.le_refl _) (.cells #[.pointer (some ⟨d.p, 0, none⟩), .int .i64 size] 98))).mono ?_
    rintro e w2 ⟨rfl, hb2⟩
    have HB2 := hid (((Below.refl w.heap.size w).alloc (Nat.le_refl _) (.cells #[.pointer (some ⟨d.p, 0, none⟩), .int .i64 size] 98)).trans (hb2.mono (by simp)))
    clear hb2
    go_wp2
    go_ret
    refine ⟨?_, HB2.out⟩
    show Ending.returned (Value.bool (decide (n < (pagesS S size : Nat)))) = _
    simp [hd]
set_option maxRecDepth 100000 in
theorem lay_home (p size : Nat) (n : Int) (w : World) (hs : size ≤ 4096) (h0 : 0 ≤ n) (h1 : n ≤ 4096) :
    Calls Tryz.prog 91 #[layV p size, .int .i64 n] w fun e w' => e = .returned (.int .i64 (1 + (size : Int) + n)) ∧ Below w.heap.size w w' := by
  unfold layV
  go_enter Tryz.func91, Tryz.ntmps91
  go_wp2
  go_ret
  exact ⟨rfl, (Below.refl _ _).alloc (Nat.le_refl _) _⟩
set_option maxRecDepth 100000 in
theorem lay_capacity (p size : Nat) (w : World) (hs : size ≤ 4096) :
    Calls Tryz.prog 80 #[layV p size] w fun e w' => e = .returned (.int .i64 ((min size 100 : Nat) : Int)) ∧ Below w.heap.size w w' := by
  unfold layV
  go_enter Tryz.func80, Tryz.ntmps80
  go_wp2
  go_ret
  refine ⟨?_, (Below.refl _ _).alloc (Nat.le_refl _) _⟩
  show Ending.returned (Value.int .i64 (min (size : Int) 100)) = _
  rw [show ((min size 100 : Nat) : Int) = min (size : Int) 100 by omega]
end Go.Proofs.YtkkmbgjlmdddoabGreat
/- Fork of a Fork; of any disk. -/
namespace Go.Proofs.YtkkmbgjlmdddoabGreat
open Go.RowKit Go.Maps
set_option maxRecDepth 100000 in
set_option maxHeartbeats 2000000 in
theorem fork_cut (d : DL) (S : DiskS) (w : World) (h : CutIn w d S) (hB : S.ops.length ≤ 4096) :
    Calls Tryz.prog 74 #[.pointer (some ⟨d.p, 0, none⟩)] w fun e w' => Below w.heap.size w w' ∧ ∃ d', e = .returned (.pointer (some ⟨d'.p, 0, none⟩)) ∧ CutIn w' d' S ∧ ∀ i, d'.cutFoot S.waits i → w.heap.size ≤ i := by
  obtain ⟨ad, fc, hfv, hfc, hfn⟩ := h.first
  obtain ⟨oa, oc, hov, hoa, hocc⟩ : ∃ oa oc, d.ov = .slice oa S.ops.length oc ∧ ((oa = none ∧ oc = 0 ∧ S.ops.length = 0) ∨ ∃ g : Addr, oa = some g ∧ S.ops.length ≤ oc ∧ g.block < w.heap.size) ∧ ∀ b, oa = some b → ∀ j u, (S.ops.map encOp)[j]? = some u → w.cell? (b.add j) = some u := by
    obtain ⟨a, e1, e2, e3⟩ := h.ops
    cases a with
    | none =>
      have h0 : S.ops.length = 0 := by rw [e2 rfl]; rfl
      exact ⟨none, S.ops.length, e1, .inl ⟨rfl, h0, h0⟩, fun b e => by cases e⟩
    | some g => exact ⟨some g, S.ops.length, e1, .inr ⟨g, rfl, Nat.le_refl _, (e3 g rfl).2⟩, fun b e => (e3 b e).1⟩
  have c0 : w.cell? ⟨d.p, 0, none⟩ = some (.slice (some ad) S.first.length fc) := by rw [cell_of_block h.rd.heap, ← hfv]; rfl
  have c1 : w.cell? ⟨d.p, 1, none⟩ = some (.slice oa S.ops.length oc) := by rw [cell_of_block h.rd.heap, ← hov]; rfl
  have HNt : Hid (∀ W : World, Below w.heap.size w W → Calls Tryz.prog 101 #[.pointer (some ⟨d.p, 0, none⟩), .int .i64 S.ops.length] W fun e w' => e = .returned (.slice oa S.ops.length S.ops.length) ∧ w' = W) := fun W hW => by
    have cw := (hW.cell (p := ⟨d.p, 1, none⟩) (World.block_lt_of_cell? w _ c1)).trans c1
    rcases hoa with ⟨rfl, rfl, e⟩ | ⟨g, rfl, e, -⟩
    · rw [e] at cw ⊢
      exact noted_none d.p W cw
    · exact noted_some d.p g S.ops.length oc S.ops.length W cw (Nat.le_refl _) e
  have HCp := hid (fun W (hW : Below w.heap.size w W) => copied_any d.p d.fv d.ov d.L S.safe S.waits S.ops.length W (h.rd.below hW).heap (h.rd.below hW).plates hB)
  have H := hid h
  have hFl := h.flen
  have HFl := hid hFl
  have HFC := hid (And.intro hfc hfn)
  have HOc := hid hocc
  have HOa := hid hoa
  clear h hFl hfc hfn hocc hoa
  go_enter Tryz.func74, Tryz.ntmps74
  go_wp2
  refine wp_region_noPanic ?_
  refine wp_region_held_drew (S := fun W => W.cell? ⟨d.p, 0, none⟩ = some (.slice (some ad) S.first.length fc) ∧ W.cell? ⟨d.p, 1, none⟩ = some (.slice oa S.ops.length oc)) (by kernel_rfl) ⟨c0, c1⟩ (fun hHeld => ?_)
  refine wpAnyH_take (i := 0) (v := ?_) rfl (by kernel_rfl) (by kernel_rfl) (by kernel_rfl) (fun _ _ _ h => h) (Or.inl ⟨by rfl, ?_⟩) (by assumption) ?_
  rotate_left
  · (intro W hSw; (try dsimp only at hSw); obtain ⟨s1, s2⟩ := hSw; go_simp; try with_reducible rfl)
  try simp only [List.getElem_toArray, List.getElem_cons_zero, Act.put, List.setIfInBounds_toArray, List.set_cons_zero, List.set_cons_succ]
  refine wpAnyH_take (i := 1) (v := ?_) rfl (by kernel_rfl) (by kernel_rfl) (by kernel_rfl) (fun _ _ _ h => h) (Or.inl ⟨by rfl, ?_⟩) (by assumption) ?_
  rotate_left
  · (intro W hSw; (try dsimp only at hSw); obtain ⟨s1, s2⟩ := hSw; go_simp; try with_reducible rfl)
  try simp only [List.getElem_toArray, List.getElem_cons_succ, List.getElem_cons_zero, Act.put, List.setIfInBounds_toArray, List.set_cons_zero, List.set_cons_succ]
  refine wpAnyH_take (i := 2) (v := ?_) rfl (by kernel_rfl) (by kernel_rfl) (by kernel_rfl) (fun _ _ _ h => h) (Or.inl ⟨by rfl, ?_⟩) (by assumption) ?_
  rotate_left
  · (intro W hSw; (try dsimp only at hSw); obtain ⟨s1, s2⟩ := hSw; go_simp; try with_reducible rfl)
  try simp only [List.getElem_toArray, List.getElem_cons_succ, List.getElem_cons_zero, Act.put, List.setIfInBounds_toArray, List.set_cons_zero, List.set_cons_succ]
  refine wpAnyH_take (i := 3) (v := ?_) rfl (by kernel_rfl) (by kernel_rfl) (by kernel_rfl) (fun _ _ _ h => h) (Or.inl ⟨by rfl, ?_⟩) (by assumption) ?_
  rotate_left
  · (intro W hSw; (try dsimp only at hSw); obtain ⟨s1, s2⟩ := hSw; go_simp; try with_reducible rfl)
  try simp only [List.getElem_toArray, List.getElem_cons_succ, List.getElem_cons_zero, Act.put, List.setIfInBounds_toArray, List.set_cons_zero, List.set_cons_succ]
  refine wpAnyH_take (i := 4) (v := ?_) rfl (by kernel_rfl) (by kernel_rfl) (by kernel_rfl) (fun _ _ _ h => h) (Or.inl ⟨by rfl, ?_⟩) (by assumption) ?_
  rotate_left
  · (intro W hSw; (try dsimp only at hSw); obtain ⟨s1, s2⟩ := hSw; go_simp; try with_reducible rfl)
  try simp only [List.getElem_toArray, List.getElem_cons_succ, List.getElem_cons_zero, Act.put, List.setIfInBounds_toArray, List.set_cons_zero, List.set_cons_succ]
  refine wpAnyH_take (i := 5) (v := ?_) rfl (by kernel_rfl) (by kernel_rfl) (by kernel_rfl) (fun _ _ _ h => h) (Or.inl ⟨by rfl, ?_⟩) (by assumption) ?_
  rotate_left
  · (intro W hSw; (try dsimp only at hSw); obtain ⟨s1, s2⟩ := hSw; go_simp; try with_reducible rfl)
  try simp only [List.getElem_toArray, List.getElem_cons_succ, List.getElem_cons_zero, Act.put, List.setIfInBounds_toArray, List.set_cons_zero, List.set_cons_succ]
  refine wpAnyH_take (i := 6) (v := ?_) rfl (by kernel_rfl) (by kernel_rfl) (by kernel_rfl) (fun _ _ _ h => h) (Or.inl ⟨by rfl, ?_⟩) (by assumption) ?_
  rotate_left
  · (intro W hSw; (try dsimp only at hSw); obtain ⟨s1, s2⟩ := hSw; go_simp; try with_reducible rfl)
  try simp only [List.getElem_toArray, List.getElem_cons_succ, List.getElem_cons_zero, Act.put, List.setIfInBounds_toArray, List.set_cons_zero, List.set_cons_succ]
  refine wpAnyH_take (i := 7) (v := ?_) rfl (by kernel_rfl) (by kernel_rfl) (by kernel_rfl) (fun _ _ _ h => h) (Or.inl ⟨by rfl, ?_⟩) (by assumption) ?_
  rotate_left
  · (intro W hSw; (try dsimp only at hSw); obtain ⟨s1, s2⟩ := hSw; go_simp; try with_reducible rfl)
  try simp only [List.getElem_toArray, List.getElem_cons_succ, List.getElem_cons_zero, Act.put, List.setIfInBounds_toArray, List.set_cons_zero, List.set_cons_succ]
  refine wpAnyH_take (i := 8) (v := ?_) rfl (by kernel_rfl) (by kernel_rfl) (by kernel_rfl) (fun _ _ _ h => h) (Or.inl ⟨by rfl, ?_⟩) (by assumption) ?_
  rotate_left
  · (intro W hSw; (try dsimp only at hSw); obtain ⟨s1, s2⟩ := hSw; go_simp; try with_reducible rfl)
  try simp only [List.getElem_toArray, List.getElem_cons_succ, List.getElem_cons_zero, Act.put, List.setIfInBounds_toArray, List.set_cons_zero, List.set_cons_succ]
  refine wpAnyH_take (i := 9) (v := ?_) rfl (by kernel_rfl) (by kernel_rfl) (by kernel_rfl) (fun _ _ _ h => h) (Or.inl ⟨by rfl, ?_⟩) (by assumption) ?_
  rotate_left
  · (intro W hSw; (try dsimp only at hSw); obtain ⟨s1, s2⟩ := hSw; go_simp; try with_reducible rfl)
  try simp only [List.getElem_toArray, List.getElem_cons_succ, List.getElem_cons_zero, Act.put, List.setIfInBounds_toArray, List.set_cons_zero, List.set_cons_succ]
  refine wpAnyH_take (i := 11) (v := ?_) rfl (by kernel_rfl) (by kernel_rfl) (by kernel_rfl) (fun _ _ _ h => h) (Or.inl ⟨by rfl, ?_⟩) (by assumption) ?_
  rotate_left
  · (intro W hSw; (try dsimp only at hSw); obtain ⟨s1, s2⟩ := hSw; go_simp; try with_reducible rfl)
  try simp only [List.getElem_toArray, List.getElem_cons_succ, List.getElem_cons_zero, Act.put, List.setIfInBounds_toArray, List.set_cons_zero, List.set_cons_succ]
  refine wpAnyH_take (i := 12) (v := ?_) rfl (by kernel_rfl) (by kernel_rfl) (by kernel_rfl) (fun _ _ _ h => h) (Or.inl ⟨by rfl, ?_⟩) (by assumption) ?_
  rotate_left
  · (intro W hSw; (try dsimp only at hSw); obtain ⟨s1, s2⟩ := hSw; go_simp; try with_reducible rfl)
  try simp only [List.getElem_toArray, List.getElem_cons_succ, List.getElem_cons_zero, Act.put, List.setIfInBounds_toArray, List.set_cons_zero, List.set_cons_succ]
  refine wpAnyH_take (i := 13) (v := ?_) rfl (by kernel_rfl) (by kernel_rfl) (by kernel_rfl) (fun _ _ _ h => h) (Or.inl ⟨by rfl, ?_⟩) (by assumption) ?_
  rotate_left
  · (intro W hSw; (try dsimp only at hSw); obtain ⟨s1, s2⟩ := hSw; go_simp; try with_reducible rfl)
  try simp only [List.getElem_toArray, List.getElem_cons_succ, List.getElem_cons_zero, Act.put, List.setIfInBounds_toArray, List.set_cons_zero, List.set_cons_succ]
  refine wpAnyH_ready (rs := [10]) (by kernel_rfl) (by simp) (AllReadyH.cons rfl (fun K hK => ?_) AllReadyH.nil)
  rw [if_pos (by rfl)]
  go_simp
  refine (HNt.out w.drew (Below.refl _ _).drew).mono ?_
  clear HNt
  rintro e w9 ⟨rfl, h9⟩
  subst h9
  go_wp2_with fail
  refine hK.out _ _ ⟨c0, c1⟩ (fun hHeld => ?_)
  clear hK K
  try simp only [List.getElem_toArray, List.getElem_cons_succ, List.getElem_cons_zero, Act.put, List.setIfInBounds_toArray, List.set_cons_zero, List.set_cons_succ]
  refine wpAnyH_ready (rs := [14]) (by kernel_rfl) (by simp) (AllReadyH.cons rfl (fun K hK => ?_) AllReadyH.nil)
  rw [if_pos (by rfl)]
  go_simp
  refine (HCp.out w.drew (Below.refl _ _).drew).mono ?_
  clear HCp
  rintro e w1 ⟨L', rfl, hP1, hft1, hB1⟩
  have hB1' := below_undrew hB1
  have hdp := World.block_lt_of_cell? w _ c0
  have d0 := (hB1'.cell (p := ⟨d.p, 0, none⟩) hdp).trans c0
  have d1 := (hB1'.cell (p := ⟨d.p, 1, none⟩) hdp).trans c1
  have HP1 := hid hP1
  have HF1 := hid hft1
  have HB1 := hid hB1'
  clear hP1 hft1 hB1 hB1'
  go_wp2_with fail
  refine hK.out _ _ ⟨d0, d1⟩ (fun hHeld => ?_)
  clear hK K
  try simp only [List.getElem_toArray, List.getElem_cons_succ, List.getElem_cons_zero, Act.put, List.setIfInBounds_toArray, List.set_cons_zero, List.set_cons_succ]
  refine wpAnyH_take (i := 15) (v := ?_) rfl (by kernel_rfl) (by kernel_rfl) (by kernel_rfl) (fun _ _ _ h => h) (Or.inl ⟨by rfl, ?_⟩) (by assumption) ?_
  rotate_left
  · (intro W hSw; (try dsimp only at hSw); obtain ⟨s1, s2⟩ := hSw; go_simp; try with_reducible rfl)
  try simp only [List.getElem_toArray, List.getElem_cons_succ, List.getElem_cons_zero, Act.put, List.setIfInBounds_toArray, List.set_cons_zero, List.set_cons_succ]
  refine wpAnyH_ready (rs := [16]) (by kernel_rfl) (by simp) (AllReadyH.cons rfl (fun K hK => ?_) AllReadyH.nil)
  rw [if_pos (by rfl)]
  unfold Oper.wp
  go_simp
  have hdp1 : d.p < w1.heap.size := Nat.lt_of_lt_of_le hdp HB1.out.size
  refine hK.out _ _ ⟨by rw [World.cell?_alloc_lt _ _ _ hdp1]; exact d0, by rw [World.cell?_alloc_lt _ _ _ hdp1]; exact d1⟩ (fun hHeld => ?_)
  clear hK K
  try simp only [List.getElem_toArray, List.getElem_cons_succ, List.getElem_cons_zero, Act.put, List.setIfInBounds_toArray, List.set_cons_zero, List.set_cons_succ]
  refine wpAnyH_take (i := 17) (v := ?_) rfl (by kernel_rfl) (by kernel_rfl) (by kernel_rfl) (fun _ _ _ h => h) (Or.inl ⟨by rfl, ?_⟩) (by assumption) ?_
  rotate_left
  · (intro W hSw; (try dsimp only at hSw); obtain ⟨s1, s2⟩ := hSw; go_simp; try with_reducible rfl)
  try simp only [List.getElem_toArray, List.getElem_cons_succ, List.getElem_cons_zero, Act.put, List.setIfInBounds_toArray, List.set_cons_zero, List.set_cons_succ]
  refine wpAnyH_done (by kernel_rfl) ?_ _
  refine NoPanic.normal ?_
  clear hHeld d0 d1 c0 c1
  have HBn : Hid (Below w.heap.size w (w1.alloc (.cells #[.slice (some ad) S.first.length fc, .slice oa S.ops.length S.ops.length, .slice (some ⟨L'.g, 0, none⟩) S.safe.length L'.cap, .map (some L'.m)] 154))) := HB1.out.alloc HB1.out.size _
  have HNb := hid (block_new w1 (.cells #[.slice (some ad) S.first.length fc, .slice oa S.ops.length S.ops.length, .slice (some ⟨L'.g, 0, none⟩) S.safe.length L'.cap, .map (some L'.m)] 154))
  have HPn := hid (HP1.out.keep (G := fun _ => False) (Keeps.of_below ((Below.refl w1.heap.size w1).alloc (Nat.le_refl _) (.cells #[.slice (some ad) S.first.length fc, .slice oa S.ops.length S.ops.length, .slice (some ⟨L'.g, 0, none⟩) S.safe.length L'.cap, .map (some L'.m)] 154))) (fun _ _ e => e))
  have hs1 := HB1.out.size
  go_wp2
  go_ret
  generalize hWn : w1.alloc (.cells #[.slice (some ad) S.first.length fc, .slice oa S.ops.length S.ops.length, .slice (some ⟨L'.g, 0, none⟩) S.safe.length L'.cap, .map (some L'.m)] 154) = wn at *
  have hpl := HPn.out
  have hadl : ad.block < w.heap.size := by
    have hpos := H.out.rd.plates.pos
    have h00 := HFC.out.1 0 (S.first[0]'(by rw [HFl.out]; exact hpos)) (by simp)
    have := World.block_lt_of_cell? w _ h00
    rwa [add_block] at this
  refine ⟨HBn.out, ⟨w1.heap.size, .slice (some ad) S.first.length fc, .slice oa S.ops.length S.ops.length, L'⟩, rfl, ⟨⟨HNb.out, hpl, ⟨oa, S.ops.length, rfl⟩⟩, ⟨oa, rfl, fun e => ?_, fun b e => ⟨fun j u hu => ?_, ?_⟩⟩, ⟨ad, fc, rfl, fun j s hj => ?_, fun e => ?_⟩, HFl.out⟩, fun i hi => ?_⟩
  · rcases HOa.out with ⟨-, -, e2⟩ | ⟨g, e2, -⟩
    · exact List.eq_nil_of_length_eq_zero e2
    · rw [e] at e2; cases e2
  · have hc := HOc.out b e j u hu
    exact (HBn.out.cell (World.block_lt_of_cell? w _ hc)).trans hc
  · rcases HOa.out with ⟨e2, -, -⟩ | ⟨g, e2, -, hg⟩
    · rw [e] at e2; cases e2
    · rw [e] at e2
      rw [Option.some.inj e2]
      exact Nat.lt_of_lt_of_le hg HBn.out.size
  · have hc := HFC.out.1 j s hj
    exact (HBn.out.cell (World.block_lt_of_cell? w _ hc)).trans hc
  · rcases e with e | e
    · have e2 : ad.block = w1.heap.size := e
      omega
    · have := HF1.out _ e
      have h3 : w.drew.heap.size = w.heap.size := rfl
      omega
  · rcases hi with e | e
    · have e2 : i = w1.heap.size := e
      omega
    · exact HF1.out i e
theorem fork_at (d : DL) (S : DiskS) (F : Nat → Prop) (w : World) (h : AnyAt w d S F) (hB : S.ops.length ≤ 4096) :
    Calls Tryz.prog 74 #[.pointer (some ⟨d.p, 0, none⟩)] w fun e w' => Below w.heap.size w w' ∧ ∃ d', e = .returned (.pointer (some ⟨d'.p, 0, none⟩)) ∧ CutIn w' d' S ∧ ∀ i, d'.cutFoot S.waits i → w.heap.size ≤ i := by
  rcases h with ⟨h, _⟩ | ⟨h, _⟩
  · exact fork_cut d S w h hB
  · exact fork_disk d S w h hB
end Go.Proofs.YtkkmbgjlmdddoabGreat
/- From a walk to a row: what was read before the call reads so behind it. -/
namespace Go.Proofs.YtkkmbgjlmdddoabGreat
open Go.ChangeShapes Go.WideShapes Go.ChangeAt Go.RowKit
theorem own : ownKnob Tryz.prog.godebug = none := by kernel_rfl
theorem laidOut : laidOutB Tryz.prog = true := by kernel_rfl
/-- What was read before the call reads so behind it. -/
theorem trodAll_below {H : Type} {enc : TypeId × Value → H} {P : Program} (hl : laidOutB P = true) {W W' : World} (hb : Below W.heap.size W W') : ∀ (ts : List TypeId) (vs : List Value) (ds : List (DataW H)) (ps : List MemPlace),
    (∀ t ∈ ts, P.readableRec t = true ∧ t < P.types.size) → DataW.TrodAll enc P W 0 (fun _ => true) true ts vs ds ps → (∀ x ∈ ps, x.block < W.heap.size) → DataW.TrodAll enc P W' 0 (fun b => decide (b < W.heap.size)) true ts vs ds ps
  | [], vs, ds, ps, _, h, _ => by cases vs <;> cases ds <;> simp [DataW.TrodAll] at h ⊢; exact h
  | t :: ts, vs, ds, ps, hr, h, hlt => by
    obtain ⟨v, vs', d, ds', p, q, rfl, rfl, rfl, h1, h2⟩ := trodAll_cons h
    exact trodAll_cons_mk (Below.trod hl (hr t (by simp)).1 (hr t (by simp)).2 h1 hb (fun x hx => hlt x (by simp [hx])))
      (trodAll_below hl hb ts vs' ds' q (fun t' ht' => hr t' (by simp [ht'])) h2 (fun x hx => hlt x (by simp [hx])))
/-- The end of a law: it returned true, and has made new memory at most. -/
theorem post_law {H : Type} {enc : TypeId × Value → H} {f : Func} {s : ChangeSpec} {W W' : World} {args : Array Value} {ds gs : List (DataW H)} {before : List MemPlace}
    (hW : DataW.Whole enc Tryz.prog f.params.toList s.vars false W args.toList ds gs before) (hv : s.vars = []) (hres : f.resultTypes = #[4]) (hfn : (s.fn H (ds ++ gs)) = { results := [.lit (.bool true)], args := ds })
    (hr : ∀ t ∈ f.params.toList, Tryz.prog.readableRec t = true ∧ t < Tryz.prog.types.size) (hb : Below W.heap.size W W') : s.post enc Tryz.prog f false true false false W args (.bool true) W' := by
  have hW' := hW
  obtain ⟨p, q, hA, hV, rfl, _, _⟩ := hW
  refine ⟨ds, gs, p ++ q, [], p, [], hW', ?_, ?_, ?_, hb.frame _, fun h => by cases h⟩
  · rw [hfn, hres]
    exact trodAll_cons_mk (shut_bool Tryz.underlying4 true) trodAll_mk0
  · rw [hfn]
    exact trodAll_below laidOut hb _ _ _ _ hr hA (fun x hx => by simpa using hW'.lt x (by simp [hx]))
  · rw [hfn, hv]; exact rfl
end Go.Proofs.YtkkmbgjlmdddoabGreat
/- A deed, deeds that were handed in. -/
namespace Go.Proofs.YtkkmbgjlmdddoabGreat
open Go.ChangeShapes Go.WideShapes Go.ChangeAt Go.RowKit
theorem plain_addr {w : World} {a : Addr} {x : Value} (h : w.cell? a = some x) : a = ⟨a.block, a.off, none⟩ := by
  obtain ⟨b, o, s⟩ := a
  cases s with
  | none => rfl
  | some q =>
    unfold World.cell? at h
    cases hq : w.heap[b]? with
    | none => simp [hq] at h
    | some ob => cases ob <;> simp [hq] at h
theorem add_off (a : Addr) (j : Nat) : (a.add j).off = a.off + j := by
  unfold Addr.add; split <;> simp_all
theorem list_of {α : Type} {P : Nat → α → Prop} : ∀ n : Nat, (∀ i, i < n → ∃ x, P i x) → ∃ l : List α, l.length = n ∧ ∀ i (hi : i < l.length), P i l[i]
  | 0, _ => ⟨[], rfl, fun i hi => by simp at hi⟩
  | n + 1, h => by
    obtain ⟨l, hl, hp⟩ := list_of n (fun i hi => h i (by omega))
    obtain ⟨x, hx⟩ := h n (by omega)
    refine ⟨l ++ [x], by simp [hl], fun i hi => ?_⟩
    by_cases e : i < l.length
    · rw [List.getElem_append_left e]; exact hp i e
    · have e2 : i = n := by simp at hi; omega
      subst e2
      rw [List.getElem_append_right (by omega)]
      simpa [hl] using hx
end Go.Proofs.YtkkmbgjlmdddoabGreat
/- A slice of bytes, a slice of ints that was handed in. -/
namespace Go.Proofs.YtkkmbgjlmdddoabGreat
open Go.ChangeShapes Go.WideShapes Go.ChangeAt Go.RowKit
theorem cellsU8 : Tryz.prog.cellsOf 5 = 1 := by kernel_rfl
set_option maxRecDepth 100000 in
theorem bytes_open {H : Type} {enc : TypeId × Value → H} {W : World} {base : Nat} {v : Value} {d : DataW H} {p : List MemPlace} (hok : Value.okWide Tryz.prog W .any base 57 v) (h : DataW.Trod enc Tryz.prog W 0 (fun _ => true) true 57 v d p) :
    ∃ (bs : List UInt8) (a : Option Addr) (c : Nat), v = .slice a bs.length c ∧ bytesIn W a bs ∧ bs.length ≤ 9223372036854775807 := by
  obtain ⟨a0, len0, cap0, rfl⟩ := okWide_slice Tryz.underlying57 hok
  obtain ⟨fuel, hf⟩ := h
  rcases open_ints Tryz.underlying57 Tryz.underlying5 cellsU8 hf with ⟨hcs, hx⟩ | ⟨a, len, cap, zs, hcs, _, hl, hm, hz, hx, hcell, hwz⟩
  · simp only [Value.cells, List.cons.injEq, and_true, Value.slice.injEq] at hcs
    obtain ⟨rfl, rfl, rfl⟩ := hcs
    exact ⟨[], none, 0, rfl, fun j hj => by simp at hj, by simp⟩
  · simp only [Value.cells, List.cons.injEq, and_true, Value.slice.injEq] at hcs
    obtain ⟨rfl, rfl, rfl⟩ := hcs
    simp only [if_true] at hz
    have hlen : ((zs.take len0).map fun n => UInt8.ofNat n.toNat).length = len0 := by simp; omega
    refine ⟨(zs.take len0).map fun n => UInt8.ofNat n.toNat, some a, cap0, by rw [hlen], fun j hj => ?_, by rw [hlen]; unfold maxLen at hm; omega⟩
    rw [hlen] at hj
    have h0 := plain_addr (hcell 0 (by omega))
    rw [Addr.add, if_pos rfl] at h0
    refine ⟨a.block, a.off, by rw [← h0], fun i hi => ?_⟩
    have hil : i < len0 := by rw [hlen] at hi; exact hi
    have hc := hcell i (by omega)
    have hiz : i < zs.length := by omega
    have hb := bounds_u8 (hwz zs[i] (List.getElem_mem hiz))
    have hg : zs.getD i 0 = zs[i] := by rw [List.getD_eq_getElem?_getD, List.getElem?_eq_getElem hiz]; rfl
    have hV : zs[i] = (((zs.take len0).map fun n => UInt8.ofNat n.toNat)[i].toNat : Int) := by
      simp only [List.getElem_map, List.getElem_take, UInt8.toNat_ofNat']; omega
    rw [hg, hV, h0, Addr.add_mid] at hc
    exact hc
theorem cellsInt : Tryz.prog.cellsOf 3 = 1 := by kernel_rfl
set_option maxRecDepth 100000 in
theorem ints_open {H : Type} {enc : TypeId × Value → H} {W : World} {base : Nat} {v : Value} {d : DataW H} {p : List MemPlace} (hok : Value.okWide Tryz.prog W .any base 89 v) (h : DataW.Trod enc Tryz.prog W 0 (fun _ => true) true 89 v d p) :
    ∃ (xs : List Int) (a : Option Addr) (c : Nat), v = .slice a xs.length c ∧ intsAt W a xs ∧ xs.length ≤ 9223372036854775807 := by
  obtain ⟨a0, len0, cap0, rfl⟩ := okWide_slice Tryz.underlying89 hok
  obtain ⟨fuel, hf⟩ := h
  rcases open_ints Tryz.underlying89 Tryz.underlying3 cellsInt hf with ⟨hcs, hx⟩ | ⟨a, len, cap, zs, hcs, _, hl, hm, hz, hx, hcell, hwz⟩
  · simp only [Value.cells, List.cons.injEq, and_true, Value.slice.injEq] at hcs
    obtain ⟨rfl, rfl, rfl⟩ := hcs
    exact ⟨[], none, 0, rfl, fun j hj => by simp at hj, by simp⟩
  · simp only [Value.cells, List.cons.injEq, and_true, Value.slice.injEq] at hcs
    obtain ⟨rfl, rfl, rfl⟩ := hcs
    simp only [if_true] at hz
    have hlen : (zs.take len0).length = len0 := by simp; omega
    refine ⟨zs.take len0, some a, cap0, by rw [hlen], fun j hj => ?_, by rw [hlen]; unfold maxLen at hm; omega⟩
    rw [hlen] at hj
    have h0 := plain_addr (hcell 0 (by omega))
    rw [Addr.add, if_pos rfl] at h0
    refine ⟨a.block, a.off, by rw [← h0], fun i hi => ?_⟩
    have hil : i < len0 := by rw [hlen] at hi; exact hi
    have hc := hcell i (by omega)
    have hiz : i < zs.length := by omega
    have hg : zs.getD i 0 = (zs.take len0)[i] := by rw [List.getD_eq_getElem?_getD, List.getElem?_eq_getElem hiz]; simp
    rw [hg, h0, Addr.add_mid] at hc
    exact hc
end Go.Proofs.YtkkmbgjlmdddoabGreat
