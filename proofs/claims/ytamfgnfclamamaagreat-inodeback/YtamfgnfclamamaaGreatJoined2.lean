/- Several of my texts in one: BaseC, BaseD, CommitA, WPlain, Nums, Logged, OpenA, WMade, LogNo, RSort, RAppend, WRef, DeedA, WDeeds, WPages, WMid. -/
import Derived.Test.YtamfgnfclamamaaGreatJoined1
import Derived.ArgAppend
import Derived.Test.YtamfgnfclamamaaGreatRows
import Derived.OpenShut
import Derived.Lib.SmallJoins
import Derived.SizedLaws
import Derived.Lib.BufferWrite
import Derived.Deep.Strs
set_option maxRecDepth 100000
set_option maxHeartbeats 2000000
namespace Go.Proofs.YtamfgnfclamamaaGreat
section
open Go.RowKit Go.Maps
structure CutIn (w : World) (d : DL) (S : DiskS) : Prop where
 rd : DiskRd w d S
 ops : ∃ a, d.ov = .slice a S.ops.length S.ops.length /\ (a = none -> S.ops = []) /\ ∀ b, a = some b -> (∀ j u, (S.ops.map encOp)[j]? = some u -> w.cell? (b.add j) = some u) /\ b.block < w.heap.size
 first : ∃ ad c, d.fv = .slice (some ad) S.first.length c /\ (∀ j s, S.first[j]? = some s -> w.cell? (ad.add j) = some (.string s)) /\ ¬ (ad.block = d.p \/ d.L.foot S.waits ad.block)
 flen : S.first.length = S.safe.length
theorem noted_some (p : Nat) (oa : Addr) (n oc k : Nat) (w : World) (c1 : w.cell? ⟨p, 1, none⟩ = some (.slice (some oa) n oc)) (hk : k <= n) (hn : n <= oc) :
  Calls Tryz.prog 122 #[.pointer (some ⟨p, 0, none⟩), .int .i64 k] w fun e w' => e = .returned (.slice (some oa) k k) /\ w' = w := by
 have hk0 : (0 : Int) <= (k : Int) := by omega
 have hk1 : (k : Int) <= (oc : Int) := by omega
 go_enter Tryz.func122, Tryz.ntmps122
 go_wp2
 go_ret
 exact ⟨rfl, rfl⟩
theorem noted_none (p : Nat) (w : World) (c1 : w.cell? ⟨p, 1, none⟩ = some (.slice none 0 0)) :
  Calls Tryz.prog 122 #[.pointer (some ⟨p, 0, none⟩), .int .i64 0] w fun e w' => e = .returned (.slice none 0 0) /\ w' = w := by
 go_enter Tryz.func122, Tryz.ntmps122
 go_wp2
 go_ret
 exact ⟨rfl, rfl⟩
end
section
open Go.RowKit Go.Maps
theorem CutIn.keep {w w' : World} {d : DL} {S : DiskS} (h : CutIn w d S) {G : Nat -> Prop} (k : Keeps G w w') (hp : ¬ G d.p) (hG : ∀ i, d.L.foot S.waits i -> ¬ G i) (hF : ∀ i, d.fv.ownBlock = some i \/ d.ov.ownBlock = some i -> ¬ G i) : CutIn w' d S := by
 obtain ⟨h1, ⟨a, e1, e2, e3⟩, ⟨ad, c, e4, e5, e6⟩, h4⟩ := h
 refine ⟨h1.keep k hp hG, ⟨a, e1, e2, fun b hb => ⟨fun j u hu => ?_, Nat.lt_of_lt_of_le (e3 b hb).2 k.size⟩⟩, ⟨ad, c, e4, fun j s hj => ?_, e6⟩, h4⟩
 ·exact k.cell ((e3 b hb).1 j u hu) (by rw [add_block]; exact hF _ (.inr (by rw [e1, hb]; rfl)))
 ·exact k.cell (e5 j s hj) (by rw [add_block]; exact hF _ (.inl (by rw [e4]; rfl)))
theorem CutIn.below {w w' : World} {d : DL} {S : DiskS} (h : CutIn w d S) (k : Below w.heap.size w w') : CutIn w' d S := h.keep (G := fun _ => False) (Keeps.of_below k) (fun e => e) (fun _ _ e => e) (fun _ _ e => e)
def DL.cutFoot (d : DL) (waits : Int -> List ByteArray) (i : Nat) : Prop := i = d.p \/ d.L.foot waits i
theorem do_op (p : Nat) (fv ov : Value) (L : PL) (S : DiskS) (B : Nat) (o : OpS) (w : World)
  (hp : w.heap[p]? = some (.cells #[fv, ov, .slice (some ⟨L.g, 0, none⟩) S.safe.length L.cap, .map (some L.m)] 196 (0, 0))) (h : PlatesIn w L S.safe S.waits B) (hB : B < opsMax) (ho : okOp S.safe.length o) :
  Calls Tryz.prog 185 #[.pointer (some ⟨p, 2, none⟩), encOp o] w fun e w' => e = .returned (.tuple #[]) /\
   ∃ L', PlatesIn w' L' (doOp S o).safe (doOp S o).waits (B + 1) /\ L'.g = L.g /\ L'.cap = L.cap /\ L'.m = L.m /\ (∀ i, L'.foot (doOp S o).waits i -> L.foot S.waits i \/ w.heap.size <= i) /\ Keeps (L.foot S.waits) w w' := by
 cases o with
 | write n s => exact do_write p fv ov L S.safe S.waits B n s w hp h hB ho.1 ho.2.1
 | flush =>
  refine (do_flush p fv ov L S.safe S.waits B w hp h).mono ?_
  rintro e w' ⟨rfl, hP, hK⟩
  refine ⟨rfl, { L with D := .map [] }, hP.moreB (Nat.zero_le _), rfl, rfl, rfl, fun i hi => ?_, hK⟩
  rcases hi with e | e | ⟨n, hn, _⟩
  ·exact .inl (.inl e)
  ·exact .inl (.inr (.inl e))
  ·exact absurd rfl hn
theorem note_cut (d : DL) (S : DiskS) (o : OpS) (w : World) (h : CutIn w d S) (hB : S.ops.length <= 1000000) (ho : okOp S.first.length o) :
  Calls Tryz.prog 172 #[.pointer (some ⟨d.p, 0, none⟩), encOp o] w fun e w' => e = .returned (.tuple #[]) /\
   ∃ d', DiskIn w' d' (doOp S o) /\ d'.p = d.p /\ d'.fv = d.fv /\ (∀ i, d'.foot (doOp S o).waits i -> d.cutFoot S.waits i \/ w.heap.size <= i) /\ Keeps (d.cutFoot S.waits) w w' := by
 obtain ⟨oa, hov, hnone, hcells⟩ := h.ops
 have c1 : w.cell? ⟨d.p, 1, none⟩ = some (.slice oa S.ops.length S.ops.length) := by rw [cell_of_block h.rd.heap, <- hov]; rfl
 have hlt := lt_of_heap h.rd.heap
 obtain ⟨i0, hi, hz0, hz1, hz2⟩ := info_parts infoOp
 have HI := hid hi
 have H := hid h
 have HCl := hid (show ∀ b, oa = some b -> ∀ j u, (S.ops.map encOp)[j]? = some u -> (w.alloc (.cells #[encOp o] 240)).cell? (b.add j) = some u from fun b hb j u hu => by
  rw [World.cell?_alloc_lt _ _ _ (by rw [add_block]; exact (hcells b hb).2)]
  exact (hcells b hb).1 j u hu)
 have HNo : Hid (oa = none -> S.ops.length = 0 /\ S.ops.length = 0) := fun e => by rw [hnone e]; exact ⟨rfl, rfl⟩
 have HOo := hid ho
 obtain ⟨t, ov, hev⟩ : ∃ t v, encOp o = .iface t v := by cases o <;> exact ⟨_, _, rfl⟩
 rw [hev] at HCl ⊢
 have HEv := hid hev
 clear hi h hcells hnone hev ho
 go_enter Tryz.func172, Tryz.ntmps172
 go_wp2_with (refine wpList_append_grows _ rfl (.tmp 8) (.tmp 10) 194 rfl 240 i0 .nilIface 1 16 Tryz.underlying194 HI.out hz0 hz1 hz2 rfl (by omega) oa S.ops.length S.ops.length (S.ops.map encOp) rfl HNo.out (by simp) HCl.out ⟨w.heap.size, 0, none⟩ 1 1 [.iface t ov] rfl rfl (World.news_of_block (cs := #[.iface t ov]) (block_new w _)) (by intro u hu; rw [List.mem_singleton.1 hu]; rfl) (by omega) (by unfold maxLen; omega) (by omega) ?_; intro v1 w1 hown hgr; have HO := hid hown; have HG := hid hgr; have HP1 := hid ((hgr.block d.p (by simp; omega) (fun e => by cases e)).trans (block_alloc H.out.rd.heap _)); have f1 : w1.cell? ⟨d.p, 1, none⟩ = some d.ov := cell_of_block HP1.out 1; have f2 : w1.frozen? ⟨d.p, 1, none⟩ = false := frozen_of_block HP1.out 1; obtain ⟨g, cap, hv1, hgb, hgl⟩ := hown.form (by omega); subst hv1; clear hown hgr)
 have K1 : Keeps (fun i => i = d.p) w w1 := (Keeps.of_below ((Below.refl _ _).alloc (Nat.le_refl _) _)).trans (Keeps.of_grown HG.out (F := fun _ => False) (fun i e => by cases e)) (fun i e => .inl e.elim)
 have K2 : Keeps (fun i => i = d.p) w (w1.setCell ⟨d.p, 1, none⟩ (.slice (some ⟨g, 0, none⟩) (S.ops.length + 1) cap)) :=
  K1.grown (grown_setCell (grown_refl w1 (some d.p)) 1 _) (fun i e => .inl (Option.some.inj e).symm)
 have HK2 := hid K2
 have HP2 := hid (block_setCell HP1.out 1 (.slice (some ⟨g, 0, none⟩) (S.ops.length + 1) cap))
 have hgw : w.heap.size <= g := by simp at hgb; omega
 have hgp : g ≠ d.p := by omega
 have HO2 := hid (HO.out.kept (grown_setCell (grown_refl w1 (some d.p)) 1 (.slice (some ⟨g, 0, none⟩) (S.ops.length + 1) cap)) (.inr (fun e => hgp (by simpa [Value.ownBlock] using e))))
 have hpo := H.out.rd.plates.foot_other H.out.rd.heap (by decide)
 have HPL := hid (H.out.rd.plates.keep HK2.out (fun i hi e => hpo (by rw [<- e]; exact hi)))
 clear K1 K2 f1 f2 HO
 generalize hW : w1.setCell ⟨d.p, 1, none⟩ (.slice (some ⟨g, 0, none⟩) (S.ops.length + 1) cap) = w2 at *
 clear hW
 rw [<- HEv.out]
 refine (do_op d.p d.fv (.slice (some ⟨g, 0, none⟩) (S.ops.length + 1) cap) d.L S S.ops.length o w2 HP2.out HPL.out (by unfold opsMax; omega) (by rw [<- H.out.flen]; exact HOo.out)).mono ?_
 rintro e w3 ⟨rfl, L', hP3, e1, e2, e3, hfoot, hK3⟩
 have HP3 := hid hP3
 have HF3 := hid hfoot
 have HK3 := hid hK3
 have HE := hid (And.intro e1 (And.intro e2 e3))
 clear hP3 hfoot hK3 e1 e2 e3
 have HFoot : Hid (∀ i, (DL.foot ⟨d.p, d.fv, .slice (some ⟨g, 0, none⟩) (S.ops.length + 1) cap, L'⟩ (doOp S o).waits i) -> d.cutFoot S.waits i \/ w.heap.size <= i) := by
  rintro i (e | e | e)
  ·exact .inl (.inl e)
  ·obtain rfl : g = i := Option.some.inj e
   exact .inr hgw
  ·rcases HF3.out i e with e | e
   ·exact .inl (.inr e)
   ·exact .inr (Nat.le_trans HK2.out.size e)
 have HKall : Hid (Keeps (d.cutFoot S.waits) w w3) := (HK2.out.mono (fun i e => .inl e)).trans HK3.out (fun i e => .inl (.inr e))
 have hfirst := H.out.first
 have HFi := hid hfirst
 clear hfirst
 go_wp2
 go_end0
 refine ⟨rfl, ⟨d.p, d.fv, .slice (some ⟨g, 0, none⟩) (S.ops.length + 1) cap, L'⟩, ⟨?_, ?_, ?_, ?_, ?_⟩, rfl, rfl, HFoot.out, HKall.out⟩
 ·rw [HE.out.1, HE.out.2.1, HE.out.2.2, doOp_len]
  exact HK3.out.heap HP2.out hpo
 ·have h2 := HK3.out.row HO2.out (fun i hi => by
   obtain ⟨cur, hc⟩ := row_type HO2.out hi
   exact HPL.out.foot_other hc (by decide))
  rw [doOp_ops]
  have h3 := h2.mono (Nat.zero_le _)
  rw [<- HEv.out] at h3
  simpa using h3
 ·rw [doOp_ops]; simpa using HP3.out
 ·obtain ⟨ad, c, e, hc, hn⟩ := HFi.out
  rw [doOp_first]
  refine ⟨ad, c, e, fun j u hj => ?_, fun hf => ?_⟩
  ·refine HK3.out.cell (HK2.out.cell (hc j u hj) ?_) ?_
   ·rw [add_block]; exact fun e => hn (.inl e)
   ·rw [add_block]; exact fun e => hn (.inr e)
  ·have hlt0 : S.first.length ≠ 0 := by have := H.out.flen; have := H.out.rd.plates.pos; omega
   have hltad : ad.block < w.heap.size := by
    have h00 := hc 0 (S.first[0]'(by omega)) (by simp)
    have := World.block_lt_of_cell? w _ h00
    rwa [add_block] at this
   exact hn (by rcases HFoot.out _ hf with e | e; exact e; omega)
 ·rw [doOp_first, doOp_len]; exact H.out.flen
theorem flush_cut (d : DL) (S : DiskS) (w : World) (h : CutIn w d S) (hB : S.ops.length <= 1000000) :
  Calls Tryz.prog 132 #[.pointer (some ⟨d.p, 0, none⟩)] w fun e w' => e = .returned (.int .i64 0) /\
   ∃ d', DiskIn w' d' S.flushed /\ d'.p = d.p /\ d'.fv = d.fv /\ (∀ i, d'.foot S.flushed.waits i -> d.cutFoot S.waits i \/ w.heap.size <= i) /\ Keeps (d.cutFoot S.waits) w w' := by
 have hn := note_cut d S .flush w h hB trivial
 simp only [encOp, doOp] at hn
 have HN := hid hn
 clear hn
 clear h
 go_enter Tryz.func132, Tryz.ntmps132
 go_wp2_with fail
 refine HN.out.mono ?_
 rintro e w1 ⟨rfl, hq⟩
 have HQ := hid hq
 clear hq
 go_wp2
 go_ret
 exact ⟨rfl, HQ.out⟩
theorem write_cut_ok (d : DL) (S : DiskS) (n : Int) (l : List UInt8) (ad : Addr) (c : Nat) (w : World) (h : CutIn w d S) (hB : S.ops.length <= 1000000) (h0 : 0 <= n) (h1 : n < S.safe.length) (hl : l.length = 512) (hb : bytesAt w ad l) :
  Calls Tryz.prog 130 #[.pointer (some ⟨d.p, 0, none⟩), .int .i64 n, .slice (some ad) 512 c] w fun e w' => e = .returned (.int .i64 0) /\
   ∃ d', DiskIn w' d' (S.wrote n ⟨l.toArray⟩) /\ d'.p = d.p /\ d'.fv = d.fv /\ (∀ i, d'.foot (S.wrote n ⟨l.toArray⟩).waits i -> d.cutFoot S.waits i \/ w.heap.size <= i) /\ Keeps (d.cutFoot S.waits) w w' := by
 have hcv := run_convert_bytes_back (P := Tryz.prog) w 42 124 5 ad c l Tryz.underlying42 Tryz.underlying5 Tryz.underlying124 hb
 rw [hl] at hcv
 have c2 : w.cell? ⟨d.p, 2, none⟩ = some (.slice (some ⟨d.L.g, 0, none⟩) S.safe.length d.L.cap) := by rw [cell_of_block h.rd.heap]; rfl
 have HD := hid (decide_eq_true (And.intro h0 h1))
 have HC2 := hid c2
 have hn := note_cut d S (.write n ⟨l.toArray⟩) w h hB ⟨h0, by rw [h.flen]; exact h1, by show l.toArray.size = 512; simpa using hl⟩
 simp only [encOp, doOp] at hn
 have HN := hid hn
 clear hb hl h c2 hn
 generalize hs : (⟨l.toArray⟩ : ByteArray) = s at *
 clear hs
 go_enter Tryz.func130, Tryz.ntmps130
 go_wp2_with fail
 refine (has_any d.p 2 _ _ _ _ _ HC2.out).mono ?_
 rintro e w9 ⟨rfl, h9⟩
 obtain rfl := h9.symm
 rw [HD.out]
 go_wp2_with fail
 refine HN.out.mono ?_
 rintro e w1 ⟨rfl, hq⟩
 have HQ := hid hq
 clear hq
 go_wp2
 go_ret
 exact ⟨rfl, HQ.out⟩
def AnyIn (B : Nat) (w : World) (d : DL) (S : DiskS) : Prop := (CutIn w d S /\ ∀ i, d.cutFoot S.waits i -> B <= i) \/ (DiskIn w d S /\ ∀ i, d.foot S.waits i -> B <= i)
theorem AnyIn.rd {B : Nat} {w : World} {d : DL} {S : DiskS} (h : AnyIn B w d S) : DiskRd w d S := by
 rcases h with h | h
 ·exact h.1.rd
 ·exact h.1.rd
theorem AnyIn.below {B : Nat} {w w' : World} {d : DL} {S : DiskS} (h : AnyIn B w d S) (k : Below w.heap.size w w') : AnyIn B w' d S := by
 rcases h with h | h
 ·exact .inl ⟨h.1.below k, h.2⟩
 ·exact .inr ⟨h.1.below k, h.2⟩
end
section
open Go.RowKit Go.Maps
structure CopyIn (w : World) (lo : Nat) (L : PL) (safe : List ByteArray) (ws : Int -> List ByteArray) (B : Nat) : Prop where
 safeRow : w.ownsRow lo 124 1 (.slice (some ⟨L.g, 0, none⟩) safe.length L.cap) safe.length (strs safe)
 mapLo : lo <= L.m
 mapOwn : w.ownsMap Tryz.prog 3 selfElem L.m B L.D
 absent : ∀ n, ws n = [] -> Maps.has L.D (.int .i64 n) = false
 there : ∀ n, ws n ≠ [] -> Maps.has L.D (.int .i64 n) = true
 held : ∀ n, ws n ≠ [] -> ∀ z, L.D.atKey (.int .i64 n) z = .held (.slice (some ⟨L.row n, 0, none⟩) (ws n).length (L.rcap n))
 rows : ∀ n, ws n ≠ [] -> w.ownsRow lo 124 1 (.slice (some ⟨L.row n, 0, none⟩) (ws n).length (L.rcap n)) (ws n).length (strs (ws n))
 off : ∀ n, ws n ≠ [] -> L.row n ≠ L.g
 apart : ∀ n n', ws n ≠ [] -> ws n' ≠ [] -> L.row n = L.row n' -> n = n'
theorem row_lo {w : World} {lo : Nat} {e : TypeId} {g n cap : Nat} {xs : List Value} (h : w.ownsRow lo e 1 (.slice (some ⟨g, 0, none⟩) n cap) n xs) : lo <= g /\ g < w.heap.size := h.lt g rfl
theorem CopyIn.foot_block {w : World} {lo : Nat} {L : PL} {safe : List ByteArray} {ws : Int -> List ByteArray} {B : Nat} (h : CopyIn w lo L safe ws B) {i : Nat} (hi : L.foot ws i) : (∃ cur, w.heap[i]? = some (.cells cur 124 (0, 0))) \/ ∃ es c, w.heap[i]? = some (.map es c) := by
 rcases hi with rfl | rfl | ⟨n, hn, rfl⟩
 ·obtain ⟨cur, hc, _⟩ := row_block h.safeRow; exact .inl ⟨cur, hc⟩
 ·obtain ⟨es, c, hm⟩ := map_block h.mapOwn; exact .inr ⟨es, c, hm⟩
 ·obtain ⟨cur, hc, _⟩ := row_block (h.rows n hn); exact .inl ⟨cur, hc⟩
theorem CopyIn.keep {w w' : World} {lo : Nat} {L : PL} {safe : List ByteArray} {ws : Int -> List ByteArray} {B : Nat} (h : CopyIn w lo L safe ws B) {G : Nat -> Prop} (k : Keeps G w w') (hG : ∀ i, L.foot ws i -> ¬ G i) : CopyIn w' lo L safe ws B where
 safeRow := k.row h.safeRow (fun i hi => hG i (.inl (Option.some.inj hi).symm))
 mapLo := h.mapLo
 mapOwn := k.map h.mapOwn (hG _ (.inr (.inl rfl)))
 absent := h.absent
 there := h.there
 held := h.held
 rows := fun n hn => k.row (h.rows n hn) (fun i hi => hG i (.inr (.inr ⟨n, hn, (Option.some.inj hi).symm⟩)))
 off := h.off
 apart := h.apart
theorem CopyIn.put {w w1 w2 : World} {lo : Nat} {L : PL} {safe : List ByteArray} {ws : Int -> List ByteArray} {B : Nat} (h : CopyIn w lo L safe ws B) {n : Int} {xs : List ByteArray} {g cap : Nat} (hx : xs ≠ []) (hB : Below w.heap.size w w1) (hg : w.heap.size <= g) (hlo : lo <= w.heap.size)
  (hown : w1.ownsRow w.heap.size 124 1 (.slice (some ⟨g, 0, none⟩) xs.length cap) xs.length (strs xs))
  (hmap : w2.ownsMap Tryz.prog 3 selfElem L.m (B + 1) (L.D.put (.int .i64 n) (.held (.slice (some ⟨g, 0, none⟩) xs.length cap)))) (hgr : w1.grownBy w2 (some L.m)) :
  CopyIn w2 lo { L with D := L.D.put (.int .i64 n) (.held (.slice (some ⟨g, 0, none⟩) xs.length cap)), row := fun k => if k = n then g else L.row k, rcap := fun k => if k = n then cap else L.rcap k } safe (upd ws n xs) (B + 1) := by
 have K2 : Keeps (fun i => i = L.m) w w2 := (Keeps.of_below hB).grown hgr (fun i e => .inl (Option.some.inj e).symm)
 obtain ⟨es, mc, hmb⟩ := map_block h.mapOwn
 have hmlt := lt_of_heap hmb
 have hrm : ∀ k, ws k ≠ [] -> L.row k ≠ L.m := fun k hk e => by
  obtain ⟨c, hc, _⟩ := row_block (h.rows k hk)
  rw [e, hmb] at hc; cases hc
 have hgm : L.g ≠ L.m := fun e => by
  obtain ⟨c, hc, _⟩ := row_block h.safeRow
  rw [e, hmb] at hc; cases hc
 refine ⟨?_, h.mapLo, hmap, ?_, ?_, ?_, ?_, ?_, ?_⟩
 ·exact K2.row h.safeRow (fun i hi e => hgm (by
   have e1 : L.g = i := Option.some.inj hi
   have e2 : i = L.m := e
   rw [e1, e2]))
 ·intro k hk
  by_cases hkn : k = n
  ·subst hkn; rw [upd_same] at hk; exact absurd hk hx
  ·rw [upd_other _ _ hkn] at hk
   rw [has_put_other (by simpa using hkn)]; exact h.absent k hk
 ·intro k hk
  by_cases hkn : k = n
  ·subst hkn; exact has_put_same h.mapOwn.isMap (keyLit_i64 _) _
  ·rw [upd_other _ _ hkn] at hk
   rw [has_put_other (by simpa using hkn)]; exact h.there k hk
 ·intro k hk z
  by_cases hkn : k = n
  ·subst hkn
   rw [atKey_put_same h.mapOwn.isMap (keyLit_i64 _)]
   simp [upd_same]
  ·rw [upd_other _ _ hkn] at hk
   rw [atKey_put_other (by simpa using hkn), h.held k hk]
   simp [upd_other _ _ hkn, hkn]
 ·intro k hk
  by_cases hkn : k = n
  ·subst hkn
   simp only [upd_same, if_true]
   exact (hown.mono hlo).kept hgr (.inr (fun e => by
    have e2 : g = L.m := Option.some.inj e
    omega))
  ·rw [upd_other _ _ hkn] at hk
   simp only [upd_other _ _ hkn, hkn, if_false]
   exact K2.row (h.rows k hk) (fun i hi e => hrm k hk (by
    have e1 : L.row k = i := Option.some.inj hi
    have e2 : i = L.m := e
    rw [e1, e2]))
 ·intro k hk
  by_cases hkn : k = n
  ·subst hkn
   have := (row_lo h.safeRow).2
   simp only [if_true]; omega
  ·rw [upd_other _ _ hkn] at hk
   simpa [hkn] using h.off k hk
 ·intro k k' hk hk' e
  by_cases hkn : k = n
  ·by_cases hkn' : k' = n
   ·rw [hkn, hkn']
   ·rw [upd_other _ _ hkn'] at hk'
    simp only [hkn, hkn', if_true, if_false] at e
    have := (row_lo (h.rows k' hk')).2
    omega
  ·by_cases hkn' : k' = n
   ·rw [upd_other _ _ hkn] at hk
    simp only [hkn, hkn', if_true, if_false] at e
    have := (row_lo (h.rows k hk)).2
    omega
   ·rw [upd_other _ _ hkn] at hk
    rw [upd_other _ _ hkn'] at hk'
    simp only [hkn, hkn', if_false] at e
    exact h.apart k k' hk hk' e
theorem CopyIn.done {w : World} {lo : Nat} {L : PL} {safe : List ByteArray} {ws : Int -> List ByteArray} {B B' : Nat} (h : CopyIn w lo L safe ws B) (hB : B <= B') (hl : ∀ n, (ws n).length <= B') (hd : ∀ n, ws n ≠ [] -> 0 <= n /\ n < safe.length) (hp : 0 < safe.length) (hm : safe.length <= 4096) :
  PlatesIn w L safe ws B' /\ ∀ i, L.foot ws i -> lo <= i := by
 refine ⟨⟨h.safeRow.mono (Nat.zero_le _), ?_, h.absent, h.there, h.held, fun n hn => (h.rows n hn).mono (Nat.zero_le _), h.off, h.apart, hl, hd, hp, hm⟩, ?_⟩
 ·obtain ⟨es, c, h1, h2, h3, h4⟩ := h.mapOwn
  exact ⟨es, c, h1, h2, Nat.le_trans h3 hB, h4⟩
 ·rintro i (rfl | rfl | ⟨n, hn, rfl⟩)
  ·exact (row_lo h.safeRow).1
  ·exact h.mapLo
  ·exact (row_lo (h.rows n hn)).1
def cameS (waits : Int -> List ByteArray) (left : Lit -> Bool) (n : Int) : List ByteArray := if left (.int .i64 n) then [] else waits n
theorem came_step (waits : Int -> List ByteArray) (left : Lit -> Bool) (x : Int) (hx : left (.int .i64 x) = true) : cameS waits (fun z => left z && !z.sameKey (.int .i64 x)) = upd (cameS waits left) x (waits x) := by
 funext n
 unfold cameS upd
 by_cases e : n = x
 ·subst e
  simp [Lit.sameKey]
 ·have : (Lit.int .i64 n).sameKey (.int .i64 x) = false := by simp [Lit.sameKey, e]
  simp [this, e]
theorem came_start {w : World} {L : PL} {safe : List ByteArray} {waits : Int -> List ByteArray} {B : Nat} (h : PlatesIn w L safe waits B) : cameS waits (Maps.has L.D) = fun _ => [] := by
 funext n
 unfold cameS
 by_cases hn : waits n = []
 ·rw [h.absent n hn]; simp [hn]
 ·rw [h.there n hn]; rfl
theorem came_end (waits : Int -> List ByteArray) (left : Lit -> Bool) (h : ∀ kl, left kl = false) : cameS waits left = waits := by
 funext n
 simp [cameS, h]
theorem ranges_le {w : World} {m r B cnt : Nat} {D : DataW Value} {left : Lit -> Bool} (h : w.ranges Tryz.prog 3 selfElem m r B D left cnt) : cnt <= B := by
 obtain ⟨es, clock, since, seen, c0, _, _, hs, _, _, _, hc, _⟩ := h
 have : (leftOf es seen).size <= es.size := by unfold leftOf; exact Array.size_filter_le
 omega
theorem below_grown {w w' : World} (h : Below w.heap.size w w') : w.grownBy w' none := ⟨h.os, h.tape, h.output, h.size, fun k hk _ => h.block k hk⟩
theorem ranges_iter {w : World} {m r B cnt : Nat} {D : DataW Value} {left : Lit -> Bool} (h : w.ranges Tryz.prog 3 selfElem m r B D left cnt) : ∃ a b c d, w.heap[r]? = some (.mapIter a b c d) := by
 obtain ⟨es, clock, since, seen, c0, _, _, _, _, hr, _⟩ := h
 exact ⟨_, _, _, _, hr⟩
theorem copied_any (p : Nat) (fv ov : Value) (L : PL) (safe : List ByteArray) (waits : Int -> List ByteArray) (B : Nat) (w : World)
  (hp : w.heap[p]? = some (.cells #[fv, ov, .slice (some ⟨L.g, 0, none⟩) safe.length L.cap, .map (some L.m)] 196 (0, 0))) (h : PlatesIn w L safe waits B) (hB4 : B <= 4096) :
  Calls Tryz.prog 123 #[.pointer (some ⟨p, 2, none⟩)] w fun e w' => ∃ L', e = .returned (.agg #[.slice (some ⟨L'.g, 0, none⟩) safe.length L'.cap, .map (some L'.m)]) /\ PlatesIn w' L' safe waits B /\ (∀ i, L'.foot waits i -> w.heap.size <= i) /\ Below w.heap.size w w' := by
 have c2 : w.cell? ⟨p, 2, none⟩ = some (.slice (some ⟨L.g, 0, none⟩) safe.length L.cap) := by rw [cell_of_block hp]; rfl
 have c3 : w.cell? ⟨p, 3, none⟩ = some (.map (some L.m)) := by rw [cell_of_block hp]; rfl
 have HP := hid hp
 have H := hid h
 have hplt := lt_of_heap hp
 have HF := hid (flushed_any (strs safe) ⟨L.g, 0, none⟩ L.cap (by simpa using h.pos) (by simpa using h.most) (strs_one _) (w.alloc (.cells #[.slice none 0 0, .map none] 192)) (fun j u hu => by
  have hj : j < safe.length := by simpa using (List.getElem?_eq_some_iff.1 hu).1
  rw [Addr.add_mid, Nat.zero_add, World.cell?_alloc_lt _ _ _ (h.foot_lt (.inl rfl)), h.safeRow.cellAt j (by omega)]; exact hu))
 rw [show (strs safe).length = safe.length by simp] at HF
 clear hp h
 go_enter Tryz.func123, Tryz.ntmps123
 go_wp2_with fail
 refine HF.out.mono ?_
 clear HF
 rintro e w1 ⟨g, cap, m, rfl, hm, hmb, hown, hB⟩
 have hb0 := below_block hB (block_new w (.cells #[.slice none 0 0, .map none] 192)) (by simp)
 have HB0 := hid hb0
 have HOW := hid hown
 have HMB := hid hmb
 have HBB := hid hB
 have hz0 : (w.alloc (.cells #[.slice none 0 0, .map none] 192)).heap.size = w.heap.size + 1 := by simp
 rw [hz0] at hm HOW HBB
 have HBw : Hid (Below w.heap.size w w1) := ((Below.refl w.heap.size w).alloc (Nat.le_refl _) (.cells #[.slice none 0 0, .map none] 192)).trans (HBB.out.mono (by omega))
 clear hb0 hown hB hmb hz0
 have hpw1 : p < w1.heap.size := Nat.lt_of_lt_of_le hplt HBw.out.size
 have c3a : (w1.alloc (.cells #[.slice (some ⟨g, 0, none⟩) safe.length cap, .map (some m)] 192)).cell? ⟨p, 3, none⟩ = some (.map (some L.m)) := by
  rw [World.cell?_alloc_lt _ _ _ hpw1, HBw.out.cell (p := ⟨p, 3, none⟩) hplt]; exact c3
 have HBa : Hid (Below w.heap.size w (w1.alloc (.cells #[.slice (some ⟨g, 0, none⟩) safe.length cap, .map (some m)] 192))) := HBw.out.alloc HBw.out.size _
 have HPa := hid (H.out.keep (G := fun _ => False) (Keeps.of_below HBa.out) (fun _ _ e => e))
 have hbc := block_new w1 (.cells #[.slice (some ⟨g, 0, none⟩) safe.length cap, .map (some m)] 192)
 have HBc := hid hbc
 have HMa := hid (block_alloc HMB.out (.cells #[.slice (some ⟨g, 0, none⟩) safe.length cap, .map (some m)] 192))
 have HOa := hid (HOW.out.alloc (.cells #[.slice (some ⟨g, 0, none⟩) safe.length cap, .map (some m)] 192))
 have hza : (w1.alloc (.cells #[.slice (some ⟨g, 0, none⟩) safe.length cap, .map (some m)] 192)).heap.size = w1.heap.size + 1 := by simp
 have HZa := hid hza
 have hw01 := HBw.out.size
 have HRa := hid (block_alloc HB0.out (.cells #[.slice (some ⟨g, 0, none⟩) safe.length cap, .map (some m)] 192))
 have hriw : w.heap.size <= (w1.alloc (.cells #[.slice (some ⟨g, 0, none⟩) safe.length cap, .map (some m)] 192)).heap.size := by rw [hza]; omega
 clear hbc hza HOW HMB HB0 HBB HZa
 generalize hWa : w1.alloc (.cells #[.slice (some ⟨g, 0, none⟩) safe.length cap, .map (some m)] 192) = wa at *
 go_wp2_with (first
  | (at_range; refine wpList_range_own _ rfl (.tmp 14) 190 rfl 3 127 (int_keyed Tryz.underlying3) Tryz.underlying190 selfElem L.m B L.D rfl HPa.out.mapOwn ?_; intro w0 hrg0 hg0 hs0)
  | go_in)
 go_frame
 have hBg : Below wa.heap.size wa w0 := ⟨hg0.os, hg0.tape, hg0.output, hg0.size, fun k hk => hg0.block k hk (by simp)⟩
 have HB0 : Hid (Below w.heap.size w w0) := HBa.out.trans (hBg.mono HBa.out.size)
 have HPl0 := hid (H.out.keep (G := fun _ => False) (Keeps.of_below HB0.out) (fun _ _ e => e))
 have HRg0 := hid hrg0
 have HLe0 := hid (ranges_le hrg0)
 have HCp0 : Hid (CopyIn w0 (w.heap.size + 1) ⟨g, cap, m, .map [], fun _ => 0, fun _ => 0⟩ safe (cameS waits (Maps.has L.D)) 0) := by
  show CopyIn _ _ _ _ _ _
  rw [came_start H.out]
  have hmm := below_block hBg HMa.out (lt_of_heap HMa.out)
  have hrr := (Keeps.of_below (F := fun _ => False) hBg).row HOa.out (fun _ _ e => e)
  exact ⟨hrr, hm, map_empty hmm, fun _ _ => rfl, fun n hn => absurd rfl hn, fun n hn => absurd rfl hn, fun n hn => absurd rfl hn, fun n hn => absurd rfl hn, fun n n' hn => absurd rfl hn⟩
 have HBc0 := hid (below_block hBg HBc.out (lt_of_heap HBc.out))
 have HRc0 := hid (below_block hBg HRa.out (lt_of_heap HRa.out))
 clear hrg0 hg0 hs0 hBg HBa HPa HMa HOa HBc HBw HRa
 have HWt := hid (fun n (hn : waits n ≠ []) => H.out.held n hn)
 have HHas : Hid (∀ x, Maps.has L.D (.int .i64 x) = true -> waits x ≠ []) := fun x hx e => by rw [H.out.absent x e] at hx; cases hx
 have HDom := hid H.out.dom
 have HMost := hid H.out.most
 have HLen := hid H.out.len
 have HPos := hid H.out.pos
 have HFl := hid (fun i hi => H.out.foot_lt (i := i) hi)
 generalize hri : wa.heap.size = ri at *
 clear hri hWa
 clear H
 go_loopw [4, 5] (fun _ _ wr => ∃ (left : Lit -> Bool) (cnt : Nat) (L' : PL) (B1 : Nat), B1 + cnt <= B /\ Hid (L'.g = g /\ L'.cap = cap /\ L'.m = m) /\ Hid (wr.ranges Tryz.prog 3 selfElem L.m ri B L.D left cnt) /\ Hid (PlatesIn wr L safe waits B) /\ Hid (CopyIn wr (w.heap.size + 1) L' safe (cameS waits left) B1) /\
  Hid (wr.heap[w1.heap.size]? = some (.cells #[.slice (some ⟨g, 0, none⟩) safe.length cap, .map (some m)] 192 (0, 0))) /\ Hid (wr.heap[w.heap.size]? = some (.cells #[.slice none 0 0, .map none] 192 (0, 0))) /\ Hid (Below w.heap.size w wr)) (fun _ _ wr => wr.rangeLeft L.m ri)
 case atStart => exact ⟨_, _, _, 0, by have := HLe0.out; omega, ⟨rfl, rfl, rfl⟩, HRg0, HPl0, HCp0, HBc0, HRc0, HB0⟩
 case round =>
  obtain ⟨left, cnt, L', B1, hBc, hE, hrg, hPl, hCp, hbc, hrc, hBr⟩ := hrel
  clear HRg0 HPl0 HCp0 HBc0 HB0 HLe0 HRc0
  go_wp2_with (first
   | (at_next; refine wpList_next_ranges _ rfl (.tmp 15) rfl 3 (int_keyed Tryz.underlying3) selfElem encZ id (fun key kl hk => by obtain ⟨x, hx, _⟩ := Maps.keyOf_i64 Tryz.underlying3 hk; exact ⟨x, hx⟩) (fun v _ _ => ⟨v, rfl⟩) L.m ri B _ _ _ rfl hrg.out ?_ ?_)
   | go_in)
  ·-- nothing is left
   intro hc0 hl0
   have HD := hid (hCp.out.done (B' := B) (by omega) (by rw [came_end waits left hl0]; exact HLen.out) (by rw [came_end waits left hl0]; exact HDom.out) HPos.out HMost.out)
   rw [came_end waits left hl0] at HD
   have cp0 : wr.cell? ⟨w1.heap.size, 0, none⟩ = some (.slice (some ⟨g, 0, none⟩) safe.length cap) := cell_of_block hbc.out 0
   have cp1 : wr.cell? ⟨w1.heap.size, 1, none⟩ = some (.map (some m)) := cell_of_block hbc.out 1
   clear hc0 hl0 hrg hPl hCp
   go_wp2_with (refine wpList_store_block rfl 192 (.tmp 2) (.tmp 26) rfl w.heap.size #[.slice (some ⟨g, 0, none⟩) safe.length cap, .map (some m)] rfl rfl _ 192 hrc.out rfl info63 (by simp [Value.oneCell']) ?_; intro w9 hg9 hb9 hz9)
   refine bodyPost_ret (results_cell Tryz.results123 _ _ rfl hb9 _ Tryz.underlying192 rfl info63) rfl ⟨L', ?_, ?_, ?_, ?_⟩
   ·rw [hE.out.1, hE.out.2.1, hE.out.2.2]
   ·refine HD.out.1.keep (Keeps.of_grown hg9 (fun i e => e)) (fun i hi e => ?_)
    have := HD.out.2 i hi
    have := Option.some.inj e
    omega
   ·exact fun i hi => Nat.le_trans (Nat.le_succ _) (HD.out.2 i hi)
   ·exact hBr.out.trans (below_of_grown hg9 (Nat.le_refl _) hBr.out.size)
  ·-- a sector has come
   intro x c kl yd yp w2 cnt2 hkey hlk hv hat hrg2 hlt hg2 hs2 hen
   obtain ⟨x', ex, rfl, _⟩ := Maps.keyOf_i64 Tryz.underlying3 hkey
   obtain rfl : x = x' := encZ_inj ex
   have hne : waits x ≠ [] := HHas.out x (has_true_of_atKey hat)
   obtain ⟨hx0, hx1⟩ := HDom.out x hne
   have hcv : c = .slice (some ⟨L.row x, 0, none⟩) (waits x).length (L.rcap x) := by
    have e1 := selfElem_inv hv
    have e2 := hat (.held c)
    rw [HWt.out x hne] at e2
    rw [e1] at e2
    exact (DataW.held.inj e2).symm
   subst hcv
   obtain ⟨ia, ib, ic, id', hit⟩ := ranges_iter hrg.out
   have hKn : Keeps (fun i => i = ri) wr w2 := Keeps.of_grown hg2 (fun i e => (Option.some.inj e).symm)
   have hPl2 : PlatesIn w2 L safe waits B := hPl.out.keep hKn (fun i hi e => by
    have e2 : i = ri := e
    rcases hPl.out.foot_block hi with ⟨_, h1⟩ | ⟨_, _, h1⟩ <;> (rw [e2, hit] at h1; cases h1))
   have hCp2 : CopyIn w2 (w.heap.size + 1) L' safe (cameS waits left) B1 := hCp.out.keep hKn (fun i hi e => by
    have e2 : i = ri := e
    rcases hCp.out.foot_block hi with ⟨_, h1⟩ | ⟨_, _, h1⟩ <;> (rw [e2, hit] at h1; cases h1))
   have hbc2 := hKn.heap hbc.out (fun e => by
    have e2 : w1.heap.size = ri := e
    have := hbc.out
    rw [e2, hit] at this; cases this)
   have hrc2 := hKn.heap hrc.out (fun e => by
    have e2 : w.heap.size = ri := e
    have := hrc.out
    rw [e2, hit] at this; cases this)
   have hB2 : Below w.heap.size w w2 := hBr.out.trans (hKn.below hBr.out.size (fun i e => by rw [show i = ri from e]; exact hriw))
   have hrow := hPl2.rows x hne
   have hlen4 : (waits x).length <= 4096 := Nat.le_trans (HLen.out x) hB4
   have hpos : 0 < (waits x).length := List.length_pos_iff.2 hne
   have hcl := clone_any (strs (waits x)) ⟨L.row x, 0, none⟩ (L.rcap x) (by simpa using hpos) (by simpa using hlen4) (strs_one _) w2.drew (fun j u hu => by
    have hj : j < (waits x).length := by simpa using (List.getElem?_eq_some_iff.1 hu).1
    rw [Addr.add_mid, Nat.zero_add]
    exact (hrow.cellAt j (by omega)).trans hu)
   rw [show (strs (waits x)).length = (waits x).length by simp] at hcl
   have HCl := hid hcl
   have HStep := hid (came_step waits left x hlk)
   have cpc : w2.cell? ⟨w1.heap.size, 1, none⟩ = some (.map (some m)) := cell_of_block hbc2 1
   have HPl2 := hid hPl2
   have Hrc2 := hid hrc2
   have HCp2 := hid hCp2
   have Hbc2 := hid hbc2
   have HB2 := hid hB2
   have HRg := hid hrg2
   have HLt : Hid (cnt2 < cnt) := hlt
   have hmost := HMost.out
   clear hcl hPl2 hCp2 hbc2 hB2 hrg2 hrow hkey hlk hv hat hlt hs2 hg2 hit hKn ex hPl hCp hbc hrc hrc2
   go_wp2
   refine wp_region_noPanic ?_
   refine wp_region_held_drew (S := fun W => W.cell? ⟨w1.heap.size, 1, none⟩ = some (.map (some m))) (by kernel_rfl) cpc (fun hHeld => ?_)
   refine tq 0 _ ?_
   try simp only [tS]
   refine tq 1 _ ?_
   try simp only [tS]
   refine tq 2 _ ?_
   try simp only [tS]
   refine tq 3 _ ?_
   try simp only [tS]
   refine wpAnyH_ready (rs := [4]) (by kernel_rfl) (by simp) (AllReadyH.cons rfl (fun K hK => ?_) AllReadyH.nil)
   rw [if_pos (by rfl)]
   go_simp
   refine HCl.out.mono ?_
   clear HCl
   rintro e w5 ⟨g5, cap5, rfl, hown5, hB5⟩
   have hB5' := below_undrew hB5
   have hsz2 := hB5'.size
   have hg5 : w2.heap.size <= g5 := (hown5.lt g5 rfl).1
   have hpcl := lt_of_heap Hbc2.out
   have cpc5 := (hB5'.cell (p := ⟨w1.heap.size, 1, none⟩) hpcl).trans cpc
   have hmo5 : w5.ownsMap Tryz.prog 3 selfElem m B1 L'.D := by
    have := (Keeps.of_below (F := fun _ => False) hB5').map HCp2.out.mapOwn (fun e => e)
    rwa [hE.out.2.2] at this
   have HMo := hid hmo5
   have HB5 := hid hB5'
   have HO5 := hid hown5
   clear hB5 hB5' hown5 hmo5
   go_wp2_with fail
   refine hK.out _ _ cpc5 (fun hHeld => ?_)
   clear hK K
   try simp only [tS]
   refine wpAnyH_ready (rs := [5]) (by kernel_rfl) (by simp) (AllReadyH.cons rfl (fun K hK => ?_) AllReadyH.nil)
   rw [if_pos (by rfl)]
   refine wp_mapUpdate_self (.tmp 22) (.tmp 23) (.tmp 25) 190 rfl 3 127 (int_keyed Tryz.underlying3) Tryz.underlying190 m B1 L'.D rfl HMo.out (by unfold maxLen; omega) (.int .i64 x) (.slice (some ⟨g5, 0, none⟩) (waits x).length cap5) (.int .i64 x) rfl rfl (keyI (by omega) (by omega)) ?_
   intro w6 hown6 hgr6
   have hK6 : Keeps (fun i => i = m) w2 w6 := (Keeps.of_below HB5.out).grown hgr6 (fun i e => .inl (Option.some.inj e).symm)
   obtain ⟨mes, mcl, hmb⟩ := map_block HMo.out
   have hmw : w.heap.size <= m := by omega
   have HCp6 := hid (HCp2.out.put (n := x) hne HB5.out hg5 (by omega) HO5.out (by rw [hE.out.2.2]; exact hown6) (by rw [hE.out.2.2]; exact hgr6))
   rw [<- HStep.out] at HCp6
   have HPl6 := hid (HPl2.out.keep hK6 (fun i hi e => by
    have := HFl.out i hi
    have e2 : i = m := e
    omega))
   have HLm : Hid (L.m < w.heap.size) := HFl.out _ (.inr (.inl rfl))
   have HRg5 := hid (HRg.out.kept (below_grown HB5.out) (by simp) (by simp))
   obtain ⟨ia, ib, ic, id', hit⟩ := ranges_iter HRg5.out
   have HRg6 := hid (HRg5.out.kept hgr6 (fun e => by have := HLm.out; have := Option.some.inj e; omega) (fun e => by
    have e2 := Option.some.inj e
    rw [e2, hmb] at hit; cases hit))
   have hbc6 := hK6.heap Hbc2.out (fun e => by
    have e2 : w1.heap.size = m := e
    have h5 := below_block HB5.out Hbc2.out hpcl
    rw [e2, hmb] at h5; cases h5)
   have hrc6 := hK6.heap Hrc2.out (fun e => by
    have e2 : w.heap.size = m := e
    have h5 := below_block HB5.out Hrc2.out (lt_of_heap Hrc2.out)
    rw [e2, hmb] at h5; cases h5)
   have HB6 := hid (HB2.out.trans (hK6.below HB2.out.size (fun i e => by rw [show i = m from e]; exact hmw)))
   have Hbc6 := hid hbc6
   have Hrc6 := hid hrc6
   have cpc6 : w6.cell? ⟨w1.heap.size, 1, none⟩ = some (.map (some m)) := cell_of_block hbc6 1
   clear hown6 hgr6 hK6 hmb hit hbc6 hrc6 HMo HB5 HO5 HPl2 HCp2 Hbc2 Hrc2 HRg HRg5 HB2
   refine hK.out _ _ cpc6 (fun hHeld => ?_)
   clear hK K
   try simp only [List.getElem_toArray, List.getElem_cons_succ, List.getElem_cons_zero, Act.put]
   refine wpAnyH_done (by kernel_rfl) ?_ _
   refine NoPanic.normal ?_
   clear hHeld cpc6 cpc5 cpc
   go_wp2
   refine ⟨⟨_, cnt2, { L' with D := L'.D.put (.int .i64 x) (.held (.slice (some ⟨g5, 0, none⟩) (waits x).length cap5)), row := fun k => if k = x then g5 else L'.row k, rcap := fun k => if k = x then cap5 else L'.rcap k }, B1 + 1, by have := HLt.out; omega, hE, HRg6, HPl6, HCp6, Hbc6, Hrc6, HB6⟩, ?_⟩
   have h1 : w6.rangeLeft L.m ri = cnt2 := HRg6.out.left_eq
   rw [h1, hrg.out.left_eq]
   exact HLt.out
end
section
open Go.RowKit Go.Maps
theorem fork_disk_fv (d : DL) (S : DiskS) (w : World) (h : DiskIn w d S) (hB : S.ops.length <= 4096) :
  Calls Tryz.prog 72 #[.pointer (some ⟨d.p, 0, none⟩)] w fun e w' => Below w.heap.size w w' /\ ∃ d', e = .returned (.pointer (some ⟨d'.p, 0, none⟩)) /\ CutIn w' d' S /\ (∀ i, d'.cutFoot S.waits i -> w.heap.size <= i) /\ d'.fv = d.fv := by
 obtain ⟨ad, fc, hfv, hfc, hfn⟩ := h.first
 obtain ⟨oa, oc, hov, hoa, hocc⟩ : ∃ oa oc, d.ov = .slice oa S.ops.length oc /\ ((oa = none /\ oc = 0 /\ S.ops.length = 0) \/ ∃ g, oa = some ⟨g, 0, none⟩ /\ S.ops.length <= oc /\ g < w.heap.size) /\ ∀ b, oa = some b -> ∀ j u, (S.ops.map encOp)[j]? = some u -> w.cell? (b.add j) = some u := by
  rcases h.ops.2 with ⟨e1, e2⟩ | ⟨g, cap, cur, e1, e2, e3, e4, e5⟩
  ·exact ⟨none, 0, by rw [e1, e2], .inl ⟨rfl, rfl, e2⟩, fun b e => by cases e⟩
  ·have ho := h.ops
   rw [e1] at ho
   refine ⟨some ⟨g, 0, none⟩, cap, e1, .inr ⟨g, rfl, e4, lt_of_heap e3⟩, fun b e j u hu => ?_⟩
   obtain rfl := Option.some.inj e
   have hj : j < S.ops.length := by simpa using (List.getElem?_eq_some_iff.1 hu).1
   rw [Addr.add_mid, Nat.zero_add, ho.cellAt j (by omega)]
   exact hu
 have c0 : w.cell? ⟨d.p, 0, none⟩ = some (.slice (some ad) S.first.length fc) := by rw [cell_of_block h.heap, <- hfv]; rfl
 have c1 : w.cell? ⟨d.p, 1, none⟩ = some (.slice oa S.ops.length oc) := by rw [cell_of_block h.heap, <- hov]; rfl
 have HNt : Hid (∀ W : World, Below w.heap.size w W -> Calls Tryz.prog 122 #[.pointer (some ⟨d.p, 0, none⟩), .int .i64 S.ops.length] W fun e w' => e = .returned (.slice oa S.ops.length S.ops.length) /\ w' = W) := fun W hW => by
  have cw := (hW.cell (p := ⟨d.p, 1, none⟩) (World.block_lt_of_cell? w _ c1)).trans c1
  rcases hoa with ⟨rfl, rfl, e⟩ | ⟨g, rfl, e, -⟩
  ·rw [e] at cw ⊢
   exact noted_none d.p W cw
  ·exact noted_some d.p ⟨g, 0, none⟩ S.ops.length oc S.ops.length W cw (Nat.le_refl _) e
 have HCp := hid (fun W (hW : Below w.heap.size w W) => copied_any d.p d.fv d.ov d.L S.safe S.waits S.ops.length W (h.below hW).heap (h.below hW).plates hB)
 have H := hid h
 have hFl := h.flen
 have HFl := hid hFl
 have HFC := hid (And.intro hfc hfn)
 have HOc := hid hocc
 have HOa := hid hoa
 clear h hFl hfc hfn hocc hoa
 go_enter Tryz.func72, Tryz.ntmps72
 go_wp2
 refine wp_region_noPanic ?_
 refine wp_region_held_drew (S := fun W => W.cell? ⟨d.p, 0, none⟩ = some (.slice (some ad) S.first.length fc) /\ W.cell? ⟨d.p, 1, none⟩ = some (.slice oa S.ops.length oc)) (by kernel_rfl) ⟨c0, c1⟩ (fun hHeld => ?_)
 refine tq 0 _ ?_
 try simp only [tS]
 refine tq 1 _ ?_
 try simp only [tS]
 refine tq 2 _ ?_
 try simp only [tS]
 refine tq 3 _ ?_
 try simp only [tS]
 refine tq 4 _ ?_
 try simp only [tS]
 refine tq 5 _ ?_
 try simp only [tS]
 refine tq 6 _ ?_
 try simp only [tS]
 refine tq 7 _ ?_
 try simp only [tS]
 refine tq 8 _ ?_
 try simp only [tS]
 refine tq 9 _ ?_
 try simp only [tS]
 refine tq 11 _ ?_
 try simp only [tS]
 refine tq 12 _ ?_
 try simp only [tS]
 refine tq 13 _ ?_
 try simp only [tS]
 refine wpAnyH_ready (rs := [10]) (by kernel_rfl) (by simp) (AllReadyH.cons rfl (fun K hK => ?_) AllReadyH.nil)
 rw [if_pos (by rfl)]
 go_simp
 refine (HNt.out w.drew (Below.refl _ _).drew).mono ?_
 clear HNt
 rintro e w9 ⟨rfl, h9⟩
 subst h9
 go_wp2_with fail
 refine hK.out _ _ ⟨c0, c1⟩ (fun hHeld => ?_)
 clear hK K
 try simp only [tS]
 refine wpAnyH_ready (rs := [14]) (by kernel_rfl) (by simp) (AllReadyH.cons rfl (fun K hK => ?_) AllReadyH.nil)
 rw [if_pos (by rfl)]
 go_simp
 refine (HCp.out w.drew (Below.refl _ _).drew).mono ?_
 clear HCp
 rintro e w1 ⟨L', rfl, hP1, hft1, hB1⟩
 have hB1' := below_undrew hB1
 have hdp := World.block_lt_of_cell? w _ c0
 have d0 := (hB1'.cell (p := ⟨d.p, 0, none⟩) hdp).trans c0
 have d1 := (hB1'.cell (p := ⟨d.p, 1, none⟩) hdp).trans c1
 have HP1 := hid hP1
 have HF1 := hid hft1
 have HB1 := hid hB1'
 clear hP1 hft1 hB1 hB1'
 go_wp2_with fail
 refine hK.out _ _ ⟨d0, d1⟩ (fun hHeld => ?_)
 clear hK K
 try simp only [tS]
 refine tq 15 _ ?_
 try simp only [tS]
 refine wpAnyH_ready (rs := [16]) (by kernel_rfl) (by simp) (AllReadyH.cons rfl (fun K hK => ?_) AllReadyH.nil)
 rw [if_pos (by rfl)]
 unfold Oper.wp
 go_simp
 have hdp1 : d.p < w1.heap.size := Nat.lt_of_lt_of_le hdp HB1.out.size
 refine hK.out _ _ ⟨by rw [World.cell?_alloc_lt _ _ _ hdp1]; exact d0, by rw [World.cell?_alloc_lt _ _ _ hdp1]; exact d1⟩ (fun hHeld => ?_)
 clear hK K
 try simp only [tS]
 refine tq 17 _ ?_
 try simp only [tS]
 refine wpAnyH_done (by kernel_rfl) ?_ _
 refine NoPanic.normal ?_
 clear hHeld d0 d1 c0 c1
 have HBn : Hid (Below w.heap.size w (w1.alloc (.cells #[.slice (some ad) S.first.length fc, .slice oa S.ops.length S.ops.length, .slice (some ⟨L'.g, 0, none⟩) S.safe.length L'.cap, .map (some L'.m)] 196))) := HB1.out.alloc HB1.out.size _
 have HNb := hid (block_new w1 (.cells #[.slice (some ad) S.first.length fc, .slice oa S.ops.length S.ops.length, .slice (some ⟨L'.g, 0, none⟩) S.safe.length L'.cap, .map (some L'.m)] 196))
 have HPn := hid (HP1.out.keep (G := fun _ => False) (Keeps.of_below ((Below.refl w1.heap.size w1).alloc (Nat.le_refl _) (.cells #[.slice (some ad) S.first.length fc, .slice oa S.ops.length S.ops.length, .slice (some ⟨L'.g, 0, none⟩) S.safe.length L'.cap, .map (some L'.m)] 196))) (fun _ _ e => e))
 have hs1 := HB1.out.size
 go_wp2
 go_ret
 generalize hWn : w1.alloc (.cells #[.slice (some ad) S.first.length fc, .slice oa S.ops.length S.ops.length, .slice (some ⟨L'.g, 0, none⟩) S.safe.length L'.cap, .map (some L'.m)] 196) = wn at *
 have hpl := HPn.out
 have hadl : ad.block < w.heap.size := by
  have hpos := H.out.plates.pos
  have h00 := HFC.out.1 0 (S.first[0]'(by rw [HFl.out]; exact hpos)) (by simp)
  have := World.block_lt_of_cell? w _ h00
  rwa [add_block] at this
 refine ⟨HBn.out, ⟨w1.heap.size, .slice (some ad) S.first.length fc, .slice oa S.ops.length S.ops.length, L'⟩, rfl, ⟨⟨HNb.out, hpl, ⟨oa, S.ops.length, rfl⟩⟩, ⟨oa, rfl, fun e => ?_, fun b e => ⟨fun j u hu => ?_, ?_⟩⟩, ⟨ad, fc, rfl, fun j s hj => ?_, fun e => ?_⟩, HFl.out⟩, fun i hi => ?_, by first | exact hfv.symm | rfl⟩
 ·rcases HOa.out with ⟨-, -, e2⟩ | ⟨g, e2, -⟩
  ·exact List.eq_nil_of_length_eq_zero e2
  ·rw [e] at e2; cases e2
 ·have hc := HOc.out b e j u hu
  exact (HBn.out.cell (World.block_lt_of_cell? w _ hc)).trans hc
 ·rcases HOa.out with ⟨e2, -, -⟩ | ⟨g, e2, -, hg⟩
  ·rw [e] at e2; cases e2
  ·rw [e] at e2
   rw [Option.some.inj e2]
   exact Nat.lt_of_lt_of_le hg HBn.out.size
 ·have hc := HFC.out.1 j s hj
  exact (HBn.out.cell (World.block_lt_of_cell? w _ hc)).trans hc
 ·rcases e with e | e
  ·have e2 : ad.block = w1.heap.size := e
   omega
  ·have := HF1.out _ e
   have h3 : w.drew.heap.size = w.heap.size := rfl
   omega
 ·rcases hi with e | e
  ·have e2 : i = w1.heap.size := e
   omega
  ·exact HF1.out i e
theorem fork_disk (d : DL) (S : DiskS) (w : World) (h : DiskIn w d S) (hB : S.ops.length <= 4096) :
  Calls Tryz.prog 72 #[.pointer (some ⟨d.p, 0, none⟩)] w fun e w' => Below w.heap.size w w' /\ ∃ d', e = .returned (.pointer (some ⟨d'.p, 0, none⟩)) /\ CutIn w' d' S /\ ∀ i, d'.cutFoot S.waits i -> w.heap.size <= i := by
 refine (fork_disk_fv d S w h hB).mono ?_
 rintro e w' ⟨h1, d', h2, h3, h4, _⟩
 exact ⟨h1, d', h2, h3, h4⟩
end
section
open Go.RowKit
def AnyAt (w : World) (d : DL) (S : DiskS) (F : Nat -> Prop) : Prop := (CutIn w d S /\ ∀ i, d.cutFoot S.waits i -> F i) \/ (DiskIn w d S /\ ∀ i, d.foot S.waits i -> F i)
theorem AnyAt.rd {w : World} {d : DL} {S : DiskS} {F : Nat -> Prop} (h : AnyAt w d S F) : DiskRd w d S := by
 rcases h with h | h
 ·exact h.1.rd
 ·exact h.1.rd
theorem AnyAt.below {w w' : World} {d : DL} {S : DiskS} {F : Nat -> Prop} (h : AnyAt w d S F) (k : Below w.heap.size w w') : AnyAt w' d S F := by
 rcases h with h | h
 ·exact .inl ⟨h.1.below k, h.2⟩
 ·exact .inr ⟨h.1.below k, h.2⟩
theorem AnyAt.mono {w : World} {d : DL} {S : DiskS} {F G : Nat -> Prop} (h : AnyAt w d S F) (hG : ∀ i, F i -> G i) : AnyAt w d S G := by
 rcases h with h | h
 ·exact .inl ⟨h.1, fun i hi => hG i (h.2 i hi)⟩
 ·exact .inr ⟨h.1, fun i hi => hG i (h.2 i hi)⟩
theorem AnyAt.next {w w1 w2 : World} {d : DL} {S : DiskS} {F : Nat -> Prop} (h : AnyAt w2 d S (fun i => (F i \/ (w.heap.size <= i /\ i < w1.heap.size)) \/ (w1.heap.size <= i /\ i < w2.heap.size))) (h1 : w.heap.size <= w1.heap.size) (h2 : w1.heap.size <= w2.heap.size) : AnyAt w2 d S (fun i => F i \/ (w.heap.size <= i /\ i < w2.heap.size)) :=
 h.mono (fun i hi => by
  rcases hi with (h | h) | h
  ·exact .inl h
  ·exact .inr ⟨h.1, by omega⟩
  ·exact .inr ⟨by omega, h.2⟩)
theorem AnyAt.later {w w1 w2 : World} {d : DL} {S : DiskS} {F : Nat -> Prop} (h : AnyAt w2 d S (fun i => F i \/ (w.heap.size <= i /\ i < w1.heap.size))) (h2 : w1.heap.size <= w2.heap.size) : AnyAt w2 d S (fun i => F i \/ (w.heap.size <= i /\ i < w2.heap.size)) :=
 h.mono (fun i hi => hi.imp id (fun h => ⟨h.1, by omega⟩))
def OwnAt (w : World) (d : DL) (S : DiskS) (F : Nat -> Prop) : Prop := DiskIn w d S /\ ∀ i, d.foot S.waits i -> F i
theorem OwnAt.mono {w : World} {d : DL} {S : DiskS} {F G : Nat -> Prop} (h : OwnAt w d S F) (hG : ∀ i, F i -> G i) : OwnAt w d S G := ⟨h.1, fun i hi => hG i (h.2 i hi)⟩
theorem OwnAt.next {w w1 w2 : World} {d : DL} {S : DiskS} {F : Nat -> Prop} (h : OwnAt w2 d S (fun i => (F i \/ (w.heap.size <= i /\ i < w1.heap.size)) \/ (w1.heap.size <= i /\ i < w2.heap.size))) (h1 : w.heap.size <= w1.heap.size) (h2 : w1.heap.size <= w2.heap.size) : OwnAt w2 d S (fun i => F i \/ (w.heap.size <= i /\ i < w2.heap.size)) :=
 h.mono (fun i hi => by
  rcases hi with (h | h) | h
  ·exact .inl h
  ·exact .inr ⟨h.1, by omega⟩
  ·exact .inr ⟨by omega, h.2⟩)
theorem at_flush (d : DL) (S : DiskS) (F : Nat -> Prop) (w : World) (h : AnyAt w d S F) (hB : S.ops.length <= 1000000) :
  Calls Tryz.prog 132 #[.pointer (some ⟨d.p, 0, none⟩)] w fun e w' => e = .returned (.int .i64 0) /\ ∃ d', (d'.p = d.p /\ d'.fv = d.fv /\ OwnAt w' d' S.flushed (fun i => F i \/ (w.heap.size <= i /\ i < w'.heap.size))) /\ AnyAt w' d' S.flushed (fun i => F i \/ (w.heap.size <= i /\ i < w'.heap.size)) /\ Keeps F w w' := by
 rcases h with ⟨h, hf⟩ | ⟨h, hf⟩
 ·refine (flush_cut d S w h hB).mono ?_
  rintro e w' ⟨rfl, d', hD, e1, e2, e3, e4⟩
  exact ⟨rfl, d', ⟨e1, e2, hD, fun i hi => (e3 i hi).imp (hf i) (fun h => ⟨h, hD.foot_lt hi⟩)⟩, .inr ⟨hD, fun i hi => (e3 i hi).imp (hf i) (fun h => ⟨h, hD.foot_lt hi⟩)⟩, e4.mono hf⟩
 ·refine (flush_disk d S w h (by unfold opsMax; omega)).mono ?_
  rintro e w' ⟨rfl, d', hD, e1, e2, e3, e4⟩
  exact ⟨rfl, d', ⟨e1, e2, hD, fun i hi => (e3 i hi).imp (hf i) (fun h => ⟨h, hD.foot_lt hi⟩)⟩, .inr ⟨hD, fun i hi => (e3 i hi).imp (hf i) (fun h => ⟨h, hD.foot_lt hi⟩)⟩, e4.mono hf⟩
theorem at_write (d : DL) (S : DiskS) (F : Nat -> Prop) (n : Int) (l : List UInt8) (ad : Addr) (c : Nat) (w : World) (h : AnyAt w d S F) (hB : S.ops.length <= 1000000) (h0 : 0 <= n) (h1 : n < S.safe.length) (hl : l.length = 512) (hb : bytesAt w ad l) :
  Calls Tryz.prog 130 #[.pointer (some ⟨d.p, 0, none⟩), .int .i64 n, .slice (some ad) 512 c] w fun e w' => e = .returned (.int .i64 0) /\ ∃ d', (d'.p = d.p /\ d'.fv = d.fv /\ OwnAt w' d' (S.wrote n ⟨l.toArray⟩) (fun i => F i \/ (w.heap.size <= i /\ i < w'.heap.size))) /\ AnyAt w' d' (S.wrote n ⟨l.toArray⟩) (fun i => F i \/ (w.heap.size <= i /\ i < w'.heap.size)) /\ Keeps F w w' := by
 rcases h with ⟨h, hf⟩ | ⟨h, hf⟩
 ·refine (write_cut_ok d S n l ad c w h hB h0 h1 hl hb).mono ?_
  rintro e w' ⟨rfl, d', hD, e1, e2, e3, e4⟩
  exact ⟨rfl, d', ⟨e1, e2, hD, fun i hi => (e3 i hi).imp (hf i) (fun h => ⟨h, hD.foot_lt hi⟩)⟩, .inr ⟨hD, fun i hi => (e3 i hi).imp (hf i) (fun h => ⟨h, hD.foot_lt hi⟩)⟩, e4.mono hf⟩
 ·refine (write_ok d S n l ad c w h (by unfold opsMax; omega) h0 h1 hl hb).mono ?_
  rintro e w' ⟨rfl, d', hD, e1, e2, e3, e4⟩
  exact ⟨rfl, d', ⟨e1, e2, hD, fun i hi => (e3 i hi).imp (hf i) (fun h => ⟨h, hD.foot_lt hi⟩)⟩, .inr ⟨hD, fun i hi => (e3 i hi).imp (hf i) (fun h => ⟨h, hD.foot_lt hi⟩)⟩, e4.mono hf⟩
def layV (p size : Nat) : Value := .agg #[.pointer (some ⟨p, 0, none⟩), .int .i64 size]
def pagesS (S : DiskS) (size : Nat) : Nat := S.safe.length - 1 - size
theorem lay_pages (d : DL) (S : DiskS) (size : Nat) (w : World) (h : DiskRd w d S) (hs : size + 1 <= S.safe.length) :
  Calls Tryz.prog 133 #[layV d.p size] w fun e w' => e = .returned (.int .i64 (pagesS S size : Nat)) /\ Below w.heap.size w w' := by
 have hm := h.plates.most
 have HSe := hid (fun W hW => sectors_disk_rd d S W (h.below (w' := W) hW))
 have HP : Hid (((pagesS S size : Nat) : Int) = (S.safe.length : Int) - 1 - (size : Int)) := by unfold Hid pagesS; omega
 clear h
 unfold layV
 go_enter Tryz.func133, Tryz.ntmps133
 go_wp2_with fail
 have hb := block_new w (.cells #[.pointer (some ⟨d.p, 0, none⟩), .int .i64 size] 131)
 have HBl := hid ((Below.refl w.heap.size w).alloc (Nat.le_refl _) (.cells #[.pointer (some ⟨d.p, 0, none⟩), .int .i64 size] 131))
 have c0 : (w.alloc (.cells #[.pointer (some ⟨d.p, 0, none⟩), .int .i64 size] 131)).cell? ⟨w.heap.size, 0, none⟩ = some (.pointer (some ⟨d.p, 0, none⟩)) := cell_of_block hb 0
 have c1 : (w.alloc (.cells #[.pointer (some ⟨d.p, 0, none⟩), .int .i64 size] 131)).cell? ⟨w.heap.size, 1, none⟩ = some (.int .i64 size) := cell_of_block hb 1
 clear hb
 generalize w.alloc (.cells #[.pointer (some ⟨d.p, 0, none⟩), .int .i64 size] 131) = w1 at *
 refine wp_region_noPanic ?_
 refine wp_region_held_drew (S := fun W => W.cell? ⟨w.heap.size, 0, none⟩ = some (.pointer (some ⟨d.p, 0, none⟩)) /\ W.cell? ⟨w.heap.size, 1, none⟩ = some (.int .i64 size)) (by kernel_rfl) ⟨c0, c1⟩ (fun hHeld => ?_)
 refine tq 0 _ ?_
 try simp only [tS]
 refine tq 1 _ ?_
 try simp only [tS]
 refine tq 4 _ ?_
 try simp only [tS]
 refine tq 5 _ ?_
 try simp only [tS]
 refine wpAnyH_ready (rs := [2]) (by kernel_rfl) (by simp) (AllReadyH.cons rfl (fun K hK => ?_) AllReadyH.nil)
 rw [if_pos (by rfl)]
 go_simp
 refine (HSe.out _ HBl.out.drew).mono ?_
 rintro e w2 ⟨rfl, h2⟩
 obtain rfl := h2.symm
 go_wp2_with fail
 refine hK.out _ _ ⟨c0, c1⟩ (fun hHeld => ?_)
 clear hK K
 try simp only [tS]
 refine tq 3 _ ?_
 try simp only [tS]
 refine tq 6 _ ?_
 try simp only [tS]
 refine tq 7 _ ?_
 try simp only [tS]
 refine wpAnyH_done (by kernel_rfl) ?_ _
 refine NoPanic.normal ?_
 go_wp2
 go_ret
 refine ⟨?_, HBl.out.drew⟩
 show Ending.returned (Value.int .i64 (IntKind.i64.wrap (IntKind.i64.wrap ((S.safe.length : Int) - 1) - (size : Int)))) = _
 rw [IntWalk.i64_in ((S.safe.length : Int) - 1) (by omega), IntWalk.i64_in _ (by omega), HP.out]
theorem lay_has (d : DL) (S : DiskS) (size : Nat) (n : Int) (w : World) (h : DiskRd w d S) (hs : size + 1 <= S.safe.length) :
  Calls Tryz.prog 127 #[layV d.p size, .int .i64 n] w fun e w' => e = .returned (.bool (decide (0 <= n /\ n < (pagesS S size : Nat)))) /\ Below w.heap.size w w' := by
 have HPg := hid (fun W hW => lay_pages d S size W (h.below (w' := W) hW) hs)
 unfold layV at HPg ⊢
 have hm := h.plates.most
 have hpm : pagesS S size <= 4096 := by unfold pagesS; omega
 clear h
 by_cases hn : n < 0
 ·have hd : decide (0 <= n) = false := decide_eq_false (by omega)
  go_enter Tryz.func127, Tryz.ntmps127
  go_wp2
  go_ret
  refine ⟨?_, ((Below.refl w.heap.size w).alloc (Nat.le_refl _) (.cells #[.pointer (some ⟨d.p, 0, none⟩), .int .i64 size] 131))⟩
  show Ending.returned (Value.bool false) = _
  simp [hd]
 ·have hd : decide (0 <= n) = true := decide_eq_true (by omega)
  go_enter Tryz.func127, Tryz.ntmps127
  go_wp2_with fail
  refine (HPg.out _ ((Below.refl w.heap.size w).alloc (Nat.le_refl _) (.cells #[.pointer (some ⟨d.p, 0, none⟩), .int .i64 size] 131))).mono ?_
  rintro e w2 ⟨rfl, hb2⟩
  have HB2 := hid (((Below.refl w.heap.size w).alloc (Nat.le_refl _) (.cells #[.pointer (some ⟨d.p, 0, none⟩), .int .i64 size] 131)).trans (hb2.mono (by simp)))
  clear hb2
  go_wp2
  go_ret
  refine ⟨?_, HB2.out⟩
  show Ending.returned (Value.bool (decide (n < (pagesS S size : Nat)))) = _
  simp [hd]
theorem lay_home (p size : Nat) (n : Int) (w : World) (hs : size <= 4096) (h0 : 0 <= n) (h1 : n <= 4096) :
  Calls Tryz.prog 131 #[layV p size, .int .i64 n] w fun e w' => e = .returned (.int .i64 (1 + (size : Int) + n)) /\ Below w.heap.size w w' := by
 unfold layV
 go_enter Tryz.func131, Tryz.ntmps131
 go_wp2
 go_ret
 exact ⟨rfl, (Below.refl _ _).alloc (Nat.le_refl _) _⟩
theorem lay_capacity (p size : Nat) (w : World) (hs : size <= 4096) :
  Calls Tryz.prog 96 #[layV p size] w fun e w' => e = .returned (.int .i64 ((min size 100 : Nat) : Int)) /\ Below w.heap.size w w' := by
 unfold layV
 go_enter Tryz.func96, Tryz.ntmps96
 go_wp2
 go_ret
 refine ⟨?_, (Below.refl _ _).alloc (Nat.le_refl _) _⟩
 show Ending.returned (Value.int .i64 (min (size : Int) 100)) = _
 rw [show ((min size 100 : Nat) : Int) = min (size : Int) 100 by omega]
end
section
open Go.RowKit Go.Maps
end
section
open Go.ChangeShapes Go.WideShapes Go.ChangeAt Go.RowKit
theorem own : ownKnob Tryz.prog.godebug = none := by kernel_rfl
theorem laidOut : laidOutB Tryz.prog = true := by kernel_rfl
theorem trodAll_below {H : Type} {enc : TypeId × Value -> H} {P : Program} (hl : laidOutB P = true) {W W' : World} (hb : Below W.heap.size W W') : ∀ (ts : List TypeId) (vs : List Value) (ds : List (DataW H)) (ps : List MemPlace),
  (∀ t ∈ ts, P.readableRec t = true /\ t < P.types.size) -> DataW.TrodAll enc P W 0 (fun _ => true) true ts vs ds ps -> (∀ x ∈ ps, x.block < W.heap.size) -> DataW.TrodAll enc P W' 0 (fun b => decide (b < W.heap.size)) true ts vs ds ps
 | [], vs, ds, ps, _, h, _ => by cases vs <;> cases ds <;> simp [DataW.TrodAll] at h ⊢; exact h
 | t :: ts, vs, ds, ps, hr, h, hlt => by
  obtain ⟨v, vs', d, ds', p, q, rfl, rfl, rfl, h1, h2⟩ := trodAll_cons h
  exact trodAll_cons_mk (Below.trod hl (hr t (by simp)).1 (hr t (by simp)).2 h1 hb (fun x hx => hlt x (by simp [hx])))
   (trodAll_below hl hb ts vs' ds' q (fun t' ht' => hr t' (by simp [ht'])) h2 (fun x hx => hlt x (by simp [hx])))
theorem post_law {H : Type} {enc : TypeId × Value -> H} {f : Func} {s : ChangeSpec} {W W' : World} {args : Array Value} {ds gs : List (DataW H)} {before : List MemPlace}
  (hW : DataW.Whole enc Tryz.prog f.params.toList s.vars false W args.toList ds gs before) (hv : s.vars = []) (hres : f.resultTypes = #[4]) (hfn : (s.fn H (ds ++ gs)) = { results := [.lit (.bool true)], args := ds })
  (hr : ∀ t ∈ f.params.toList, Tryz.prog.readableRec t = true /\ t < Tryz.prog.types.size) (hb : Below W.heap.size W W') : s.post enc Tryz.prog f false true false false W args (.bool true) W' := by
 have hW' := hW
 obtain ⟨p, q, hA, hV, rfl, _, _⟩ := hW
 refine ⟨ds, gs, p ++ q, [], p, [], hW', ?_, ?_, ?_, hb.frame _, fun h => by cases h⟩
 ·rw [hfn, hres]
  exact trodAll_cons_mk (shut_bool Tryz.underlying4 true) trodAll_mk0
 ·rw [hfn]
  exact trodAll_below laidOut hb _ _ _ _ hr hA (fun x hx => by simpa using hW'.lt x (by simp [hx]))
 ·rw [hfn, hv]; exact rfl
end
section
open Go.ChangeShapes Go.WideShapes Go.ChangeAt Go.RowKit
theorem plain_addr {w : World} {a : Addr} {x : Value} (h : w.cell? a = some x) : a = ⟨a.block, a.off, none⟩ := by
 obtain ⟨b, o, s⟩ := a
 cases s with
 | none => rfl
 | some q =>
  unfold World.cell? at h
  cases hq : w.heap[b]? with
  | none => simp [hq] at h
  | some ob => cases ob <;> simp [hq] at h
theorem add_off (a : Addr) (j : Nat) : (a.add j).off = a.off + j := by
 unfold Addr.add; split <;> simp_all
theorem list_of {α : Type} {P : Nat -> α -> Prop} : ∀ n : Nat, (∀ i, i < n -> ∃ x, P i x) -> ∃ l : List α, l.length = n /\ ∀ i (hi : i < l.length), P i l[i]
 | 0, _ => ⟨[], rfl, fun i hi => by simp at hi⟩
 | n + 1, h => by
  obtain ⟨l, hl, hp⟩ := list_of n (fun i hi => h i (by omega))
  obtain ⟨x, hx⟩ := h n (by omega)
  refine ⟨l ++ [x], by simp [hl], fun i hi => ?_⟩
  by_cases e : i < l.length
  ·rw [List.getElem_append_left e]; exact hp i e
  ·have e2 : i = n := by simp at hi; omega
   subst e2
   rw [List.getElem_append_right (by omega)]
   simpa [hl] using hx
end
section
open Go.ChangeShapes Go.WideShapes Go.ChangeAt Go.RowKit
end
section
set_option maxRecDepth 100000
set_option maxHeartbeats 2000000
open Go.RowKit
def U8 (x : UInt8) : Value := .int .u8 (x.toNat : Int)
def ownB (w : World) (b : Nat) (L : List UInt8) : Prop := w.heap[b]? = some (.cells (L.map U8).toArray 5 (0, 0))
theorem ownB.lt {w : World} {b : Nat} {L : List UInt8} (h : ownB w b L) : b < w.heap.size := lt_of_heap h
theorem ownB.keep {w w' : World} {b : Nat} {L : List UInt8} {F : Nat -> Prop} (h : ownB w b L) (k : Keeps F w w') (hF : ¬ F b) : ownB w' b L := k.heap h hF
theorem ownB.below {w w' : World} {b : Nat} {L : List UInt8} (h : ownB w b L) (k : Below w.heap.size w w') : ownB w' b L := below_block k h (lt_of_heap h)
theorem ownB.cell {w : World} {b : Nat} {L : List UInt8} (h : ownB w b L) (j : Nat) (hj : j < L.length) : w.cell? ⟨b, j, none⟩ = some (.int .u8 (L[j].toNat : Int)) := by
 rw [cell_of_block h, List.getElem?_toArray, List.getElem?_map, List.getElem?_eq_getElem hj]; rfl
theorem ownB.set {w : World} {b : Nat} {L : List UInt8} (h : ownB w b L) (j : Nat) (x : UInt8) : ownB (w.setCell ⟨b, j, none⟩ (.int .u8 (x.toNat : Int))) b (L.set j x) := by
 have h1 := block_setCell h j (.int .u8 (x.toNat : Int))
 rw [List.setIfInBounds_toArray] at h1
 unfold ownB
 rw [h1, List.map_set]; rfl
theorem ownB.frozen {w : World} {b : Nat} {L : List UInt8} (h : ownB w b L) (j : Nat) : w.frozen? ⟨b, j, none⟩ = false := frozen_of_block h _
theorem ownB.at {w : World} {b : Nat} {L : List UInt8} (h : ownB w b L) : bytesAt w ⟨b, 0, none⟩ L := fun j hj => by rw [Addr.add_mid, Nat.zero_add]; exact h.cell j hj
def beS : Nat -> Nat -> List UInt8
 | 0, _ => []
 | k + 1, x => beS k (x / 256) ++ [UInt8.ofNat (x % 256)]
theorem length_beS : ∀ k x, (beS k x).length = k
 | 0, _ => rfl
 | k + 1, x => by rw [beS, List.length_append, length_beS k]; rfl
def numS (l : List UInt8) : Nat := l.foldl (fun x o => x * 256 + o.toNat) 0
theorem numS_snoc (l : List UInt8) (o : UInt8) : numS (l ++ [o]) = numS l * 256 + o.toNat := by simp [numS]
theorem numS_be : ∀ k x, numS (beS k x) = x % 256 ^ k
 | 0, x => by simp [beS, numS, Nat.mod_one]
 | k + 1, x => by
  rw [beS, numS_snoc, numS_be k, UInt8.toNat_ofNat']
  have h1 : x % 256 ^ (k + 1) = x % 256 + 256 * (x / 256 % 256 ^ k) := by rw [Nat.pow_succ, Nat.mul_comm, Nat.mod_mul]
  have h2 : x % 256 % 2 ^ 8 = x % 256 := Nat.mod_eq_of_lt (Nat.mod_lt _ (by decide))
  omega
theorem numS_lt_aux : ∀ (l : List UInt8) (x : Nat), l.foldl (fun x o => x * 256 + o.toNat) x < (x + 1) * 256 ^ l.length
 | [], x => by simp
 | o :: l, x => by
  have ih := numS_lt_aux l (x * 256 + o.toNat)
  have ho := o.toNat_lt
  have h1 : (x * 256 + o.toNat + 1) * 256 ^ l.length <= ((x + 1) * 256) * 256 ^ l.length := Nat.mul_le_mul_right _ (by omega)
  rw [List.foldl_cons, List.length_cons, Nat.pow_succ, Nat.mul_comm (256 ^ l.length) 256, <- Nat.mul_assoc]
  omega
theorem numS_lt (l : List UInt8) : numS l < 256 ^ l.length := by
 have := numS_lt_aux l 0
 simpa [numS] using this
end
section
open Go.RowKit
theorem beS_at : ∀ (k X r : Nat), r < k -> (beS k X)[r]? = some (UInt8.ofNat (X / 256 ^ (k - 1 - r) % 256))
 | 0, _, _, h => by omega
 | k + 1, X, r, h => by
  rw [beS]
  by_cases hr : r < k
  ·rw [List.getElem?_append_left (by rw [length_beS]; exact hr), beS_at k (X / 256) r hr, Nat.div_div_eq_div_mul, <- Nat.pow_succ', show (k - 1 - r).succ = k + 1 - 1 - r by omega]
  ·obtain rfl : r = k := by omega
   rw [List.getElem?_append_right (by rw [length_beS]; exact Nat.le_refl _), length_beS]
   simp
theorem i64_or_nat (a b : Nat) (ha : a < 2 ^ 62) (hb : b < 2 ^ 62) : bits .or .i64 (a : Int) (b : Int) = ((a ||| b : Nat) : Int) := by
 have hx : a ||| b < 2 ^ 62 := Nat.or_lt_two_pow ha hb
 show IntKind.i64.wrap ((BitVec.ofInt 64 (a : Int) ||| BitVec.ofInt 64 (b : Int)).toNat : Int) = _
 rw [BitVec.toNat_or, BitVec.ofInt_natCast, BitVec.ofInt_natCast, BitVec.toNat_ofNat, BitVec.toNat_ofNat, Nat.mod_eq_of_lt (by omega), Nat.mod_eq_of_lt (by omega)]
 simp [IntKind.wrap, IntKind.bits, IntKind.signed]
 omega
theorem put_step (L B : List UInt8) (o k r : Nat) (hr : r < k) (hB : B.length = k) (hk : o + k <= L.length) (v : UInt8) (hv : B[r]? = some v) :
  (L.take (o + (r + 1)) ++ B.drop (r + 1) ++ L.drop (o + k)).set (o + r) v = L.take (o + r) ++ B.drop r ++ L.drop (o + k) := by
 have h1 : L.take (o + (r + 1)) = L.take (o + r) ++ [L[o + r]'(by omega)] := by rw [show o + (r + 1) = o + r + 1 by omega, List.take_succ_eq_append_getElem (by omega)]
 have h2 : B.drop r = v :: B.drop (r + 1) := by
  obtain ⟨hl, e⟩ := List.getElem?_eq_some_iff.1 hv
  rw [List.drop_eq_getElem_cons hl, e]
 have hl : (L.take (o + r)).length = o + r := by rw [List.length_take]; omega
 rw [h1, h2, List.append_assoc, List.append_assoc, List.set_append_right _ _ (by rw [hl]; exact Nat.le_refl _), hl, Nat.sub_self]
 simp
theorem put_any (b o k c X : Nat) (L : List UInt8) (w : World) (h : ownB w b L) (hk : o + k <= L.length) (hL : L.length <= 4096) (_hX : X < 4611686018427387904) :
  Calls Tryz.prog 142 #[.slice (some ⟨b, o, none⟩) k c, .int .i64 X] w fun e w' => e = .returned (.tuple #[]) /\ ownB w' b (L.take o ++ beS k X ++ L.drop (o + k)) /\ Keeps (fun i => i = b) w w' := by
 have H := hid h
 clear h
 go_enter Tryz.func142, Tryz.ntmps142
 go_wp2
 go_loopw [1, 4] (fun x i wr => ∃ r : Nat, r <= k /\ x = .int .i64 ((X / 256 ^ (k - r) : Nat) : Int) /\ i = .int .i64 ((r : Int) - 1) /\ Hid (ownB wr b (L.take (o + r) ++ (beS k X).drop r ++ L.drop (o + k))) /\ Hid (Keeps (fun i => i = b) w wr)) (fun _ i _ => (intOf i + 1).toNat)
 case atStart =>
  refine ⟨k, Nat.le_refl _, by simp, rfl, ?_, Keeps.refl _ _⟩
  have := H.out
  have e : (beS k X).drop k = [] := List.drop_eq_nil_of_le (by rw [length_beS]; exact Nat.le_refl _)
  unfold Hid
  rw [e, List.append_nil, List.take_append_drop]
  exact this
 case round =>
  obtain ⟨r, hr, rfl, rfl, hO, hKp⟩ := hrel
  rcases Nat.eq_zero_or_pos r with rfl | hpos
  ·go_wp2
   go_returns
   exact ⟨rfl, by simpa using hO.out, hKp.out⟩
  ·obtain ⟨r, rfl⟩ : ∃ s, r = s + 1 := ⟨r - 1, by omega⟩
   have hle : X / 256 ^ (k - (r + 1)) <= X := Nat.div_le_self _ _
   have hnext : X / 256 ^ (k - (r + 1)) / 256 = X / 256 ^ (k - r) := by rw [Nat.div_div_eq_div_mul, <- Nat.pow_succ, show (k - (r + 1)).succ = k - r by omega]
   have hb := beS_at k X r (by omega)
   rw [show k - 1 - r = k - (r + 1) by omega] at hb
   have hset := fun v hv => put_step L (beS k X) o k r (by omega) (length_beS k X) hk v hv
   have HSet := hid hset
   have HB := hid hb
   have HNext := hid hnext
   have hlen : o + r < (L.take (o + (r + 1)) ++ (beS k X).drop (r + 1) ++ L.drop (o + k)).length := by simp [length_beS]; omega
   obtain ⟨old, cl⟩ : ∃ v, wr.cell? ⟨b, o + r, none⟩ = some v := ⟨_, hO.out.cell (o + r) hlen⟩
   have fl := hO.out.frozen (o + r)
   clear hset hb hnext hlen
   generalize X / 256 ^ (k - (r + 1)) = x at *
   have hr0 : (0 : Int) <= (r : Int) := by omega
   have hrk : (r : Int) < (k : Int) := by omega
   have e1 : ((r + 1 : Nat) : Int) - 1 = (r : Int) := by omega
   rw [e1]
   go_wp2
   have hv : ((UInt8.ofNat (x % 256)).toNat : Int) = (x : Int) % 256 := by
    rw [UInt8.toNat_ofNat', Nat.mod_eq_of_lt (show x % 256 < 2 ^ 8 from Nat.mod_lt _ (by decide))]; omega
   have hs := hO.out.set (o + r) (UInt8.ofNat (x % 256))
   rw [HSet.out _ HB.out, hv] at hs
   refine ⟨⟨r, by omega, by rw [<- HNext.out]; rfl, rfl, hs, ?_⟩, by simp [intOf]⟩
   exact hKp.out.grown (grown_setCell (grown_refl _ _) _ _) (fun i e => .inl (Option.some.inj e).symm)
theorem number_any (l : List UInt8) (a : Option Addr) (c : Nat) (w : World) (hb : bytesIn w a l) (hl : l.length <= 7) :
  Calls Tryz.prog 103 #[.slice a l.length c] w fun e w' => e = .returned (.int .i64 (numS l : Nat)) /\ w' = w := by
 have HB := hid hb
 clear hb
 go_enter Tryz.func103, Tryz.ntmps103
 go_wp2
 go_loopw [3, 8] (fun x i wr => ∃ j : Nat, j <= l.length /\ x = .int .i64 ((numS (l.take j) : Nat) : Int) /\ i = .int .i64 j /\ wr = w) (fun _ i _ => l.length - (intOf i).toNat)
 case atStart => exact ⟨0, by omega, rfl, rfl, rfl⟩
 case round =>
  obtain ⟨j, hj, rfl, rfl, rfl⟩ := hrel
  by_cases hlt : j < l.length
  ·have hj0 : (0 : Int) <= (j : Int) := by omega
   have hj1 : (j : Int) < (l.length : Int) := by omega
   obtain ⟨b, o, rfl, hc⟩ := HB.out j hlt
   have hcell := hc j hlt
   have HT : Hid (numS (l.take (j + 1)) = numS (l.take j) * 256 + l[j].toNat) := by
    unfold Hid
    rw [List.take_succ_eq_append_getElem hlt, numS_snoc]
   have hb := numS_lt (l.take j)
   have hlj : (l.take j).length = j := by rw [List.length_take]; omega
   rw [hlj] at hb
   have hp : 256 ^ j <= 256 ^ 6 := Nat.pow_le_pow_right (by decide) (by omega)
   have hx : numS (l.take j) < 281474976710656 := Nat.lt_of_lt_of_le hb (Nat.le_trans hp (by decide))
   have ho := l[j].toNat_lt
   have ho' : l[j].toNat < 256 := ho
   clear hc hb hlj hp ho
   generalize numS (l.take j) = x at *
   generalize l[j].toNat = y at *
   go_wp2
   have hor : bits .or .i64 ((x : Int) * 256) (y : Int) = ((x * 256 + y : Nat) : Int) := by
    rw [show (x : Int) * 256 = ((x * 256 : Nat) : Int) by omega, i64_or_nat (x * 256) y (by omega) (by omega)]
    congr 1
    rw [show x * 256 = x <<< 8 by rw [Nat.shiftLeft_eq], <- Nat.shiftLeft_add_eq_or_of_lt (show y < 2 ^ 8 by omega)]
   rw [hor, <- HT.out]
   exact ⟨⟨j + 1, by omega, rfl, by go_num, trivial⟩, by simp [intOf]; omega⟩
  ·obtain rfl : j = l.length := by omega
   have hge : ¬ ((l.length : Int) < (l.length : Int)) := by omega
   go_wp2
   go_ret
   exact ⟨rfl, rfl⟩
end
section
open Go.RowKit
def zN (n : Nat) : List UInt8 := List.replicate n 0
theorem length_zN (n : Nat) : (zN n).length = n := List.length_replicate
theorem drop_zN (n k : Nat) : (zN n).drop k = zN (n - k) := List.drop_replicate
theorem rep_U8 (n : Nat) : (List.replicate n (Value.int .u8 0)).toArray = ((zN n).map U8).toArray := by rw [zN, List.map_replicate]; rfl
def headP (ns : List Nat) (i : Nat) : List UInt8 := [68, 78] ++ beS 2 ns.length ++ (ns.take i).flatMap (beS 2)
def headTo (ns : List Nat) (i : Nat) : List UInt8 := headP ns i ++ zN (508 - 2 * i)
def headS (ns : List Nat) : List UInt8 := headTo ns ns.length
theorem length_flat (l : List Nat) : (l.flatMap (beS 2)).length = 2 * l.length := by
 induction l with
 | nil => rfl
 | cons x l ih => rw [List.flatMap_cons, List.length_append, length_beS, ih, List.length_cons]; omega
theorem length_headP (ns : List Nat) (i : Nat) (h : i <= ns.length) : (headP ns i).length = 4 + 2 * i := by
 rw [headP, List.length_append, List.length_append, length_beS, length_flat, List.length_take, Nat.min_eq_left h]; rfl
theorem length_headTo (ns : List Nat) (i : Nat) (h : i <= ns.length) (h2 : ns.length <= 254) : (headTo ns i).length = 512 := by
 rw [headTo, List.length_append, length_headP ns i h, length_zN]; omega
theorem headP_succ (ns : List Nat) (i : Nat) (h : i < ns.length) : headP ns (i + 1) = headP ns i ++ beS 2 ns[i] := by
 rw [headP, headP, List.take_succ_eq_append_getElem h, List.flatMap_append]
 simp
theorem headTo_succ (ns : List Nat) (i : Nat) (h : i < ns.length) : (headTo ns i).take (4 + 2 * i) ++ beS 2 ns[i] ++ (headTo ns i).drop (4 + 2 * i + 2) = headTo ns (i + 1) := by
 have hl := length_headP ns i (by omega)
 have e1 : (headTo ns i).take (4 + 2 * i) = headP ns i := by rw [headTo, <- hl, List.take_left']; rfl
 have e2 : (headTo ns i).drop (4 + 2 * i + 2) = zN (508 - 2 * (i + 1)) := by
  rw [headTo, List.drop_append, hl, List.drop_eq_nil_of_le (by omega), List.nil_append, drop_zN]
  congr 1; omega
 rw [e1, e2, headTo, headP_succ ns i h]
theorem head_start (ns : List Nat) : ([68, 78] ++ (zN 512).drop 2).take 2 ++ beS 2 ns.length ++ ([68, 78] ++ (zN 512).drop 2).drop (2 + 2) = headTo ns 0 := by
 rw [drop_zN, headTo, headP, List.take_left' (by rfl), List.drop_append, List.drop_eq_nil_of_le (by decide), List.nil_append, drop_zN]
 simp
theorem wpList_copy_str {w : World} {ops : Array Oper} {rest : List Oper} {o : Oper} {a : Act} {Q : Exit -> Act -> World -> Prop} (hgd : o.guard = none) (d s : Operand)
  (ho : o.op = .call { callee := .builtin .copy, args := #[d, s], argTypes := #[42, 9] }) (b m : Nat) (L : List UInt8) (st : ByteArray)
  (hd : a.eval d = .slice (some ⟨b, 0, none⟩) m m) (hs : a.eval s = .string st) (hr : ownB w b L) (hm : L.length = m) (hle : st.size <= m)
  (h : ∀ r w', ownB w' b (st.data.toList ++ L.drop st.size) -> Keeps (fun i => i = b) w w' -> wpList Tryz.prog ops Q rest (a.put o.dst r) w') : wpList Tryz.prog ops Q (o :: rest) a w := by
 have hsz : (Tryz.prog.info? 5).map (·.size) = some 1 := by kernel_rfl
 refine wpList_plain hgd fun K hK => ?_
 have hrun := Lib.run_copy_row_string (P := Tryz.prog) w 42 9 o.type 5 b 0 m m st (L.map U8).toArray 5 Tryz.underlying42 hsz hr hle (by simp; omega)
 obtain ⟨cs, hcs⟩ : ∃ cs, ((L.map U8).toArray.toList.take 0 ++ Lib.byteCells st.data.toList ++ (L.map U8).toArray.toList.drop (0 + st.size)) = cs := ⟨_, rfl⟩
 rw [hcs] at hrun
 have hce : cs = (st.data.toList ++ L.drop st.size).map U8 := by
  rw [<- hcs, List.take_zero, List.nil_append, Nat.zero_add, List.map_append, List.map_drop]; rfl
 have hblk := setRow_heap w b (L.map U8).toArray cs.toArray 5 (0, 0) hr
 unfold Oper.wp
 simp [execOp, ho, resolve, invoke, builtin, hd, hs, hrun, Result.andThen]
 refine hK _ _ (h _ _ ?_ ⟨rfl, rfl, rfl, by simp, fun i _ hi => setRow_other w b i _ hi⟩)
 unfold ownB
 rw [hblk, hce]
theorem number_in (b i : Nat) (w : World) (hi : 4 + 2 * i + 2 <= 512) :
  Calls Tryz.prog 126 #[.slice (some ⟨b, 0, none⟩) 512 512, .int .i64 i] w fun e w' => e = .returned (.slice (some ⟨b, 4 + 2 * i, none⟩) 2 (512 - (4 + 2 * i))) /\ w' = w := by
 have h0 : (0 : Int) <= (i : Int) := by omega
 have h1 : (i : Int) <= 253 := by omega
 go_enter Tryz.func126, Tryz.ntmps126
 go_wp2
 go_ret
 exact ⟨rfl, rfl⟩
abbrev natsZ (ns : List Nat) : List Int := ns.map (fun n : Nat => (n : Int))
theorem head_of (ns : List Nat) (a : Option Addr) (c : Nat) (w : World) (hns : intsAt w a (natsZ ns)) (hl : ns.length <= 100) (hm : ∀ n ∈ ns, n < 65536) :
  Calls Tryz.prog 128 #[.slice a ns.length c] w fun e w' => ∃ b, e = .returned (.slice (some ⟨b, 0, none⟩) 512 512) /\ w.heap.size <= b /\ ownB w' b (headS ns) /\ Below w.heap.size w w' := by
 have HN := hid hns
 have HM := hid hm
 clear hns hm
 go_enter Tryz.func128, Tryz.ntmps128
 go_wp2_with (first
  | (refine wpList_make_u8 rfl (.const (.int .i64 512)) (.const (.int .i64 512)) rfl 512 512 rfl rfl rfl (by omega) ?_; intro w1 hb1 hr1 hz1; have HB1 := hid hb1; have HR1 : Hid (ownB w1 w.heap.size (zN 512)) := (by unfold Hid ownB; rw [hr1, rep_U8]); clear hb1 hr1 hz1)
  | (refine wpList_copy_str rfl (.tmp 7) (.const (.string ⟨#[68, 78]⟩)) rfl w.heap.size 512 (zN 512) ⟨#[68, 78]⟩ rfl rfl HR1.out (length_zN 512) (by decide) ?_; intro r2 w2 hr2 hk2; have HB2 := hid (HB1.out.trans (hk2.below HB1.out.size (fun i e => by omega))); have HR2 : Hid (ownB w2 w.heap.size ([68, 78] ++ (zN 512).drop 2)) := hr2; clear hr2 hk2 HR1 HB1))
 have hl0 : ([68, 78] ++ (zN 512).drop 2).length = 512 := by rw [List.length_append, drop_zN, length_zN]; rfl
 have hp := put_any w.heap.size 2 2 (512 - 2) ns.length ([68, 78] ++ (zN 512).drop 2) w2 HR2.out (by rw [hl0]; decide) (by rw [hl0]; decide) (by omega)
 rw [head_start] at hp
 have HP := hid hp
 clear hp hl0 HR2
 refine HP.out.mono ?_
 clear HP
 rintro e w3 ⟨rfl, hr3, hk3⟩
 have HR3 := hid hr3
 have HB3 := hid (HB2.out.trans (hk3.below HB2.out.size (fun i e => by omega)))
 clear hr3 hk3 HB2
 go_wp2
 go_loopw [16] (fun i wr => ∃ j : Nat, j <= ns.length /\ i = .int .i64 j /\ Hid (ownB wr w.heap.size (headTo ns j)) /\ Hid (Below w.heap.size w wr)) (fun i _ => ns.length - (intOf i).toNat)
 case atStart => exact ⟨0, by omega, rfl, HR3, HB3⟩
 case round =>
  obtain ⟨j, hj, rfl, hR, hB⟩ := hrel
  by_cases hlt : j < ns.length
  ·have hj0 : (0 : Int) <= (j : Int) := by omega
   have hj1 : (j : Int) < (ns.length : Int) := by omega
   have hjl : j < (natsZ ns).length := by simpa using hlt
   obtain ⟨b, o, rfl, hc⟩ := HN.out j hjl
   have hcj := hc j hjl
   have hcell : wr.cell? ⟨b, o + j, none⟩ = some (.int .i64 (ns[j] : Nat)) := by
    rw [hB.out.cell (p := ⟨b, o + j, none⟩) (World.block_lt_of_cell? w _ hcj), hcj]; simp
   have hnm := HM.out ns[j] (List.getElem_mem hlt)
   have hll := length_headTo ns j hj (by omega)
   have hp := put_any w.heap.size (4 + 2 * j) 2 (512 - (4 + 2 * j)) ns[j] (headTo ns j) wr hR.out (by rw [hll]; omega) (by rw [hll]; decide) (by omega)
   rw [headTo_succ ns j hlt] at hp
   have HP := hid hp
   have HNi := hid (number_in w.heap.size j wr (by omega))
   clear hp hll hc hcj hjl
   generalize ns[j] = x at *
   go_wp2_with fail
   refine HNi.out.mono ?_
   rintro e w4 ⟨rfl, h4⟩
   obtain rfl := h4.symm
   go_wp2_with fail
   refine HP.out.mono ?_
   clear HP
   rintro e w5 ⟨rfl, hr5, hk5⟩
   have HR5 := hid hr5
   have HB5 := hid (hB.out.trans (hk5.below hB.out.size (fun i e => by omega)))
   clear hr5 hk5
   go_wp2
   exact ⟨⟨j + 1, by omega, by go_num, HR5, HB5⟩, by simp [intOf]; omega⟩
  ·obtain rfl : j = ns.length := by omega
   have hge : ¬ ((ns.length : Int) < (ns.length : Int)) := by omega
   go_wp2
   go_ret
   exact ⟨w.heap.size, rfl, Nat.le_refl _, hR.out, hB.out⟩
end
section
open Go.RowKit
theorem equal_any (l m : List UInt8) (a b : Addr) (c c' : Nat) (w : World) (ha : bytesAt w a l) (hb : bytesAt w b m) :
  Calls Tryz.prog 125 #[.slice (some a) l.length c, .slice (some b) m.length c'] w fun e w' => e = .returned (.bool (decide (l = m))) /\ w' = w := by
 have hcv := run_convert_bytes_back (P := Tryz.prog) w 42 9 5 a c l Tryz.underlying42 Tryz.underlying5 Tryz.underlying9 ha
 have hcw := run_convert_bytes_back (P := Tryz.prog) w 42 9 5 b c' m Tryz.underlying42 Tryz.underlying5 Tryz.underlying9 hb
 have he : ((⟨l.toArray⟩ : ByteArray).toList == (⟨m.toArray⟩ : ByteArray).toList) = decide (l = m) := by
  rw [ByteArray.toList_mk, ByteArray.toList_mk]
  by_cases h : l = m
  ·subst h; simp
  ·rw [decide_eq_false h]; simpa using h
 have HE := hid he
 clear ha hb he
 generalize hs : (⟨l.toArray⟩ : ByteArray) = s at *
 generalize ht : (⟨m.toArray⟩ : ByteArray) = t at *
 clear hs ht
 go_enter Tryz.func125, Tryz.ntmps125
 go_wp2
 go_ret
 refine ⟨?_, rfl⟩
 rw [<- HE.out]; rfl
theorem numbers_zero (d : DL) (S : DiskS) (size : Nat) (w : World) (h : DiskRd w d S) (hz : (seenS S.safe S.waits 0).data.toList = zN 512) :
  Calls Tryz.prog 73 #[layV d.p size] w fun e w' => e = .returned (.tuple #[.slice none 0 0, .bool true]) /\ Below w.heap.size w w' := by
 have hsz : (seenS S.safe S.waits 0).size = 512 := by
  have : (seenS S.safe S.waits 0).data.toList.length = 512 := by rw [hz]; exact length_zN 512
  simpa using this
 have HR := hid (fun W hW => read_ok_rd d S 0 W (h.below (w' := W) hW) (by omega) (by have := h.plates.pos; omega))
 rw [hsz, hz] at HR
 clear h hsz hz
 unfold layV
 go_enter Tryz.func73, Tryz.ntmps73
 go_wp2_with fail
 refine (HR.out _ ((Below.refl w.heap.size w).alloc (Nat.le_refl _) (.cells #[.pointer (some ⟨d.p, 0, none⟩), .int .i64 size] 131))).mono ?_
 rintro e w1 ⟨b, c, rfl, hb, hat, hb1⟩
 have HAt := hid hat
 have HB1 := hid (((Below.refl w.heap.size w).alloc (Nat.le_refl _) (.cells #[.pointer (some ⟨d.p, 0, none⟩), .int .i64 size] 131)).trans (hb1.mono (by simp)))
 clear hat hb1 HR
 go_wp2_with (refine wpList_make_u8 rfl (.const (.int .i64 512)) (.const (.int .i64 512)) rfl 512 512 rfl rfl rfl (by omega) ?_; intro w2 hb2 hr2 hz2; have HB2 := hid (HB1.out.trans (hb2.mono HB1.out.size)); have HR2 : Hid (ownB w2 w1.heap.size (zN 512)) := (by unfold Hid ownB; rw [hr2, rep_U8]); have HK2 := hid hb2; clear hb2 hr2 hz2)
 have he := equal_any (zN 512) (zN 512) ⟨b, 0, none⟩ ⟨w1.heap.size, 0, none⟩ c 512 w2 (fun j hj => (HK2.out.cell (World.block_lt_of_cell? w1 _ (HAt.out j hj))).trans (HAt.out j hj)) HR2.out.at
 rw [length_zN, decide_eq_true rfl] at he
 have HE := hid he
 clear he
 refine HE.out.mono ?_
 clear HE
 rintro e w3 ⟨rfl, h3⟩
 obtain rfl := h3.symm
 go_wp2
 go_returns
 exact ⟨rfl, HB2.out⟩
structure LogIn (w : World) (p : Nat) (d : DL) (S : DiskS) (size rec : Nat) (F : Nat -> Prop) : Prop where
 heap : w.heap[p]? = some (.cells #[.pointer (some ⟨d.p, 0, none⟩), .int .i64 size, .int .i64 rec] 138 (0, 0))
 disk : AnyAt w d S F
 off : ¬ F p
theorem open_zero (d : DL) (S : DiskS) (size : Nat) (w : World) (h : DiskIn w d S) (hB : S.ops.length <= 4096) (h1 : 1 <= size) (h2 : size + 2 <= S.safe.length) (hz : (seenS S.safe S.waits 0).data.toList = zN 512) :
  Calls Tryz.prog 28 #[.pointer (some ⟨d.p, 0, none⟩), .int .i64 size] w fun e w' => Below w.heap.size w w' /\ ∃ p d', e = .returned (.tuple #[.pointer (some ⟨p, 0, none⟩), .int .i64 0]) /\ w.heap.size <= p /\
   LogIn w' p d' S size 0 (fun i => w.heap.size <= i /\ i < p) := by
 have hm := h.plates.most
 have HSe := hid (sectors_disk d S w h)
 have HFk := hid (fork_disk d S w h hB)
 have HZ := hid hz
 have hs1 : (1 : Int) <= (size : Int) := by omega
 have hs2 : (size : Int) <= (S.safe.length : Int) - 2 := by omega
 clear h hz
 go_enter Tryz.func28, Tryz.ntmps28
 go_wp2_with fail
 refine HSe.out.mono ?_
 clear HSe
 rintro e w1 ⟨rfl, hw1⟩
 obtain rfl := hw1.symm
 go_wp2_with fail
 refine HFk.out.mono ?_
 clear HFk
 rintro e w2 ⟨hb2, d2, rfl, hC, hf⟩
 have HC := hid hC
 have HF := hid hf
 have HB2 := hid hb2
 have HFl : Hid (∀ i, d2.cutFoot S.waits i -> i < w2.heap.size) := fun i hi => hi.elim (fun e => by rw [e]; exact lt_of_heap hC.rd.heap) (fun e => hC.rd.plates.foot_lt e)
 have HNu := hid (fun W hW => numbers_zero d2 S size W (hC.rd.below (w' := W) hW) HZ.out)
 unfold layV at HNu
 clear hC hf hb2
 have HA := hid ((Below.refl w2.heap.size w2).alloc (Nat.le_refl _) (.cells #[.pointer (some ⟨d2.p, 0, none⟩), .int .i64 size] 131))
 have Hb := hid (block_new w2 (.cells #[.pointer (some ⟨d2.p, 0, none⟩), .int .i64 size] 131))
 go_wp2_with fail
 generalize w2.alloc (.cells #[.pointer (some ⟨d2.p, 0, none⟩), .int .i64 size] 131) = wA at *
 refine (HNu.out _ HA.out).mono ?_
 clear HNu
 rintro e w3 ⟨rfl, hb3⟩
 have hb := below_block hb3 Hb.out (lt_of_heap Hb.out)
 have c0 : w3.cell? ⟨w2.heap.size, 0, none⟩ = some (.pointer (some ⟨d2.p, 0, none⟩)) := cell_of_block hb 0
 have c1 : w3.cell? ⟨w2.heap.size, 1, none⟩ = some (.int .i64 size) := cell_of_block hb 1
 have hs3 := hb3.size
 have hsA := HA.out.size
 have hs22 := HB2.out.size
 have HC3 := hid (HC.out.below (HA.out.trans (hb3.mono HA.out.size)))
 have HB3 := hid (HB2.out.trans ((HA.out.trans (hb3.mono HA.out.size)).mono HB2.out.size))
 clear hb3 hb Hb HC HA
 go_wp2
 go_returns
 have hal := (Below.refl w3.heap.size w3).alloc (Nat.le_refl _) (.cells #[.pointer (some ⟨d2.p, 0, none⟩), .int .i64 size, .int .i64 0] 138)
 refine ⟨HB3.out.trans (hal.mono HB3.out.size), w3.heap.size, d2, rfl, HB3.out.size, block_new _ _, .inl ⟨HC3.out.below hal, fun i hi => ⟨HF.out i hi, ?_⟩⟩, fun h => by omega⟩
 have := HFl.out i hi
 omega
end
section
open Go.RowKit Go.Maps Go.Sort Go.Shelf
structure GrpIn (w : World) (m B : Nat) (D : DataW Value) (N : Nat) (val : Int -> Option Value) : Prop where
 mapOwn : w.ownsMap Tryz.prog 3 selfElem m B D
 absent : ∀ n, val n = none -> Maps.has D (.int .i64 n) = false
 there : ∀ n v, val n = some v -> Maps.has D (.int .i64 n) = true
 held : ∀ n v, val n = some v -> ∀ z, D.atKey (.int .i64 n) z = .held v
 dom : ∀ n v, val n = some v -> 0 <= n /\ n < N
def grpKeys (val : Int -> Option Value) (N : Nat) : List Int := ((List.range N).map (fun k : Nat => (k : Int))).filter (fun k => (val k).isSome)
theorem mem_grpKeys {val : Int -> Option Value} {N : Nat} {k : Int} : k ∈ grpKeys val N ↔ (0 <= k /\ k < N /\ (val k).isSome = true) := by
 simp only [grpKeys, List.mem_filter, List.mem_map, List.mem_range]
 constructor
 ·rintro ⟨⟨j, hj, rfl⟩, h⟩
  exact ⟨by omega, by omega, h⟩
 ·rintro ⟨h0, h1, h2⟩
  exact ⟨⟨k.toNat, by omega, by omega⟩, h2⟩
theorem sorted_grpKeys (val : Int -> Option Value) (N : Nat) : (grpKeys val N).Pairwise (fun a b => a < b) := by
 refine List.Pairwise.filter _ (List.pairwise_map.2 (List.pairwise_lt_range.imp (fun h => by omega)))
theorem sort_grpKeys (val : Int -> Option Value) (N : Nat) : (grpKeys val N).mergeSort leI = grpKeys val N :=
 List.mergeSort_of_pairwise ((sorted_grpKeys val N).imp (fun h => by simp only [leI, decide_eq_true_eq]; omega))
theorem GrpIn.keys {w : World} {m B : Nat} {D : DataW Value} {N : Nat} {val : Int -> Option Value} (h : GrpIn w m B D N val) {ss : List Int} (hs : ss.Perm (intKeys D)) : ss.mergeSort leI = grpKeys val N := by
 have hk : ∀ x, x ∈ grpKeys val N ↔ has D (.int .i64 x) = true := fun x => by
  rw [mem_grpKeys]
  constructor
  ·rintro ⟨_, _, hx⟩
   obtain ⟨v, hv⟩ := Option.isSome_iff_exists.1 hx
   exact h.there x v hv
  ·intro hx
   cases hv : val x with
   | none => rw [h.absent x hv] at hx; cases hx
   | some v => exact ⟨(h.dom x v hv).1, (h.dom x v hv).2, rfl⟩
 obtain ⟨es, hD, hpw, _⟩ := h.mapOwn.entries (int_keyed Tryz.underlying3)
 obtain ⟨es', hD', hko⟩ := h.mapOwn.keysOf
 obtain rfl : es = es' := by rw [hD] at hD'; simpa using hD'
 have hp : (grpKeys val N).Perm (intKeys D) := by
  rw [hD] at hk ⊢
  exact perm_intKeys hpw (fun p hp => by obtain ⟨v, hv⟩ := hko p hp; obtain ⟨x, _, hx, _⟩ := Maps.keyOf_i64 Tryz.underlying3 hv; exact ⟨x, hx⟩) ((sorted_grpKeys _ _).imp (fun h => by omega)) hk
 rw [mergeSort_of_perm_i (hs.trans hp.symm), sort_grpKeys]
theorem GrpIn.keep {w w' : World} {m B : Nat} {D : DataW Value} {N : Nat} {val : Int -> Option Value} (h : GrpIn w m B D N val) {F : Nat -> Prop} (k : Keeps F w w') (hF : ¬ F m) : GrpIn w' m B D N val :=
 ⟨k.map h.mapOwn hF, h.absent, h.there, h.held, h.dom⟩
theorem GrpIn.below {w w' : World} {m B : Nat} {D : DataW Value} {N : Nat} {val : Int -> Option Value} (h : GrpIn w m B D N val) (k : Below w.heap.size w w') : GrpIn w' m B D N val :=
 h.keep (F := fun _ => False) (Keeps.of_below k) (fun e => e)
theorem grp_numbers (m B : Nat) (D : DataW Value) (N : Nat) (val : Int -> Option Value) (w : World) (h : GrpIn w m B D N val) (hB : B <= 1000000) :
  Calls Tryz.prog 129 #[.map (some m)] w fun e w' => ∃ v, e = .returned v /\ w'.ownsRow w.heap.size 3 1 v (grpKeys val N).length ((grpKeys val N).map encZ) /\ (v = .slice none 0 0 ↔ grpKeys val N = []) /\ Below w.heap.size w w' := by
 refine (callsIn_wide (n := 6)).1 ?_
 have hown := h.mapOwn
 have hbl := hown.lt
 have hsz := hown.size_le
 have hmax : Maps.size D <= maxLen := by unfold maxLen; omega
 have hbytes : Maps.size D * 8 <= 140737488355328 := by omega
 have hseq : SeqGives Fence.wide 2 Tryz.prog 184 #[.pointer (some ⟨w.heap.size, 0, none⟩)] encZ (fun ss => ss.Perm (intKeys D)) (Maps.size D) (w.alloc (.cells #[.map (some m)] 135)) :=
  AnyZI.keys_gives (ρ := Tryz.keysG_ren) { Tryz.keysG with } Fence.wide _ trivial rfl (by omega) w.heap.size m B D _ (by simp) (by simp) (by
   obtain ⟨es, clock, hb, Ft, hs, hD⟩ := hown
   exact ⟨es, clock, (Below.heap_alloc _ _ m hbl).trans hb, Ft, hs, hD⟩)
 have cK : ∀ mb W, CallsIn Fence.wide 5 Tryz.prog 171 #[.map mb] W fun e w' => e = .returned (.func (.func 184) #[] #[.pointer (some ⟨W.heap.size, 0, none⟩)]) /\ w' = W.alloc (.cells #[.map mb] 135) := fun mb W => AnyZI.keys_in Tryz.keysG Fence.wide 5 trivial rfl mb W
 have cS := AnyZI.sorted_in Tryz.sortedA Fence.wide 5 trivial trivial trivial trivial rfl (by omega) (sortsA _) (enters_of Tryz.func146 (by kernel_rfl) rfl) 184 #[.pointer (some ⟨w.heap.size, 0, none⟩)] trivial (enters_of Tryz.func184 (by kernel_rfl) rfl) _ _ hmax hbytes _ hseq
 change CallsIn _ _ Tryz.prog 94 _ _ _ at cS
 have hfK : Fence.wide.fn 171 := trivial
 have hfS : Fence.wide.fn 94 := trivial
 have H := hid h
 clear h hown hseq hsz
 refine callsIn_of_wp Tryz.func129 rfl trivial ?_ rfl
 simp only [Tryz.ntmps129, List.size_toArray, List.length_cons, List.length_nil, Nat.reduceAdd, Nat.reduceSub, Array.replicate_succ, Array.replicate_zero, List.push_toArray, List.append_toArray, List.nil_append, List.cons_append]
 gi_wp2_with (first
  | (gi_at_call 171; refine (cK _ _).mono ?_; rintro e w' ⟨rfl, rfl⟩)
  | (gi_at_call 94; refine cS.mono ?_; rintro e w' ⟨v, ss, rfl, hS, hrow, hnil, hb⟩))
 go_ret
 have hk := H.out.keys hS
 rw [hk] at hrow
 have hlen : ss.length = (grpKeys val N).length := by rw [<- hk, List.length_mergeSort]
 refine ⟨v, rfl, ?_, ?_, ((Below.refl _ w).alloc (Nat.le_refl _) _).trans (hb.mono (by simp))⟩
 ·rw [<- hlen]; exact ownsRow_base_a hrow (by simp)
 ·rw [hnil, <- List.length_eq_zero_iff, hlen, List.length_eq_zero_iff]
end
section
open Go.RowKit Go.Maps
structure PageS where
 n : Int
 a : Option Addr
 len : Nat
 cap : Nat
def PageS.val (p : PageS) : Value := .slice p.a p.len p.cap
def pagesAt (w : World) (pa : Option Addr) (ps : List PageS) : Prop := ∀ j, j < ps.length -> ∃ b o, pa = some ⟨b, o, none⟩ /\ ∀ i (hi : i < ps.length), w.cell? ⟨b, o + i * 2, none⟩ = some (.int .i64 ps[i].n) /\ w.cell? ⟨b, o + i * 2 + 1, none⟩ = some ps[i].val
def updV (f : Int -> Option Value) (n : Int) (v : Value) : Int -> Option Value := fun k => if k = n then some v else f k
def grpVal (ps : List PageS) : Nat -> Int -> Option Value
 | 0 => fun _ => none
 | j + 1 => match ps[j]? with
  | some p => updV (grpVal ps j) p.n p.val
  | none => grpVal ps j
def grpErr (ps : List PageS) : Nat -> Int
 | 0 => 0
 | j + 1 => match ps[j]? with
  | some p => if (grpVal ps j p.n).isSome \/ p.len ≠ 512 then 3 else grpErr ps j
  | none => grpErr ps j
theorem wpList_mapUpdate_self {P : Program} {w : World} {ops : Array Oper} {rest : List Oper} {o : Oper} {a : Act} {Q : Exit -> Act -> World -> Prop} (hg : o.guard = none) (m x v : Operand) (t : TypeId) (hop : o.op = Op.mapUpdate t m x v) (k e : TypeId) (KK : Keyed P k) (ht : P.underlying t = some (.map k e)) (b n : Nat) (D : DataW Value)
  (hm : a.eval m = .map (some b)) (hown : w.ownsMap P k selfElem b n D) (hn : n < maxLen) (key val : Value) (kl : Lit) (hx : a.eval x = key) (hv : a.eval v = val) (hkey : keyOf P k key = some kl)
  (h : ∀ w', w'.ownsMap P k selfElem b (n + 1) (D.put kl (.held val)) -> w.grownBy w' (some b) -> wpList P ops Q rest (a.put o.dst undef) w') : wpList P ops Q (o :: rest) a w :=
 wpList_plain hg fun _ hK => wp_mapUpdate_self m x v t hop k e KK ht b n D hm hown hn key val kl hx hv hkey (fun w' h1 h2 => hK _ _ (h w' h1 h2))
theorem wpList_lookup_ok_self {P : Program} {w : World} {ops : Array Oper} {rest : List Oper} {o : Oper} {a : Act} {Q : Exit -> Act -> World -> Prop} (hg : o.guard = none) (m x : Operand) (t : TypeId) (hop : o.op = Op.lookup t m x true) (k e : TypeId) (KK : Keyed P k) (ht : P.underlying t = some (.map k e)) {z : Value} (hz : (zeroValue e).run P w = .ok z w) (b n : Nat) (D : DataW Value)
  (hm : a.eval m = .map (some b)) (hown : w.ownsMap P k selfElem b n D) (key : Value) (kl : Lit) (hx : a.eval x = key) (hkey : keyOf P k key = some kl) (q : Bool) (hq : Maps.has D kl = q)
  (h : ∀ v, wpList P ops Q rest (a.put o.dst (.tuple #[v, .bool q])) w) : wpList P ops Q (o :: rest) a w :=
 wpList_lookup_own_ok w hg m x t hop k e KK ht selfElem hz (.held z) [] rfl b n D hm hown key kl hx hkey (fun v ps _ => by rw [hq]; exact h v)
theorem GrpIn.put {w w' : World} {m B : Nat} {D : DataW Value} {N : Nat} {val : Int -> Option Value} (h : GrpIn w m B D N val) {n : Int} {v : Value} (h0 : 0 <= n) (h1 : n < N)
  (hm : w'.ownsMap Tryz.prog 3 selfElem m (B + 1) (D.put (.int .i64 n) (.held v))) : GrpIn w' m (B + 1) (D.put (.int .i64 n) (.held v)) N (updV val n v) where
 mapOwn := hm
 absent := fun k hk => by
  by_cases e : k = n
  ·subst e; simp [updV] at hk
  ·rw [has_put_other (by simpa using e)]; exact h.absent k (by simpa [updV, e] using hk)
 there := fun k u hk => by
  by_cases e : k = n
  ·subst e; exact has_put_same h.mapOwn.isMap (keyLit_i64 _) _
  ·rw [has_put_other (by simpa using e)]; exact h.there k u (by simpa [updV, e] using hk)
 held := fun k u hk z => by
  by_cases e : k = n
  ·subst e
   rw [atKey_put_same h.mapOwn.isMap (keyLit_i64 _)]
   simp [updV] at hk
   rw [hk]
  ·rw [atKey_put_other (by simpa using e)]; exact h.held k u (by simpa [updV, e] using hk) z
 dom := fun k u hk => by
  by_cases e : k = n
  ·subst e; exact ⟨h0, h1⟩
  ·exact h.dom k u (by simpa [updV, e] using hk)
theorem GrpIn.has {w : World} {m B : Nat} {D : DataW Value} {N : Nat} {val : Int -> Option Value} (h : GrpIn w m B D N val) (n : Int) : Maps.has D (.int .i64 n) = (val n).isSome := by
 cases hv : val n with
 | none => rw [h.absent n hv]; rfl
 | some v => rw [h.there n v hv]; rfl
def GroupedTo (ps : List PageS) (N K : Nat) (w' : World) (e : Ending) : Prop :=
 (∃ j, ∃ hj : j < ps.length, ¬ (0 <= ps[j].n /\ ps[j].n < (N : Int)) /\ e = .returned (.tuple #[.map none, .int .i64 2])) \/
 ((∀ j (hj : j < ps.length), 0 <= ps[j].n /\ ps[j].n < (N : Int)) /\ ∃ m D, e = .returned (.tuple #[.map (some m), .int .i64 (grpErr ps ps.length)]) /\ K <= m /\ GrpIn w' m 100 D N (grpVal ps ps.length))
theorem grouped_any (d : DL) (S : DiskS) (size : Nat) (ps : List PageS) (pa : Option Addr) (pc : Nat) (w : World) (h : DiskRd w d S) (hs : size + 1 <= S.safe.length) (hp : pagesAt w pa ps) (hl : ps.length <= 100) :
  Calls Tryz.prog 97 #[layV d.p size, .slice pa ps.length pc] w fun e w' => Below w.heap.size w w' /\
   GroupedTo ps (pagesS S size) w.heap.size w' e := by
 have HH := hid (fun n W hW => lay_has d S size n W (h.below (w' := W) hW) hs)
 unfold layV at HH ⊢
 have HP := hid hp
 have HPm : Hid (pagesS S size <= 4096) := by have := h.plates.most; unfold Hid pagesS; omega
 have HMono : Hid (∀ {W : World} {m : Nat} {D : DataW Value}, W.ownsMap Tryz.prog 3 selfElem m ps.length D -> W.ownsMap Tryz.prog 3 selfElem m 100 D) := fun {W m D} ⟨es, c, h1, h2, h3, h4⟩ => ⟨es, c, h1, h2, by omega, h4⟩
 clear h hp
 obtain ⟨m1, m2, m3, m4⟩ := new2 w (.cells #[.pointer (some ⟨d.p, 0, none⟩), .int .i64 size] 131) (.map #[] 0)
 have HM1 := hid m1
 have HG0 : Hid (GrpIn ((w.alloc (.cells #[.pointer (some ⟨d.p, 0, none⟩), .int .i64 size] 131)).alloc (.map #[] 0)) (w.heap.size + 1) 0 (.map []) (pagesS S size) (grpVal ps 0)) :=
  ⟨map_empty m2, fun _ _ => rfl, fun n v hv => (by cases hv), fun n v hv => (by cases hv), fun n v hv => (by cases hv)⟩
 have HB0 := hid m3
 have hmk : ∀ W : World, (Instr.makeMap 135 none).run Tryz.prog W = .ok (.map (some W.heap.size)) (W.alloc (.map #[] 0)) := fun W => by kernel_rfl
 clear m1 m2 m3 m4
 go_enter Tryz.func97, Tryz.ntmps97
 go_wp2
 clear hmk
 generalize (w.alloc (.cells #[.pointer (some ⟨d.p, 0, none⟩), .int .i64 size] 131)).alloc (.map #[] 0) = w1 at *
 go_loopw [7, 15] (fun e i wr => ∃ (j : Nat) (D : DataW Value), j <= ps.length /\ e = .int .i64 (grpErr ps j) /\ i = .int .i64 j /\ Hid (GrpIn wr (w.heap.size + 1) j D (pagesS S size) (grpVal ps j)) /\ Hid (∀ k (hk : k < ps.length), k < j -> 0 <= ps[k].n /\ ps[k].n < (pagesS S size : Nat)) /\ Hid (wr.heap[w.heap.size]? = some (.cells #[.pointer (some ⟨d.p, 0, none⟩), .int .i64 size] 131 (0, 0))) /\ Hid (Below w.heap.size w wr)) (fun _ i _ => ps.length - (intOf i).toNat)
 case atStart => exact ⟨0, _, by omega, rfl, rfl, HG0, fun k _ h => by omega, HM1, HB0⟩
 case round =>
  obtain ⟨j, D, hj, rfl, rfl, hG, hA, hM, hB⟩ := hrel
  by_cases hlt : j < ps.length
  ·have hj0 : (0 : Int) <= (j : Int) := by omega
   have hj1 : (j : Int) < (ps.length : Int) := by omega
   obtain ⟨b, o, rfl, hc⟩ := HP.out j hlt
   obtain ⟨hc0, hc1⟩ := hc j hlt
   have c0 : wr.cell? ⟨b, o + j * 2, none⟩ = some (.int .i64 ps[j].n) := (hB.out.cell (p := ⟨b, o + j * 2, none⟩) (World.block_lt_of_cell? w _ hc0)).trans hc0
   have c1 : wr.cell? ⟨b, o + j * 2 + 1, none⟩ = some (.slice ps[j].a ps[j].len ps[j].cap) := (hB.out.cell (p := ⟨b, o + j * 2 + 1, none⟩) (World.block_lt_of_cell? w _ hc1)).trans hc1
   have l0 : wr.cell? ⟨w.heap.size, 0, none⟩ = some (.pointer (some ⟨d.p, 0, none⟩)) := cell_of_block hM.out 0
   have l1 : wr.cell? ⟨w.heap.size, 1, none⟩ = some (.int .i64 size) := cell_of_block hM.out 1
   have hpj : ps[j]? = some ps[j] := List.getElem?_eq_getElem hlt
   have HV : Hid (grpVal ps (j + 1) = updV (grpVal ps j) ps[j].n (.slice ps[j].a ps[j].len ps[j].cap)) := by unfold Hid; rw [grpVal, hpj]; rfl
   have HE : Hid (grpErr ps (j + 1) = if (grpVal ps j ps[j].n).isSome \/ ps[j].len ≠ 512 then 3 else grpErr ps j) := by unfold Hid; rw [grpErr, hpj]
   clear hc hc0 hc1 hpj
   have hwl := lt_of_heap hM.out
   have hal := (Below.refl wr.heap.size wr).alloc (Nat.le_refl _) (.cells #[.int .i64 ps[j].n, .slice ps[j].a ps[j].len ps[j].cap] 107)
   have hpb := block_new wr (.cells #[.int .i64 ps[j].n, .slice ps[j].a ps[j].len ps[j].cap] 107)
   have HAl := hid hal
   have HPb := hid hpb
   have q0 : (wr.alloc (.cells #[.int .i64 ps[j].n, .slice ps[j].a ps[j].len ps[j].cap] 107)).cell? ⟨w.heap.size, 0, none⟩ = some (.pointer (some ⟨d.p, 0, none⟩)) := (hal.cell (p := ⟨w.heap.size, 0, none⟩) hwl).trans l0
   have q1 : (wr.alloc (.cells #[.int .i64 ps[j].n, .slice ps[j].a ps[j].len ps[j].cap] 107)).cell? ⟨w.heap.size, 1, none⟩ = some (.int .i64 size) := (hal.cell (p := ⟨w.heap.size, 1, none⟩) hwl).trans l1
   clear hal hpb
   go_wp2_with fail
   refine (HH.out ps[j].n _ (hB.out.trans (HAl.out.mono hB.out.size))).mono ?_
   rintro e w5 ⟨rfl, hb5⟩
   have HM5 := hid (below_block hb5 (below_block HAl.out hM.out hwl) (by have := HAl.out.size; omega))
   have hP5 := below_block hb5 HPb.out (lt_of_heap HPb.out)
   have HG5 := hid ((hG.out.below HAl.out).below hb5)
   have HB5 := hid ((hB.out.trans (HAl.out.mono hB.out.size)).trans (hb5.mono (by have := HAl.out.size; have := hB.out.size; omega)))
   have p0 : w5.cell? ⟨wr.heap.size, 0, none⟩ = some (.int .i64 ps[j].n) := cell_of_block hP5 0
   have p1 : w5.cell? ⟨wr.heap.size, 1, none⟩ = some (.slice ps[j].a ps[j].len ps[j].cap) := cell_of_block hP5 1
   have hps : pagesS S size <= 4096 := HPm.out
   clear hb5 hP5 q0 q1 HAl HPb l0 l1 c0 c1
   by_cases hin : 0 <= ps[j].n /\ ps[j].n < (pagesS S size : Nat)
   ·rw [decide_eq_true hin]
    obtain ⟨hx0, hx1⟩ := hin
    have HA6 : Hid (∀ k (hk : k < ps.length), k < j + 1 -> 0 <= ps[k].n /\ ps[k].n < (pagesS S size : Nat)) := fun k hk hkj => by
     rcases Nat.lt_or_ge k j with h1 | h1
     ·exact hA.out k hk h1
     ·obtain rfl : k = j := by omega
      exact ⟨hx0, hx1⟩
    have HQ0 := hid (HG5.out.has ps[j].n)
    generalize hxn : ps[j].n = x at *
    generalize hxa : ps[j].a = pA at *
    generalize hxl : ps[j].len = pL at *
    generalize hxc : ps[j].cap = pC at *
    clear hxn hxa hxl hxc
    cases hq : (grpVal ps j x).isSome with
    | true =>
     have HQ : Hid (Maps.has D (.int .i64 x) = true) := HQ0.out.trans hq
     have HE3 : Hid (grpErr ps (j + 1) = 3) := by unfold Hid; rw [HE.out, if_pos (.inl hq)]
     clear HQ0 hq HE
     go_wp2_with (first
      | (refine wpList_lookup_ok_self rfl (.tmp 25) (.tmp 27) 135 rfl 3 42 (int_keyed Tryz.underlying3) Tryz.underlying135 (Tryz.zeroValue42 _) (w.heap.size + 1) j D rfl HG5.out.mapOwn (.int .i64 x) (.int .i64 x) rfl (keyI (by omega) (by omega)) true HQ.out ?_; intro lv)
      | (refine wpList_mapUpdate_self rfl (.tmp 38) (.tmp 40) (.tmp 42) 135 rfl 3 42 (int_keyed Tryz.underlying3) Tryz.underlying135 (w.heap.size + 1) j D rfl HG5.out.mapOwn (by unfold maxLen; omega) (.int .i64 x) (.slice pA pL pC) (.int .i64 x) rfl rfl (keyI (by omega) (by omega)) ?_; intro w6 hm6 hg6; have HG6 := hid (HG5.out.put hx0 hx1 hm6); have HB6 := hid (HB5.out.trans (below_of_row hg6 HB5.out.size (fun i e => by have := Option.some.inj e; omega))); have HM6 := hid (grown_block hg6 HM5.out (fun e => by have := Option.some.inj e; omega)); clear hm6 hg6))
     refine ⟨⟨j + 1, _, by omega, by rw [HE3.out], by go_num, by rw [HV.out]; exact HG6, HA6, HM6, HB6⟩, by simp [intOf]; omega⟩
    | false =>
     have HQ : Hid (Maps.has D (.int .i64 x) = false) := HQ0.out.trans hq
     by_cases h5 : pL = 512
     ·have HE3 : Hid (grpErr ps (j + 1) = grpErr ps j) := by unfold Hid; rw [HE.out, if_neg (by simp [hq, h5])]
      clear HQ0 hq HE
      subst h5
      go_wp2_with (first
       | (refine wpList_lookup_ok_self rfl (.tmp 25) (.tmp 27) 135 rfl 3 42 (int_keyed Tryz.underlying3) Tryz.underlying135 (Tryz.zeroValue42 _) (w.heap.size + 1) j D rfl HG5.out.mapOwn (.int .i64 x) (.int .i64 x) rfl (keyI (by omega) (by omega)) false HQ.out ?_; intro lv)
       | (refine wpList_mapUpdate_self rfl (.tmp 38) (.tmp 40) (.tmp 42) 135 rfl 3 42 (int_keyed Tryz.underlying3) Tryz.underlying135 (w.heap.size + 1) j D rfl HG5.out.mapOwn (by unfold maxLen; omega) (.int .i64 x) (.slice pA 512 pC) (.int .i64 x) rfl rfl (keyI (by omega) (by omega)) ?_; intro w6 hm6 hg6; have HG6 := hid (HG5.out.put hx0 hx1 hm6); have HB6 := hid (HB5.out.trans (below_of_row hg6 HB5.out.size (fun i e => by have := Option.some.inj e; omega))); have HM6 := hid (grown_block hg6 HM5.out (fun e => by have := Option.some.inj e; omega)); clear hm6 hg6))
      refine ⟨⟨j + 1, _, by omega, by rw [HE3.out], by go_num, by rw [HV.out]; exact HG6, HA6, HM6, HB6⟩, by simp [intOf]; omega⟩
     ·have HE3 : Hid (grpErr ps (j + 1) = 3) := by unfold Hid; rw [HE.out, if_pos (.inr h5)]
      have h5' : ((pL : Int) == 512) = false := by rw [beq_eq_false_iff_ne]; omega
      clear HQ0 hq HE
      go_wp2_with (first
       | (refine wpList_lookup_ok_self rfl (.tmp 25) (.tmp 27) 135 rfl 3 42 (int_keyed Tryz.underlying3) Tryz.underlying135 (Tryz.zeroValue42 _) (w.heap.size + 1) j D rfl HG5.out.mapOwn (.int .i64 x) (.int .i64 x) rfl (keyI (by omega) (by omega)) false HQ.out ?_; intro lv)
       | (refine wpList_mapUpdate_self rfl (.tmp 38) (.tmp 40) (.tmp 42) 135 rfl 3 42 (int_keyed Tryz.underlying3) Tryz.underlying135 (w.heap.size + 1) j D rfl HG5.out.mapOwn (by unfold maxLen; omega) (.int .i64 x) (.slice pA pL pC) (.int .i64 x) rfl rfl (keyI (by omega) (by omega)) ?_; intro w6 hm6 hg6; have HG6 := hid (HG5.out.put hx0 hx1 hm6); have HB6 := hid (HB5.out.trans (below_of_row hg6 HB5.out.size (fun i e => by have := Option.some.inj e; omega))); have HM6 := hid (grown_block hg6 HM5.out (fun e => by have := Option.some.inj e; omega)); clear hm6 hg6))
      refine ⟨⟨j + 1, _, by omega, by rw [HE3.out], by go_num, by rw [HV.out]; exact HG6, HA6, HM6, HB6⟩, by simp [intOf]; omega⟩
   ·rw [decide_eq_false hin]
    have HIn := hid hin
    clear hin
    go_wp2
    go_returns
    exact ⟨HB5.out, .inl ⟨j, hlt, HIn.out, rfl⟩⟩
  ·obtain rfl : j = ps.length := by omega
   have hge : ¬ ((ps.length : Int) < (ps.length : Int)) := by omega
   go_wp2
   go_returns
   exact ⟨hB.out, .inr ⟨fun k hk => hA.out k hk hk, _, D, rfl, by omega, ⟨HMono.out hG.out.mapOwn, hG.out.absent, hG.out.there, hG.out.held, hG.out.dom⟩⟩⟩
end
section
open Go.RowKit Go.Maps
def homeTo (S : DiskS) (size : Nat) (l : Int -> List UInt8) (ks : List Int) : DiskS := ks.foldl (fun S n => S.wrote (1 + (size : Int) + n) ⟨(l n).toArray⟩) S
def homeS (S : DiskS) (size : Nat) (l : Int -> List UInt8) (ks : List Int) : DiskS := ((homeTo S size l ks).flushed.wrote 0 ⟨(headS []).toArray⟩).flushed
theorem homeTo_facts (size : Nat) (l : Int -> List UInt8) : ∀ (ks : List Int) (S : DiskS), (homeTo S size l ks).safe = S.safe /\ (homeTo S size l ks).ops.length = S.ops.length + ks.length
 | [], S => ⟨rfl, rfl⟩
 | k :: ks, S => by
  obtain ⟨h1, h2⟩ := homeTo_facts size l ks (S.wrote (1 + (size : Int) + k) ⟨(l k).toArray⟩)
  refine ⟨h1, ?_⟩
  show (homeTo (S.wrote (1 + (size : Int) + k) ⟨(l k).toArray⟩) size l ks).ops.length = _
  rw [h2]
  simp [DiskS.wrote]
  omega
theorem homeTo_snoc (S : DiskS) (size : Nat) (l : Int -> List UInt8) (ks : List Int) (k : Int) : homeTo S size l (ks ++ [k]) = (homeTo S size l ks).wrote (1 + (size : Int) + k) ⟨(l k).toArray⟩ := by simp [homeTo]
def GrpBytes (w : World) (val : Int -> Option Value) (l : Int -> List UInt8) (F : Nat -> Prop) : Prop := ∀ n v, val n = some v -> ∃ ad c, v = .slice (some ad) 512 c /\ bytesAt w ad (l n) /\ (l n).length = 512 /\ ¬ F ad.block
theorem bring_home (d : DL) (S : DiskS) (F : Nat -> Prop) (size m B : Nat) (D : DataW Value) (N : Nat) (val : Int -> Option Value) (l : Int -> List UInt8) (w : World) (h : AnyAt w d S F) (hF : ∀ i, F i -> i < w.heap.size)
  (hg : GrpIn w m B D N val) (hm : ¬ F m) (hB : B <= 1000000) (hv : GrpBytes w val l F) (hs : 1 + size + N <= S.safe.length) (hk : (grpKeys val N).length <= 100) (ho : S.ops.length <= 900000) :
  Calls Tryz.prog 74 #[layV d.p size, .map (some m)] w fun e w' => e = .returned (.tuple #[]) /\ ∃ d', (d'.p = d.p /\ d'.fv = d.fv /\ OwnAt w' d' (homeS S size l (grpKeys val N)) (fun i => F i \/ (w.heap.size <= i /\ i < w'.heap.size))) /\ AnyAt w' d' (homeS S size l (grpKeys val N)) (fun i => F i \/ (w.heap.size <= i /\ i < w'.heap.size)) /\ Keeps F w w' := by
 have hmost := h.rd.plates.most
 have HA0 := hid ((Below.refl w.heap.size w).alloc (Nat.le_refl _) (.cells #[.pointer (some ⟨d.p, 0, none⟩), .int .i64 size] 131))
 have Hb0 := hid (block_new w (.cells #[.pointer (some ⟨d.p, 0, none⟩), .int .i64 size] 131))
 have HNu := hid (fun W hW => grp_numbers m B D N val W (hg.below (w' := W) hW) hB)
 have H := hid h
 have HG := hid hg
 have HV := hid hv
 have HFl := hid hF
 clear h hg hv hF
 unfold layV
 go_enter Tryz.func74, Tryz.ntmps74
 go_wp2_with fail
 generalize w.alloc (.cells #[.pointer (some ⟨d.p, 0, none⟩), .int .i64 size] 131) = wA at *
 refine (HNu.out _ HA0.out).mono ?_
 rintro e w1 ⟨v, rfl, hrow, -, hb1⟩
 obtain ⟨ra, rc, rfl, hints⟩ := row_slice hrow
 have HI := hid hints
 have HB1 := hid (HA0.out.trans (hb1.mono HA0.out.size))
 have HL1 := hid (below_block hb1 Hb0.out (lt_of_heap Hb0.out))
 have HG1 := hid (HG.out.below HB1.out)
 have HD1 := hid ((H.out.below HB1.out).mono (G := fun i => F i \/ (w1.heap.size <= i /\ i < w1.heap.size)) (fun i hi => .inl hi))
 have hsA : w.heap.size < wA.heap.size := lt_of_heap Hb0.out
 have hs1 := hb1.size
 have HFw : Hid (¬ F w.heap.size) := fun hf => by have := HFl.out _ hf; omega
 have HKey := hid (fun j (hj : j < (grpKeys val N).length) => mem_grpKeys.1 (List.getElem_mem hj))
 have HFa := hid (fun ks => homeTo_facts size l ks S)
 have HHs : Hid (homeS S size l (grpKeys val N) = ((homeTo S size l (grpKeys val N)).flushed.wrote 0 ⟨(headS []).toArray⟩).flushed) := rfl
 clear hrow hb1 HNu hints HA0 Hb0 H HG
 generalize hks : grpKeys val N = ks at *
 have HKs := hid hks
 clear hks
 go_wp2
 go_loopw [9] (fun i wr => ∃ (j : Nat) (dj : DL), j <= ks.length /\ i = .int .i64 j /\ Hid (dj.p = d.p /\ dj.fv = d.fv) /\ Hid (AnyAt wr dj (homeTo S size l (ks.take j)) (fun i => F i \/ (w1.heap.size <= i /\ i < wr.heap.size))) /\ Hid (Keeps F w1 wr)) (fun i _ => ks.length - (intOf i).toNat)
 case atStart => exact ⟨0, d, by omega, rfl, ⟨rfl, rfl⟩, HD1, Keeps.refl _ _⟩
 case round =>
  obtain ⟨j, dj, hj, rfl, hp, hD, hK⟩ := hrel
  have hLr := hK.out.heap HL1.out HFw.out
  have l0 : wr.cell? ⟨w.heap.size, 0, none⟩ = some (.pointer (some ⟨d.p, 0, none⟩)) := cell_of_block hLr 0
  have l1 : wr.cell? ⟨w.heap.size, 1, none⟩ = some (.int .i64 size) := cell_of_block hLr 1
  have hsr := hK.out.size
  by_cases hlt : j < ks.length
  ·have hj0 : (0 : Int) <= (j : Int) := by omega
   have hj1 : (j : Int) < (ks.length : Int) := by omega
   obtain ⟨g, rfl, hg1, hg2, hgc⟩ := HI.out j hlt
   have hcj : wr.cell? ⟨g, j, none⟩ = some (.int .i64 ks[j]) := by
    refine hK.out.cell (ad := ⟨g, j, none⟩) ?_ (fun hf => ?_)
    ·rw [hgc j hlt]; simp [hlt]
    ·have := HFl.out _ hf
     have e : (⟨g, j, none⟩ : Addr).block = g := rfl
     omega
   obtain ⟨k0, k1, k2⟩ := HKey.out j hlt
   obtain ⟨pv, hpv⟩ := Option.isSome_iff_exists.1 k2
   obtain ⟨ad, pc, rfl, hby, h512, hnf⟩ := HV.out _ _ hpv
   have HBy := hid hby
   have H5 := hid h512
   have HNf := hid hnf
   have HPv := hid hpv
   have HSn : Hid (homeTo S size l (ks.take (j + 1)) = (homeTo S size l (ks.take j)).wrote (1 + (size : Int) + ks[j]) ⟨(l ks[j]).toArray⟩) := by unfold Hid; rw [List.take_succ_eq_append_getElem hlt, homeTo_snoc]
   have HFaj := hid (HFa.out (ks.take j))
   clear hgc hg1 hby h512 hnf hpv k2
   generalize ks[j] = x at *
   have hlook : ∀ W : World, Keeps F w1 W -> (Instr.lookup 135 (.map (some m)) (.int .i64 x) false).run Tryz.prog W = .ok (.slice (some ad) 512 pc) W := fun W hW => by
    have hgW := HG1.out.keep hW hm
    obtain ⟨u, hr, hu⟩ := self_lookup hgW.mapOwn (int_keyed Tryz.underlying3) Tryz.underlying135 (Tryz.zeroValue42 W) (keyI (n := x) (by omega) (by omega))
    rw [hr]
    rw [hgW.held x _ HPv.out] at hu
    rw [<- DataW.held.inj hu]
   have HLk := hid hlook
   have hhm := lay_home d.p size x wr.drew (by omega) k0 (by omega)
   unfold layV at hhm
   have HHm := hid hhm
   clear hlook hhm
   go_wp2
   refine wp_region_noPanic ?_
   refine wp_region_held_drew (S := fun W => W.cell? ⟨w.heap.size, 0, none⟩ = some (.pointer (some ⟨d.p, 0, none⟩)) /\ W.cell? ⟨w.heap.size, 1, none⟩ = some (.int .i64 size) /\ (Instr.lookup 135 (.map (some m)) (.int .i64 x) false).run Tryz.prog W = .ok (.slice (some ad) 512 pc) W) (by kernel_rfl) ⟨l0, l1, HLk.out wr.drew hK.out.drew⟩ (fun hHeld => ?_)
   refine tq 0 _ ?_
   try simp only [tS]
   refine tq 1 _ ?_
   try simp only [tS]
   refine tq 2 _ ?_
   try simp only [tS]
   refine tq 3 _ ?_
   try simp only [tS]
   refine tq 5 _ ?_
   try simp only [tS]
   refine tq 6 _ ?_
   try simp only [tS]
   refine tq 7 _ ?_
   try simp only [tS]
   refine wpAnyH_ready (rs := [4]) (by kernel_rfl) (by simp) (AllReadyH.cons rfl (fun K hKK => ?_) AllReadyH.nil)
   rw [if_pos (by rfl)]
   go_simp
   refine HHm.out.mono ?_
   clear HHm
   rintro e w2 ⟨rfl, hb2⟩
   have hK2 : Keeps F w1 w2 := hK.out.drew.andBelow hb2
   have hL2 := hK2.heap HL1.out HFw.out
   have m0 : w2.cell? ⟨w.heap.size, 0, none⟩ = some (.pointer (some ⟨d.p, 0, none⟩)) := cell_of_block hL2 0
   have m1 : w2.cell? ⟨w.heap.size, 1, none⟩ = some (.int .i64 size) := cell_of_block hL2 1
   have hs2 := hb2.size
   have hs2' : wr.heap.size <= w2.heap.size := hs2
   have hD2 : AnyAt w2 dj (homeTo S size l (ks.take j)) (fun i => F i \/ (w1.heap.size <= i /\ i < w2.heap.size)) := ((hD.out.below (w' := wr.drew) (Below.refl _ _).drew).below hb2).later (w1 := wr) hs2'
   have hby2 : bytesAt w2 ad (l x) := fun q hq => hK2.cell ((HB1.out.cell (World.block_lt_of_cell? w _ (HBy.out q hq))).trans (HBy.out q hq)) (by rw [add_block]; exact HNf.out)
   have hwr := at_write dj (homeTo S size l (ks.take j)) (fun i => F i \/ (w1.heap.size <= i /\ i < w2.heap.size)) (1 + (size : Int) + x) (l x) ad pc w2 hD2 (by rw [HFaj.out.2, List.length_take]; omega) (by omega) (by rw [HFaj.out.1]; omega) H5.out hby2
   rw [hp.out.1, hp.out.2] at hwr
   have HWr := hid hwr
   have HK2 := hid hK2
   clear hb2 hL2 hwr hby2 hD2 hK2
   go_wp2_with fail
   refine hKK.out _ _ ⟨m0, m1, HLk.out w2 HK2.out⟩ (fun hHeld => ?_)
   clear hKK K
   try simp only [tS]
   refine wpAnyH_ready (rs := [8]) (by kernel_rfl) (by simp) (AllReadyH.cons rfl (fun K hKK => ?_) AllReadyH.nil)
   rw [if_pos (by rfl)]
   go_simp
   refine HWr.out.mono ?_
   clear HWr
   rintro e w3 ⟨rfl, d3, e3, hA3, hK3⟩
   have hK13 : Keeps F w1 w3 := HK2.out.trans hK3 (fun i hi => hi.imp id (fun h => h.1))
   have hL3 := hK13.heap HL1.out HFw.out
   have HD3 := hid (hA3.next (w := w1) (w1 := w2) HK2.out.size hK3.size)
   rw [<- HSn.out] at HD3
   have HK13 := hid hK13
   have HE3 : Hid (d3.p = d.p /\ d3.fv = d.fv) := ⟨e3.1, e3.2.1⟩
   have n0 : w3.cell? ⟨w.heap.size, 0, none⟩ = some (.pointer (some ⟨d.p, 0, none⟩)) := cell_of_block hL3 0
   have n1 : w3.cell? ⟨w.heap.size, 1, none⟩ = some (.int .i64 size) := cell_of_block hL3 1
   clear hA3 hK3 hK13 hL3 e3
   go_wp2_with fail
   refine hKK.out _ _ ⟨n0, n1, HLk.out w3 HK13.out⟩ (fun hHeld => ?_)
   clear hKK K
   refine wpAnyH_done (by kernel_rfl) ?_ _
   refine NoPanic.normal ?_
   go_wp2
   exact ⟨⟨j + 1, d3, by omega, by go_num, HE3, HD3, HK13⟩, by simp [intOf]; omega⟩
  ·obtain rfl : j = ks.length := by omega
   have hge : ¬ ((ks.length : Int) < (ks.length : Int)) := by omega
   have hDk := hD.out
   rw [List.take_length] at hDk
   have HFaK := hid (HFa.out ks)
   have hfl := at_flush dj (homeTo S size l ks) _ wr hDk (by rw [HFaK.out.2]; omega)
   rw [hp.out.1, hp.out.2] at hfl
   have HFls := hid hfl
   clear hfl hDk
   go_wp2_with fail
   refine HFls.out.mono ?_
   clear HFls
   rintro e w2 ⟨rfl, d2, e2, hA2, hK2⟩
   have hK12 : Keeps F w1 w2 := hK.out.trans hK2 (fun i hi => hi.imp id (fun h => h.1))
   have HD2 := hid (hA2.next (w := w1) (w1 := wr) hK.out.size hK2.size)
   have hL2 := hK12.heap HL1.out HFw.out
   have HK12 := hid hK12
   have HE2 : Hid (d2.p = d.p /\ d2.fv = d.fv) := ⟨e2.1, e2.2.1⟩
   have m0 : w2.cell? ⟨w.heap.size, 0, none⟩ = some (.pointer (some ⟨d.p, 0, none⟩)) := cell_of_block hL2 0
   clear hA2 hK2 hK12 hL2 e2 l0 l1
   have HHd := hid (head_of [] none 0 w2.drew (fun j hj => by simp at hj) (by decide) (fun n hn => by cases hn))
   have hlh : (headS []).length = 512 := length_headTo [] 0 (by decide) (by decide)
   have HLh := hid hlh
   clear hlh
   generalize headS [] = HS0 at *
   go_wp2
   refine wp_region_noPanic ?_
   refine wp_region_held_drew (S := fun W => W.cell? ⟨w.heap.size, 0, none⟩ = some (.pointer (some ⟨d.p, 0, none⟩))) (by kernel_rfl) m0 (fun hHeld => ?_)
   refine tq 0 _ ?_
   try simp only [tS]
   refine tq 1 _ ?_
   try simp only [tS]
   refine wpAnyH_ready (rs := [2]) (by kernel_rfl) (by simp) (AllReadyH.cons rfl (fun K hKK => ?_) AllReadyH.nil)
   rw [if_pos (by rfl)]
   go_simp
   refine HHd.out.mono ?_
   clear HHd
   rintro e w3 ⟨hb, rfl, hhb, hob, hb3⟩
   have hK3 : Keeps F w1 w3 := HK12.out.drew.andBelow hb3
   have hL3 := hK3.heap HL1.out HFw.out
   have n0 : w3.cell? ⟨w.heap.size, 0, none⟩ = some (.pointer (some ⟨d.p, 0, none⟩)) := cell_of_block hL3 0
   have hs3 : w2.heap.size <= w3.heap.size := hb3.size
   have hD3 := ((HD2.out.below (w' := w2.drew) (Below.refl _ _).drew).below hb3).later (w1 := w2) hs3
   have hwr := at_write d2 _ _ 0 HS0 ⟨hb, 0, none⟩ 512 w3 hD3 (by simp only [DiskS.flushed, List.length_append, List.length_singleton]; rw [HFaK.out.2]; omega) (by omega) (by show (0 : Int) < ((imgS _).length : Nat); rw [length_imgS, HFaK.out.1]; omega) HLh.out hob.at
   rw [HE2.out.1, HE2.out.2] at hwr
   have HWr := hid hwr
   have HK3 := hid hK3
   clear hb3 hL3 hwr hD3 hK3 hob hhb
   go_wp2_with fail
   refine hKK.out _ _ n0 (fun hHeld => ?_)
   clear hKK K
   try simp only [tS]
   refine wpAnyH_ready (rs := [3]) (by kernel_rfl) (by simp) (AllReadyH.cons rfl (fun K hKK => ?_) AllReadyH.nil)
   rw [if_pos (by rfl)]
   go_simp
   refine HWr.out.mono ?_
   clear HWr
   rintro e w4 ⟨rfl, d4, e4, hA4, hK4⟩
   have hK14 : Keeps F w1 w4 := HK3.out.trans hK4 (fun i hi => hi.imp id (fun h => h.1))
   have hL4 := hK14.heap HL1.out HFw.out
   have q0 : w4.cell? ⟨w.heap.size, 0, none⟩ = some (.pointer (some ⟨d.p, 0, none⟩)) := cell_of_block hL4 0
   have hD4 := hA4.next (w := w1) (w1 := w3) HK3.out.size hK4.size
   have hfl := at_flush d4 _ _ w4 hD4 (by simp only [DiskS.wrote, DiskS.flushed, List.length_append, List.length_singleton]; rw [HFaK.out.2]; omega)
   rw [e4.1, e4.2.1] at hfl
   have HFls := hid hfl
   have HK14 := hid hK14
   clear hA4 hK4 hK14 hL4 hD4 hfl e4
   go_wp2_with fail
   refine hKK.out _ _ q0 (fun hHeld => ?_)
   clear hKK K
   refine wpAnyH_done (by kernel_rfl) ?_ _
   refine NoPanic.normal ?_
   go_wp2_with fail
   refine HFls.out.mono ?_
   clear HFls
   rintro e w5 ⟨rfl, d5, e5, hA5, hK5⟩
   have hK15 : Keeps F w1 w5 := HK14.out.trans hK5 (fun i hi => hi.imp id (fun h => h.1))
   have HD5 := hid (hA5.next (w := w1) (w1 := w4) HK14.out.size hK5.size)
   have HK15 := hid hK15
   have HE5 := hid (And.intro e5.1 e5.2.1)
   have HO5 := hid (e5.2.2.next (w := w1) (w1 := w4) HK14.out.size hK5.size)
   clear hA5 hK5 hK15 e5
   go_wp2
   go_returns
   have hs01 := HB1.out.size
   refine ⟨rfl, d5, ⟨HE5.out.1, HE5.out.2, ?_⟩, ?_, (Keeps.of_below HB1.out).trans HK15.out (fun i hi => .inl hi)⟩
   ·rw [HKs.out, HHs.out]
    exact HO5.out.mono (fun i hi => hi.imp id (fun h => ⟨by omega, h.2⟩))
   ·rw [HKs.out, HHs.out]
    exact HD5.out.mono (fun i hi => hi.imp id (fun h => ⟨by omega, h.2⟩))
end
section
open Go.RowKit Go.Maps
def logTo (S : DiskS) (l : Int -> List UInt8) (ks : List Int) (j : Nat) : DiskS := (List.range j).foldl (fun S (i : Nat) => S.wrote (1 + (i : Int)) ⟨(l (ks.getD i 0)).toArray⟩) S
theorem logTo_succ (S : DiskS) (l : Int -> List UInt8) (ks : List Int) (j : Nat) (h : j < ks.length) : logTo S l ks (j + 1) = (logTo S l ks j).wrote (1 + (j : Int)) ⟨(l ks[j]).toArray⟩ := by
 rw [logTo, List.range_succ, List.foldl_append]
 simp [logTo, h]
theorem logTo_facts (S : DiskS) (l : Int -> List UInt8) (ks : List Int) : ∀ j, (logTo S l ks j).safe = S.safe /\ (logTo S l ks j).ops.length = S.ops.length + j
 | 0 => ⟨rfl, rfl⟩
 | j + 1 => by
  obtain ⟨h1, h2⟩ := logTo_facts S l ks j
  rw [logTo, List.range_succ, List.foldl_append]
  refine ⟨h1, ?_⟩
  show ((logTo S l ks j).ops ++ [_]).length = _
  rw [List.length_append, h2]; rfl
def writtenS (S : DiskS) (size : Nat) (l : Int -> List UInt8) (ks : List Int) : DiskS :=
 homeS (((logTo S l ks ks.length).flushed.wrote 0 ⟨(headS (ks.map Int.toNat)).toArray⟩).flushed) size l ks
theorem natsZ_toNat (ks : List Int) (h : ∀ k ∈ ks, 0 <= k) : natsZ (ks.map Int.toNat) = ks := by
 unfold natsZ
 rw [List.map_map]
 conv => rhs; rw [<- List.map_id ks]
 exact List.map_congr_left (fun k hk => by have := h k hk; simp; omega)
theorem write_group (d : DL) (S : DiskS) (F : Nat -> Prop) (size m B : Nat) (D : DataW Value) (N : Nat) (val : Int -> Option Value) (l : Int -> List UInt8) (w : World) (h : AnyAt w d S F) (hF : ∀ i, F i -> i < w.heap.size)
  (hg : GrpIn w m B D N val) (hm : ¬ F m) (hB : B <= 1000000) (hv : GrpBytes w val l F) (hs : 1 + size + N <= S.safe.length) (hk : (grpKeys val N).length <= 100) (hk2 : (grpKeys val N).length <= size) (ho : S.ops.length <= 800000) :
  Calls Tryz.prog 98 #[layV d.p size, .map (some m)] w fun e w' => e = .returned (.tuple #[]) /\ ∃ d', (d'.p = d.p /\ d'.fv = d.fv /\ OwnAt w' d' (writtenS S size l (grpKeys val N)) (fun i => F i \/ (w.heap.size <= i /\ i < w'.heap.size))) /\ AnyAt w' d' (writtenS S size l (grpKeys val N)) (fun i => F i \/ (w.heap.size <= i /\ i < w'.heap.size)) /\ Keeps F w w' := by
 have hmost := h.rd.plates.most
 have HA0 := hid ((Below.refl w.heap.size w).alloc (Nat.le_refl _) (.cells #[.pointer (some ⟨d.p, 0, none⟩), .int .i64 size] 131))
 have Hb0 := hid (block_new w (.cells #[.pointer (some ⟨d.p, 0, none⟩), .int .i64 size] 131))
 have HNu := hid (fun W hW => grp_numbers m B D N val W (hg.below (w' := W) hW) hB)
 have H := hid h
 have HG := hid hg
 have HV := hid hv
 have HFl := hid hF
 have HMw := hid hg.mapOwn.lt
 clear h hg hv hF
 unfold layV
 go_enter Tryz.func98, Tryz.ntmps98
 go_wp2_with fail
 generalize w.alloc (.cells #[.pointer (some ⟨d.p, 0, none⟩), .int .i64 size] 131) = wA at *
 refine (HNu.out _ HA0.out).mono ?_
 rintro e w1 ⟨v, rfl, hrow, -, hb1⟩
 obtain ⟨ra, rc, rfl, hints⟩ := row_slice hrow
 have HI := hid hints
 have HB1 := hid (HA0.out.trans (hb1.mono HA0.out.size))
 have HL1 := hid (below_block hb1 Hb0.out (lt_of_heap Hb0.out))
 have HG1 := hid (HG.out.below HB1.out)
 have HD1 := hid ((H.out.below HB1.out).mono (G := fun i => F i \/ (w1.heap.size <= i /\ i < w1.heap.size)) (fun i hi => .inl hi))
 have hsA : w.heap.size < wA.heap.size := lt_of_heap Hb0.out
 have hs1 := hb1.size
 have HFw : Hid (¬ F w.heap.size) := fun hf => by have := HFl.out _ hf; omega
 have HKey := hid (fun j (hj : j < (grpKeys val N).length) => mem_grpKeys.1 (List.getElem_mem hj))
 have HFa := hid (fun ks => logTo_facts S l ks)
 clear hrow hb1 HNu hints HA0 Hb0 H HG
 generalize hks : grpKeys val N = ks at *
 have HKs := hid hks
 clear hks
 have HNs := hid (natsZ_toNat ks (fun k hk => by obtain ⟨q, hq, rfl⟩ := List.getElem_of_mem hk; exact (HKey.out q hq).1))
 have HNm : Hid (∀ n ∈ ks.map Int.toNat, n < 65536) := fun n hn => by
  obtain ⟨k, hk, rfl⟩ := List.mem_map.1 hn
  obtain ⟨q, hq, rfl⟩ := List.getElem_of_mem hk
  have := (HKey.out q hq).2.1
  omega
 go_wp2
 go_loopw [11] (fun i wr => ∃ (j : Nat) (dj : DL), j <= ks.length /\ i = .int .i64 j /\ Hid (dj.p = d.p /\ dj.fv = d.fv) /\ Hid (AnyAt wr dj (logTo S l ks j) (fun i => F i \/ (w1.heap.size <= i /\ i < wr.heap.size))) /\ Hid (Keeps F w1 wr)) (fun i _ => ks.length - (intOf i).toNat)
 case atStart => exact ⟨0, d, by omega, rfl, ⟨rfl, rfl⟩, HD1, Keeps.refl _ _⟩
 case round =>
  obtain ⟨j, dj, hj, rfl, hp, hD, hK⟩ := hrel
  have hLr := hK.out.heap HL1.out HFw.out
  have l0 : wr.cell? ⟨w.heap.size, 0, none⟩ = some (.pointer (some ⟨d.p, 0, none⟩)) := cell_of_block hLr 0
  have l1 : wr.cell? ⟨w.heap.size, 1, none⟩ = some (.int .i64 size) := cell_of_block hLr 1
  have hsr := hK.out.size
  by_cases hlt : j < ks.length
  ·have hj0 : (0 : Int) <= (j : Int) := by omega
   have hj1 : (j : Int) < (ks.length : Int) := by omega
   obtain ⟨g, rfl, hg1, hg2, hgc⟩ := HI.out j hlt
   have hcj : wr.cell? ⟨g, j, none⟩ = some (.int .i64 ks[j]) := by
    refine hK.out.cell (ad := ⟨g, j, none⟩) ?_ (fun hf => ?_)
    ·rw [hgc j hlt]; simp [hlt]
    ·have := HFl.out _ hf
     have e : (⟨g, j, none⟩ : Addr).block = g := rfl
     omega
   obtain ⟨k0, k1, k2⟩ := HKey.out j hlt
   obtain ⟨pv, hpv⟩ := Option.isSome_iff_exists.1 k2
   obtain ⟨ad, pc, rfl, hby, h512, hnf⟩ := HV.out _ _ hpv
   have hby2 : bytesAt wr ad (l ks[j]) := fun q hq => hK.out.cell ((HB1.out.cell (World.block_lt_of_cell? w _ (hby q hq))).trans (hby q hq)) (by rw [add_block]; exact hnf)
   have hlook : (Instr.lookup 135 (.map (some m)) (.int .i64 ks[j]) false).run Tryz.prog wr = .ok (.slice (some ad) 512 pc) wr := by
    have hgW := HG1.out.keep hK.out hm
    obtain ⟨u, hr, hu⟩ := self_lookup hgW.mapOwn (int_keyed Tryz.underlying3) Tryz.underlying135 (Tryz.zeroValue42 wr) (keyI (n := ks[j]) (by omega) (by omega))
    rw [hr]
    rw [hgW.held ks[j] _ hpv] at hu
    rw [<- DataW.held.inj hu]
   have HSn := hid (logTo_succ S l ks j hlt)
   have hwr := at_write dj (logTo S l ks j) (fun i => F i \/ (w1.heap.size <= i /\ i < wr.heap.size)) (1 + (j : Int)) (l ks[j]) ad pc wr hD.out (by rw [(HFa.out ks j).2]; omega) (by omega) (by rw [(HFa.out ks j).1]; omega) h512 hby2
   rw [hp.out.1, hp.out.2, <- HSn.out] at hwr
   have HWr := hid hwr
   clear hgc hg1 hby h512 hnf hpv k2 hby2 hwr HSn
   generalize ks[j] = x at *
   go_wp2_with fail
   refine HWr.out.mono ?_
   clear HWr
   rintro e w3 ⟨rfl, d3, e3, hA3, hK3⟩
   have HK13 : Hid (Keeps F w1 w3) := hK.out.trans hK3 (fun i hi => hi.imp id (fun h => h.1))
   have HD3 := hid (hA3.next (w := w1) (w1 := wr) hK.out.size hK3.size)
   have HE3 : Hid (d3.p = d.p /\ d3.fv = d.fv) := ⟨e3.1, e3.2.1⟩
   clear hA3 hK3 e3 l0 l1 hcj hlook hLr
   go_wp2
   exact ⟨⟨j + 1, d3, by omega, by go_num, HE3, HD3, HK13⟩, by simp [intOf]; omega⟩
  ·obtain rfl : j = ks.length := by omega
   have hge : ¬ ((ks.length : Int) < (ks.length : Int)) := by omega
   have HFaK := hid (HFa.out ks ks.length)
   have hfl := at_flush dj (logTo S l ks ks.length) _ wr hD.out (by rw [HFaK.out.2]; omega)
   rw [hp.out.1, hp.out.2] at hfl
   have HFls := hid hfl
   clear hfl
   go_wp2_with fail
   refine HFls.out.mono ?_
   clear HFls
   rintro e w2 ⟨rfl, d2, e2, hA2, hK2⟩
   have hK12 : Keeps F w1 w2 := hK.out.trans hK2 (fun i hi => hi.imp id (fun h => h.1))
   have HD2 := hid (hA2.next (w := w1) (w1 := wr) hK.out.size hK2.size)
   have hL2 := hK12.heap HL1.out HFw.out
   have HE2 : Hid (d2.p = d.p /\ d2.fv = d.fv) := ⟨e2.1, e2.2.1⟩
   have m0 : w2.cell? ⟨w.heap.size, 0, none⟩ = some (.pointer (some ⟨d.p, 0, none⟩)) := cell_of_block hL2 0
   have hin2 : intsAt w2.drew ra (natsZ (ks.map Int.toNat)) := by
    rw [HNs.out]
    intro j hj
    obtain ⟨g, rfl, hg1, hg2, hgc⟩ := HI.out j hj
    refine ⟨g, 0, rfl, fun i hi => ?_⟩
    rw [Nat.zero_add]
    refine hK12.drew.cell (ad := ⟨g, i, none⟩) ?_ (fun hf => ?_)
    ·rw [hgc i hi]; simp [hi]
    ·have := HFl.out _ hf
     have e : (⟨g, i, none⟩ : Addr).block = g := rfl
     omega
   have hhd := head_of (ks.map Int.toNat) ra rc w2.drew hin2 (by rw [List.length_map]; omega) HNm.out
   rw [List.length_map] at hhd
   have HHd := hid hhd
   have hlh : (headS (ks.map Int.toNat)).length = 512 := length_headTo _ _ (Nat.le_refl _) (by rw [List.length_map]; omega)
   have HLh := hid hlh
   have HK12 := hid hK12
   have HWS : Hid (writtenS S size l ks = homeS (((logTo S l ks ks.length).flushed.wrote 0 ⟨(headS (ks.map Int.toNat)).toArray⟩).flushed) size l ks) := rfl
   clear hA2 hK2 hK12 hL2 e2 l0 l1 hlh hhd hin2 hLr HNs HNm
   generalize headS (ks.map Int.toNat) = HS0 at *
   go_wp2
   refine wp_region_noPanic ?_
   refine wp_region_held_drew (S := fun W => W.cell? ⟨w.heap.size, 0, none⟩ = some (.pointer (some ⟨d.p, 0, none⟩))) (by kernel_rfl) m0 (fun hHeld => ?_)
   refine tq 0 _ ?_
   try simp only [tS]
   refine tq 1 _ ?_
   try simp only [tS]
   refine tq 2 _ ?_
   try simp only [tS]
   refine wpAnyH_ready (rs := [3]) (by kernel_rfl) (by simp) (AllReadyH.cons rfl (fun K hKK => ?_) AllReadyH.nil)
   rw [if_pos (by rfl)]
   go_simp
   refine HHd.out.mono ?_
   clear HHd
   rintro e w3 ⟨hb, rfl, hhb, hob, hb3⟩
   have hK3 : Keeps F w1 w3 := HK12.out.drew.andBelow hb3
   have hL3 := hK3.heap HL1.out HFw.out
   have n0 : w3.cell? ⟨w.heap.size, 0, none⟩ = some (.pointer (some ⟨d.p, 0, none⟩)) := cell_of_block hL3 0
   have hs3 : w2.heap.size <= w3.heap.size := hb3.size
   have hD3 := ((HD2.out.below (w' := w2.drew) (Below.refl _ _).drew).below hb3).later (w1 := w2) hs3
   have hwr := at_write d2 _ _ 0 HS0 ⟨hb, 0, none⟩ 512 w3 hD3 (by simp only [DiskS.flushed, List.length_append, List.length_singleton]; rw [HFaK.out.2]; omega) (by omega) (by show (0 : Int) < ((imgS _).length : Nat); rw [length_imgS, HFaK.out.1]; omega) HLh.out hob.at
   rw [HE2.out.1, HE2.out.2] at hwr
   have HWr := hid hwr
   have HK3 := hid hK3
   clear hb3 hL3 hwr hD3 hK3 hob hhb
   go_wp2_with fail
   refine hKK.out _ _ n0 (fun hHeld => ?_)
   clear hKK K
   try simp only [tS]
   refine wpAnyH_ready (rs := [4]) (by kernel_rfl) (by simp) (AllReadyH.cons rfl (fun K hKK => ?_) AllReadyH.nil)
   rw [if_pos (by rfl)]
   go_simp
   refine HWr.out.mono ?_
   clear HWr
   rintro e w4 ⟨rfl, d4, e4, hA4, hK4⟩
   have hK14 : Keeps F w1 w4 := HK3.out.trans hK4 (fun i hi => hi.imp id (fun h => h.1))
   have hL4 := hK14.heap HL1.out HFw.out
   have q0 : w4.cell? ⟨w.heap.size, 0, none⟩ = some (.pointer (some ⟨d.p, 0, none⟩)) := cell_of_block hL4 0
   have hD4 := hA4.next (w := w1) (w1 := w3) HK3.out.size hK4.size
   have hfl := at_flush d4 _ _ w4 hD4 (by simp only [DiskS.wrote, DiskS.flushed, List.length_append, List.length_singleton]; rw [HFaK.out.2]; omega)
   rw [e4.1, e4.2.1] at hfl
   have HFls := hid hfl
   have HK14 := hid hK14
   clear hA4 hK4 hK14 hL4 hD4 hfl e4
   go_wp2_with fail
   refine hKK.out _ _ q0 (fun hHeld => ?_)
   clear hKK K
   refine wpAnyH_done (by kernel_rfl) ?_ _
   refine NoPanic.normal ?_
   go_wp2_with fail
   refine HFls.out.mono ?_
   clear HFls
   rintro e w5 ⟨rfl, d5, e5, hA5, hK5⟩
   have hK15 : Keeps F w1 w5 := HK14.out.trans hK5 (fun i hi => hi.imp id (fun h => h.1))
   have hD5 := hA5.next (w := w1) (w1 := w4) HK14.out.size hK5.size
   have hL5 := hK15.heap HL1.out HFw.out
   have r0 : w5.cell? ⟨w.heap.size, 0, none⟩ = some (.pointer (some ⟨d.p, 0, none⟩)) := cell_of_block hL5 0
   have r1 : w5.cell? ⟨w.heap.size, 1, none⟩ = some (.int .i64 size) := cell_of_block hL5 1
   have hmw : m < w.heap.size := HMw.out
   have hF5 : ∀ i, F i \/ (w1.heap.size <= i /\ i < w5.heap.size) -> i < w5.heap.size := fun i hi => hi.elim (fun h => by have := HFl.out i h; have := HB1.out.size; have := hK15.size; omega) (fun h => h.2)
   have hm5 : ¬ (F m \/ (w1.heap.size <= m /\ m < w5.heap.size)) := fun h => h.elim hm (fun h => by have := HB1.out.size; omega)
   have hv5 : GrpBytes w5 val l (fun i => F i \/ (w1.heap.size <= i /\ i < w5.heap.size)) := fun n v hnv => by
    obtain ⟨ad, c, e, hby, h512, hnf⟩ := HV.out n v hnv
    refine ⟨ad, c, e, fun q hq => hK15.cell ((HB1.out.cell (World.block_lt_of_cell? w _ (hby q hq))).trans (hby q hq)) (by rw [add_block]; exact hnf), h512, fun hf => hf.elim hnf (fun hh => ?_)⟩
    have := World.block_lt_of_cell? w _ (hby 0 (by rw [h512]; decide))
    rw [add_block] at this
    have := HB1.out.size
    omega
   have hbr := bring_home d5 _ (fun i => F i \/ (w1.heap.size <= i /\ i < w5.heap.size)) size m B D N val l w5 hD5 hF5 (HG1.out.keep hK15 hm) hm5 hB hv5 (by show 1 + size + N <= (imgS _).length; rw [length_imgS]; show 1 + size + N <= (imgS _).length; rw [length_imgS, HFaK.out.1]; exact hs) (by rw [HKs.out]; exact hk) (by simp only [DiskS.wrote, DiskS.flushed, List.length_append, List.length_singleton]; rw [HFaK.out.2]; omega)
   rw [e5.1, e5.2.1, HKs.out, <- HWS.out] at hbr
   unfold layV at hbr
   have HBr := hid hbr
   have HK15 := hid hK15
   clear hA5 hK5 hK15 e5 hD5 hL5 hF5 hm5 hv5 hbr
   go_wp2_with fail
   refine HBr.out.mono ?_
   clear HBr
   rintro e w6 ⟨rfl, d6, e6, hA6, hK6⟩
   have hK16 : Keeps F w1 w6 := HK15.out.trans hK6 (fun i hi => hi.imp id (fun h => h.1))
   have HD6 := hid (hA6.next (w := w1) (w1 := w5) HK15.out.size hK6.size)
   have HK16 := hid hK16
   have HE6 := hid (And.intro e6.1 e6.2.1)
   have HO6 := hid (e6.2.2.next (w := w1) (w1 := w5) HK15.out.size hK6.size)
   clear hA6 hK6 hK16 e6
   go_wp2
   go_returns
   have hs01 := HB1.out.size
   refine ⟨rfl, d6, ⟨HE6.out.1, HE6.out.2, ?_⟩, ?_, (Keeps.of_below HB1.out).trans HK16.out (fun i hi => .inl hi)⟩
   ·rw [HKs.out]
    exact HO6.out.mono (fun i hi => hi.imp id (fun h => ⟨by omega, h.2⟩))
   ·rw [HKs.out]
    exact HD6.out.mono (fun i hi => hi.imp id (fun h => ⟨by omega, h.2⟩))
end
section
open Go.RowKit
section
variable {p : Nat} {d : DL} {S : DiskS} {size rec : Nat} {F : Nat -> Prop}
theorem LogIn.below {w w' : World} (h : LogIn w p d S size rec F) (k : Below w.heap.size w w') : LogIn w' p d S size rec F := ⟨below_block k h.heap (lt_of_heap h.heap), h.disk.below k, h.off⟩
theorem log_pages (w : World) (h : LogIn w p d S size rec F) (hs : size + 1 <= S.safe.length) : Calls Tryz.prog 78 #[.pointer (some ⟨p, 0, none⟩)] w fun e w' => e = .returned (.int .i64 (pagesS S size : Nat)) /\ Below w.heap.size w w' := by
 have c0 : w.cell? ⟨p, 0, none⟩ = some (.pointer (some ⟨d.p, 0, none⟩)) := cell_of_block h.heap 0
 have c1 : w.cell? ⟨p, 1, none⟩ = some (.int .i64 size) := cell_of_block h.heap 1
 have hp := lay_pages d S size w h.disk.rd hs
 unfold layV at hp
 have HP := hid hp
 clear h hp
 go_enter Tryz.func78, Tryz.ntmps78
 go_wp2_with fail
 refine HP.out.mono ?_
 rintro e w1 ⟨rfl, hb⟩
 have HB := hid hb
 clear hb
 go_wp2
 go_ret
 exact ⟨rfl, HB.out⟩
theorem log_capacity (w : World) (h : LogIn w p d S size rec F) (hs : size <= 4096) : Calls Tryz.prog 134 #[.pointer (some ⟨p, 0, none⟩)] w fun e w' => e = .returned (.int .i64 ((min size 100 : Nat) : Int)) /\ Below w.heap.size w w' := by
 have c0 : w.cell? ⟨p, 0, none⟩ = some (.pointer (some ⟨d.p, 0, none⟩)) := cell_of_block h.heap 0
 have c1 : w.cell? ⟨p, 1, none⟩ = some (.int .i64 size) := cell_of_block h.heap 1
 have hp := lay_capacity d.p size w hs
 unfold layV at hp
 have HP := hid hp
 clear h hp
 generalize min size 100 = q at *
 go_enter Tryz.func134, Tryz.ntmps134
 go_wp2_with fail
 refine HP.out.mono ?_
 rintro e w1 ⟨rfl, hb⟩
 have HB := hid hb
 clear hb
 go_wp2
 go_ret
 exact ⟨rfl, HB.out⟩
theorem log_read (n : Nat) (w : World) (h : LogIn w p d S size rec F) (hs : size + 1 <= S.safe.length) (hn : n < pagesS S size) :
  Calls Tryz.prog 175 #[.pointer (some ⟨p, 0, none⟩), .int .i64 n] w fun e w' => ∃ b c, e = .returned (.tuple #[.slice (some ⟨b, 0, none⟩) (seenS S.safe S.waits (1 + (size : Int) + (n : Int))).size c, .int .i64 0]) /\ w.heap.size <= b /\ bytesAt w' ⟨b, 0, none⟩ (seenS S.safe S.waits (1 + (size : Int) + (n : Int))).data.toList /\ Below w.heap.size w w' := by
 have hm := h.disk.rd.plates.most
 have hpm : 1 + size + n < S.safe.length := by unfold pagesS at hn; omega
 have HH := hid (fun W (hW : Below w.heap.size w W) => lay_has d S size (n : Int) W ((h.below hW).disk.rd) hs)
 have HHm := hid (fun W => lay_home d.p size (n : Int) W (by omega) (by omega) (by omega))
 have HR := hid (fun W (hW : Below w.heap.size w W) => read_ok_rd d S (1 + (size : Int) + (n : Int)) W ((h.below hW).disk.rd) (by omega) (by omega))
 have HC : Hid (∀ W, Below w.heap.size w W -> W.cell? ⟨p, 0, none⟩ = some (.pointer (some ⟨d.p, 0, none⟩)) /\ W.cell? ⟨p, 1, none⟩ = some (.int .i64 size)) := fun W hW => ⟨cell_of_block (h.below hW).heap 0, cell_of_block (h.below hW).heap 1⟩
 have hd : decide (0 <= (n : Int) /\ (n : Int) < (pagesS S size : Nat)) = true := decide_eq_true ⟨by omega, by omega⟩
 unfold layV at HH HHm
 rw [hd] at HH
 obtain ⟨c0, c1⟩ := HC.out w (Below.refl _ _)
 clear h hd
 generalize seenS S.safe S.waits (1 + (size : Int) + (n : Int)) = T at *
 go_enter Tryz.func175, Tryz.ntmps175
 go_wp2_with fail
 refine (HH.out _ (Below.refl _ _)).mono ?_
 rintro e w1 ⟨rfl, hb1⟩
 have HB1 := hid hb1
 obtain ⟨d0, d1⟩ := HC.out w1 hb1
 clear hb1 c0 c1 HH
 go_wp2_with fail
 refine wp_region_noPanic ?_
 refine wp_region_held_drew (S := fun W => W.cell? ⟨p, 0, none⟩ = some (.pointer (some ⟨d.p, 0, none⟩)) /\ W.cell? ⟨p, 1, none⟩ = some (.int .i64 size)) (by kernel_rfl) ⟨d0, d1⟩ (fun hHeld => ?_)
 refine tq 0 _ ?_
 try simp only [tS]
 refine tq 1 _ ?_
 try simp only [tS]
 refine tq 2 _ ?_
 try simp only [tS]
 refine tq 3 _ ?_
 try simp only [tS]
 refine tq 4 _ ?_
 try simp only [tS]
 refine tq 5 _ ?_
 try simp only [tS]
 refine tq 6 _ ?_
 try simp only [tS]
 refine tq 7 _ ?_
 try simp only [tS]
 refine tq 8 _ ?_
 try simp only [tS]
 refine tq 9 _ ?_
 try simp only [tS]
 refine wpAnyH_ready (rs := [10]) (by kernel_rfl) (by simp) (AllReadyH.cons rfl (fun K hKK => ?_) AllReadyH.nil)
 rw [if_pos (by rfl)]
 go_simp
 refine (HHm.out w1.drew).mono ?_
 clear HHm
 rintro e w2 ⟨rfl, hb2⟩
 have hB2 : Below w.heap.size w w2 := HB1.out.drew.trans (hb2.mono HB1.out.size)
 have HB2 := hid hB2
 obtain ⟨e0, e1⟩ := HC.out w2 hB2
 clear hb2 hB2
 go_wp2_with fail
 refine hKK.out _ _ ⟨e0, e1⟩ (fun hHeld => ?_)
 clear hKK K
 try simp only [tS]
 refine wpAnyH_ready (rs := [11]) (by kernel_rfl) (by simp) (AllReadyH.cons rfl (fun K hKK => ?_) AllReadyH.nil)
 rw [if_pos (by rfl)]
 go_simp
 refine (HR.out w2 HB2.out).mono ?_
 clear HR
 rintro e w3 ⟨b, c, rfl, hbb, hat, hb3⟩
 have hB3 : Below w.heap.size w w3 := HB2.out.trans (hb3.mono HB2.out.size)
 have HB3 := hid hB3
 have HAt := hid hat
 have hs2 := HB2.out.size
 obtain ⟨f0, f1⟩ := HC.out w3 hB3
 clear hb3 hB3 hat
 go_wp2_with fail
 refine hKK.out _ _ ⟨f0, f1⟩ (fun hHeld => ?_)
 clear hKK K
 try simp only [tS]
 refine tq 12 _ ?_
 try simp only [tS]
 refine tq 13 _ ?_
 try simp only [tS]
 refine tq 14 _ ?_
 try simp only [tS]
 refine tq 15 _ ?_
 try simp only [tS]
 refine wpAnyH_done (by kernel_rfl) ?_ _
 refine NoPanic.normal ?_
 go_wp2
 go_returns
 exact ⟨b, c, rfl, by omega, HAt.out, HB3.out⟩
end
end
section
open Go.RowKit
theorem filt_le (val : Int -> Option Value) (n : Int) (v : Value) : ∀ L : List Int, L.Nodup -> (L.filter (fun k => (updV val n v k).isSome)).length <= (L.filter (fun k => (val k).isSome)).length + 1
 | [], _ => by simp
 | k :: L, h => by
  obtain ⟨h1, h2⟩ := List.nodup_cons.1 h
  have ih := filt_le val n v L h2
  by_cases e : k = n
  ·subst e
   have hrest : L.filter (fun q => (updV val k v q).isSome) = L.filter (fun q => (val q).isSome) := List.filter_congr (fun q hq => by
    have : q ≠ k := fun e => h1 (e ▸ hq)
    simp [updV, this])
   rw [List.filter_cons, List.filter_cons, hrest]
   split <;> split <;> (try simp only [List.length_cons]) <;> omega
  ·have hk : (updV val n v k).isSome = (val k).isSome := by simp [updV, e]
   rw [List.filter_cons, List.filter_cons, hk]
   split
   ·simp only [List.length_cons]; omega
   ·exact ih
theorem grpKeys_le (ps : List PageS) (N : Nat) : ∀ j, (grpKeys (grpVal ps j) N).length <= j
 | 0 => by simp [grpKeys, grpVal]
 | j + 1 => by
  have ih := grpKeys_le ps N j
  have hnd : ((List.range N).map (fun k : Nat => (k : Int))).Nodup := by
   refine List.pairwise_map.2 (List.nodup_range.imp (fun h => by omega))
  cases hp : ps[j]? with
  | none =>
   have e : grpVal ps (j + 1) = grpVal ps j := by rw [grpVal, hp]
   rw [e]; omega
  | some p =>
   have e : grpVal ps (j + 1) = updV (grpVal ps j) p.n p.val := by rw [grpVal, hp]
   have := filt_le (grpVal ps j) p.n p.val _ hnd
   rw [e]
   unfold grpKeys at ih ⊢
   omega
section
variable {p : Nat} {d : DL} {S : DiskS} {size rec : Nat} {F : Nat -> Prop}
theorem commit_fv (ps : List PageS) (pa : Option Addr) (pc : Nat) (l : Int -> List UInt8) (w : World) (h : LogIn w p d S size rec F) (hF : ∀ i, F i -> i < w.heap.size) (hs : size + 1 <= S.safe.length) (hp : pagesAt w pa ps)
  (h1 : 1 <= ps.length) (h2 : ps.length <= size) (h3 : ps.length <= 100) (hin : ∀ j (hj : j < ps.length), 0 <= ps[j].n /\ ps[j].n < (pagesS S size : Nat)) (he : grpErr ps ps.length = 0)
  (hv : GrpBytes w (grpVal ps ps.length) l F) (ho : S.ops.length <= 800000) :
  Calls Tryz.prog 43 #[.pointer (some ⟨p, 0, none⟩), .slice pa ps.length pc] w fun e w' => e = .returned (.int .i64 0) /\ ∃ d', (d'.fv = d.fv /\ OwnAt w' d' (writtenS S size l (grpKeys (grpVal ps ps.length) (pagesS S size))) (fun i => F i \/ (w.heap.size <= i /\ i < w'.heap.size))) /\ LogIn w' p d' (writtenS S size l (grpKeys (grpVal ps ps.length) (pagesS S size))) size rec (fun i => F i \/ (w.heap.size <= i /\ i < w'.heap.size)) /\ Keeps F w w' := by
 have hm := h.disk.rd.plates.most
 have hpl := lt_of_heap h.heap
 have HC : Hid (∀ W, Below w.heap.size w W -> W.cell? ⟨p, 0, none⟩ = some (.pointer (some ⟨d.p, 0, none⟩)) /\ W.cell? ⟨p, 1, none⟩ = some (.int .i64 size)) := fun W hW => ⟨cell_of_block (h.below hW).heap 0, cell_of_block (h.below hW).heap 1⟩
 have hcp := lay_capacity d.p size w (by omega)
 have HGr := hid (fun W (hW : Below w.heap.size w W) => grouped_any d S size ps pa pc W ((h.below hW).disk.rd) hs (fun j hj => by
  obtain ⟨b, o, e, hc⟩ := hp j hj
  exact ⟨b, o, e, fun i hi => ⟨(hW.cell (p := ⟨b, o + i * 2, none⟩) (World.block_lt_of_cell? w _ (hc i hi).1)).trans (hc i hi).1, (hW.cell (p := ⟨b, o + i * 2 + 1, none⟩) (World.block_lt_of_cell? w _ (hc i hi).2)).trans (hc i hi).2⟩⟩) h3)
 unfold layV at hcp HGr
 have HCp := hid hcp
 have H := hid h
 have HV := hid hv
 have HFl := hid hF
 have HIn := hid hin
 have HE := hid he
 have HKl := hid (grpKeys_le ps (pagesS S size) ps.length)
 have hcap : ps.length <= min size 100 := by omega
 obtain ⟨c0, c1⟩ := HC.out w (Below.refl _ _)
 clear h hp hF hin he hv hcp
 generalize min size 100 = q at *
 have hn0 : ¬ ((ps.length : Int) = 0) := by omega
 have hnq : ¬ ((q : Int) < (ps.length : Int)) := by omega
 go_enter Tryz.func43, Tryz.ntmps43
 go_wp2_with fail
 refine HCp.out.mono ?_
 clear HCp
 rintro e w1 ⟨rfl, hb1⟩
 have HB1 := hid hb1
 obtain ⟨d0, d1⟩ := HC.out w1 hb1
 clear hb1 c0 c1
 go_wp2_with fail
 refine (HGr.out w1 HB1.out).mono ?_
 clear HGr
 rintro e w2 ⟨hb2, hg2⟩
 rcases hg2 with ⟨j, hj, hbad, -⟩ | ⟨-, m, D, rfl, hm2, hgi⟩
 ·exact absurd (HIn.out j hj) hbad
 rw [HE.out]
 have hB2 : Below w.heap.size w w2 := HB1.out.trans (hb2.mono HB1.out.size)
 have HB2 := hid hB2
 obtain ⟨e0, e1⟩ := HC.out w2 hB2
 have hs12 := HB1.out.size
 have hs22 := hB2.size
 have hv2 : GrpBytes w2 (grpVal ps ps.length) l F := fun n v hnv => by
  obtain ⟨ad, c, e, hby, h512, hnf⟩ := HV.out n v hnv
  exact ⟨ad, c, e, fun q hq => (hB2.cell (World.block_lt_of_cell? w _ (hby q hq))).trans (hby q hq), h512, hnf⟩
 have hwg := write_group d S F size m 100 D (pagesS S size) (grpVal ps ps.length) l w2 (H.out.disk.below hB2) (fun i hi => by have := HFl.out i hi; omega) hgi (fun hf => by have := HFl.out _ hf; omega) (by decide) hv2 (by unfold pagesS; omega) (by have := HKl.out; omega) (by have := HKl.out; omega) ho
 unfold layV at hwg
 have HWg := hid hwg
 clear hb2 hgi hB2 hv2 hwg d0 d1
 go_wp2_with fail
 refine HWg.out.mono ?_
 clear HWg
 rintro e w3 ⟨rfl, d3, e3, hA3, hK3⟩
 have hK : Keeps F w w3 := (Keeps.of_below HB2.out).trans hK3 (fun i hi => .inl hi)
 have HK := hid hK
 have hhp := hK.heap H.out.heap H.out.off
 rw [<- e3.1] at hhp
 have HE3 := hid e3.2
 have HHp := hid hhp
 have HA3 := hid hA3
 have hs3 := hK3.size
 clear hA3 hK3 hK hhp e3
 go_wp2
 go_ret
 exact ⟨rfl, d3, ⟨HE3.out.1, HE3.out.2.mono (fun i hi => hi.imp id (fun h => ⟨by omega, h.2⟩))⟩, ⟨HHp.out, HA3.out.mono (fun i hi => hi.imp id (fun h => ⟨by omega, h.2⟩)), fun hf => hf.elim H.out.off (fun h => by omega)⟩, HK.out⟩
end
end
section
open Go.RowKit
theorem infoPage : (Tryz.prog.info? 107).map (fun i => (i.zero, i.size, i.bytes)) = some (some (.agg #[.int .i64 0, .slice none 0 0]), 2, 32) := by kernel_rfl
end
section
open Go.RowKit
theorem seen_flushed (S : DiskS) (n : Nat) (h : n < S.safe.length) : seenS S.flushed.safe S.flushed.waits (n : Int) = seenS S.safe S.waits (n : Int) := by
 have hl : n < (imgS S).length := by rw [length_imgS]; exact h
 show (if ([] : List ByteArray) = [] then (imgS S).getD ((n : Int)).toNat ⟨#[]⟩ else _) = _
 rw [if_pos rfl, show ((n : Int)).toNat = n by omega, List.getD_eq_getElem?_getD, List.getElem?_eq_getElem hl, Option.getD_some, imgS_at]
theorem seen_other (S : DiskS) (n k : Int) (s : ByteArray) (h : n ≠ k) : seenS (S.wrote k s).safe (S.wrote k s).waits n = seenS S.safe S.waits n := by
 simp [seenS, DiskS.wrote, upd_other _ _ h]
theorem seen_same (S : DiskS) (k : Int) (s : ByteArray) : seenS (S.wrote k s).safe (S.wrote k s).waits k = s := by
 simp [seenS, DiskS.wrote, upd_same]
end
section
open Go.RowKit
end
section
set_option maxRecDepth 100000
set_option maxHeartbeats 1000000
open Go.RowKit
def grpL (ps : List PageS) (bl : Nat -> List UInt8) : Nat -> Int -> List UInt8
 | 0 => fun _ => []
 | j + 1 => fun n => if (ps[j]?).map PageS.n = some n then bl j else grpL ps bl j n
def inPages (N : Nat) (ps : List PageS) : Bool := ps.all (fun p => decide (0 <= p.n /\ p.n < (N : Int)))
def comErr (N size : Nat) (ps : List PageS) : Int := if ps.length = 0 then 0 else if min size 100 < ps.length then 6 else if inPages N ps then grpErr ps ps.length else 2
def comS (S : DiskS) (size : Nat) (ps : List PageS) (bl : Nat -> List UInt8) : DiskS := if comErr (pagesS S size) size ps = 0 /\ ps.length ≠ 0 then writtenS S size (grpL ps bl ps.length) (grpKeys (grpVal ps ps.length) (pagesS S size)) else S
theorem inPages_iff {N : Nat} {ps : List PageS} : inPages N ps = true ↔ ∀ j (hj : j < ps.length), 0 <= ps[j].n /\ ps[j].n < (N : Int) := by
 unfold inPages
 rw [List.all_eq_true]
 constructor
 ·intro h j hj; simpa using h _ (List.getElem_mem hj)
 ·intro h p hp
  obtain ⟨j, hj, rfl⟩ := List.mem_iff_getElem.1 hp
  simpa using h j hj
theorem grpVal_some (ps : List PageS) (bl : Nat -> List UInt8) (n : Int) (v : Value) : ∀ k, grpVal ps k n = some v -> ∃ j, j < k /\ ∃ hj : j < ps.length, ps[j].n = n /\ v = ps[j].val /\ grpL ps bl k n = bl j
 | 0, h => by simp [grpVal] at h
 | k + 1, h => by
  cases hp : ps[k]? with
  | none =>
   rw [grpVal, hp] at h
   dsimp only at h
   obtain ⟨j, h1, h2, h3, h4, h5⟩ := grpVal_some ps bl n v k h
   exact ⟨j, by omega, h2, h3, h4, by rw [grpL, hp]; simpa using h5⟩
  | some p =>
   obtain ⟨hk, hpk⟩ := List.getElem?_eq_some_iff.1 hp
   rw [grpVal, hp] at h
   dsimp only at h
   unfold updV at h
   by_cases e : n = p.n
   ·rw [if_pos e] at h
    exact ⟨k, by omega, hk, by rw [hpk, e], by rw [hpk]; exact (Option.some.inj h).symm, by rw [grpL, hp]; simp [e]⟩
   ·rw [if_neg e] at h
    obtain ⟨j, h1, h2, h3, h4, h5⟩ := grpVal_some ps bl n v k h
    exact ⟨j, by omega, h2, h3, h4, by rw [grpL, hp]; simp [Ne.symm e, h5]⟩
theorem grpErr_step {ps : List PageS} {k : Nat} (hk : k < ps.length) (h : grpErr ps (k + 1) = 0) : grpErr ps k = 0 /\ grpVal ps k ps[k].n = none /\ ps[k].len = 512 := by
 rw [grpErr, List.getElem?_eq_getElem hk] at h
 simp only at h
 split at h
 ·cases h
 ·rename_i hn
  simp only [not_or, Bool.not_eq_true, Option.isSome_eq_false_iff, Option.isNone_iff_eq_none, Decidable.not_not] at hn
  exact ⟨h, hn.1, hn.2⟩
theorem grpErr_len {ps : List PageS} : ∀ k, k <= ps.length -> grpErr ps k = 0 -> ∀ j (hj : j < ps.length), j < k -> ps[j].len = 512
 | 0, _, _, j, _, h => by omega
 | k + 1, hk, he, j, hj, h => by
  obtain ⟨h1, h2, h3⟩ := grpErr_step (by omega) he
  by_cases e : j = k
  ·subst e; exact h3
  ·exact grpErr_len k (by omega) h1 j hj (by omega)
theorem grpBytes_of {w : World} {ps : List PageS} {bl : Nat -> List UInt8} {F : Nat -> Prop} (he : grpErr ps ps.length = 0) (hv : ∀ j (hj : j < ps.length), ps[j].len = 512 -> ∃ ad, ps[j].a = some ad /\ bytesAt w ad (bl j) /\ (bl j).length = 512 /\ ¬ F ad.block) : GrpBytes w (grpVal ps ps.length) (grpL ps bl ps.length) F := fun n v hnv => by
 obtain ⟨j, h1, h2, h3, h4, h5⟩ := grpVal_some ps bl n v ps.length hnv
 have hl := grpErr_len ps.length (Nat.le_refl _) he j h2 h2
 obtain ⟨ad, e, hb, h512, hf⟩ := hv j h2 hl
 refine ⟨ad, ps[j].cap, ?_, by rw [h5]; exact hb, by rw [h5]; exact h512, hf⟩
 rw [h4, PageS.val, e, hl]
theorem filt_eq (val : Int -> Option Value) (n : Int) (v : Value) (hn : val n = none) : ∀ L : List Int, L.Nodup -> n ∈ L -> (L.filter (fun k => (updV val n v k).isSome)).length = (L.filter (fun k => (val k).isSome)).length + 1
 | [], _, h => by simp at h
 | k :: L, h, hm => by
  obtain ⟨h1, h2⟩ := List.nodup_cons.1 h
  by_cases e : k = n
  ·subst e
   have hrest : L.filter (fun q => (updV val k v q).isSome) = L.filter (fun q => (val q).isSome) := List.filter_congr (fun q hq => by
    have : q ≠ k := fun e => h1 (e ▸ hq)
    simp [updV, this])
   rw [List.filter_cons, List.filter_cons, hrest]
   simp [updV, hn]
  ·have ih := filt_eq val n v hn L h2 (by rcases List.mem_cons.1 hm with h | h; exact absurd h.symm e; exact h)
   have hk : (updV val n v k).isSome = (val k).isSome := by simp [updV, e]
   rw [List.filter_cons, List.filter_cons, hk]
   split
   ·simp only [List.length_cons, ih]
   ·exact ih
theorem grpKeys_len (ps : List PageS) (N : Nat) (hin : ∀ j (hj : j < ps.length), 0 <= ps[j].n /\ ps[j].n < (N : Int)) : ∀ k, k <= ps.length -> grpErr ps k = 0 -> (grpKeys (grpVal ps k) N).length = k
 | 0, _, _ => by simp [grpKeys, grpVal]
 | k + 1, hk, he => by
  obtain ⟨h1, h2, h3⟩ := grpErr_step (by omega) he
  have ih := grpKeys_len ps N hin k (by omega) h1
  have hnd : ((List.range N).map (fun k : Nat => (k : Int))).Nodup := List.pairwise_map.2 (List.nodup_range.imp (fun h => by omega))
  have e : grpVal ps (k + 1) = updV (grpVal ps k) ps[k].n ps[k].val := by rw [grpVal, List.getElem?_eq_getElem (by omega)]
  have hm : ps[k].n ∈ (List.range N).map (fun k : Nat => (k : Int)) := by
   obtain ⟨a, b⟩ := hin k (by omega)
   exact List.mem_map.2 ⟨ps[k].n.toNat, List.mem_range.2 (by omega), by omega⟩
  have := filt_eq (grpVal ps k) ps[k].n ps[k].val h2 _ hnd hm
  rw [e]
  unfold grpKeys at ih ⊢
  omega
section
variable {p : Nat} {d : DL} {S : DiskS} {size rec : Nat} {F : Nat -> Prop}
theorem LogIn.more {w w' : World} (h : LogIn w p d S size rec F) (k : Below w.heap.size w w') : LogIn w' p d S size rec (fun i => F i \/ (w.heap.size <= i /\ i < w'.heap.size)) :=
 ⟨(h.below k).heap, (h.below k).disk.mono (fun _ h => .inl h), fun hf => hf.elim h.off (fun e => by have := lt_of_heap h.heap; omega)⟩
theorem commit_long (ps : List PageS) (pa : Option Addr) (pc : Nat) (w : World) (h : LogIn w p d S size rec F) (hs : size + 1 <= S.safe.length) (h2 : min size 100 < ps.length) :
  Calls Tryz.prog 43 #[.pointer (some ⟨p, 0, none⟩), .slice pa ps.length pc] w fun e w' => e = .returned (.int .i64 6) /\ Below w.heap.size w w' := by
 have hm := h.disk.rd.plates.most
 have c0 : w.cell? ⟨p, 0, none⟩ = some (.pointer (some ⟨d.p, 0, none⟩)) := cell_of_block h.heap 0
 have c1 : w.cell? ⟨p, 1, none⟩ = some (.int .i64 size) := cell_of_block h.heap 1
 have hcp := lay_capacity d.p size w (by omega)
 unfold layV at hcp
 have HCp := hid hcp
 clear h hcp
 generalize min size 100 = q at *
 generalize ps.length = L at *
 have hn0 : ¬ ((L : Int) = 0) := by omega
 have hnq : ((q : Int) < (L : Int)) := by omega
 go_enter Tryz.func43, Tryz.ntmps43
 go_wp2_with fail
 refine HCp.out.mono ?_
 clear HCp
 rintro e w1 ⟨rfl, hb1⟩
 have HB1 := hid hb1
 clear hb1 c0 c1
 go_wp2
 go_ret
 exact ⟨rfl, HB1.out⟩
theorem commit_empty (pa : Option Addr) (pc : Nat) (w : World) : Calls Tryz.prog 43 #[.pointer (some ⟨p, 0, none⟩), .slice pa 0 pc] w fun e w' => e = .returned (.int .i64 0) /\ w' = w := by
 go_enter Tryz.func43, Tryz.ntmps43
 go_wp2
 go_ret
 exact ⟨rfl, rfl⟩
theorem commit_bad (ps : List PageS) (pa : Option Addr) (pc : Nat) (w : World) (h : LogIn w p d S size rec F) (hs : size + 1 <= S.safe.length) (hp : pagesAt w pa ps) (h1 : ps.length ≠ 0) (h2 : ps.length <= min size 100)
  (hbad : inPages (pagesS S size) ps = true -> grpErr ps ps.length ≠ 0) :
  Calls Tryz.prog 43 #[.pointer (some ⟨p, 0, none⟩), .slice pa ps.length pc] w fun e w' => e = .returned (.int .i64 (if inPages (pagesS S size) ps then grpErr ps ps.length else 2)) /\ Below w.heap.size w w' := by
 have hm := h.disk.rd.plates.most
 have HC : Hid (∀ W, Below w.heap.size w W -> W.cell? ⟨p, 0, none⟩ = some (.pointer (some ⟨d.p, 0, none⟩)) /\ W.cell? ⟨p, 1, none⟩ = some (.int .i64 size)) := fun W hW => ⟨cell_of_block (h.below hW).heap 0, cell_of_block (h.below hW).heap 1⟩
 have hcp := lay_capacity d.p size w (by omega)
 have HGr := hid (fun W (hW : Below w.heap.size w W) => grouped_any d S size ps pa pc W ((h.below hW).disk.rd) hs (fun j hj => by
  obtain ⟨b, o, e, hc⟩ := hp j hj
  exact ⟨b, o, e, fun i hi => ⟨(hW.cell (p := ⟨b, o + i * 2, none⟩) (World.block_lt_of_cell? w _ (hc i hi).1)).trans (hc i hi).1, (hW.cell (p := ⟨b, o + i * 2 + 1, none⟩) (World.block_lt_of_cell? w _ (hc i hi).2)).trans (hc i hi).2⟩⟩) (by omega))
 unfold layV at hcp HGr
 have HCp := hid hcp
 have HBad := hid hbad
 obtain ⟨c0, c1⟩ := HC.out w (Below.refl _ _)
 obtain ⟨V, hV⟩ : ∃ V, V = (if inPages (pagesS S size) ps then grpErr ps ps.length else 2) := ⟨_, rfl⟩
 rw [<- hV]
 have HVd := hid hV
 clear h hp hcp hbad hV
 generalize min size 100 = q at *
 have hn0 : ¬ ((ps.length : Int) = 0) := by omega
 have hnq : ¬ ((q : Int) < (ps.length : Int)) := by omega
 go_enter Tryz.func43, Tryz.ntmps43
 go_wp2_with fail
 refine HCp.out.mono ?_
 clear HCp
 rintro e w1 ⟨rfl, hb1⟩
 have HB1 := hid hb1
 obtain ⟨d0, d1⟩ := HC.out w1 hb1
 clear hb1 c0 c1
 go_wp2_with fail
 refine (HGr.out w1 HB1.out).mono ?_
 clear HGr
 rintro e w2 ⟨hb2, hg2⟩
 have HB2 := hid (HB1.out.trans (hb2.mono HB1.out.size))
 rcases hg2 with ⟨j, hj, hbad, rfl⟩ | ⟨hall, m, D, rfl, hm2, hgi⟩
 ·have hni : inPages (pagesS S size) ps = false := by
   cases hq : inPages (pagesS S size) ps with
   | false => rfl
   | true => exact absurd (inPages_iff.1 hq j hj) hbad
  have HNi := hid hni
  clear hb2 hbad d0 d1 hni
  go_wp2
  go_ret
  have e : V = 2 := by rw [HVd.out, if_neg (by rw [HNi.out]; decide)]
  subst e
  exact ⟨rfl, HB2.out⟩
 ·have hi := inPages_iff.2 hall
  have hne := HBad.out hi
  obtain ⟨E, hE⟩ : ∃ E, E = grpErr ps ps.length := ⟨_, rfl⟩
  rw [<- hE] at hne ⊢
  have HI := hid hi
  have HE := hid hE
  clear hb2 hgi hi hall d0 d1 hE
  go_wp2
  go_ret
  have e : V = E := by rw [HVd.out, if_pos HI.out, HE.out]
  subst e
  exact ⟨rfl, HB2.out⟩
theorem commit_any_fv (ps : List PageS) (pa : Option Addr) (pc : Nat) (bl : Nat -> List UInt8) (w : World) (h : LogIn w p d S size rec F) (hF : ∀ i, F i -> i < w.heap.size) (hs : size + 1 <= S.safe.length) (hp : pagesAt w pa ps)
  (hv : ∀ j (hj : j < ps.length), ps[j].len = 512 -> ∃ ad, ps[j].a = some ad /\ bytesAt w ad (bl j) /\ (bl j).length = 512 /\ ¬ F ad.block) (ho : S.ops.length <= 800000) :
  Calls Tryz.prog 43 #[.pointer (some ⟨p, 0, none⟩), .slice pa ps.length pc] w fun e w' => e = .returned (.int .i64 (comErr (pagesS S size) size ps)) /\ ∃ d', (d'.fv = d.fv /\ ((d' = d /\ comS S size ps bl = S /\ Below w.heap.size w w') \/ OwnAt w' d' (comS S size ps bl) (fun i => F i \/ (w.heap.size <= i /\ i < w'.heap.size)))) /\ LogIn w' p d' (comS S size ps bl) size rec (fun i => F i \/ (w.heap.size <= i /\ i < w'.heap.size)) /\ Keeps F w w' := by
 by_cases h0 : ps.length = 0
 ·have e0 : comErr (pagesS S size) size ps = 0 := by unfold comErr; rw [if_pos h0]
  have e1 : comS S size ps bl = S := by unfold comS; rw [if_neg (fun h => h.2 h0)]
  rw [e0, e1, h0]
  refine (commit_empty pa pc w).mono ?_
  rintro e w' ⟨rfl, rfl⟩
  exact ⟨rfl, d, ⟨rfl, .inl ⟨rfl, rfl, Below.refl _ _⟩⟩, h.more (Below.refl _ _), Keeps.refl _ _⟩
 by_cases h1 : min size 100 < ps.length
 ·have e0 : comErr (pagesS S size) size ps = 6 := by unfold comErr; rw [if_neg h0, if_pos h1]
  have e1 : comS S size ps bl = S := by unfold comS; rw [if_neg (fun h => by rw [e0] at h; exact absurd h.1 (by decide))]
  rw [e0, e1]
  refine (commit_long ps pa pc w h hs h1).mono ?_
  rintro e w' ⟨rfl, hb⟩
  exact ⟨rfl, d, ⟨rfl, .inl ⟨rfl, rfl, hb⟩⟩, h.more hb, Keeps.of_below hb⟩
 have e0 : comErr (pagesS S size) size ps = if inPages (pagesS S size) ps then grpErr ps ps.length else 2 := by unfold comErr; rw [if_neg h0, if_neg h1]
 by_cases h2 : inPages (pagesS S size) ps = true /\ grpErr ps ps.length = 0
 ·obtain ⟨hi, hg⟩ := h2
  have e1 : comErr (pagesS S size) size ps = 0 := by rw [e0, hi, if_pos rfl, hg]
  have e2 : comS S size ps bl = writtenS S size (grpL ps bl ps.length) (grpKeys (grpVal ps ps.length) (pagesS S size)) := by unfold comS; rw [if_pos ⟨e1, h0⟩]
  rw [e1, e2]
  refine (commit_fv ps pa pc (grpL ps bl ps.length) w h hF hs hp (by omega) (by omega) (by omega) (inPages_iff.1 hi) hg (grpBytes_of hg hv) ho).mono ?_
  rintro e w' ⟨h1, d', h2, h3⟩
  exact ⟨h1, d', ⟨h2.1, .inr h2.2⟩, h3⟩
 ·have hne : (if inPages (pagesS S size) ps then grpErr ps ps.length else 2) ≠ 0 := by
   split
   ·rename_i hi; exact fun hg => h2 ⟨hi, hg⟩
   ·decide
  have e2 : comS S size ps bl = S := by unfold comS; rw [if_neg (fun h => hne (e0 ▸ h.1))]
  rw [e0, e2]
  refine (commit_bad ps pa pc w h hs hp h0 (by omega) (fun hi hg => h2 ⟨hi, hg⟩)).mono ?_
  rintro e w' ⟨rfl, hb⟩
  exact ⟨rfl, d, ⟨rfl, .inl ⟨rfl, rfl, hb⟩⟩, h.more hb, Keeps.of_below hb⟩
theorem commit_any (ps : List PageS) (pa : Option Addr) (pc : Nat) (bl : Nat -> List UInt8) (w : World) (h : LogIn w p d S size rec F) (hF : ∀ i, F i -> i < w.heap.size) (hs : size + 1 <= S.safe.length) (hp : pagesAt w pa ps)
  (hv : ∀ j (hj : j < ps.length), ps[j].len = 512 -> ∃ ad, ps[j].a = some ad /\ bytesAt w ad (bl j) /\ (bl j).length = 512 /\ ¬ F ad.block) (ho : S.ops.length <= 800000) :
  Calls Tryz.prog 43 #[.pointer (some ⟨p, 0, none⟩), .slice pa ps.length pc] w fun e w' => e = .returned (.int .i64 (comErr (pagesS S size) size ps)) /\ ∃ d', LogIn w' p d' (comS S size ps bl) size rec (fun i => F i \/ (w.heap.size <= i /\ i < w'.heap.size)) /\ Keeps F w w' := by
 refine (commit_any_fv ps pa pc bl w h hF hs hp hv ho).mono ?_
 rintro e w' ⟨h1, d', _, h2⟩
 exact ⟨h1, d', h2⟩
end
end
section
open Go.RowKit
def seenAt (S : DiskS) (n : Nat) : ByteArray := seenS S.safe S.waits (n : Int)
theorem seenAt_flushed (S : DiskS) (n : Nat) (h : n < S.safe.length) : seenAt S.flushed n = seenAt S n := seen_flushed S n h
theorem seenAt_other (S : DiskS) (n : Nat) (k : Int) (s : ByteArray) (h : (n : Int) ≠ k) : seenAt (S.wrote k s) n = seenAt S n := seen_other S _ k s h
theorem seenAt_same (S : DiskS) (n : Nat) (k : Int) (s : ByteArray) (h : (n : Int) = k) : seenAt (S.wrote k s) n = s := by
 subst h; exact seen_same S _ s
theorem len_flushed (S : DiskS) : S.flushed.safe.length = S.safe.length := length_imgS S
theorem len_wrote (S : DiskS) (k : Int) (s : ByteArray) : (S.wrote k s).safe.length = S.safe.length := rfl
theorem seen_homeTo (size : Nat) (l : Int -> List UInt8) (n : Nat) : ∀ (ks : List Int) (S : DiskS), (∀ k ∈ ks, 0 <= k) -> seenAt (homeTo S size l ks) n = if size < n /\ ((n : Int) - 1 - (size : Int)) ∈ ks then ⟨(l ((n : Int) - 1 - (size : Int))).toArray⟩ else seenAt S n
 | [], S, _ => by simp [homeTo]
 | k :: ks, S, h => by
  have ih := seen_homeTo size l n ks (S.wrote (1 + (size : Int) + k) ⟨(l k).toArray⟩) (fun q hq => h q (List.mem_cons_of_mem _ hq))
  have hk := h k List.mem_cons_self
  show seenAt (homeTo (S.wrote (1 + (size : Int) + k) ⟨(l k).toArray⟩) size l ks) n = _
  rw [ih]
  by_cases e : (n : Int) = 1 + (size : Int) + k
  ·have e2 : (n : Int) - 1 - (size : Int) = k := by omega
   have hn : size < n := by omega
   rw [e2]
   rw [if_pos (c := size < n /\ k ∈ k :: ks) ⟨hn, List.mem_cons_self⟩]
   split
   ·rfl
   ·exact seenAt_same S n _ _ e
  ·have e2 : (n : Int) - 1 - (size : Int) ≠ k := by omega
   rw [seenAt_other S n _ _ e]
   simp only [List.mem_cons, e2, false_or]
theorem seen_logTo (S : DiskS) (l : Int -> List UInt8) (ks : List Int) (n : Nat) : ∀ j, (n = 0 \/ j < n) -> seenAt (logTo S l ks j) n = seenAt S n
 | 0, _ => rfl
 | j + 1, h => by
  have ih := seen_logTo S l ks n j (by omega)
  rw [show logTo S l ks (j + 1) = (logTo S l ks j).wrote (1 + (j : Int)) ⟨(l (ks.getD j 0)).toArray⟩ by simp [logTo, List.range_succ, List.foldl_append], seenAt_other _ n _ _ (by omega)]
  exact ih
theorem homeS_len (S : DiskS) (size : Nat) (l : Int -> List UInt8) (ks : List Int) : (homeS S size l ks).safe.length = S.safe.length := by
 rw [homeS, len_flushed, len_wrote, len_flushed, (homeTo_facts size l ks S).1]
theorem homeS_ops (S : DiskS) (size : Nat) (l : Int -> List UInt8) (ks : List Int) : (homeS S size l ks).ops.length = S.ops.length + ks.length + 3 := by
 rw [homeS]
 simp only [DiskS.flushed, DiskS.wrote, List.length_append, List.length_singleton, (homeTo_facts size l ks S).2]
theorem seen_homeS (S : DiskS) (size : Nat) (l : Int -> List UInt8) (ks : List Int) (n : Nat) (hn : n < S.safe.length) (hk : ∀ k ∈ ks, 0 <= k) : seenAt (homeS S size l ks) n = if n = 0 then ⟨(headS []).toArray⟩ else if size < n /\ ((n : Int) - 1 - (size : Int)) ∈ ks then ⟨(l ((n : Int) - 1 - (size : Int))).toArray⟩ else seenAt S n := by
 have hl1 : (homeTo S size l ks).safe.length = S.safe.length := by rw [(homeTo_facts size l ks S).1]
 rw [homeS, seenAt_flushed _ n (by rw [len_wrote, len_flushed, hl1]; exact hn)]
 by_cases e : n = 0
 ·subst e
  rw [if_pos rfl]
  exact seenAt_same _ 0 0 _ rfl
 ·rw [if_neg e, seenAt_other _ n _ _ (by omega), seenAt_flushed _ n (by rw [hl1]; exact hn), seen_homeTo size l n ks S hk]
theorem writtenS_len (S : DiskS) (size : Nat) (l : Int -> List UInt8) (ks : List Int) : (writtenS S size l ks).safe.length = S.safe.length := by
 rw [writtenS, homeS_len, len_flushed, len_wrote, len_flushed, (logTo_facts _ _ _ _).1]
theorem writtenS_ops (S : DiskS) (size : Nat) (l : Int -> List UInt8) (ks : List Int) : (writtenS S size l ks).ops.length = S.ops.length + 2 * ks.length + 6 := by
 rw [writtenS, homeS_ops]
 simp only [DiskS.flushed, DiskS.wrote, List.length_append, List.length_singleton, (logTo_facts S l ks _).2]
 omega
theorem seen_writtenS (S : DiskS) (size : Nat) (l : Int -> List UInt8) (ks : List Int) (n : Nat) (hn : n < S.safe.length) (hk : ∀ k ∈ ks, 0 <= k) (hks : ks.length <= size) (h : n = 0 \/ size < n) : seenAt (writtenS S size l ks) n = if n = 0 then ⟨(headS []).toArray⟩ else if ((n : Int) - 1 - (size : Int)) ∈ ks then ⟨(l ((n : Int) - 1 - (size : Int))).toArray⟩ else seenAt S n := by
 have hl1 : (logTo S l ks ks.length).safe.length = S.safe.length := by rw [(logTo_facts _ _ _ _).1]
 rw [writtenS, seen_homeS _ size l ks n (by rw [len_flushed, len_wrote, len_flushed, hl1]; exact hn) hk]
 by_cases e : n = 0
 ·rw [if_pos e, if_pos e]
 ·rw [if_neg e, if_neg e]
  have hs : size < n := by omega
  rw [seenAt_flushed _ n (by rw [len_wrote, len_flushed, hl1]; exact hn), seenAt_other _ n _ _ (by omega), seenAt_flushed _ n (by rw [hl1]; exact hn), seen_logTo S l ks n ks.length (by omega)]
  simp only [hs, true_and]
theorem comS_len (S : DiskS) (size : Nat) (ps : List PageS) (bl : Nat -> List UInt8) : (comS S size ps bl).safe.length = S.safe.length := by
 unfold comS; split
 ·exact writtenS_len _ _ _ _
 ·rfl
theorem comS_waits (S : DiskS) (size : Nat) (ps : List PageS) (bl : Nat -> List UInt8) (h : S.waits = fun _ => []) : (comS S size ps bl).waits = fun _ => [] := by
 unfold comS; split
 ·rfl
 ·exact h
theorem comErr_ok {N size : Nat} {ps : List PageS} (h : comErr N size ps = 0 /\ ps.length ≠ 0) : ps.length <= min size 100 /\ inPages N ps = true /\ grpErr ps ps.length = 0 := by
 obtain ⟨h1, h2⟩ := h
 unfold comErr at h1
 rw [if_neg h2] at h1
 split at h1
 ·cases h1
 ·split at h1
  ·rename_i a b; exact ⟨by omega, b, h1⟩
  ·cases h1
theorem comS_ops (S : DiskS) (size : Nat) (ps : List PageS) (bl : Nat -> List UInt8) : (comS S size ps bl).ops.length = S.ops.length + if comErr (pagesS S size) size ps = 0 /\ ps.length ≠ 0 then 2 * ps.length + 6 else 0 := by
 unfold comS; split
 ·rename_i h
  obtain ⟨h1, h2, h3⟩ := comErr_ok h
  rw [writtenS_ops, grpKeys_len ps _ (inPages_iff.1 h2) ps.length (Nat.le_refl _) h3]
  omega
 ·rfl
theorem comS_ops_le (S : DiskS) (size : Nat) (ps : List PageS) (bl : Nat -> List UInt8) : (comS S size ps bl).ops.length <= S.ops.length + 206 := by
 rw [comS_ops]
 split
 ·rename_i h
  have := (comErr_ok h).1
  omega
 ·omega
def headOk (S : DiskS) : Prop := (seenAt S 0).data.toList = zN 512 \/ seenAt S 0 = ⟨(headS []).toArray⟩
theorem headOk_com (S : DiskS) (size : Nat) (ps : List PageS) (bl : Nat -> List UInt8) (h : headOk S) (hs : 0 < S.safe.length) : headOk (comS S size ps bl) := by
 unfold comS; split
 ·rename_i h
  obtain ⟨h1, h2, h3⟩ := comErr_ok h
  refine .inr ?_
  rw [seen_writtenS S size _ _ 0 hs (fun k hk => (mem_grpKeys.1 hk).1) (by rw [grpKeys_len ps _ (inPages_iff.1 h2) ps.length (Nat.le_refl _) h3]; omega) (.inl rfl), if_pos rfl]
 ·exact h
end
section
open Go.RowKit
def two (b : List UInt8) (i : Nat) : Nat := numS ((b.drop i).take 2)
def rises (b : List UInt8) (N c : Nat) : Prop := ∀ i, i < c -> two b (4 + 2 * i) < N /\ (0 < i -> two b (4 + 2 * (i - 1)) < two b (4 + 2 * i))
instance (b : List UInt8) (N c : Nat) : Decidable (rises b N c) := by unfold rises; exact inferInstance
def intsRow (w : World) (g : Nat) (xs : List Int) : Prop := w.heap[g]? = some (.cells (xs.map encZ).toArray 3 (0, 0))
theorem intsRow.cell {w : World} {g : Nat} {xs : List Int} (h : intsRow w g xs) (j : Nat) (hj : j < xs.length) : w.cell? ⟨g, j, none⟩ = some (.int .i64 xs[j]) := by
 rw [cell_of_block h]; simp [hj]
theorem intsRow.set {w : World} {g : Nat} {xs : List Int} (h : intsRow w g xs) (j : Nat) (x : Int) : intsRow (w.setCell ⟨g, j, none⟩ (.int .i64 x)) g (xs.set j x) := by
 have h1 := block_setCell h j (.int .i64 x)
 rw [List.setIfInBounds_toArray] at h1
 unfold intsRow
 rw [h1, List.map_set]
end
section
open Go.RowKit Go.Maps
def secL (S : DiskS) (n : Nat) : List UInt8 := (seenS S.safe S.waits (n : Int)).data.toList
end
section
open Go.RowKit Go.Maps
end
section
open Go.RowKit
structure Made (S : DiskS) : Prop where
 made : S = doOps (freshS S.first) S.ops
 ok : ∀ o ∈ S.ops, okOp S.first.length o
 most : S.first.length <= 4096
 size : ∀ s ∈ S.first, s.size = 512
theorem Made.len {S : DiskS} (h : Made S) : S.safe.length = S.first.length := by
 have := (doOps_facts (freshS S.first) S.ops).2.1
 rw [<- h.made] at this
 exact this
theorem doOps_append (S : DiskS) (l m : List OpS) : doOps S (l ++ m) = doOps (doOps S l) m := by simp [doOps, List.foldl_append]
theorem Made.more {S : DiskS} (h : Made S) (l : List OpS) (hl : ∀ o ∈ l, okOp S.first.length o) : Made (doOps S l) := by
 obtain ⟨h1, h2, h3⟩ := doOps_facts S l
 refine ⟨?_, ?_, by rw [h1]; exact h.most, by rw [h1]; exact h.size⟩
 ·rw [h1, h3, doOps_append, <- h.made]
 ·rw [h1, h3]
  intro o ho
  rcases List.mem_append.1 ho with ho | ho
  ·exact h.ok o ho
  ·exact hl o ho
theorem made_fresh (xs : List ByteArray) (h1 : xs.length <= 4096) (h2 : ∀ s ∈ xs, s.size = 512) : Made (freshS xs) := ⟨rfl, fun o ho => by simp [freshS] at ho, h1, h2⟩
theorem ok_doOp {S : DiskS} {o : OpS} {N : Nat} (h : okS S) (ho : okOp N o) : okS (doOp S o) := by
 cases o with
 | write n s =>
  refine ⟨h.1, fun m t ht => ?_⟩
  by_cases e : m = n
  ·subst e
   rw [show (doOp S (.write m s)).waits m = S.waits m ++ [s] by simp [doOp, DiskS.wrote, upd]] at ht
   rcases List.mem_append.1 ht with ht | ht
   ·exact h.2 m t ht
   ·rw [List.mem_singleton.1 ht]; exact ho.2.2
  ·rw [show (doOp S (.write n s)).waits m = S.waits m by simp [doOp, DiskS.wrote, upd, e]] at ht
   exact h.2 m t ht
 | flush =>
  refine ⟨fun s hs => ?_, fun m t ht => by simp [doOp, DiskS.flushed] at ht⟩
  obtain ⟨k, hk, rfl⟩ := List.mem_map.1 hs
  exact ok_seen h k (List.mem_range.1 hk)
theorem ok_doOps {N : Nat} : ∀ (l : List OpS) (S : DiskS), okS S -> (∀ o ∈ l, okOp N o) -> okS (doOps S l)
 | [], _, h, _ => h
 | o :: l, S, h, hl => ok_doOps l (doOp S o) (ok_doOp h (hl o (by simp))) (fun o' ho => hl o' (by simp [ho]))
theorem Made.okS {S : DiskS} (h : Made S) : okS S := by
 rw [h.made]
 exact ok_doOps S.ops _ ⟨h.size, fun n s hs => by simp [freshS] at hs⟩ h.ok
theorem Made.sec {S : DiskS} (h : Made S) (n : Nat) (hn : n < S.safe.length) : (secL S n).length = 512 := by
 have := ok_seen h.okS n hn
 unfold secL
 simpa using this
theorem Made.seen {S : DiskS} (h : Made S) (n : Nat) (hn : n < S.safe.length) : (seenAt S n).size = 512 := ok_seen h.okS n hn
def logOps (l : Int -> List UInt8) (ks : List Int) (j : Nat) : List OpS := (List.range j).map (fun i : Nat => .write (1 + (i : Int)) ⟨(l (ks.getD i 0)).toArray⟩)
def homeOps (size : Nat) (l : Int -> List UInt8) (ks : List Int) : List OpS := ks.map (fun n => .write (1 + (size : Int) + n) ⟨(l n).toArray⟩) ++ [.flush, .write 0 ⟨(headS []).toArray⟩, .flush]
def comOps (size : Nat) (l : Int -> List UInt8) (ks : List Int) : List OpS := logOps l ks ks.length ++ ([.flush, .write 0 ⟨(headS (ks.map Int.toNat)).toArray⟩, .flush] ++ homeOps size l ks)
theorem logTo_ops (S : DiskS) (l : Int -> List UInt8) (ks : List Int) : ∀ j, logTo S l ks j = doOps S (logOps l ks j)
 | 0 => rfl
 | j + 1 => by
  have ih := logTo_ops S l ks j
  rw [show logTo S l ks (j + 1) = (logTo S l ks j).wrote (1 + (j : Int)) ⟨(l (ks.getD j 0)).toArray⟩ by simp [logTo, List.range_succ, List.foldl_append], ih, logOps, logOps, List.range_succ, List.map_append, doOps_append]
  rfl
theorem homeTo_ops (size : Nat) (l : Int -> List UInt8) : ∀ (ks : List Int) (S : DiskS), homeTo S size l ks = doOps S (ks.map (fun n => .write (1 + (size : Int) + n) ⟨(l n).toArray⟩))
 | [], _ => rfl
 | k :: ks, S => by
  show homeTo (S.wrote (1 + (size : Int) + k) ⟨(l k).toArray⟩) size l ks = _
  rw [homeTo_ops size l ks]; rfl
theorem homeS_doOps (S : DiskS) (size : Nat) (l : Int -> List UInt8) (ks : List Int) : homeS S size l ks = doOps S (homeOps size l ks) := by
 rw [homeS, homeOps, doOps_append, <- homeTo_ops]; rfl
theorem writtenS_doOps (S : DiskS) (size : Nat) (l : Int -> List UInt8) (ks : List Int) : writtenS S size l ks = doOps S (comOps size l ks) := by
 rw [writtenS, comOps, doOps_append, <- logTo_ops, doOps_append, <- homeS_doOps]; rfl
theorem size_bytes (l : List UInt8) (h : l.length = 512) : (⟨l.toArray⟩ : ByteArray).size = 512 := by
 show l.toArray.size = 512
 simpa using h
theorem head_size (ns : List Nat) (h : ns.length <= 254) : (⟨(headS ns).toArray⟩ : ByteArray).size = 512 := size_bytes _ (length_headTo _ _ (Nat.le_refl _) h)
theorem ok_homeOps (size N : Nat) (l : Int -> List UInt8) (ks : List Int) (hN : 0 < N) (h : ∀ k ∈ ks, 0 <= k /\ 1 + (size : Int) + k < N /\ (l k).length = 512) : ∀ o ∈ homeOps size l ks, okOp N o := by
 intro o ho
 rcases List.mem_append.1 ho with ho | ho
 ·obtain ⟨k, hk, rfl⟩ := List.mem_map.1 ho
  obtain ⟨h0, h1, h2⟩ := h k hk
  exact ⟨by omega, h1, size_bytes _ h2⟩
 ·simp only [List.mem_cons, List.mem_nil_iff, or_false] at ho
  rcases ho with rfl | rfl | rfl
  ·trivial
  ·exact ⟨by decide, by omega, head_size [] (by simp)⟩
  ·trivial
theorem ok_comOps (size N : Nat) (l : Int -> List UInt8) (ks : List Int) (hN : ks.length < N) (hk : ks.length <= 254) (h : ∀ k ∈ ks, 0 <= k /\ 1 + (size : Int) + k < N /\ (l k).length = 512) : ∀ o ∈ comOps size l ks, okOp N o := by
 intro o ho
 rcases List.mem_append.1 ho with ho | ho
 ·obtain ⟨i, hi, rfl⟩ := List.mem_map.1 ho
  have hi' := List.mem_range.1 hi
  refine ⟨by omega, by omega, size_bytes _ ?_⟩
  rw [List.getD_eq_getElem?_getD, List.getElem?_eq_getElem hi', Option.getD_some]
  exact (h _ (List.getElem_mem hi')).2.2
 ·rcases List.mem_append.1 ho with ho | ho
  ·simp only [List.mem_cons, List.mem_nil_iff, or_false] at ho
   rcases ho with rfl | rfl | rfl
   ·trivial
   ·exact ⟨by decide, by omega, head_size _ (by simpa using hk)⟩
   ·trivial
  ·exact ok_homeOps size N l ks (by omega) h o ho
theorem key_facts {S : DiskS} {size : Nat} {ps : List PageS} {bl : Nat -> List UInt8} (h : comErr (pagesS S size) size ps = 0 /\ ps.length ≠ 0) (hb : ∀ j, (bl j).length = 512) (hs : size + 1 <= S.safe.length) :
  (grpKeys (grpVal ps ps.length) (pagesS S size)).length = ps.length /\ ps.length <= size /\ ps.length <= 100 /\ ∀ k ∈ grpKeys (grpVal ps ps.length) (pagesS S size), 0 <= k /\ 1 + (size : Int) + k < S.safe.length /\ (grpL ps bl ps.length k).length = 512 := by
 obtain ⟨h1, h2, h3⟩ := comErr_ok h
 refine ⟨grpKeys_len ps _ (inPages_iff.1 h2) ps.length (Nat.le_refl _) h3, by omega, by omega, fun k hk => ?_⟩
 obtain ⟨a, b, c⟩ := mem_grpKeys.1 hk
 obtain ⟨v, hv⟩ := Option.isSome_iff_exists.1 c
 obtain ⟨j, _, _, _, _, e⟩ := grpVal_some ps bl k v ps.length hv
 refine ⟨a, by unfold pagesS at b; omega, by rw [e]; exact hb j⟩
theorem Made.com {S : DiskS} (h : Made S) (size : Nat) (ps : List PageS) (bl : Nat -> List UInt8) (hb : ∀ j, (bl j).length = 512) (hs : size + 1 <= S.safe.length) : Made (comS S size ps bl) := by
 unfold comS
 split
 ·rename_i hc
  obtain ⟨h1, h2, h3, h4⟩ := key_facts (bl := bl) hc hb hs
  rw [writtenS_doOps]
  rw [h.len] at hs h4
  exact h.more _ (ok_comOps size _ _ _ (by omega) (by omega) h4)
 ·exact h
end
section
set_option maxRecDepth 100000
set_option maxHeartbeats 1000000
open Go.RowKit
section
variable {p : Nat} {d : DL} {S : DiskS} {size rec : Nat} {F : Nat -> Prop}
theorem log_read_no (n : Int) (w : World) (h : LogIn w p d S size rec F) (hs : size + 1 <= S.safe.length) (hn : ¬ (0 <= n /\ n < (pagesS S size : Nat))) :
  Calls Tryz.prog 175 #[.pointer (some ⟨p, 0, none⟩), .int .i64 n] w fun e w' => e = .returned (.tuple #[.slice none 0 0, .int .i64 2]) /\ Below w.heap.size w w' := by
 have hh := lay_has d S size n w h.disk.rd hs
 rw [decide_eq_false hn] at hh
 have HH := hid hh
 unfold layV at HH
 have c0 : w.cell? ⟨p, 0, none⟩ = some (.pointer (some ⟨d.p, 0, none⟩)) := cell_of_block h.heap 0
 have c1 : w.cell? ⟨p, 1, none⟩ = some (.int .i64 size) := cell_of_block h.heap 1
 clear h hh hn
 go_enter Tryz.func175, Tryz.ntmps175
 go_wp2_with fail
 refine HH.out.mono ?_
 clear HH
 rintro e w1 ⟨rfl, hb1⟩
 have HB1 := hid hb1
 clear hb1 c0 c1
 go_wp2
 go_returns
 exact ⟨rfl, HB1.out⟩
end
end
section
open Go.RowKit
def Asc (l : List PageS) : Prop := l.Pairwise (fun a b => a.n < b.n)
theorem Asc.lt {l : List PageS} (h : Asc l) {i j : Nat} (hij : i < j) (hj : j < l.length) : (l[i]'(by omega)).n < l[j].n := List.pairwise_iff_getElem.1 h i j (by omega) hj hij
end
section
open Go.RowKit
theorem run_append_noneP {P : Program} {w : World} (t ty e : TypeId) (i : TypeInfo) (ht : P.underlying t = some (.slice e)) (hi : P.info? e = some i) (a : Option Addr) (c : Nat) :
  (Builtin.append_ #[t, t] ty #[.slice none 0 0, .slice a 0 c]).run P w = .ok (.slice none 0 0) w := by
 cases a <;> simp [Builtin.append_, run_underlying ht, sizeOf, typeInfo, Builtin.lenOf, Builtin.firstCells, loadCells, loadCellsFrom, hi]
theorem run_append_more {P : Program} {w : World} (t ty e : TypeId) (i : TypeInfo) (ht : P.underlying t = some (.slice e)) (hi : P.info? e = some i) (d : Addr) (n cap : Nat) (hn : n <= cap) (a : Option Addr) (c : Nat) :
  (Builtin.append_ #[t, t] ty #[.slice (some d) n cap, .slice a 0 c]).run P w = .ok (.slice (some d) n cap) w := by
 cases a <;> simp [Builtin.append_, run_underlying ht, sizeOf, typeInfo, Builtin.lenOf, Builtin.firstCells, loadCells, loadCellsFrom, hi, hn, storeCells]
end
section
open Go.RowKit
def freshN (n : Nat) : DiskS := freshS (List.replicate n blankS)
theorem freshN_len (n : Nat) : (freshN n).safe.length = n := by simp [freshN, freshS]
theorem freshN_seen (n k : Nat) (h : k < n) : seenS (freshN n).safe (freshN n).waits (k : Int) = blankS := by
 show (if ([] : List ByteArray) = [] then (List.replicate n blankS).getD ((k : Int)).toNat ⟨#[]⟩ else _) = _
 rw [if_pos rfl, show ((k : Int)).toNat = k by omega, List.getD_eq_getElem?_getD, List.getElem?_eq_getElem (by simpa using h), Option.getD_some, List.getElem_replicate]
end
section
open Go.RowKit
end
section
open Go.ChangeShapes Go.WideShapes Go.ChangeAt Go.RowKit
structure WDeed where
 s : Bool
 ns : List Int
 na : Option Addr
 nc : Nat
 x : UInt8
def WDeed.ok (w : World) (D : WDeed) (b o : Nat) : Prop := w.cell? ⟨b, o, none⟩ = some (.bool D.s) /\ w.cell? ⟨b, o + 1, none⟩ = some (.slice D.na D.ns.length D.nc) /\ w.cell? ⟨b, o + 2, none⟩ = some (.int .u8 (D.x.toNat : Int)) /\ intsAt w D.na D.ns /\ D.ns.length <= 9223372036854775807
def wdeedsAt (w : World) (a : Option Addr) (ds : List WDeed) : Prop := ∀ j, j < ds.length -> ∃ b o, a = some ⟨b, o, none⟩ /\ ∀ i (hi : i < ds.length), WDeed.ok w ds[i] b (o + i * 3)
theorem WDeed.ok.below {w w' : World} {D : WDeed} {b o : Nat} (h : D.ok w b o) (k : Below w.heap.size w w') : D.ok w' b o :=
 ⟨(k.cell (World.block_lt_of_cell? w _ h.1)).trans h.1, (k.cell (World.block_lt_of_cell? w _ h.2.1)).trans h.2.1, (k.cell (World.block_lt_of_cell? w _ h.2.2.1)).trans h.2.2.1, h.2.2.2.1.below k, h.2.2.2.2⟩
theorem wdeedsAt.below {w w' : World} {a : Option Addr} {ds : List WDeed} (h : wdeedsAt w a ds) (k : Below w.heap.size w w') : wdeedsAt w' a ds := fun j hj => by
 obtain ⟨b, o, e, hc⟩ := h j hj
 exact ⟨b, o, e, fun i hi => (hc i hi).below k⟩
end
section
open Go.RowKit
end
section
open Go.RowKit
structure Mid (w0 w : World) (p : Nat) (d : DL) (S : DiskS) (size n k : Nat) (F : Nat -> Prop) : Prop where
 log : LogIn w p d S size 0 F
 lt : ∀ i, F i -> i < w.heap.size
 new : ∀ i, F i -> w0.heap.size <= i
 len : S.safe.length = n
 waits : S.waits = fun _ => []
 ops : S.ops.length <= k * 206
 made : Made S
 fits : size + 1 <= n
 head : headOk S
 below : Below w0.heap.size w0 w
theorem Mid.next {w0 w w' : World} {p : Nat} {d : DL} {S : DiskS} {size n k : Nat} {F : Nat -> Prop} (h : Mid w0 w p d S size n k F) (hb : Below w.heap.size w w') : Mid w0 w' p d S size n k F :=
 ⟨h.log.below hb, fun i hi => Nat.lt_of_lt_of_le (h.lt i hi) hb.size, h.new, h.len, h.waits, h.ops, h.made, h.fits, h.head, h.below.trans (hb.mono h.below.size)⟩
theorem Mid.com {w0 w w' : World} {p : Nat} {d d' : DL} {S : DiskS} {size n k : Nat} {F : Nat -> Prop} (h : Mid w0 w p d S size n k F) (hn : 0 < n) (ps : List PageS) (bl : Nat -> List UInt8) (hbl : ∀ j, (bl j).length = 512) (hl : LogIn w' p d' (comS S size ps bl) size 0 (fun i => F i \/ (w.heap.size <= i /\ i < w'.heap.size))) (hk : Keeps F w w') :
  Mid w0 w' p d' (comS S size ps bl) size n (k + 1) (fun i => F i \/ (w.heap.size <= i /\ i < w'.heap.size)) :=
 ⟨hl, fun i hi => hi.elim (fun h1 => Nat.lt_of_lt_of_le (h.lt i h1) hk.size) (fun h => h.2), fun i hi => hi.elim (h.new i) (fun h1 => Nat.le_trans h.below.size h1.1), by rw [comS_len]; exact h.len, comS_waits _ _ _ _ h.waits, by have := comS_ops_le S size ps bl; have := h.ops; omega, h.made.com size ps bl hbl (by rw [h.len]; exact h.fits), h.fits, headOk_com _ _ _ _ h.head (by rw [h.len]; exact hn), h.below.trans (hk.below h.below.size h.new)⟩
theorem headOk_fresh (n : Nat) (h : 0 < n) : headOk (freshN n) := .inl (by rw [seenAt, freshN_seen n 0 h]; exact blank_zeros)
theorem Mid.start {w0 w : World} {p : Nat} {d : DL} {size n : Nat} (hn : size + 1 <= n) (hn2 : n <= 4096) (h : LogIn w p d (freshN n) size 0 (fun i => w0.heap.size <= i /\ i < p)) (hb : Below w0.heap.size w0 w) : Mid w0 w p d (freshN n) size n 0 (fun i => w0.heap.size <= i /\ i < p) :=
 ⟨h, fun _ hi => Nat.lt_trans hi.2 (lt_of_heap h.heap), fun _ hi => hi.1, freshN_len n, rfl, Nat.zero_le _, made_fresh _ (by simpa using hn2) (fun s hs => by rw [List.eq_of_mem_replicate hs]; exact blank_size), hn, headOk_fresh n (by omega), hb⟩
end
end Go.Proofs.YtamfgnfclamamaaGreat
