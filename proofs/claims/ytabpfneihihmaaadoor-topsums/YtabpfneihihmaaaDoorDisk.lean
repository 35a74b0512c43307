/- How a disk lies in memory (DiskIn); note and Write: one write more. -/
import Derived.Test.YtabpfneihihmaaaDoorDo
import Derived.Test.YtabpfneihihmaaaDoorMade
import Derived.Test.YtabpfneihihmaaaDoorHas
namespace Go.Proofs.YtabpfneihihmaaaDoor
open Go.RowKit Go.Maps
/-- Where a disk lies, the values of its fields. -/
structure DL where
  p : Nat
  fv : Value
  ov : Value
  L : PL
/-- The blocks that are written when it changes. -/
def DL.foot (d : DL) (waits : Int → List ByteArray) (i : Nat) : Prop := i = d.p ∨ d.ov.ownBlock = some i ∨ d.L.foot waits i
structure DiskIn (w : World) (d : DL) (S : DiskS) : Prop where
  heap : w.heap[d.p]? = some (.cells #[d.fv, d.ov, .slice (some ⟨d.L.g, 0, none⟩) S.safe.length d.L.cap, .map (some d.L.m)] 49 (0, 0))
  ops : w.ownsRow 0 81 1 d.ov S.ops.length (S.ops.map encOp)
  plates : PlatesIn w d.L S.safe S.waits S.ops.length
  first : ∃ ad c, d.fv = .slice (some ad) S.first.length c ∧ (∀ j s, S.first[j]? = some s → w.cell? (ad.add j) = some (.string s)) ∧ ¬ d.foot S.waits ad.block
  flen : S.first.length = S.safe.length
theorem row_type {w : World} {base : Nat} {e : TypeId} {size : Nat} {v : Value} {n : Nat} {xs : List Value} (h : w.ownsRow base e size v n xs) {i : Nat} (hi : v.ownBlock = some i) : ∃ cur, w.heap[i]? = some (.cells cur e (0, 0)) := by
  rcases h.2 with ⟨rfl, _⟩ | ⟨g, cap, cur, rfl, _, hg, _⟩
  · simp [Value.ownBlock] at hi
  · obtain rfl : g = i := Option.some.inj hi
    exact ⟨cur, hg⟩
theorem DiskIn.ops_off {w : World} {d : DL} {S : DiskS} (h : DiskIn w d S) {i : Nat} (hi : d.ov.ownBlock = some i) : ¬ d.L.foot S.waits i ∧ i ≠ d.p := by
  obtain ⟨cur, hc⟩ := row_type h.ops hi
  refine ⟨h.plates.foot_other hc (by decide), ne_of_heap hc h.heap (fun e => ?_)⟩
  simp only [Obj.cells.injEq] at e
  exact absurd e.2.1 (by decide)
theorem DiskIn.p_off {w : World} {d : DL} {S : DiskS} (h : DiskIn w d S) : ¬ d.L.foot S.waits d.p := h.plates.foot_other h.heap (by decide)
theorem DiskIn.foot_lt {w : World} {d : DL} {S : DiskS} (h : DiskIn w d S) {i : Nat} (hi : d.foot S.waits i) : i < w.heap.size := by
  rcases hi with rfl | e | e
  · exact lt_of_heap h.heap
  · obtain ⟨_, hc⟩ := row_type h.ops e; exact lt_of_heap hc
  · exact h.plates.foot_lt e
theorem add_block (ad : Addr) (j : Nat) : (ad.add j).block = ad.block := by
  unfold Addr.add; split <;> simp_all
theorem DiskIn.keep {w w' : World} {d : DL} {S : DiskS} (h : DiskIn w d S) {G : Nat → Prop} (k : Keeps G w w') (hG : ∀ i, d.foot S.waits i → ¬ G i) (hF : ∀ i, d.fv.ownBlock = some i → ¬ G i) : DiskIn w' d S where
  heap := k.heap h.heap (hG _ (.inl rfl))
  ops := k.row h.ops (fun i hi => hG i (.inr (.inl hi)))
  plates := h.plates.keep k (fun i hi => hG i (.inr (.inr hi)))
  first := by
    obtain ⟨ad, c, e, hc, hn⟩ := h.first
    exact ⟨ad, c, e, fun j s hj => k.cell (hc j s hj) (by rw [add_block]; exact hF _ (by rw [e]; rfl)), hn⟩
  flen := h.flen
/-- New blocks alone have been made. -/
theorem DiskIn.below {w w' : World} {d : DL} {S : DiskS} (h : DiskIn w d S) (k : Below w.heap.size w w') : DiskIn w' d S := h.keep (G := fun _ => False) (Keeps.of_below k) (fun _ _ e => e) (fun _ _ e => e)
/-- What is read of a disk: all but its ops' own cells, and its first sectors. -/
structure DiskRd (w : World) (d : DL) (S : DiskS) : Prop where
  heap : w.heap[d.p]? = some (.cells #[d.fv, d.ov, .slice (some ⟨d.L.g, 0, none⟩) S.safe.length d.L.cap, .map (some d.L.m)] 49 (0, 0))
  plates : PlatesIn w d.L S.safe S.waits S.ops.length
  ov : ∃ a c, d.ov = .slice a S.ops.length c
theorem row_slice' {w : World} {base : Nat} {e : TypeId} {size : Nat} {v : Value} {n : Nat} {xs : List Value} (h : w.ownsRow base e size v n xs) : ∃ a c, v = .slice a n c := by
  rcases h.2 with ⟨rfl, rfl⟩ | ⟨g, cap, cur, rfl, _⟩
  · exact ⟨none, 0, rfl⟩
  · exact ⟨_, _, rfl⟩
theorem DiskIn.rd {w : World} {d : DL} {S : DiskS} (h : DiskIn w d S) : DiskRd w d S := ⟨h.heap, h.plates, row_slice' h.ops⟩
theorem DiskRd.keep {w w' : World} {d : DL} {S : DiskS} (h : DiskRd w d S) {G : Nat → Prop} (k : Keeps G w w') (hp : ¬ G d.p) (hG : ∀ i, d.L.foot S.waits i → ¬ G i) : DiskRd w' d S :=
  ⟨k.heap h.heap hp, h.plates.keep k hG, h.ov⟩
theorem DiskRd.below {w w' : World} {d : DL} {S : DiskS} (h : DiskRd w d S) (k : Below w.heap.size w w') : DiskRd w' d S := h.keep (G := fun _ => False) (Keeps.of_below k) (fun e => e) (fun _ _ e => e)
/-- One write more. -/
def DiskS.wrote (S : DiskS) (n : Int) (s : ByteArray) : DiskS := { S with ops := S.ops ++ [.write n s], waits := upd S.waits n (S.waits n ++ [s]) }
theorem infoOp : (Tryd.prog.info? 81).map (fun i => (i.zero, i.size, i.bytes)) = some (some .nilIface, 1, 16) := by kernel_rfl
set_option maxRecDepth 100000 in
set_option maxHeartbeats 1000000 in
theorem note_write (d : DL) (S : DiskS) (n : Int) (s : ByteArray) (w : World) (h : DiskIn w d S) (hB : S.ops.length < opsMax) (h0 : 0 ≤ n) (h1 : n < S.safe.length) :
    Calls Tryd.prog 16 #[.pointer (some ⟨d.p, 0, none⟩), .iface 52 (.agg #[.int .i64 n, .string s])] w fun e w' => e = .returned (.tuple #[]) ∧
      ∃ d', DiskIn w' d' (S.wrote n s) ∧ d'.p = d.p ∧ d'.fv = d.fv ∧ (∀ i, d'.foot (S.wrote n s).waits i → d.foot S.waits i ∨ w.heap.size ≤ i) ∧ Keeps (d.foot S.waits) w w' := by
  have c1 : w.cell? ⟨d.p, 1, none⟩ = some d.ov := by rw [cell_of_block h.heap]; rfl
  have hlt := lt_of_heap h.heap
  obtain ⟨i0, hi, hz0, hz1, hz2⟩ := info_parts infoOp
  have HI := hid hi
  have H := hid h
  have HL := hid (opsMax_len hB)
  clear hi h
  go_enter Tryd.func16, Tryd.ntmps16
  go_wp2_with (refine wpList_append_lies _ rfl (.tmp 8) (.tmp 10) 44 rfl 0 81 i0 .nilIface 1 16 Tryd.underlying44 HI.out hz0 hz1 hz2 rfl (by omega) d.ov S.ops.length (S.ops.map encOp) rfl (H.out.ops.alloc _) ⟨w.heap.size, 0, none⟩ 1 1 [encOp (.write n s)] rfl rfl (World.news_of_block (cs := #[encOp (.write n s)]) (block_new w _)) (by intro u hu; rw [List.mem_singleton.1 hu]; rfl) (by omega) HL.out.1 HL.out.2.1 (Nat.zero_le _) (w.heap.size + 1) (by simp) ?_; intro g cap w1 hown hgr hat hlt1; have HO := hid hown; have HG := hid hgr; have HA := hid hat; have HP1 := hid ((hgr.block d.p (by simp; omega) (fun e => (H.out.ops_off e.symm).2 rfl)).trans (block_alloc H.out.heap _)); have f1 : w1.cell? ⟨d.p, 1, none⟩ = some d.ov := cell_of_block HP1.out 1; have f2 : w1.frozen? ⟨d.p, 1, none⟩ = false := frozen_of_block HP1.out 1; clear hown hgr hat hlt1)
  have K1 : Keeps (fun i => d.ov.ownBlock = some i) w w1 := (Keeps.of_below ((Below.refl _ _).alloc (Nat.le_refl _) _)).trans (Keeps.of_grown HG.out (fun i e => e)) (fun i e => .inl e)
  have K2 : Keeps (fun i => d.ov.ownBlock = some i ∨ i = d.p) w (w1.setCell ⟨d.p, 1, none⟩ (.slice (some ⟨g, 0, none⟩) (S.ops.length + 1) cap)) :=
    (K1.mono (fun _ => .inl)).grown (grown_setCell (grown_refl w1 (some d.p)) 1 _) (fun i e => .inl (.inr (Option.some.inj e).symm))
  have HK2 := hid K2
  have hP2 := block_setCell HP1.out 1 (.slice (some ⟨g, 0, none⟩) (S.ops.length + 1) cap)
  have HP2 := hid hP2
  have hgp : g ≠ d.p := by
    obtain ⟨cur, hc⟩ := row_type HO.out rfl
    refine ne_of_heap hc HP1.out (fun e => ?_)
    simp only [Obj.cells.injEq] at e
    exact absurd e.2.1 (by decide)
  have HO2 := hid (HO.out.kept (grown_setCell (grown_refl w1 (some d.p)) 1 (.slice (some ⟨g, 0, none⟩) (S.ops.length + 1) cap)) (.inr (fun e => hgp (by simpa [Value.ownBlock] using e))))
  have HPL := hid (H.out.plates.keep HK2.out (fun i hi e => by
    rcases e with e | e
    · exact (H.out.ops_off e).1 hi
    · exact H.out.p_off (e ▸ hi)))
  clear K1 K2 hP2 f1 f2 HO hgp
  generalize hW : w1.setCell ⟨d.p, 1, none⟩ (.slice (some ⟨g, 0, none⟩) (S.ops.length + 1) cap) = w2 at *
  clear hW
  refine (do_write d.p d.fv (.slice (some ⟨g, 0, none⟩) (S.ops.length + 1) cap) d.L S.safe S.waits S.ops.length n s w2 HP2.out HPL.out hB h0 h1).mono ?_
  rintro e w3 ⟨rfl, L', hP3, e1, e2, e3, hfoot, hK3⟩
  have HP3 := hid hP3
  have HF3 := hid hfoot
  have HK3 := hid hK3
  have HE := hid (And.intro e1 (And.intro e2 e3))
  clear hP3 hfoot hK3 e1 e2 e3
  have HFoot : Hid (∀ i, (DL.foot ⟨d.p, d.fv, .slice (some ⟨g, 0, none⟩) (S.ops.length + 1) cap, L'⟩ (S.wrote n s).waits i) → d.foot S.waits i ∨ w.heap.size ≤ i) := by
    rintro i (e | e | e)
    · exact .inl (.inl e)
    · obtain rfl : g = i := Option.some.inj e
      rcases HA.out with e | e
      · exact .inl (.inr (.inl e))
      · exact .inr (by omega)
    · rcases HF3.out i e with e | e
      · exact .inl (.inr (.inr e))
      · exact .inr (Nat.le_trans HK2.out.size e)
  have HKall : Hid (Keeps (d.foot S.waits) w w3) := (HK2.out.mono (fun i e => by rcases e with e | e; exact .inr (.inl e); exact .inl e)).trans HK3.out (fun i e => .inl (.inr (.inr e)))
  go_wp2
  go_end0
  refine ⟨rfl, ⟨d.p, d.fv, .slice (some ⟨g, 0, none⟩) (S.ops.length + 1) cap, L'⟩, ⟨?_, ?_, ?_, ?_, ?_⟩, rfl, rfl, ?_, ?_⟩
  · rw [HE.out.1, HE.out.2.1, HE.out.2.2]
    exact HK3.out.heap HP2.out H.out.p_off
  · have h2 := HK3.out.row HO2.out (fun i hi => by
      obtain ⟨cur, hc⟩ := row_type HO2.out hi
      exact HPL.out.foot_other hc (by decide))
    simpa [DiskS.wrote] using h2
  · simpa [DiskS.wrote] using HP3.out
  · obtain ⟨ad, c, e, hc, hn⟩ := H.out.first
    refine ⟨ad, c, e, fun j u hj => ?_, fun hf => ?_⟩
    · refine HK3.out.cell (HK2.out.cell (hc j u hj) ?_) ?_
      · rw [add_block]; rintro (e | e)
        · exact hn (.inr (.inl e))
        · exact hn (.inl e)
      · rw [add_block]; exact fun e => hn (.inr (.inr e))
    · have hlt0 : S.first.length ≠ 0 := by have := H.out.flen; have := H.out.plates.pos; omega
      have hltad : ad.block < w.heap.size := by
        have h00 := hc 0 (S.first[0]'(by omega)) (by simp)
        have := World.block_lt_of_cell? w _ h00
        rwa [add_block] at this
      exact hn (by rcases HFoot.out _ hf with e | e; exact e; omega)
  · exact H.out.flen
  · exact HFoot.out
  · exact HKall.out
end Go.Proofs.YtabpfneihihmaaaDoor
