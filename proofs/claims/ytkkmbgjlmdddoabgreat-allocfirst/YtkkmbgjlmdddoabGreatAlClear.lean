/- bytes.Clone; clear of a row; cleared. -/
import Derived.Lib.SliceRun
import Derived.Test.YtkkmbgjlmdddoabGreatAlPage
namespace Go.Proofs.YtkkmbgjlmdddoabGreat
open Go.RowKit
set_option maxRecDepth 100000 in
set_option maxHeartbeats 1000000 in
theorem byclone_any (l : List UInt8) (ad : Addr) (c : Nat) (w : World) (hpos : 0 < l.length) (hn : l.length ≤ 4096) (hb : bytesAt w ad l) :
    Calls Tryz.prog 66 #[.slice (some ad) l.length c] w fun e w' => ∃ g cap, e = .returned (.slice (some ⟨g, 0, none⟩) l.length cap) ∧ w'.ownsRow w.heap.size 5 1 (.slice (some ⟨g, 0, none⟩) l.length cap) l.length (l.map U8) ∧ Below w.heap.size w w' := by
  obtain ⟨i0, hi, hz0, hz1, hz2⟩ := info_parts infoU8
  have HI := hid hi
  have HX : Hid (∀ j u, (l.map U8)[j]? = some u → w.cell? (ad.add j) = some u) := fun j u hu => by
    have hj : j < l.length := by simpa using (List.getElem?_eq_some_iff.1 hu).1
    rw [hb j hj]
    rw [List.getElem?_map, List.getElem?_eq_getElem hj] at hu
    exact hu
  clear hi hb
  go_enter Tryz.func66, Tryz.ntmps66
  have hq := fun W => run_slice_nil 57 _ ad l.length c Tryz.underlying57 W
  go_wp2_with (refine wpList_append_lies _ rfl (.tmp 5) (.tmp 6) 57 rfl w.heap.size 5 i0 (.int .u8 0) 1 1 Tryz.underlying57 HI.out hz0 hz1 hz2 rfl (by omega) (.slice (some ⟨w.heap.size, 0, none⟩) 0 0) 0 [] rfl (World.ownsRow_lit w #[] 0 (Nat.le_refl _) (by simp) rfl) ad l.length c (l.map U8) rfl (by simp) (fun j u hu => by rw [World.cell?_alloc_lt _ _ _ (World.block_lt_of_cell? w _ (HX.out j u hu))]; exact HX.out j u hu) (by intro u hu; obtain ⟨x, _, rfl⟩ := List.mem_map.1 hu; rfl) hpos (by unfold maxLen; omega) (by omega) (by simp) (w.heap.size + 1) (by simp) ?_; intro g cap w1 hown hgr hat hlt)
  go_ret
  rw [List.nil_append, Nat.zero_add] at hown
  refine ⟨g, cap, by simp, hown, ?_⟩
  exact ((Below.refl _ _).alloc (Nat.le_refl _) _).trans ⟨hgr.os, hgr.tape, hgr.output, hgr.size, fun k hk => hgr.block k (by simp; omega) (by simp [Value.ownBlock]; omega)⟩
/-- Noughts from o on. -/
def clr : List UInt8 → Nat → Nat → List UInt8
  | l, _, 0 => l
  | l, o, n + 1 => clr (l.set o 0) (o + 1) n
theorem length_clr : ∀ (n : Nat) (l : List UInt8) (o : Nat), (clr l o n).length = l.length
  | 0, _, _ => rfl
  | n + 1, l, o => by rw [clr, length_clr n, List.length_set]
theorem rowU.clears {g : Nat} : ∀ (n o : Nat) (l : List UInt8) (w : World), rowU w g l → o + n ≤ l.length → rowU (w.setCells g o (List.replicate n (.int .u8 0))) g (clr l o n) ∧ Keeps (fun i => i = g) w (w.setCells g o (List.replicate n (.int .u8 0)))
  | 0, _, _, w, h, _ => ⟨h, Keeps.refl _ w⟩
  | n + 1, o, l, w, h, hl => by
    have h1 := h.set o (by omega) 0
    have k1 : Keeps (fun i => i = g) w (w.setCell ⟨g, o, none⟩ (.int .u8 0)) := (Keeps.refl _ w).grown (grown_setCell (grown_refl _ _) _ _) (fun i e => .inl (Option.some.inj e).symm)
    obtain ⟨h2, k2⟩ := rowU.clears n (o + 1) (l.set o 0) _ h1 (by rw [List.length_set]; omega)
    rw [List.replicate_succ]
    exact ⟨h2, k1.trans k2 (fun i e => .inl e)⟩
theorem infoPg2 : (Tryz.prog.info? 63).map (·.size) = some 2 := by kernel_rfl
set_option maxRecDepth 100000 in
theorem results_clr {w : World} {tmps : Array Value} {b : Nat} {y z t : Value} (h1 : tmps.getD 4 undef = .pointer (some ⟨b, 0, none⟩)) (h2 : tmps.getD 5 undef = t) (r : w.heap[b]? = some (.cells #[y, z] 63 (0, 0))) :
    (results Tryz.f36 tmps).run Tryz.prog w = .ok (.tuple #[.agg #[y, z], t]) w := by
  have c2 : w.cell? ⟨b, 0, none⟩ = some y := cell_of_block r 0
  have c4 : w.cell? ⟨b, 1, none⟩ = some z := cell_of_block r 1
  have h1' : tmps[4]?.getD undef = .pointer (some ⟨b, 0, none⟩) := by simpa using h1
  have h2' : tmps[5]?.getD undef = t := by simpa using h2
  simp only [results, Tryz.results36]
  simp [go_sem, h1', h2', asAddr, c2, c4]
theorem zeroU8 (w : World) : (zeroValue 5).run Tryz.prog w = .ok (.int .u8 0) w := by kernel_rfl
theorem run_clear_row {w : World} {g : Nat} {l : List UInt8} (h : rowU w g l) (o n c : Nat) (hn : 0 < n) (hl : o + n ≤ l.length) : ∀ ty, (Builtin.clear_ #[57] ty #[.slice (some ⟨g, o, none⟩) n c]).run Tryz.prog w = .ok (.tuple #[]) (w.setCells g o (List.replicate n (.int .u8 0))) := fun ty =>
  Lib.run_clear_slice w 57 5 ty (.int .u8 0) Tryz.underlying57 zeroU8 rfl rfl g o n c hn (fun j hj => by rw [h.cell (o + j) (by omega)]; rfl) (fun j hj => h.frozen (o + j) (by omega))
section
variable {w : World} {m c ino : Nat} {F : Nat → Prop} {size N : Nat} {Pg Cm : Nat → List UInt8} {D : Int → Bool} {o u : Nat}
set_option maxRecDepth 100000 in
set_option maxHeartbeats 2000000 in
theorem acleared_any (h : mapB w m c ino) (hi : ino ≤ 512) (q : Nat) (hq : q < ino) (hN : 3 + ino / 8 ≤ N) (h8 : ino % 8 = 0) (hu : u < 1000000) (hp : Pc w c F size N Pg Cm D o u) :
    Calls Tryz.prog 36 #[.pointer (some ⟨m, 0, none⟩), .int .i64 q] w fun e w' => ∃ g cap, e = .returned (.tuple #[.agg #[.int .i64 (3 + q / 8 : Nat), .slice (some ⟨g, 0, none⟩) 512 cap], .bool (decide (¬ clr (Pg (3 + q / 8)) (q % 8 * 64) 64 = Pg (3 + q / 8)))]) ∧ w.heap.size ≤ g ∧ bytesAt w' ⟨g, 0, none⟩ (clr (Pg (3 + q / 8)) (q % 8 * 64) 64) ∧ Keeps F w w' ∧ Pc w' c F size N Pg Cm D o (u + 1) := by
  obtain ⟨pg, hpg⟩ : ∃ pg, pg = 3 + q / 8 := ⟨_, rfl⟩
  obtain ⟨at_, hat⟩ : ∃ at_, at_ = q % 8 * 64 := ⟨_, rfl⟩
  have hpgN : pg < N := by omega
  have hat4 : at_ + 64 ≤ 512 := by omega
  have ht0 := fun W (hW : Below w.heap.size w W) => aTable_any (h.below hW) hi (q : Int)
  rw [if_pos (⟨by omega, by omega⟩ : (0 : Int) ≤ (q : Int) ∧ (q : Int) < (ino : Int)), show (3 : Int) + (q : Int) / 8 = (pg : Int) by omega, show (q : Int) % 8 * 64 = (at_ : Int) by omega] at ht0
  rw [← hpg, ← hat]
  have HT := hid ht0
  have HLen := hid (hp.len pg hpgN)
  have HRd := hid (fun W (hW : Below w.heap.size w W) => hp.read hW pg hpgN hu)
  have HFl := hid hp.lt
  have HM := hid h
  clear hpg hat ht0 hq hN h8 h hp
  generalize Pg pg = l at *
  go_enter Tryz.func36, Tryz.ntmps36
  go_wp2_with fail
  obtain ⟨wa, hwa⟩ : ∃ wa, wa = w.alloc (.cells #[.int .i64 0, .slice none 0 0] 63) := ⟨_, rfl⟩
  have hb0 : Below w.heap.size w wa := by rw [hwa]; exact (Below.refl _ w).alloc (Nat.le_refl _) _
  have hbl : wa.heap[w.heap.size]? = some (.cells #[.int .i64 0, .slice none 0 0] 63 (0, 0)) := by rw [hwa]; exact block_new w _
  rw [← hwa]
  have HB0 := hid hb0
  have HBl := hid hbl
  have HTa := hid (HT.out wa hb0)
  have HRa := hid (HRd.out wa hb0)
  have c0 : wa.cell? ⟨m, 0, none⟩ = some (.pointer (some ⟨c, 0, none⟩)) := cell_of_block (HM.out.below hb0) 0
  clear HT HRd hwa hb0 hbl
  obtain ⟨rb, hrb⟩ : ∃ rb, rb = w.heap.size := ⟨_, rfl⟩
  rw [← hrb] at HBl ⊢
  have HRb := hid hrb
  clear hrb
  refine HTa.out.mono ?_
  clear HTa
  rintro e w1 ⟨rfl, h1⟩
  obtain rfl := h1.symm
  clear h1
  go_wp2_with fail
  refine HRa.out.mono ?_
  clear HRa
  rintro e w2 ⟨g, cap, rfl, hcap, hg, hr2, hk2, hf2⟩
  have hFr : ¬ F rb := fun hf => by have := HFl.out _ hf; have := HRb.out; omega
  have HBl2 := hid (hk2.heap HBl.out hFr)
  have HK2 := hid ((Keeps.of_below HB0.out : Keeps F w wa).trans hk2 (fun i e => .inl e))
  have HF2 := hid hf2
  have HG := hid hg
  have HR2 := hid hr2
  have hcl := byclone_any l ⟨g, 0, none⟩ cap w2 (by rw [HLen.out]; omega) (by rw [HLen.out]; omega) hr2.1
  rw [HLen.out] at hcl
  have HCl := hid hcl
  have hcap' : (512 : Int) ≤ (cap : Int) := by omega
  have hat0 : (0 : Int) ≤ (at_ : Int) := by omega
  have hat5 : (at_ : Int) + 64 ≤ 512 := by omega
  clear hg hr2 hk2 hf2 hcl hFr c0
  go_wp2_with fail
  refine HCl.out.mono ?_
  clear HCl
  rintro e w3 ⟨g2, cap2, rfl, hrow, hb3⟩
  have HR3 := hid (HR2.out.below hb3)
  have HRow := hid (rowU_of_row (l := l) hrow HLen.out)
  have HG2 : Hid (w2.heap.size ≤ g2) := by
    rcases hrow.2 with ⟨e, -⟩ | ⟨g', cap', cur, e, hle, -⟩
    · cases e
    · obtain ⟨rfl, -⟩ : g2 = g' ∧ cap2 = cap' := by simpa using e
      exact hle
  have HB3 := hid hb3
  have hcr := run_clear_row HR3.out at_ 64 (cap - at_) (by omega) (by rw [HLen.out]; exact hat4)
  have hst := rowU.clears 64 at_ l w3 HR3.out (by rw [HLen.out]; exact hat4)
  obtain ⟨w4, hw4⟩ : ∃ w4, w4 = w3.setCells g at_ (List.replicate 64 (.int .u8 0)) := ⟨_, rfl⟩
  rw [← hw4] at hcr hst
  have HSt := hid hst
  clear hb3 hrow hw4 hst
  have hb4 : bytesAt w4 ⟨g2, 0, none⟩ l := (HRow.out.keep HSt.out.2 (fun e => by have e' : g2 = g := e; have h1 := HR2.out.lt; have h2 := HG2.out; omega)).1
  have heq := equal_any (clr l at_ 64) l ⟨g, 0, none⟩ ⟨g2, 0, none⟩ cap cap2 w4 HSt.out.1.1 hb4
  rw [length_clr, HLen.out] at heq
  have HEq := hid heq
  have HBl4 : Hid (w4.heap[rb]? = some (.cells #[.int .i64 0, .slice none 0 0] 63 (0, 0))) := HSt.out.2.heap (below_block HB3.out HBl2.out (lt_of_heap HBl2.out)) (fun e => by have e' : rb = g := e; have h1 := HG.out; have h2 := lt_of_heap HBl.out; omega)
  clear heq hb4 HBl2 HRow HR3 HR2
  go_wp2_with fail
  refine HEq.out.mono ?_
  clear HEq
  rintro e w5 ⟨rfl, h5⟩
  obtain rfl := h5.symm
  clear h5 hcr
  obtain ⟨bb, hbb⟩ : ∃ bb, bb = decide (clr l at_ 64 = l) := ⟨_, rfl⟩
  rw [← hbb]
  have HBb := hid hbb
  clear hbb
  go_wp2_with (refine wpList_store_block rfl 63 (.tmp 4) (.tmp 37) rfl rb #[.int .i64 pg, .slice (some ⟨g, 0, none⟩) 512 cap] rfl rfl _ 63 HBl4.out rfl infoPg2 (by simp [Value.oneCell']) ?_; intro w6 hg6 hb6 hz6)
  have hrb := HRb.out
  have hsz0 := HB0.out.size
  have hga := HG.out
  have hsb := lt_of_heap HBl.out
  have k34 : Keeps (fun i => w.heap.size ≤ i) w3 w4 := HSt.out.2.mono (fun i e => by have e' : i = g := e; show w.heap.size ≤ i; omega)
  have k46 : Keeps (fun i => w.heap.size ≤ i) w4 w6 := Keeps.of_grown hg6 (fun i e => by cases e; show w.heap.size ≤ rb; omega)
  have k26 : Keeps (fun i => w.heap.size ≤ i) w2 w6 := ((Keeps.of_below HB3.out : Keeps (fun i => w.heap.size ≤ i) w2 w3).trans k34 (fun i e => .inl e)).trans k46 (fun i e => .inl e)
  refine bodyPost_ret (results_clr rfl rfl hb6) rfl ⟨g, cap, ?_, by omega, ?_, HK2.out.trans k26 (fun i e => .inr e), HF2.out w6 k26⟩
  · rw [HBb.out, decide_not]; rfl
  · exact (HSt.out.1.keep (Keeps.of_grown hg6 (F := fun i => some rb = some i) (fun i e => e)) (fun e => by cases e; omega)).1
end
end Go.Proofs.YtkkmbgjlmdddoabGreat
