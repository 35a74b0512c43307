/- Several of my texts in one: AlClear, AlInode, InPage, InEnc, InDec, InTab, AlOff, AlLive, InStore, InFile, InOpen, InOpen2, InRise, InParts. -/
import Derived.Lib.SliceRun
import Derived.Test.YtnghjgmpjniopaaGreatJoined4
import Derived.Test.YtnghjgmpjniopaaGreatJoined2
import Derived.Test.YtnghjgmpjniopaaGreatJoined3
import Derived.RangeFuncNested
import Derived.RangeFuncBound
import Derived.RangeFuncCalls
import Derived.RangeFuncLeaves
import Derived.Shelf.Abstract
import Derived.Shelf.RegionOpen
import Derived.WalkKit
import Derived.OwnWalkIn
import Derived.TacticsInMore
import Derived.LoopNIn
import Derived.LoopIn
import Derived.Scope
import Derived.BigRegionIn
/- bytes.Clone; clear of a row; cleared. -/
namespace Go.Proofs.YtnghjgmpjniopaaGreat
open Go.RowKit
set_option maxRecDepth 100000 in
set_option maxHeartbeats 1000000 in
theorem byclone_any (l : List UInt8) (ad : Addr) (c : Nat) (w : World) (hpos : 0 < l.length) (hn : l.length ≤ 4096) (hb : bytesAt w ad l) :
    Calls Tryz.prog 116 #[.slice (some ad) l.length c] w fun e w' => ∃ g cap, e = .returned (.slice (some ⟨g, 0, none⟩) l.length cap) ∧ w'.ownsRow w.heap.size 5 1 (.slice (some ⟨g, 0, none⟩) l.length cap) l.length (l.map U8) ∧ Below w.heap.size w w' := by
  obtain ⟨i0, hi, hz0, hz1, hz2⟩ := info_parts infoU8
  have HI := hid hi
  have HX : Hid (∀ j u, (l.map U8)[j]? = some u → w.cell? (ad.add j) = some u) := fun j u hu => by
    have hj : j < l.length := by simpa using (List.getElem?_eq_some_iff.1 hu).1
    rw [hb j hj]
    rw [List.getElem?_map, List.getElem?_eq_getElem hj] at hu
    exact hu
  clear hi hb
  go_enter Tryz.func116, Tryz.ntmps116
  have hq := fun W => run_slice_nil 46 _ ad l.length c Tryz.underlying46 W
  go_wp2_with (refine wpList_append_lies _ rfl (.tmp 5) (.tmp 6) 46 rfl w.heap.size 5 i0 (.int .u8 0) 1 1 Tryz.underlying46 HI.out hz0 hz1 hz2 rfl (by omega) (.slice (some ⟨w.heap.size, 0, none⟩) 0 0) 0 [] rfl (World.ownsRow_lit w #[] 0 (Nat.le_refl _) (by simp) rfl) ad l.length c (l.map U8) rfl (by simp) (fun j u hu => by rw [World.cell?_alloc_lt _ _ _ (World.block_lt_of_cell? w _ (HX.out j u hu))]; exact HX.out j u hu) (by intro u hu; obtain ⟨x, _, rfl⟩ := List.mem_map.1 hu; rfl) hpos (by unfold maxLen; omega) (by omega) (by simp) (w.heap.size + 1) (by simp) ?_; intro g cap w1 hown hgr hat hlt)
  go_ret
  rw [List.nil_append, Nat.zero_add] at hown
  refine ⟨g, cap, by simp, hown, ?_⟩
  exact ((Below.refl _ _).alloc (Nat.le_refl _) _).trans ⟨hgr.os, hgr.tape, hgr.output, hgr.size, fun k hk => hgr.block k (by simp; omega) (by simp [Value.ownBlock]; omega)⟩
/-- Noughts from o on. -/
def clr : List UInt8 → Nat → Nat → List UInt8
  | l, _, 0 => l
  | l, o, n + 1 => clr (l.set o 0) (o + 1) n
theorem length_clr : ∀ (n : Nat) (l : List UInt8) (o : Nat), (clr l o n).length = l.length
  | 0, _, _ => rfl
  | n + 1, l, o => by rw [clr, length_clr n, List.length_set]
theorem rowU.clears {g : Nat} : ∀ (n o : Nat) (l : List UInt8) (w : World), rowU w g l → o + n ≤ l.length → rowU (w.setCells g o (List.replicate n (.int .u8 0))) g (clr l o n) ∧ Keeps (fun i => i = g) w (w.setCells g o (List.replicate n (.int .u8 0)))
  | 0, _, _, w, h, _ => ⟨h, Keeps.refl _ w⟩
  | n + 1, o, l, w, h, hl => by
    have h1 := h.set o (by omega) 0
    have k1 : Keeps (fun i => i = g) w (w.setCell ⟨g, o, none⟩ (.int .u8 0)) := (Keeps.refl _ w).grown (grown_setCell (grown_refl _ _) _ _) (fun i e => .inl (Option.some.inj e).symm)
    obtain ⟨h2, k2⟩ := rowU.clears n (o + 1) (l.set o 0) _ h1 (by rw [List.length_set]; omega)
    rw [List.replicate_succ]
    exact ⟨h2, k1.trans k2 (fun i e => .inl e)⟩
theorem infoPg2 : (Tryz.prog.info? 86).map (·.size) = some 2 := by kernel_rfl
set_option maxRecDepth 100000 in
theorem results_clr {w : World} {tmps : Array Value} {b : Nat} {y z t : Value} (h1 : tmps.getD 4 undef = .pointer (some ⟨b, 0, none⟩)) (h2 : tmps.getD 5 undef = t) (r : w.heap[b]? = some (.cells #[y, z] 86 (0, 0))) :
    (results Tryz.f80 tmps).run Tryz.prog w = .ok (.tuple #[.agg #[y, z], t]) w := by
  have c2 : w.cell? ⟨b, 0, none⟩ = some y := cell_of_block r 0
  have c4 : w.cell? ⟨b, 1, none⟩ = some z := cell_of_block r 1
  have h1' : tmps[4]?.getD undef = .pointer (some ⟨b, 0, none⟩) := by simpa using h1
  have h2' : tmps[5]?.getD undef = t := by simpa using h2
  simp only [results, Tryz.results80]
  simp [go_sem, h1', h2', asAddr, c2, c4]
theorem zeroU8 (w : World) : (zeroValue 5).run Tryz.prog w = .ok (.int .u8 0) w := by kernel_rfl
theorem run_clear_row {w : World} {g : Nat} {l : List UInt8} (h : rowU w g l) (o n c : Nat) (hn : 0 < n) (hl : o + n ≤ l.length) : ∀ ty, (Builtin.clear_ #[46] ty #[.slice (some ⟨g, o, none⟩) n c]).run Tryz.prog w = .ok (.tuple #[]) (w.setCells g o (List.replicate n (.int .u8 0))) := fun ty =>
  Lib.run_clear_slice w 46 5 ty (.int .u8 0) Tryz.underlying46 zeroU8 rfl rfl g o n c hn (fun j hj => by rw [h.cell (o + j) (by omega)]; rfl) (fun j hj => h.frozen (o + j) (by omega))
section
variable {w : World} {m c ino : Nat} {F : Nat → Prop} {size N : Nat} {Pg Cm : Nat → List UInt8} {D : Int → Bool} {o u : Nat}
set_option maxRecDepth 100000 in
set_option maxHeartbeats 2000000 in
theorem acleared_any (h : mapB w m c ino) (hi : ino ≤ 512) (q : Nat) (hq : q < ino) (hN : 3 + ino / 8 ≤ N) (h8 : ino % 8 = 0) (hu : u < 1000000) (hp : Pc w c F size N Pg Cm D o u) :
    Calls Tryz.prog 80 #[.pointer (some ⟨m, 0, none⟩), .int .i64 q] w fun e w' => ∃ g cap, e = .returned (.tuple #[.agg #[.int .i64 (3 + q / 8 : Nat), .slice (some ⟨g, 0, none⟩) 512 cap], .bool (decide (¬ clr (Pg (3 + q / 8)) (q % 8 * 64) 64 = Pg (3 + q / 8)))]) ∧ w.heap.size ≤ g ∧ bytesAt w' ⟨g, 0, none⟩ (clr (Pg (3 + q / 8)) (q % 8 * 64) 64) ∧ Keeps F w w' ∧ Pc w' c F size N Pg Cm D o (u + 1) := by
  obtain ⟨pg, hpg⟩ : ∃ pg, pg = 3 + q / 8 := ⟨_, rfl⟩
  obtain ⟨at_, hat⟩ : ∃ at_, at_ = q % 8 * 64 := ⟨_, rfl⟩
  have hpgN : pg < N := by omega
  have hat4 : at_ + 64 ≤ 512 := by omega
  have ht0 := fun W (hW : Below w.heap.size w W) => aTable_any (h.below hW) hi (q : Int)
  rw [if_pos (⟨by omega, by omega⟩ : (0 : Int) ≤ (q : Int) ∧ (q : Int) < (ino : Int)), show (3 : Int) + (q : Int) / 8 = (pg : Int) by omega, show (q : Int) % 8 * 64 = (at_ : Int) by omega] at ht0
  rw [← hpg, ← hat]
  have HT := hid ht0
  have HLen := hid (hp.len pg hpgN)
  have HRd := hid (fun W (hW : Below w.heap.size w W) => hp.read hW pg hpgN hu)
  have HFl := hid hp.lt
  have HM := hid h
  clear hpg hat ht0 hq hN h8 h hp
  generalize Pg pg = l at *
  go_enter Tryz.func80, Tryz.ntmps80
  go_wp2_with fail
  obtain ⟨wa, hwa⟩ : ∃ wa, wa = w.alloc (.cells #[.int .i64 0, .slice none 0 0] 86) := ⟨_, rfl⟩
  have hb0 : Below w.heap.size w wa := by rw [hwa]; exact (Below.refl _ w).alloc (Nat.le_refl _) _
  have hbl : wa.heap[w.heap.size]? = some (.cells #[.int .i64 0, .slice none 0 0] 86 (0, 0)) := by rw [hwa]; exact block_new w _
  rw [← hwa]
  have HB0 := hid hb0
  have HBl := hid hbl
  have HTa := hid (HT.out wa hb0)
  have HRa := hid (HRd.out wa hb0)
  have c0 : wa.cell? ⟨m, 0, none⟩ = some (.pointer (some ⟨c, 0, none⟩)) := cell_of_block (HM.out.below hb0) 0
  clear HT HRd hwa hb0 hbl
  obtain ⟨rb, hrb⟩ : ∃ rb, rb = w.heap.size := ⟨_, rfl⟩
  rw [← hrb] at HBl ⊢
  have HRb := hid hrb
  clear hrb
  refine HTa.out.mono ?_
  clear HTa
  rintro e w1 ⟨rfl, h1⟩
  obtain rfl := h1.symm
  clear h1
  go_wp2_with fail
  refine HRa.out.mono ?_
  clear HRa
  rintro e w2 ⟨g, cap, rfl, hcap, hg, hr2, hk2, hf2⟩
  have hFr : ¬ F rb := fun hf => by have := HFl.out _ hf; have := HRb.out; omega
  have HBl2 := hid (hk2.heap HBl.out hFr)
  have HK2 := hid ((Keeps.of_below HB0.out : Keeps F w wa).trans hk2 (fun i e => .inl e))
  have HF2 := hid hf2
  have HG := hid hg
  have HR2 := hid hr2
  have hcl := byclone_any l ⟨g, 0, none⟩ cap w2 (by rw [HLen.out]; omega) (by rw [HLen.out]; omega) hr2.1
  rw [HLen.out] at hcl
  have HCl := hid hcl
  have hcap' : (512 : Int) ≤ (cap : Int) := by omega
  have hat0 : (0 : Int) ≤ (at_ : Int) := by omega
  have hat5 : (at_ : Int) + 64 ≤ 512 := by omega
  clear hg hr2 hk2 hf2 hcl hFr c0
  go_wp2_with fail
  refine HCl.out.mono ?_
  clear HCl
  rintro e w3 ⟨g2, cap2, rfl, hrow, hb3⟩
  have HR3 := hid (HR2.out.below hb3)
  have HRow := hid (rowU_of_row (l := l) hrow HLen.out)
  have HG2 : Hid (w2.heap.size ≤ g2) := by
    rcases hrow.2 with ⟨e, -⟩ | ⟨g', cap', cur, e, hle, -⟩
    · cases e
    · obtain ⟨rfl, -⟩ : g2 = g' ∧ cap2 = cap' := by simpa using e
      exact hle
  have HB3 := hid hb3
  have hcr := run_clear_row HR3.out at_ 64 (cap - at_) (by omega) (by rw [HLen.out]; exact hat4)
  have hst := rowU.clears 64 at_ l w3 HR3.out (by rw [HLen.out]; exact hat4)
  obtain ⟨w4, hw4⟩ : ∃ w4, w4 = w3.setCells g at_ (List.replicate 64 (.int .u8 0)) := ⟨_, rfl⟩
  rw [← hw4] at hcr hst
  have HSt := hid hst
  clear hb3 hrow hw4 hst
  have hb4 : bytesAt w4 ⟨g2, 0, none⟩ l := (HRow.out.keep HSt.out.2 (fun e => by have e' : g2 = g := e; have h1 := HR2.out.lt; have h2 := HG2.out; omega)).1
  have heq := equal_any (clr l at_ 64) l ⟨g, 0, none⟩ ⟨g2, 0, none⟩ cap cap2 w4 HSt.out.1.1 hb4
  rw [length_clr, HLen.out] at heq
  have HEq := hid heq
  have HBl4 : Hid (w4.heap[rb]? = some (.cells #[.int .i64 0, .slice none 0 0] 86 (0, 0))) := HSt.out.2.heap (below_block HB3.out HBl2.out (lt_of_heap HBl2.out)) (fun e => by have e' : rb = g := e; have h1 := HG.out; have h2 := lt_of_heap HBl.out; omega)
  clear heq hb4 HBl2 HRow HR3 HR2
  go_wp2_with fail
  refine HEq.out.mono ?_
  clear HEq
  rintro e w5 ⟨rfl, h5⟩
  obtain rfl := h5.symm
  clear h5 hcr
  obtain ⟨bb, hbb⟩ : ∃ bb, bb = decide (clr l at_ 64 = l) := ⟨_, rfl⟩
  rw [← hbb]
  have HBb := hid hbb
  clear hbb
  go_wp2_with (refine wpList_store_block rfl 86 (.tmp 4) (.tmp 37) rfl rb #[.int .i64 pg, .slice (some ⟨g, 0, none⟩) 512 cap] rfl rfl _ 86 HBl4.out rfl infoPg2 (by simp [Value.oneCell']) ?_; intro w6 hg6 hb6 hz6)
  have hrb := HRb.out
  have hsz0 := HB0.out.size
  have hga := HG.out
  have hsb := lt_of_heap HBl.out
  have k34 : Keeps (fun i => w.heap.size ≤ i) w3 w4 := HSt.out.2.mono (fun i e => by have e' : i = g := e; show w.heap.size ≤ i; omega)
  have k46 : Keeps (fun i => w.heap.size ≤ i) w4 w6 := Keeps.of_grown hg6 (fun i e => by cases e; show w.heap.size ≤ rb; omega)
  have k26 : Keeps (fun i => w.heap.size ≤ i) w2 w6 := ((Keeps.of_below HB3.out : Keeps (fun i => w.heap.size ≤ i) w2 w3).trans k34 (fun i e => .inl e)).trans k46 (fun i e => .inl e)
  refine bodyPost_ret (results_clr rfl rfl hb6) rfl ⟨g, cap, ?_, by omega, ?_, HK2.out.trans k26 (fun i e => .inr e), HF2.out w6 k26⟩
  · rw [HBb.out, decide_not]; rfl
  · exact (HSt.out.1.keep (Keeps.of_grown hg6 (F := fun i => some rb = some i) (fun i e => e)) (fun e => by cases e; omega)).1
end
end Go.Proofs.YtnghjgmpjniopaaGreat
/- Inode. -/
namespace Go.Proofs.YtnghjgmpjniopaaGreat
open Go.RowKit
section
variable {w : World} {m c ino : Nat} {F : Nat → Prop} {size N : Nat} {Pg Cm : Nat → List UInt8} {D : Int → Bool} {o u : Nat}
/-- The pages of noughts that Inode writes beside its bits. -/
def inoT (Pg : Nat → List UInt8) (q : Nat) : List UInt8 := clr (Pg (3 + q / 8)) (q % 8 * 64) 64
/-- How many pages Inode lets be dirty. -/
def inoC (Pg : Nat → List UInt8) (D : Int → Bool) (q : Nat) : Nat := (if D 1 then 0 else 1) + (if inoT Pg q = Pg (3 + q / 8) then 0 else if D (3 + q / 8 : Nat) then 0 else 1)
def inoP (Pg : Nat → List UInt8) (q : Nat) : Nat → List UInt8 := if inoT Pg q = Pg (3 + q / 8) then updP Pg 1 (flipL (Pg 1) q) else updP (updP Pg 1 (flipL (Pg 1) q)) (3 + q / 8) (inoT Pg q)
def inoD (Pg : Nat → List UInt8) (D : Int → Bool) (q : Nat) : Int → Bool := if inoT Pg q = Pg (3 + q / 8) then updT D 1 else updT (updT D 1) (3 + q / 8 : Nat)
/-- What Inode tells. -/
def InodeTo (w : World) (c : Nat) (F : Nat → Prop) (size N : Nat) (Pg Cm : Nat → List UInt8) (D : Int → Bool) (o u ino : Nat) (e : Ending) (w' : World) : Prop :=
  Keeps F w w' ∧ ((freeTo (Pg 1) 1 ino 4096 = [] ∧ e = .returned (.tuple #[.int .i64 0, .int .i64 7]) ∧ Pc w' c F size N Pg Cm D o (u + 2)) ∨
    ∃ (q : Nat) (rest : List Nat), freeTo (Pg 1) 1 ino 4096 = q :: rest ∧ ((min size 100 < (dkD N D).length + inoC Pg D q ∧ e = .returned (.tuple #[.int .i64 0, .int .i64 7]) ∧ Pc w' c F size N Pg Cm D o (u + 2)) ∨
      ((dkD N D).length + inoC Pg D q ≤ min size 100 ∧ e = .returned (.tuple #[.int .i64 q, .int .i64 0]) ∧ Pc w' c F size N (inoP Pg q) Cm (inoD Pg D q) o (u + 2))))
set_option maxRecDepth 100000 in
set_option maxHeartbeats 2000000 in
theorem aInode_any (h : mapB w m c ino) (hmF : ¬ F m) (hi : ino ≤ 512) (h8 : ino % 8 = 0) (hN : 3 + ino / 8 ≤ N) (hN2 : 2 ≤ N) (hu : u < 999999) (hp : Pc w c F size N Pg Cm D o u) :
    Calls Tryz.prog 36 #[.pointer (some ⟨m, 0, none⟩)] w (InodeTo w c F size N Pg Cm D o u ino) := by
  have hN4 := hp.four
  have HO := hid (amofInodes_any h)
  have HFl := hid hp.lt
  have HLen := hid (hp.len 1 (by omega))
  have HNx := hid (fun W (hW : Below w.heap.size w W) => anext_any (h.below hW) hmF 1 1 ino 0 oneF (by omega) (by omega) (by omega) (hp.below hW))
  have HM := hid h
  clear h hp
  go_enter Tryz.func36, Tryz.ntmps36
  go_wp2_with fail
  refine HO.out.mono ?_
  clear HO
  rintro e w1 ⟨rfl, hb1⟩
  have HB1 := hid hb1
  have HN1 := hid (HNx.out w1 hb1)
  clear HNx hb1
  go_wp2_with fail
  refine HN1.out.mono ?_
  clear HN1
  rintro e w2 ⟨hk2, hp2, hx⟩
  have HK2 := hid ((Keeps.of_below HB1.out : Keeps F w w1).trans hk2 (fun i e => .inl e))
  have HP2 := hid hp2
  have HM2 : Hid (mapB w2 m c ino) := (HM.out.below HB1.out).keep hk2 hmF
  clear hk2 hp2
  rcases hx with ⟨h0, rfl⟩ | ⟨q, rest, g, cap, h0, hq4, rfl, hg, hby⟩
  · have H0 := hid h0
    clear h0
    have hb3 : Below w2.heap.size w2 (w2.alloc (.cells #[.int .i64 0, .slice none 0 0] 86)) := (Below.refl _ w2).alloc (Nat.le_refl _) _
    have HB3 := hid hb3
    clear hb3
    go_wp2
    go_returns
    exact ⟨HK2.out.trans (Keeps.of_below HB3.out : Keeps (fun _ => False) w2 _) (fun i e => e.elim), .inl ⟨H0.out, rfl, (HP2.out.below HB3.out).more (Nat.le_refl _) (by omega)⟩⟩
  · have H0 := hid h0
    have hff := freeTo_first h0
    obtain ⟨wa, hwa⟩ : ∃ wa, wa = w2.alloc (.cells #[.int .i64 1, .slice (some ⟨g, 0, none⟩) 512 cap] 86) := ⟨_, rfl⟩
    have hb3 : Below w2.heap.size w2 wa := by rw [hwa]; exact (Below.refl _ w2).alloc (Nat.le_refl _) _
    have hbx : wa.heap[w2.heap.size]? = some (.cells #[.int .i64 1, .slice (some ⟨g, 0, none⟩) 512 cap] 86 (0, 0)) := by rw [hwa]; exact block_new w2 _
    have HBx := hid hbx
    have HB3 := hid hb3
    have HK3 : Hid (Keeps F w wa) := HK2.out.trans (Keeps.of_below hb3 : Keeps (fun _ => False) w2 _) (fun i e => e.elim)
    have Hby : Hid (bytesAt wa ⟨g, 0, none⟩ (flipL (Pg 1) q)) := fun j hj => (hb3.cell (World.block_lt_of_cell? w2 _ (hby j hj))).trans (hby j hj)
    have Hg : Hid (w.heap.size ≤ g) := Nat.le_trans HB1.out.size hg
    have hcl := acleared_any (HM2.out.below hb3) hi q (by omega) hN h8 (by omega) (HP2.out.below hb3)
    obtain ⟨T, hT⟩ : ∃ T, T = inoT Pg q := ⟨_, rfl⟩
    obtain ⟨tp, htp⟩ : ∃ tp, tp = 3 + q / 8 := ⟨_, rfl⟩
    have htN : tp < N := by omega
    have HTl : Hid (T.length = 512) := by rw [hT]; unfold inoT; rw [Hid, length_clr]; exact HP2.out.len _ (by omega)
    rw [show clr (Pg (3 + q / 8)) (q % 8 * 64) 64 = T from hT.symm, ← htp] at hcl
    have HCl := hid hcl
    have HT := hid hT
    have HTp := hid htp
    clear hcl hT htp
    have Hff := hid hff
    clear h0 hff hb3 hbx hby hg
    obtain ⟨nb, hnb⟩ : ∃ nb, nb = w2.heap.size := ⟨_, rfl⟩
    rw [← hnb] at HBx
    have HNb : Hid (w.heap.size ≤ nb) := by rw [hnb]; exact HK2.out.size
    go_wp2_with fail
    rw [← hwa, ← hnb]
    clear hwa hnb
    refine HCl.out.mono ?_
    clear HCl
    rintro e w4 ⟨g3, cap3, rfl, hg3, hby3, hk4, hp4⟩
    have HK4 := hid (HK3.out.trans hk4 (fun i e => .inl e))
    have hFn : ¬ F nb := fun hf => by have h1 := HFl.out _ hf; have h2 := HNb.out; omega
    have HBx4 := hid (hk4.heap HBx.out hFn)
    have HP4 := hid hp4
    have HM4 : Hid (mapB w4 m c ino) := (HM2.out.below HB3.out).keep hk4 hmF
    have Hby4 : Hid (bytesAt w4 ⟨g, 0, none⟩ (flipL (Pg 1) q)) := fun j hj => hk4.cell (Hby.out j hj) (by rw [add_block]; exact fun hf => by have h1 : g < w.heap.size := HFl.out _ hf; have h2 := Hg.out; omega)
    have Hby3 := hid hby3
    have Hg3 : Hid (w.heap.size ≤ g3) := Nat.le_trans HK3.out.size hg3
    have HSz4 := hid HK4.out.size
    clear hg3 hby3 hk4 hp4 hFn HBx Hby HB3 HM2 HP2
    have hb5 : Below w4.heap.size w4 (w4.alloc (.cells #[.int .i64 tp, .slice (some ⟨g3, 0, none⟩) 512 cap3] 86)) := (Below.refl _ w4).alloc (Nat.le_refl _) _
    have hbt := block_new w4 (.cells #[.int .i64 tp, .slice (some ⟨g3, 0, none⟩) 512 cap3] 86)
    obtain ⟨w5, hw5⟩ : ∃ w5, w4.alloc (.cells #[.int .i64 tp, .slice (some ⟨g3, 0, none⟩) 512 cap3] 86) = w5 := ⟨_, rfl⟩
    rw [hw5] at hb5 hbt
    have hbx5 := below_block hb5 HBx4.out (lt_of_heap HBx4.out)
    have c0 : w5.cell? ⟨nb, 0, none⟩ = some (.int .i64 1) := cell_of_block hbx5 0
    have c1 : w5.cell? ⟨nb, 1, none⟩ = some (.slice (some ⟨g, 0, none⟩) 512 cap) := cell_of_block hbx5 1
    have HK5 : Hid (Keeps F w w5) := HK4.out.andBelow hb5
    have HP5 := hid (HP4.out.below hb5)
    have HM5 := hid (HM4.out.below hb5)
    have Hby5 : Hid (bytesAt w5 ⟨g, 0, none⟩ (flipL (Pg 1) q)) := fun j hj => (hb5.cell (World.block_lt_of_cell? w4 _ (Hby4.out j hj))).trans (Hby4.out j hj)
    have Hbt5 : Hid (bytesAt w5 ⟨g3, 0, none⟩ T) := fun j hj => (hb5.cell (World.block_lt_of_cell? w4 _ (Hby3.out j hj))).trans (Hby3.out j hj)
    have HFg : Hid (¬ F g) := fun hf => by have h1 : g < w.heap.size := HFl.out _ hf; have h2 := Hg.out; omega
    have HFg3 : Hid (¬ F g3) := fun hf => by have h1 : g3 < w.heap.size := HFl.out _ hf; have h2 := Hg3.out; omega
    have HFn5 : Hid (¬ F w5.heap.size) := fun hf => by have h1 := HFl.out _ hf; have h2 := HK5.out.size; omega
    have HLf : Hid ((flipL (Pg 1) q).length = 512) := by rw [Hid, length_flipL]; exact HLen.out
    by_cases hot : T = Pg tp
    · rw [decide_eq_false (show ¬ ¬ T = Pg tp from fun h => h hot)]
      have HOt := hid hot
      have hb6 : Below w5.heap.size w5 (w5.alloc (.cells #[.int .i64 1, .slice (some ⟨g, 0, none⟩) 512 cap] 86)) := (Below.refl _ w5).alloc (Nat.le_refl _) _
      have hbl6 := block_new w5 (.cells #[.int .i64 1, .slice (some ⟨g, 0, none⟩) 512 cap] 86)
      have hws : WPgs (w5.alloc (.cells #[.int .i64 1, .slice (some ⟨g, 0, none⟩) 512 cap] 86)) w5.heap.size [⟨1, g, cap, flipL (Pg 1) q⟩] F N := by
        refine ⟨fun i hi => ?_, fun _ => HFn5.out, fun p hp => ?_⟩
        · obtain rfl : i = 0 := by simp at hi; omega
          exact ⟨cell_of_block hbl6 0, cell_of_block hbl6 1⟩
        · obtain rfl : p = ⟨1, g, cap, flipL (Pg 1) q⟩ := by simpa using hp
          exact ⟨by show 1 < N; omega, HLf.out, fun j hj => (hb6.cell (World.block_lt_of_cell? w5 _ (Hby5.out j hj))).trans (Hby5.out j hj), HFg.out⟩
      have HWr := hid (awrite_any (HM5.out.below hb6) hmF w5.heap.size _ hws 1 (by simp) (by simp) (HP5.out.below hb6))
      have HK6 := hid (HK5.out.andBelow hb6)
      clear hot hb6 hbl6 hws hbt hbx5 hb5
      have HC : Hid (inoC Pg D q = (if D 1 then 0 else 1)) := by rw [Hid, inoC, ← HT.out, ← HTp.out, if_pos HOt.out]; rfl
      have HP : Hid (inoP Pg q = updP Pg 1 (flipL (Pg 1) q)) := by rw [Hid, inoP, ← HT.out, ← HTp.out, if_pos HOt.out]
      have HD : Hid (inoD Pg D q = updT D 1) := by rw [Hid, inoD, ← HT.out, ← HTp.out, if_pos HOt.out]
      go_wp2_with fail
      refine HWr.out.mono ?_
      clear HWr
      rintro e w7 ⟨hk7, hw7⟩
      have HK7 := hid (HK6.out.trans hk7 (fun i e => .inl e))
      rw [newC_one] at hw7
      clear hk7 c0 c1 hw5
      rcases hw7 with ⟨hf, rfl, hp7⟩ | ⟨hf, rfl, hp7⟩
      · have HP7 := hid hp7
        have Hf := hid hf
        clear hp7 hf
        go_wp2_with fail
        refine (aanswer_any (q : Int) 7 w7).mono ?_
        rintro e w8 ⟨rfl, h8'⟩
        obtain rfl := h8'.symm
        clear h8'
        go_wp2
        go_returns
        exact ⟨HK7.out, .inr ⟨q, rest, H0.out, .inl ⟨by rw [HC.out]; exact Hf.out, rfl, HP7.out⟩⟩⟩
      · have HP7 := hid hp7
        have Hf := hid hf
        clear hp7 hf
        go_wp2_with fail
        refine (aanswer_any (q : Int) 0 w7).mono ?_
        rintro e w8 ⟨rfl, h8'⟩
        obtain rfl := h8'.symm
        clear h8'
        rw [if_pos rfl]
        go_wp2
        go_returns
        exact ⟨HK7.out, .inr ⟨q, rest, H0.out, .inr ⟨by rw [HC.out]; exact Hf.out, rfl, by rw [HP.out, HD.out]; exact HP7.out⟩⟩⟩
    · rw [decide_eq_true hot]
      have HOt := hid hot
      have t0 : w5.cell? ⟨w4.heap.size, 0, none⟩ = some (.int .i64 tp) := cell_of_block hbt 0
      have t1 : w5.cell? ⟨w4.heap.size, 1, none⟩ = some (.slice (some ⟨g3, 0, none⟩) 512 cap3) := cell_of_block hbt 1
      have hb6 : Below w5.heap.size w5 (w5.alloc (.cells #[.int .i64 1, .slice (some ⟨g, 0, none⟩) 512 cap, .int .i64 tp, .slice (some ⟨g3, 0, none⟩) 512 cap3] 86)) := (Below.refl _ w5).alloc (Nat.le_refl _) _
      have hbl6 := block_new w5 (.cells #[.int .i64 1, .slice (some ⟨g, 0, none⟩) 512 cap, .int .i64 tp, .slice (some ⟨g3, 0, none⟩) 512 cap3] 86)
      have hws : WPgs (w5.alloc (.cells #[.int .i64 1, .slice (some ⟨g, 0, none⟩) 512 cap, .int .i64 tp, .slice (some ⟨g3, 0, none⟩) 512 cap3] 86)) w5.heap.size [⟨1, g, cap, flipL (Pg 1) q⟩, ⟨tp, g3, cap3, T⟩] F N := by
        refine ⟨fun i hi => ?_, fun _ => HFn5.out, fun p hp => ?_⟩
        · have hi2 : i = 0 ∨ i = 1 := by simp at hi; omega
          rcases hi2 with rfl | rfl
          · exact ⟨cell_of_block hbl6 0, cell_of_block hbl6 1⟩
          · exact ⟨cell_of_block hbl6 2, cell_of_block hbl6 3⟩
        · simp only [List.mem_cons, List.mem_nil_iff, or_false] at hp
          rcases hp with rfl | rfl
          · exact ⟨by show 1 < N; omega, HLf.out, fun j hj => (hb6.cell (World.block_lt_of_cell? w5 _ (Hby5.out j hj))).trans (Hby5.out j hj), HFg.out⟩
          · exact ⟨htN, HTl.out, fun j hj => (hb6.cell (World.block_lt_of_cell? w5 _ (Hbt5.out j hj))).trans (Hbt5.out j hj), HFg3.out⟩
      have HWr := hid (awrite_any (HM5.out.below hb6) hmF w5.heap.size _ hws 2 (by simp) (by simp) (HP5.out.below hb6))
      have HK6 := hid (HK5.out.andBelow hb6)
      clear hot hb6 hbl6 hws hbt hbx5 hb5
      have HC : Hid (inoC Pg D q = (if D 1 then 0 else 1) + (if D (tp : Nat) then 0 else 1)) := by rw [Hid, inoC, ← HT.out, ← HTp.out, if_neg HOt.out]
      have HP : Hid (inoP Pg q = updP (updP Pg 1 (flipL (Pg 1) q)) tp T) := by rw [Hid, inoP, ← HT.out, ← HTp.out, if_neg HOt.out]
      have HD : Hid (inoD Pg D q = updT (updT D 1) (tp : Nat)) := by rw [Hid, inoD, ← HT.out, ← HTp.out, if_neg HOt.out]
      go_wp2_with fail
      refine HWr.out.mono ?_
      clear HWr
      rintro e w7 ⟨hk7, hw7⟩
      have HK7 := hid (HK6.out.trans hk7 (fun i e => .inl e))
      rw [newC_cons, newC_one] at hw7
      clear hk7 c0 c1 t0 t1 hw5
      rcases hw7 with ⟨hf, rfl, hp7⟩ | ⟨hf, rfl, hp7⟩
      · have HP7 := hid hp7
        have Hf := hid hf
        clear hp7 hf
        go_wp2_with fail
        refine (aanswer_any (q : Int) 7 w7).mono ?_
        rintro e w8 ⟨rfl, h8'⟩
        obtain rfl := h8'.symm
        clear h8'
        go_wp2
        go_returns
        exact ⟨HK7.out, .inr ⟨q, rest, H0.out, .inl ⟨by rw [HC.out]; exact Hf.out, rfl, HP7.out⟩⟩⟩
      · have HP7 := hid hp7
        have Hf := hid hf
        clear hp7 hf
        go_wp2_with fail
        refine (aanswer_any (q : Int) 0 w7).mono ?_
        rintro e w8 ⟨rfl, h8'⟩
        obtain rfl := h8'.symm
        clear h8'
        rw [if_pos rfl]
        go_wp2
        go_returns
        exact ⟨HK7.out, .inr ⟨q, rest, H0.out, .inr ⟨by rw [HC.out]; exact Hf.out, rfl, by rw [HP.out, HD.out]; exact HP7.out⟩⟩⟩
end
end Go.Proofs.YtnghjgmpjniopaaGreat
/- A page of the ground. -/
namespace Go.Proofs.YtnghjgmpjniopaaGreat
open Go.RowKit
/-- The ground: a map. -/
def gV (m : Nat) : Value := .agg #[.pointer (some ⟨m, 0, none⟩)]
section
variable {w : World} {m c ino : Nat} {F : Nat → Prop} {size N : Nat} {Pg Cm : Nat → List UInt8} {D : Int → Bool} {o u : Nat}
set_option maxRecDepth 100000 in
theorem ipage_any {w0 : World} (h : mapB w m c ino) (n : Nat) (hn : n < N) (hu : u < 1000000) (hp : Pc w0 c F size N Pg Cm D o u) (hw : Below w0.heap.size w0 w) :
    Calls Tryz.prog 83 #[gV m, .int .i64 n] w fun e w' => ∃ g, e = .returned (.slice (some ⟨g, 0, none⟩) 512 512) ∧ w.heap.size ≤ g ∧ ownB w' g (Pg n) ∧ Keeps F w w' ∧ ∀ W, Keeps (fun i => w0.heap.size ≤ i) w' W → Pc W c F size N Pg Cm D o (u + 1) := by
  unfold gV
  have HLen := hid (hp.len n hn)
  have HFl : Hid (∀ i, F i → i < w.heap.size) := fun i hi => Nat.lt_of_lt_of_le (hp.lt i hi) hw.size
  have HW0 := hid hw
  have hw0 := hw.size
  have hal : Below w.heap.size w (w.alloc (.cells #[.pointer (some ⟨m, 0, none⟩)] 82)) := (Below.refl _ w).alloc (Nat.le_refl _) _
  have HAl : Hid ((w.alloc (.cells #[.pointer (some ⟨m, 0, none⟩)] 82)).heap[w.heap.size]? = some (.cells #[.pointer (some ⟨m, 0, none⟩)] 82 (0, 0))) := block_new w _
  have HBa := hid hal
  have HP := hid hp
  have HM := hid h
  clear h hp hal hw
  go_enter Tryz.func83, Tryz.ntmps83
  go_wp2_with (refine wpList_make_u8 rfl (.const (.int .i64 512)) (.const (.int .i64 512)) rfl 512 512 rfl rfl rfl (by omega) ?_; intro w1 hb1 hr1 hz1; have hB1 := HBa.out.trans (hb1.mono HBa.out.size); have HB1 := hid hB1; have c0 : w1.cell? ⟨w.heap.size, 0, none⟩ = some (.pointer (some ⟨m, 0, none⟩)) := (cell_of_block (below_block hb1 HAl.out (lt_of_heap HAl.out)) 0); have HO1 : Hid (ownB w1 (w.heap.size + 1) (zN 512)) := (by unfold Hid ownB; rw [← rep_U8]; simpa using hr1); have HCa := hid (amCache_any (HM.out.below hB1)); have HRd := hid (HP.out.read (HW0.out.trans (hB1.mono HW0.out.size)) n hn hu); clear hb1 hr1 hz1 hB1 HAl HBa HM HP)
  refine HCa.out.mono ?_
  clear HCa
  rintro e w2 ⟨rfl, h2⟩
  obtain rfl := h2.symm
  clear h2
  go_wp2_with fail
  refine HRd.out.mono ?_
  clear HRd
  rintro e w3 ⟨g, cap, rfl, hcap, hg, hrow, hk, hW⟩
  have HO3 := hid (HO1.out.keep hk (fun hf => by have := HFl.out _ hf; omega))
  have HRow := hid hrow
  have HK : Hid (Keeps F w w3) := (Keeps.of_below HB1.out : Keeps F w w1).trans hk (fun i e => .inl e)
  have HW := hid hW
  have HSz : Hid (w.heap.size + 1 < w3.heap.size) := lt_of_heap HO3.out
  clear hrow hk hW hg HO1 c0
  go_wp2_with (refine wpList_copy_own8 rfl (.tmp 17) (.tmp 18) rfl (w.heap.size + 1) 0 512 512 ⟨g, 0, none⟩ 512 cap rfl rfl (zN 512) (Pg n) HO3.out HRow.out.1 (by rw [HLen.out]; rfl) (by rw [HLen.out, length_zN]; omega) ?_; intro w4 hk4 ho4 hz4; have HO4 := hid ho4; have HK4 := hid hk4; clear hk4 ho4 hz4)
  go_ret
  have ho := HO4.out
  rw [List.take_zero, List.nil_append, Nat.zero_add, HLen.out, drop_zN, show zN (512 - 512) = [] from rfl, List.append_nil] at ho
  have k34 : Keeps (fun i => w0.heap.size ≤ i) w3 w4 := HK4.out.mono (fun i e => by have e' : i = w.heap.size + 1 := e; show w0.heap.size ≤ i; omega)
  have k35 : Keeps (fun i => w.heap.size ≤ i) w3 w4 := HK4.out.mono (fun i e => by have e' : i = w.heap.size + 1 := e; show w.heap.size ≤ i; omega)
  exact ⟨w.heap.size + 1, rfl, by omega, ho, HK.out.trans k35 (fun i e => .inr e), fun W hW => HW.out W (k34.trans hW (fun i e => .inl e))⟩
end
end Go.Proofs.YtnghjgmpjniopaaGreat
/- encoded, decoded. -/
namespace Go.Proofs.YtnghjgmpjniopaaGreat
open Go.RowKit
set_option maxRecDepth 100000 in
theorem ifourth_any (b o n c k : Nat) (w : World) (hk : 4 * k + 4 ≤ n) (hc : n ≤ c) (hc2 : c ≤ 4096) :
    Calls Tryz.prog 90 #[.slice (some ⟨b, o, none⟩) n c, .int .i64 k] w fun e w' => e = .returned (.slice (some ⟨b, o + 4 * k, none⟩) 4 (c - 4 * k)) ∧ w' = w := by
  have h0 : (0 : Int) ≤ (k : Int) := by omega
  have h1 : 4 * (k : Int) + 4 ≤ (n : Int) := by omega
  have h2 : (n : Int) ≤ (c : Int) := by omega
  go_enter Tryz.func90, Tryz.ntmps90
  go_wp2
  go_ret
  exact ⟨rfl, rfl⟩
/-- An inode as a value: its cells. -/
def nodeC (n : NodeS) : List Value := [.int .i64 n.kind, .int .i64 n.mode, .int .i64 n.links, .int .i64 n.size] ++ n.pages.map (fun p : Nat => Value.int .i64 p)
def nodeV (n : NodeS) : Value := .agg (nodeC n).toArray
theorem list11 : ∀ {l : List Nat}, l.length = 11 → ∃ a b c d e f g i j k m, l = [a, b, c, d, e, f, g, i, j, k, m]
  | [a, b, c, d, e, f, g, i, j, k, m], _ => ⟨a, b, c, d, e, f, g, i, j, k, m, rfl⟩
theorem put_next (A : List UInt8) (o n k : Nat) (hA : A.length = o) (B : List UInt8) (_ : k ≤ n) : (A ++ zN n).take o ++ B ++ (A ++ zN n).drop (o + k) = A ++ B ++ zN (n - k) := by
  rw [List.take_left' hA, List.drop_append, List.drop_of_length_le (by omega), hA, List.nil_append, drop_zN, show o + k - o = k by omega]
set_option maxRecDepth 100000 in
theorem ienc_any (n : NodeS) (h : n.ok) (w : World) : Calls Tryz.prog 84 #[nodeV n] w fun e w' => ∃ b, e = .returned (.slice (some ⟨b, 0, none⟩) 64 64) ∧ w.heap.size ≤ b ∧ ownB w' b (encL n) ∧ Below w.heap.size w w' := by
  obtain ⟨kd, md, lk, sz, pages⟩ := n
  have HOk := hid h
  have hp : pages.length = 11 := h.pages
  have hkd : kd < 256 := h.kind
  have hmd : md < 65536 := h.mode
  have hlk : lk < 65536 := h.links
  have hsz : sz < 4294967296 := h.size
  obtain ⟨p0, p1, p2, p3, p4, p5, p6, p7, p8, p9, p10, rfl⟩ := list11 hp
  show Calls Tryz.prog 84 #[.agg #[.int .i64 kd, .int .i64 md, .int .i64 lk, .int .i64 sz, .int .i64 p0, .int .i64 p1, .int .i64 p2, .int .i64 p3, .int .i64 p4, .int .i64 p5, .int .i64 p6, .int .i64 p7, .int .i64 p8, .int .i64 p9, .int .i64 p10]] w _
  have HC : Hid (∀ W : World, W.heap[w.heap.size]? = some (.cells #[.int .i64 kd, .int .i64 md, .int .i64 lk, .int .i64 sz, .int .i64 p0, .int .i64 p1, .int .i64 p2, .int .i64 p3, .int .i64 p4, .int .i64 p5, .int .i64 p6, .int .i64 p7, .int .i64 p8, .int .i64 p9, .int .i64 p10] 97 (0, 0)) → W.cell? ⟨w.heap.size, 0, none⟩ = some (.int .i64 kd) ∧ W.cell? ⟨w.heap.size, 1, none⟩ = some (.int .i64 md) ∧ W.cell? ⟨w.heap.size, 2, none⟩ = some (.int .i64 lk) ∧ W.cell? ⟨w.heap.size, 3, none⟩ = some (.int .i64 sz) ∧ W.cell? ⟨w.heap.size, 4, none⟩ = some (.int .i64 p0) ∧ W.cell? ⟨w.heap.size, 5, none⟩ = some (.int .i64 p1) ∧ W.cell? ⟨w.heap.size, 6, none⟩ = some (.int .i64 p2) ∧ W.cell? ⟨w.heap.size, 7, none⟩ = some (.int .i64 p3) ∧ W.cell? ⟨w.heap.size, 8, none⟩ = some (.int .i64 p4) ∧ W.cell? ⟨w.heap.size, 9, none⟩ = some (.int .i64 p5) ∧ W.cell? ⟨w.heap.size, 10, none⟩ = some (.int .i64 p6) ∧ W.cell? ⟨w.heap.size, 11, none⟩ = some (.int .i64 p7) ∧ W.cell? ⟨w.heap.size, 12, none⟩ = some (.int .i64 p8) ∧ W.cell? ⟨w.heap.size, 13, none⟩ = some (.int .i64 p9) ∧ W.cell? ⟨w.heap.size, 14, none⟩ = some (.int .i64 p10)) := fun W hW => ⟨cell_of_block hW 0, cell_of_block hW 1, cell_of_block hW 2, cell_of_block hW 3, cell_of_block hW 4, cell_of_block hW 5, cell_of_block hW 6, cell_of_block hW 7, cell_of_block hW 8, cell_of_block hW 9, cell_of_block hW 10, cell_of_block hW 11, cell_of_block hW 12, cell_of_block hW 13, cell_of_block hW 14⟩
  have hal : (w.alloc (.cells #[.int .i64 kd, .int .i64 md, .int .i64 lk, .int .i64 sz, .int .i64 p0, .int .i64 p1, .int .i64 p2, .int .i64 p3, .int .i64 p4, .int .i64 p5, .int .i64 p6, .int .i64 p7, .int .i64 p8, .int .i64 p9, .int .i64 p10] 97)).heap[w.heap.size]? = some (.cells #[.int .i64 kd, .int .i64 md, .int .i64 lk, .int .i64 sz, .int .i64 p0, .int .i64 p1, .int .i64 p2, .int .i64 p3, .int .i64 p4, .int .i64 p5, .int .i64 p6, .int .i64 p7, .int .i64 p8, .int .i64 p9, .int .i64 p10] 97 (0, 0)) := block_new w _
  have hbal : Below w.heap.size w (w.alloc (.cells #[.int .i64 kd, .int .i64 md, .int .i64 lk, .int .i64 sz, .int .i64 p0, .int .i64 p1, .int .i64 p2, .int .i64 p3, .int .i64 p4, .int .i64 p5, .int .i64 p6, .int .i64 p7, .int .i64 p8, .int .i64 p9, .int .i64 p10] 97)) := (Below.refl _ w).alloc (Nat.le_refl _) _
  have HAl := hid hal
  have HBa := hid hbal
  clear h hp hal hbal
  go_enter Tryz.func84, Tryz.ntmps84
  go_wp2_with (first
    | (refine wpList_make_u8 rfl (.const (.int .i64 64)) (.const (.int .i64 64)) rfl 64 64 rfl rfl rfl (by omega) ?_; intro w1 hb1 hr1 hz1; have HX1 := hid (below_block hb1 HAl.out (lt_of_heap HAl.out)); obtain ⟨c0, c1, c2, c3, c4, c5, c6, c7, c8, c9, c10, c11, c12, c13, c14⟩ := HC.out w1 HX1.out; have HB1 := hid (HBa.out.trans (hb1.mono HBa.out.size)); have HO1 : Hid (ownB w1 (w.heap.size + 1) (zN 64)) := (by unfold Hid ownB; rw [← rep_U8]; simpa using hr1); have k0 := HO1.out.cell 0 (by rw [length_zN]; omega); have k1 := HO1.out.frozen 0; clear hb1 hr1 hz1 HAl HBa))
  -- PUTS
  have e0 : ((UInt8.ofNat kd).toNat : Int) = (kd : Int) := by rw [UInt8.toNat_ofNat']; omega
  have ho2 := HO1.out.set 0 (UInt8.ofNat kd)
  rw [e0, show (zN 64).set 0 (UInt8.ofNat kd) = [UInt8.ofNat kd] ++ zN 63 from rfl] at ho2
  have kk : Keeps (fun i => i = w.heap.size + 1) w1 (w1.setCell ⟨w.heap.size + 1, 0, none⟩ (.int .u8 (kd : Int))) := (Keeps.refl _ w1).grown (grown_setCell (grown_refl _ _) _ _) (fun i e => .inl (Option.some.inj e).symm)
  have HO2 := hid ho2
  have HX2 := hid (kk.heap HX1.out (fun e => by have e' : w.heap.size = w.heap.size + 1 := e; omega))
  have HB2 := hid (HB1.out.trans (kk.below HB1.out.size (fun i e => by have e' : i = w.heap.size + 1 := e; omega)))
  clear ho2 kk c0 c1 c2 c3 c4 c5 c6 c7 c8 c9 c10 c11 c12 c13 c14 k0 k1 HX1 HB1 HO1 e0
  generalize w1.setCell ⟨w.heap.size + 1, 0, none⟩ (.int .u8 (kd : Int)) = w2 at *
  have hdr : Below w2.heap.size w2 w2.drew := (Below.refl _ w2).drew
  have hln : ([UInt8.ofNat kd] ++ zN 63).length = 64 := by rw [List.length_append, length_zN]; rfl
  have hpt := put_any (w.heap.size + 1) 1 2 (64 - 1) md ([UInt8.ofNat kd] ++ zN 63) w2.drew (HO2.out.below hdr) (by rw [hln]; omega) (by rw [hln]; omega) (by omega)
  rw [put_next [UInt8.ofNat kd] 1 63 2 (by rfl) _ (by omega)] at hpt
  have HPt := hid hpt
  have hXd := below_block hdr HX2.out (lt_of_heap HX2.out)
  have HXd := hid hXd
  have HBd := hid (HB2.out.trans (hdr.mono HB2.out.size))
  have d1 : w2.cell? ⟨w.heap.size, 1, none⟩ = some (.int .i64 md) := cell_of_block HX2.out 1
  clear hpt hln hdr hXd HO2 HB2
  refine wp_region_noPanic ?_
  refine wp_region_held_drew (S := fun W => W.cell? ⟨w.heap.size, 1, none⟩ = some (.int .i64 md)) (by kernel_rfl) d1 (fun hHeld => ?_)
  refine wpAnyH_take (i := 0) (v := ?_) rfl (by kernel_rfl) (by kernel_rfl) (by kernel_rfl) (fun _ _ _ h => h) (Or.inl ⟨by rfl, ?_⟩) (by assumption) ?_
  rotate_left
  · (intro W hSw; (try dsimp only at hSw); obtain s0 := hSw; go_simp; try with_reducible rfl)
  try simp only [List.getElem_toArray, List.getElem_cons_zero, Act.put, List.setIfInBounds_toArray, List.set_cons_zero, List.set_cons_succ]
  refine wpAnyH_take (i := 1) (v := ?_) rfl (by kernel_rfl) (by kernel_rfl) (by kernel_rfl) (fun _ _ _ h => h) (Or.inl ⟨by rfl, ?_⟩) (by assumption) ?_
  rotate_left
  · (intro W hSw; (try dsimp only at hSw); obtain s0 := hSw; go_simp; try with_reducible rfl)
  try simp only [List.getElem_toArray, List.getElem_cons_succ, List.getElem_cons_zero, Act.put, List.setIfInBounds_toArray, List.set_cons_zero, List.set_cons_succ]
  refine wpAnyH_take (i := 2) (v := ?_) rfl (by kernel_rfl) (by kernel_rfl) (by kernel_rfl) (fun _ _ _ h => h) (Or.inl ⟨by rfl, ?_⟩) (by assumption) ?_
  rotate_left
  · (intro W hSw; (try dsimp only at hSw); obtain s0 := hSw; go_simp; try with_reducible rfl)
  try simp only [List.getElem_toArray, List.getElem_cons_succ, List.getElem_cons_zero, Act.put, List.setIfInBounds_toArray, List.set_cons_zero, List.set_cons_succ]
  refine wpAnyH_take (i := 3) (v := ?_) rfl (by kernel_rfl) (by kernel_rfl) (by kernel_rfl) (fun _ _ _ h => h) (Or.inl ⟨by rfl, ?_⟩) (by assumption) ?_
  rotate_left
  · (intro W hSw; (try dsimp only at hSw); obtain s0 := hSw; go_simp; try with_reducible rfl)
  try simp only [List.getElem_toArray, List.getElem_cons_succ, List.getElem_cons_zero, Act.put, List.setIfInBounds_toArray, List.set_cons_zero, List.set_cons_succ]
  refine wpAnyH_ready (rs := [4]) (by kernel_rfl) (by simp) (AllReadyH.cons rfl (fun K hK => ?_) AllReadyH.nil)
  rw [if_pos (by rfl)]
  go_simp
  refine HPt.out.mono ?_
  clear HPt
  rintro e w3 ⟨rfl, ho3, hk3⟩
  have HO3 := hid ho3
  have HX3 := hid (hk3.heap HXd.out (fun e => by have e' : w.heap.size = w.heap.size + 1 := e; omega))
  have HB3 := hid (HBd.out.trans (hk3.below HBd.out.size (fun i e => by have e' : i = w.heap.size + 1 := e; omega)))
  have d2 : w3.cell? ⟨w.heap.size, 1, none⟩ = some (.int .i64 md) := cell_of_block HX3.out 1
  clear ho3 hk3 HXd HBd HX2
  go_wp2_with fail
  refine hK.out _ _ d2 (fun hHeld => ?_)
  clear hK K
  try simp only [List.getElem_toArray, List.getElem_cons_succ, List.getElem_cons_zero, Act.put, List.setIfInBounds_toArray, List.set_cons_zero, List.set_cons_succ]
  refine wpAnyH_done (by kernel_rfl) ?_ _
  refine NoPanic.normal ?_
  clear hHeld d1 d2
  go_wp2
  have hdr : Below w3.heap.size w3 w3.drew := (Below.refl _ w3).drew
  have hln : (([UInt8.ofNat kd] ++ beS 2 md) ++ zN 61).length = 64 := by rw [List.length_append, length_zN]; simp [length_beS]
  have hpt := put_any (w.heap.size + 1) 3 2 (64 - 3) lk (([UInt8.ofNat kd] ++ beS 2 md) ++ zN 61) w3.drew (HO3.out.below hdr) (by rw [hln]; omega) (by rw [hln]; omega) (by omega)
  rw [put_next ([UInt8.ofNat kd] ++ beS 2 md) 3 61 2 (by simp [length_beS]) _ (by omega)] at hpt
  have HPt := hid hpt
  have hXd := below_block hdr HX3.out (lt_of_heap HX3.out)
  have HXd := hid hXd
  have HBd := hid (HB3.out.trans (hdr.mono HB3.out.size))
  have d1 : w3.cell? ⟨w.heap.size, 2, none⟩ = some (.int .i64 lk) := cell_of_block HX3.out 2
  clear hpt hln hdr hXd HO3 HB3
  refine wp_region_noPanic ?_
  refine wp_region_held_drew (S := fun W => W.cell? ⟨w.heap.size, 2, none⟩ = some (.int .i64 lk)) (by kernel_rfl) d1 (fun hHeld => ?_)
  refine wpAnyH_take (i := 0) (v := ?_) rfl (by kernel_rfl) (by kernel_rfl) (by kernel_rfl) (fun _ _ _ h => h) (Or.inl ⟨by rfl, ?_⟩) (by assumption) ?_
  rotate_left
  · (intro W hSw; (try dsimp only at hSw); obtain s0 := hSw; go_simp; try with_reducible rfl)
  try simp only [List.getElem_toArray, List.getElem_cons_zero, Act.put, List.setIfInBounds_toArray, List.set_cons_zero, List.set_cons_succ]
  refine wpAnyH_take (i := 1) (v := ?_) rfl (by kernel_rfl) (by kernel_rfl) (by kernel_rfl) (fun _ _ _ h => h) (Or.inl ⟨by rfl, ?_⟩) (by assumption) ?_
  rotate_left
  · (intro W hSw; (try dsimp only at hSw); obtain s0 := hSw; go_simp; try with_reducible rfl)
  try simp only [List.getElem_toArray, List.getElem_cons_succ, List.getElem_cons_zero, Act.put, List.setIfInBounds_toArray, List.set_cons_zero, List.set_cons_succ]
  refine wpAnyH_take (i := 2) (v := ?_) rfl (by kernel_rfl) (by kernel_rfl) (by kernel_rfl) (fun _ _ _ h => h) (Or.inl ⟨by rfl, ?_⟩) (by assumption) ?_
  rotate_left
  · (intro W hSw; (try dsimp only at hSw); obtain s0 := hSw; go_simp; try with_reducible rfl)
  try simp only [List.getElem_toArray, List.getElem_cons_succ, List.getElem_cons_zero, Act.put, List.setIfInBounds_toArray, List.set_cons_zero, List.set_cons_succ]
  refine wpAnyH_take (i := 3) (v := ?_) rfl (by kernel_rfl) (by kernel_rfl) (by kernel_rfl) (fun _ _ _ h => h) (Or.inl ⟨by rfl, ?_⟩) (by assumption) ?_
  rotate_left
  · (intro W hSw; (try dsimp only at hSw); obtain s0 := hSw; go_simp; try with_reducible rfl)
  try simp only [List.getElem_toArray, List.getElem_cons_succ, List.getElem_cons_zero, Act.put, List.setIfInBounds_toArray, List.set_cons_zero, List.set_cons_succ]
  refine wpAnyH_ready (rs := [4]) (by kernel_rfl) (by simp) (AllReadyH.cons rfl (fun K hK => ?_) AllReadyH.nil)
  rw [if_pos (by rfl)]
  go_simp
  refine HPt.out.mono ?_
  clear HPt
  rintro e w4 ⟨rfl, ho4, hk4⟩
  have HO4 := hid ho4
  have HX4 := hid (hk4.heap HXd.out (fun e => by have e' : w.heap.size = w.heap.size + 1 := e; omega))
  have HB4 := hid (HBd.out.trans (hk4.below HBd.out.size (fun i e => by have e' : i = w.heap.size + 1 := e; omega)))
  have d2 : w4.cell? ⟨w.heap.size, 2, none⟩ = some (.int .i64 lk) := cell_of_block HX4.out 2
  clear ho4 hk4 HXd HBd HX3
  go_wp2_with fail
  refine hK.out _ _ d2 (fun hHeld => ?_)
  clear hK K
  try simp only [List.getElem_toArray, List.getElem_cons_succ, List.getElem_cons_zero, Act.put, List.setIfInBounds_toArray, List.set_cons_zero, List.set_cons_succ]
  refine wpAnyH_done (by kernel_rfl) ?_ _
  refine NoPanic.normal ?_
  clear hHeld d1 d2
  go_wp2
  have hdr : Below w4.heap.size w4 w4.drew := (Below.refl _ w4).drew
  have hln : (([UInt8.ofNat kd] ++ beS 2 md ++ beS 2 lk) ++ zN 59).length = 64 := by rw [List.length_append, length_zN]; simp [length_beS]
  have hpt := put_any (w.heap.size + 1) 5 4 (64 - 5) sz (([UInt8.ofNat kd] ++ beS 2 md ++ beS 2 lk) ++ zN 59) w4.drew (HO4.out.below hdr) (by rw [hln]; omega) (by rw [hln]; omega) (by omega)
  rw [put_next ([UInt8.ofNat kd] ++ beS 2 md ++ beS 2 lk) 5 59 4 (by simp [length_beS]) _ (by omega)] at hpt
  have HPt := hid hpt
  have hXd := below_block hdr HX4.out (lt_of_heap HX4.out)
  have HXd := hid hXd
  have HBd := hid (HB4.out.trans (hdr.mono HB4.out.size))
  have d1 : w4.cell? ⟨w.heap.size, 3, none⟩ = some (.int .i64 sz) := cell_of_block HX4.out 3
  clear hpt hln hdr hXd HO4 HB4
  refine wp_region_noPanic ?_
  refine wp_region_held_drew (S := fun W => W.cell? ⟨w.heap.size, 3, none⟩ = some (.int .i64 sz)) (by kernel_rfl) d1 (fun hHeld => ?_)
  refine wpAnyH_take (i := 0) (v := ?_) rfl (by kernel_rfl) (by kernel_rfl) (by kernel_rfl) (fun _ _ _ h => h) (Or.inl ⟨by rfl, ?_⟩) (by assumption) ?_
  rotate_left
  · (intro W hSw; (try dsimp only at hSw); obtain s0 := hSw; go_simp; try with_reducible rfl)
  try simp only [List.getElem_toArray, List.getElem_cons_zero, Act.put, List.setIfInBounds_toArray, List.set_cons_zero, List.set_cons_succ]
  refine wpAnyH_take (i := 1) (v := ?_) rfl (by kernel_rfl) (by kernel_rfl) (by kernel_rfl) (fun _ _ _ h => h) (Or.inl ⟨by rfl, ?_⟩) (by assumption) ?_
  rotate_left
  · (intro W hSw; (try dsimp only at hSw); obtain s0 := hSw; go_simp; try with_reducible rfl)
  try simp only [List.getElem_toArray, List.getElem_cons_succ, List.getElem_cons_zero, Act.put, List.setIfInBounds_toArray, List.set_cons_zero, List.set_cons_succ]
  refine wpAnyH_take (i := 2) (v := ?_) rfl (by kernel_rfl) (by kernel_rfl) (by kernel_rfl) (fun _ _ _ h => h) (Or.inl ⟨by rfl, ?_⟩) (by assumption) ?_
  rotate_left
  · (intro W hSw; (try dsimp only at hSw); obtain s0 := hSw; go_simp; try with_reducible rfl)
  try simp only [List.getElem_toArray, List.getElem_cons_succ, List.getElem_cons_zero, Act.put, List.setIfInBounds_toArray, List.set_cons_zero, List.set_cons_succ]
  refine wpAnyH_take (i := 3) (v := ?_) rfl (by kernel_rfl) (by kernel_rfl) (by kernel_rfl) (fun _ _ _ h => h) (Or.inl ⟨by rfl, ?_⟩) (by assumption) ?_
  rotate_left
  · (intro W hSw; (try dsimp only at hSw); obtain s0 := hSw; go_simp; try with_reducible rfl)
  try simp only [List.getElem_toArray, List.getElem_cons_succ, List.getElem_cons_zero, Act.put, List.setIfInBounds_toArray, List.set_cons_zero, List.set_cons_succ]
  refine wpAnyH_ready (rs := [4]) (by kernel_rfl) (by simp) (AllReadyH.cons rfl (fun K hK => ?_) AllReadyH.nil)
  rw [if_pos (by rfl)]
  go_simp
  refine HPt.out.mono ?_
  clear HPt
  rintro e w5 ⟨rfl, ho5, hk5⟩
  have HO5 := hid ho5
  have HX5 := hid (hk5.heap HXd.out (fun e => by have e' : w.heap.size = w.heap.size + 1 := e; omega))
  have HB5 := hid (HBd.out.trans (hk5.below HBd.out.size (fun i e => by have e' : i = w.heap.size + 1 := e; omega)))
  have d2 : w5.cell? ⟨w.heap.size, 3, none⟩ = some (.int .i64 sz) := cell_of_block HX5.out 3
  clear ho5 hk5 HXd HBd HX4
  go_wp2_with fail
  refine hK.out _ _ d2 (fun hHeld => ?_)
  clear hK K
  try simp only [List.getElem_toArray, List.getElem_cons_succ, List.getElem_cons_zero, Act.put, List.setIfInBounds_toArray, List.set_cons_zero, List.set_cons_succ]
  refine wpAnyH_done (by kernel_rfl) ?_ _
  refine NoPanic.normal ?_
  clear hHeld d1 d2
  obtain ⟨c0, c1, c2, c3, c4, c5, c6, c7, c8, c9, c10, c11, c12, c13, c14⟩ := HC.out w5 HX5.out
  obtain ⟨ps, hps⟩ : ∃ ps : List Nat, ps = [p0, p1, p2, p3, p4, p5, p6, p7, p8, p9, p10] := ⟨_, rfl⟩
  have hpl : ps.length = 11 := by rw [hps]; rfl
  have hag : (#[.int .i64 p0, .int .i64 p1, .int .i64 p2, .int .i64 p3, .int .i64 p4, .int .i64 p5, .int .i64 p6, .int .i64 p7, .int .i64 p8, .int .i64 p9, .int .i64 p10] : Array Value) = (ps.map (fun p : Nat => Value.int .i64 p)).toArray := by rw [hps]; rfl
  have HAg := hid hag
  have HO0 : Hid (ownB w5 (w.heap.size + 1) (encTo ⟨kd, md, lk, sz, ps⟩ 0)) := HO5
  have HOk2 : Hid (NodeS.ok ⟨kd, md, lk, sz, ps⟩) := by rw [hps]; exact HOk
  have HPs := hid hps
  have HPl := hid hpl
  clear HO5 HX5 HC hag HOk hpl
  go_wp2
  rw [HAg.out]
  clear c0 c1 c2 c3 c4 c5 c6 c7 c8 c9 c10 c11 c12 c13 c14 HAg hps
  go_loopw [29] (fun iv wr => ∃ j : Nat, j ≤ 11 ∧ iv = .int .i64 j ∧ Hid (ownB wr (w.heap.size + 1) (encTo ⟨kd, md, lk, sz, ps⟩ j)) ∧ Hid (Below w.heap.size w wr)) (fun iv _ => 11 - (intOf iv).toNat)
  case atStart => exact ⟨0, by omega, rfl, HO0, HB5⟩
  case round =>
    obtain ⟨j, hj, rfl, HO, HB⟩ := hrel
    clear HO0 HB5
    by_cases hlt : j < 11
    · have hj0 : (0 : Int) ≤ (j : Int) := by omega
      have hj1 : (j : Int) < 11 := by omega
      have hjl : j < ps.length := by rw [HPl.out]; exact hlt
      have hix : (Instr.index 95 (.agg (ps.map (fun p : Nat => Value.int .i64 p)).toArray) (.int .i64 (j : Int))).run Tryz.prog wr = .ok (.int .i64 (ps[j] : Nat)) wr := run_index_one Tryz.underlying95 (by kernel_rfl) Tryz.underlying3 hlt (by simp [hjl])
      have HF := hid (ifourth_any (w.heap.size + 1) 9 55 55 j wr (by omega) (by omega) (by omega))
      have hx4 : ps[j] < 4294967296 := HOk2.out.each ps[j] (List.getElem_mem hjl)
      have hll : (encTo ⟨kd, md, lk, sz, ps⟩ j).length = 64 := length_encTo _ j hj HPl.out
      have hpt := put_any (w.heap.size + 1) (9 + 4 * j) 4 (55 - 4 * j) ps[j] (encTo ⟨kd, md, lk, sz, ps⟩ j) wr HO.out (by rw [hll]; omega) (by rw [hll]; omega) (by omega)
      rw [show (encTo ⟨kd, md, lk, sz, ps⟩ j).take (9 + 4 * j) ++ beS 4 ps[j] ++ (encTo ⟨kd, md, lk, sz, ps⟩ j).drop (9 + 4 * j + 4) = encTo ⟨kd, md, lk, sz, ps⟩ (j + 1) from encTo_succ ⟨kd, md, lk, sz, ps⟩ j hjl hlt] at hpt
      have HPt := hid hpt
      clear hpt hll hx4 HO
      generalize ps[j] = x at *
      go_wp2_with fail
      refine HF.out.mono ?_
      clear HF
      rintro e w7 ⟨rfl, h7⟩
      obtain rfl := h7.symm
      clear h7
      go_wp2_with fail
      refine HPt.out.mono ?_
      clear HPt
      rintro e w8 ⟨rfl, ho8, hk8⟩
      have HO8 := hid ho8
      have HB8 := hid (HB.out.trans (hk8.below HB.out.size (fun i e => by have e' : i = w.heap.size + 1 := e; omega)))
      clear ho8 hk8 HB hix
      go_wp2
      exact ⟨⟨j + 1, by omega, by go_num, HO8, HB8⟩, by simp [intOf]; omega⟩
    · obtain rfl : j = 11 := by omega
      go_wp2
      go_ret
      refine ⟨w.heap.size + 1, rfl, by omega, ?_, HB.out⟩
      rw [← HPs.out]
      exact HO.out
end Go.Proofs.YtnghjgmpjniopaaGreat
/- decoded. Written by mk_indec.py. -/
namespace Go.Proofs.YtnghjgmpjniopaaGreat
open Go.RowKit
theorem wp_store_block {op : Oper} {a : Act} {w : World} {K : Act → World → Prop} {Q : Exit → Act → World → Prop} (ty : TypeId) (x y : Operand) (ho : op.op = .store ty x y)
    (b : Nat) (cs : Array Value) (hx : a.eval x = .pointer (some ⟨b, 0, none⟩)) (hy : a.eval y = .agg cs) (C : Array Value) (t : TypeId) (hb : w.heap[b]? = some (.cells C t (0, 0))) (hs : cs.size = C.size)
    (hi : (Tryz.prog.info? ty).map (·.size) = some cs.size) (h1 : cs.all (·.oneCell') = true)
    (h : ∀ w1 : World, w.grownBy w1 (some b) → w1.heap[b]? = some (.cells cs t (0, 0)) → w1.heap.size = w.heap.size → K (a.put op.dst undef) w1) : op.wp Tryz.prog a w K Q := by
  obtain ⟨i1, i2, i3, i4, i5, i6⟩ := setCells_block b cs.toList 0 w C t hb (by simp; omega)
  refine wp_store_mid ty x y ho b 0 cs hx hy (there_of_block hb 0 _ (by omega)) hi h1 (h _ ⟨i3, i4, i5, by omega, fun k _ hk => i2 k (by simpa using hk)⟩ ?_ i6)
  rw [i1]
  rw [List.drop_eq_nil_of_le (by simp; omega)]
  simp
/-- An inode in a block. -/
def nodeB (w : World) (b : Nat) (n : NodeS) : Prop := w.heap[b]? = some (.cells (nodeC n).toArray 97 (0, 0))
theorem nodeB.page {w : World} {b : Nat} {n : NodeS} (h : nodeB w b n) (j : Nat) (hj : j < n.pages.length) : w.cell? ⟨b, 4 + j, none⟩ = some (.int .i64 (n.pages[j] : Nat)) := by
  rw [cell_of_block h]
  unfold nodeC
  rw [List.getElem?_toArray, List.getElem?_append_right (by simp), List.length_cons, List.length_cons, List.length_cons, List.length_cons, List.length_nil, show 4 + j - (0 + 1 + 1 + 1 + 1) = j by omega, List.getElem?_map, List.getElem?_eq_getElem hj]
  rfl
theorem nodeB.setPage {w : World} {b : Nat} {n : NodeS} (h : nodeB w b n) (j x : Nat) : nodeB (w.setCell ⟨b, 4 + j, none⟩ (.int .i64 x)) b { n with pages := n.pages.set j x } := by
  have h1 := block_setCell h (4 + j) (.int .i64 x)
  unfold nodeB
  rw [h1, List.setIfInBounds_toArray]
  unfold nodeC
  rw [List.set_append_right _ _ (by simp)]
  simp only [List.length_cons, List.length_nil, List.map_set]
  rw [show 4 + j - (0 + 1 + 1 + 1 + 1) = j by omega]
/-- The pages, k of them read. -/
def decQ (l : List UInt8) (k : Nat) : List Nat := decP l k ++ List.replicate (11 - k) 0
theorem length_decQ (l : List UInt8) (k : Nat) (hk : k ≤ 11) : (decQ l k).length = 11 := by unfold decQ; rw [List.length_append, length_decP, List.length_replicate]; omega
theorem decQ_set (l : List UInt8) (k : Nat) (hk : k < 11) : (decQ l k).set k (numS ((l.drop (9 + 4 * k)).take 4)) = decQ l (k + 1) := by
  unfold decQ
  rw [List.set_append_right _ _ (by rw [length_decP]; omega), length_decP, Nat.sub_self, decP_succ, show 11 - k = (11 - (k + 1)) + 1 by omega, List.replicate_succ, List.set_cons_zero]
  simp
theorem length_nodeC (a b c d : Nat) (l : List UInt8) : (nodeC ⟨a, b, c, d, decQ l 11⟩).length = 15 := by
  unfold nodeC; rw [List.length_append, List.length_map, length_decQ l 11 (Nat.le_refl _)]; rfl
theorem nodeC_one (n : NodeS) : (nodeC n).toArray.all (·.oneCell') = true := by
  rw [Array.all_eq_true_iff_forall_mem]
  intro v hv
  have hv' : v ∈ nodeC n := by simpa using hv
  unfold nodeC at hv'
  simp only [List.cons_append, List.nil_append, List.mem_cons, List.mem_map] at hv'
  rcases hv' with rfl | rfl | rfl | rfl | ⟨p, _, rfl⟩ <;> rfl
set_option maxRecDepth 100000 in
theorem results_dec {w : World} {tmps : Array Value} {b : Nat} {cs : List Value} (h1 : tmps.getD 2 undef = .pointer (some ⟨b, 0, none⟩)) (r : w.heap[b]? = some (.cells cs.toArray 97 (0, 0))) (hl : cs.length = 15) :
    (results Tryz.f118 tmps).run Tryz.prog w = .ok (.agg cs.toArray) w := by
  have h1' : tmps[2]?.getD undef = .pointer (some ⟨b, 0, none⟩) := by simpa using h1
  have hr := run_loadVar_mid (P := Tryz.prog) w b 0 97 cs _ (by have := range_of_block r; exact this) Tryz.underlying97 rfl (by rw [hl]; kernel_rfl)
  simp only [results, Tryz.results118]
  simp [h1', asAddr, hr]
theorem part_in {w : World} {b o : Nat} {l : List UInt8} (h : bytesAt w ⟨b, o, none⟩ l) (p n : Nat) (hp : p + n ≤ l.length) : bytesIn w (some ⟨b, o + p, none⟩) ((l.drop p).take n) := fun _ _ => ⟨b, o + p, rfl, fun k hk => by
  have hk' : k < n := by rw [List.length_take] at hk; omega
  have h1 := h (p + k) (by omega)
  rw [Addr.add_mid] at h1
  rw [Nat.add_assoc, h1]
  simp [List.getElem_take, List.getElem_drop]⟩
theorem len_part {l : List UInt8} {p n : Nat} (h : p + n ≤ l.length) : ((l.drop p).take n).length = n := by rw [List.length_take, List.length_drop]; omega
set_option maxRecDepth 100000 in
set_option maxHeartbeats 2000000 in
theorem idec_any (b o c : Nat) (l : List UInt8) (w : World) (h : bytesAt w ⟨b, o, none⟩ l) (hl : l.length = 64) (hc : 64 ≤ c) (hc2 : c ≤ 4096) : Calls Tryz.prog 118 #[.slice (some ⟨b, o, none⟩) 64 c] w fun e w' => e = .returned (nodeV (decL l)) ∧ Below w.heap.size w w' := by
  have hba : Below w.heap.size w (w.alloc (.cells #[.int .i64 0, .int .i64 0, .int .i64 0, .int .i64 0, .int .i64 0, .int .i64 0, .int .i64 0, .int .i64 0, .int .i64 0, .int .i64 0, .int .i64 0, .int .i64 0, .int .i64 0, .int .i64 0, .int .i64 0] 97)) := (Below.refl _ w).alloc (Nat.le_refl _) _
  have hbd : Below (w.alloc (.cells #[.int .i64 0, .int .i64 0, .int .i64 0, .int .i64 0, .int .i64 0, .int .i64 0, .int .i64 0, .int .i64 0, .int .i64 0, .int .i64 0, .int .i64 0, .int .i64 0, .int .i64 0, .int .i64 0, .int .i64 0] 97)).heap.size (w.alloc (.cells #[.int .i64 0, .int .i64 0, .int .i64 0, .int .i64 0, .int .i64 0, .int .i64 0, .int .i64 0, .int .i64 0, .int .i64 0, .int .i64 0, .int .i64 0, .int .i64 0, .int .i64 0, .int .i64 0, .int .i64 0] 97)) (w.alloc (.cells #[.int .i64 0, .int .i64 0, .int .i64 0, .int .i64 0, .int .i64 0, .int .i64 0, .int .i64 0, .int .i64 0, .int .i64 0, .int .i64 0, .int .i64 0, .int .i64 0, .int .i64 0, .int .i64 0, .int .i64 0] 97)).drew := (Below.refl _ _).drew
  have hbw : Below w.heap.size w (w.alloc (.cells #[.int .i64 0, .int .i64 0, .int .i64 0, .int .i64 0, .int .i64 0, .int .i64 0, .int .i64 0, .int .i64 0, .int .i64 0, .int .i64 0, .int .i64 0, .int .i64 0, .int .i64 0, .int .i64 0, .int .i64 0] 97)).drew := hba.trans (hbd.mono hba.size)
  have hr0 := below_block hbd (block_new w (.cells #[.int .i64 0, .int .i64 0, .int .i64 0, .int .i64 0, .int .i64 0, .int .i64 0, .int .i64 0, .int .i64 0, .int .i64 0, .int .i64 0, .int .i64 0, .int .i64 0, .int .i64 0, .int .i64 0, .int .i64 0] 97)) (by simp)
  have hby : ∀ W, Below (w.alloc (.cells #[.int .i64 0, .int .i64 0, .int .i64 0, .int .i64 0, .int .i64 0, .int .i64 0, .int .i64 0, .int .i64 0, .int .i64 0, .int .i64 0, .int .i64 0, .int .i64 0, .int .i64 0, .int .i64 0, .int .i64 0] 97)).drew.heap.size (w.alloc (.cells #[.int .i64 0, .int .i64 0, .int .i64 0, .int .i64 0, .int .i64 0, .int .i64 0, .int .i64 0, .int .i64 0, .int .i64 0, .int .i64 0, .int .i64 0, .int .i64 0, .int .i64 0, .int .i64 0, .int .i64 0] 97)).drew W → bytesAt W ⟨b, o, none⟩ l := fun W hW j hj => by
    have h1 := h j hj
    have hlt := World.block_lt_of_cell? w _ h1
    have h2 := (hbw.cell hlt).trans h1
    exact (hW.cell (World.block_lt_of_cell? _ _ h2)).trans h2
  have hnum : ∀ W, Below (w.alloc (.cells #[.int .i64 0, .int .i64 0, .int .i64 0, .int .i64 0, .int .i64 0, .int .i64 0, .int .i64 0, .int .i64 0, .int .i64 0, .int .i64 0, .int .i64 0, .int .i64 0, .int .i64 0, .int .i64 0, .int .i64 0] 97)).drew.heap.size (w.alloc (.cells #[.int .i64 0, .int .i64 0, .int .i64 0, .int .i64 0, .int .i64 0, .int .i64 0, .int .i64 0, .int .i64 0, .int .i64 0, .int .i64 0, .int .i64 0, .int .i64 0, .int .i64 0, .int .i64 0, .int .i64 0] 97)).drew W → ∀ p n, p + n ≤ 64 → n ≤ 7 → Calls Tryz.prog 57 #[.slice (some ⟨b, o + p, none⟩) n (c - p)] W fun e w' => e = .returned (.int .i64 (numS ((l.drop p).take n) : Nat)) ∧ w' = W := fun W hW p n hp hn => by
    have h1 := number_any ((l.drop p).take n) (some ⟨b, o + p, none⟩) (c - p) W (part_in (hby W hW) p n (by omega)) (by rw [len_part (by omega)]; exact hn)
    rw [len_part (by omega)] at h1
    exact h1
  have h00 := h 0 (by omega)
  rw [Addr.add_mid, Nat.add_zero] at h00
  have cd0 := (hbw.cell (World.block_lt_of_cell? w _ h00)).trans h00
  have ca0 := (hba.cell (World.block_lt_of_cell? w _ h00)).trans h00
  obtain ⟨x0, hx0⟩ : ∃ x0, x0 = l[0] := ⟨_, rfl⟩
  rw [← hx0] at cd0 ca0
  have HNum := hid hnum
  have HBy := hid hby
  have HBw := hid hbw
  have HR0 := hid hr0
  have HX0 : Hid (x0 = l.getD 0 0) := by unfold Hid; rw [hx0, List.getD_eq_getElem?_getD, List.getElem?_eq_getElem (by omega)]; rfl
  have HL := hid hl
  have hc' : (64 : Int) ≤ (c : Int) := by omega
  clear hba hbd hbw hr0 hby hnum h00 hx0 h
  replace hl : True := trivial
  clear hl
  go_enter Tryz.func118, Tryz.ntmps118
  go_wp2
  refine wp_region_noPanic ?_
  refine wp_region_held_drew (S := fun W => W.cell? ⟨b, o, none⟩ = some (.int .u8 (x0.toNat : Int))) (by kernel_rfl) ca0 (fun hHeld => ?_)
  have HSz : Hid ((w.alloc (.cells #[.int .i64 0, .int .i64 0, .int .i64 0, .int .i64 0, .int .i64 0, .int .i64 0, .int .i64 0, .int .i64 0, .int .i64 0, .int .i64 0, .int .i64 0, .int .i64 0, .int .i64 0, .int .i64 0, .int .i64 0] 97)).drew.heap.size = w.heap.size + 1) := by unfold Hid; simp [World.drew]
  generalize (w.alloc (.cells #[.int .i64 0, .int .i64 0, .int .i64 0, .int .i64 0, .int .i64 0, .int .i64 0, .int .i64 0, .int .i64 0, .int .i64 0, .int .i64 0, .int .i64 0, .int .i64 0, .int .i64 0, .int .i64 0, .int .i64 0] 97)).drew = wd at *
  have hn6 := fun W hW => HNum.out W hW 1 2 (by omega) (by omega)
  have hn9 := fun W hW => HNum.out W hW 3 2 (by omega) (by omega)
  have hn12 := fun W hW => HNum.out W hW 5 4 (by omega) (by omega)
  obtain ⟨m1, hm1⟩ : ∃ m1, m1 = numS ((l.drop 1).take 2) := ⟨_, rfl⟩
  obtain ⟨m2, hm2⟩ : ∃ m2, m2 = numS ((l.drop 3).take 2) := ⟨_, rfl⟩
  obtain ⟨m3, hm3⟩ : ∃ m3, m3 = numS ((l.drop 5).take 4) := ⟨_, rfl⟩
  rw [← hm1] at hn6
  rw [← hm2] at hn9
  rw [← hm3] at hn12
  have HN6 := hid hn6
  have HN9 := hid hn9
  have HN12 := hid hn12
  have HMs := hid (And.intro hm1 (And.intro hm2 hm3))
  clear hn6 hn9 hn12 hm1 hm2 hm3
  have hw0 : IntKind.i64.wrap (x0.toNat : Int) = (x0.toNat : Int) := by rw [IntWalk.i64_in _ (by have := x0.toNat_lt; omega)]
  have cd := cd0
  clear cd0 ca0
  refine wpAnyH_take (i := 0) (v := ?_) rfl (by kernel_rfl) (by kernel_rfl) (by kernel_rfl) (fun _ _ _ h => h) (Or.inl ⟨by rfl, ?_⟩) (by assumption) ?_
  rotate_left
  · (intro W hSw; (try dsimp only at hSw); obtain s0 := hSw; go_simp; try with_reducible rfl)
  try simp only [List.getElem_toArray, List.getElem_cons_zero, Act.put, List.setIfInBounds_toArray, List.set_cons_zero, List.set_cons_succ]
  have hq3 : (3 : Int) ≤ (c : Int) := by omega
  have hq5 : (5 : Int) ≤ (c : Int) := by omega
  have hq9 : (9 : Int) ≤ (c : Int) := by omega
  have hn1 : ¬ c = 1 := by omega
  have hn3 : ¬ c = 3 := by omega
  have hn5 : ¬ c = 5 := by omega
  refine wpAnyH_take (i := 1) (v := ?_) rfl (by kernel_rfl) (by kernel_rfl) (by kernel_rfl) (fun _ _ _ h => h) (Or.inl ⟨by rfl, ?_⟩) (by assumption) ?_
  rotate_left
  · (intro W hSw; (try dsimp only at hSw); obtain s0 := hSw; go_simp; try with_reducible rfl)
  try simp only [List.getElem_toArray, List.getElem_cons_succ, List.getElem_cons_zero, Act.put, List.setIfInBounds_toArray, List.set_cons_zero, List.set_cons_succ]
  refine wpAnyH_take (i := 2) (v := ?_) rfl (by kernel_rfl) (by kernel_rfl) (by kernel_rfl) (fun _ _ _ h => h) (Or.inl ⟨by rfl, ?_⟩) (by assumption) ?_
  rotate_left
  · (intro W hSw; (try dsimp only at hSw); obtain s0 := hSw; go_simp; try with_reducible rfl)
  try simp only [List.getElem_toArray, List.getElem_cons_succ, List.getElem_cons_zero, Act.put, List.setIfInBounds_toArray, List.set_cons_zero, List.set_cons_succ]
  refine wpAnyH_take (i := 3) (v := .int .i64 (x0.toNat : Int)) rfl (by kernel_rfl) (by kernel_rfl) (by kernel_rfl) (fun _ _ _ h => h) (Or.inl ⟨by rfl, ?_⟩) (by assumption) ?_
  · (intro W hSw; (try dsimp only at hSw); obtain s0 := hSw; go_simp; try first | with_reducible rfl | go_num | (rw [if_pos (by assumption)]; simp only [*]) | simp only [*])
  try simp only [List.getElem_toArray, List.getElem_cons_succ, List.getElem_cons_zero, Act.put, List.setIfInBounds_toArray, List.set_cons_zero, List.set_cons_succ]
  refine wpAnyH_take (i := 4) (v := ?_) rfl (by kernel_rfl) (by kernel_rfl) (by kernel_rfl) (fun _ _ _ h => h) (Or.inl ⟨by rfl, ?_⟩) (by assumption) ?_
  rotate_left
  · (intro W hSw; (try dsimp only at hSw); obtain s0 := hSw; go_simp; try with_reducible rfl)
  try simp only [List.getElem_toArray, List.getElem_cons_succ, List.getElem_cons_zero, Act.put, List.setIfInBounds_toArray, List.set_cons_zero, List.set_cons_succ]
  refine wpAnyH_take (i := 5) (v := .slice (some ⟨b, o + 1, none⟩) 2 (c - 1)) rfl (by kernel_rfl) (by kernel_rfl) (by kernel_rfl) (fun _ _ _ h => h) (Or.inl ⟨by rfl, ?_⟩) (by assumption) ?_
  · (intro W hSw; (try dsimp only at hSw); obtain s0 := hSw; go_simp; try first | with_reducible rfl | go_num | (rw [if_pos (by assumption)]; simp only [*]) | simp only [*])
  try simp only [List.getElem_toArray, List.getElem_cons_succ, List.getElem_cons_zero, Act.put, List.setIfInBounds_toArray, List.set_cons_zero, List.set_cons_succ]
  refine wpAnyH_take (i := 7) (v := ?_) rfl (by kernel_rfl) (by kernel_rfl) (by kernel_rfl) (fun _ _ _ h => h) (Or.inl ⟨by rfl, ?_⟩) (by assumption) ?_
  rotate_left
  · (intro W hSw; (try dsimp only at hSw); obtain s0 := hSw; go_simp; try with_reducible rfl)
  try simp only [List.getElem_toArray, List.getElem_cons_succ, List.getElem_cons_zero, Act.put, List.setIfInBounds_toArray, List.set_cons_zero, List.set_cons_succ]
  refine wpAnyH_take (i := 8) (v := .slice (some ⟨b, o + 3, none⟩) 2 (c - 3)) rfl (by kernel_rfl) (by kernel_rfl) (by kernel_rfl) (fun _ _ _ h => h) (Or.inl ⟨by rfl, ?_⟩) (by assumption) ?_
  · (intro W hSw; (try dsimp only at hSw); obtain s0 := hSw; go_simp; try first | with_reducible rfl | go_num | (rw [if_pos (by assumption)]; simp only [*]) | simp only [*])
  try simp only [List.getElem_toArray, List.getElem_cons_succ, List.getElem_cons_zero, Act.put, List.setIfInBounds_toArray, List.set_cons_zero, List.set_cons_succ]
  refine wpAnyH_take (i := 10) (v := ?_) rfl (by kernel_rfl) (by kernel_rfl) (by kernel_rfl) (fun _ _ _ h => h) (Or.inl ⟨by rfl, ?_⟩) (by assumption) ?_
  rotate_left
  · (intro W hSw; (try dsimp only at hSw); obtain s0 := hSw; go_simp; try with_reducible rfl)
  try simp only [List.getElem_toArray, List.getElem_cons_succ, List.getElem_cons_zero, Act.put, List.setIfInBounds_toArray, List.set_cons_zero, List.set_cons_succ]
  refine wpAnyH_take (i := 11) (v := .slice (some ⟨b, o + 5, none⟩) 4 (c - 5)) rfl (by kernel_rfl) (by kernel_rfl) (by kernel_rfl) (fun _ _ _ h => h) (Or.inl ⟨by rfl, ?_⟩) (by assumption) ?_
  · (intro W hSw; (try dsimp only at hSw); obtain s0 := hSw; go_simp; try first | with_reducible rfl | go_num | (rw [if_pos (by assumption)]; simp only [*]) | simp only [*])
  try simp only [List.getElem_toArray, List.getElem_cons_succ, List.getElem_cons_zero, Act.put, List.setIfInBounds_toArray, List.set_cons_zero, List.set_cons_succ]
  refine wpAnyH_ready (rs := [6, 14]) (by kernel_rfl) (by simp) (AllReadyH.cons rfl (fun K hK => ?_) (AllReadyH.cons rfl (fun K hK => ?_) AllReadyH.nil))
  · rw [if_pos (by rfl)]
    go_simp
    refine (HN6.out wd (Below.refl _ _)).mono ?_
    rintro e w9 ⟨rfl, h9⟩
    obtain rfl := h9.symm
    clear h9
    go_wp2_with fail
    refine hK.out _ _ cd (fun hHeld => ?_)
    clear hK K
    try simp only [List.getElem_toArray, List.getElem_cons_succ, List.getElem_cons_zero, Act.put, List.setIfInBounds_toArray, List.set_cons_zero, List.set_cons_succ]
    refine wpAnyH_ready (rs := [9, 14]) (by kernel_rfl) (by simp) (AllReadyH.cons rfl (fun K hK => ?_) (AllReadyH.cons rfl (fun K hK => ?_) AllReadyH.nil))
    · rw [if_pos (by rfl)]
      go_simp
      refine (HN9.out wd (Below.refl _ _)).mono ?_
      rintro e w9 ⟨rfl, h9⟩
      obtain rfl := h9.symm
      clear h9
      go_wp2_with fail
      refine hK.out _ _ cd (fun hHeld => ?_)
      clear hK K
      try simp only [List.getElem_toArray, List.getElem_cons_succ, List.getElem_cons_zero, Act.put, List.setIfInBounds_toArray, List.set_cons_zero, List.set_cons_succ]
      refine wpAnyH_ready (rs := [12, 14]) (by kernel_rfl) (by simp) (AllReadyH.cons rfl (fun K hK => ?_) (AllReadyH.cons rfl (fun K hK => ?_) AllReadyH.nil))
      · rw [if_pos (by rfl)]
        go_simp
        refine (HN12.out wd (Below.refl _ _)).mono ?_
        rintro e w9 ⟨rfl, h9⟩
        obtain rfl := h9.symm
        clear h9
        go_wp2_with fail
        refine hK.out _ _ cd (fun hHeld => ?_)
        clear hK K
        try simp only [List.getElem_toArray, List.getElem_cons_succ, List.getElem_cons_zero, Act.put, List.setIfInBounds_toArray, List.set_cons_zero, List.set_cons_succ]
        refine wpAnyH_take (i := 13) (v := ?_) rfl (by kernel_rfl) (by kernel_rfl) (by kernel_rfl) (fun _ _ _ h => h) (Or.inl ⟨by rfl, ?_⟩) (by assumption) ?_
        rotate_left
        · (intro W hSw; (try dsimp only at hSw); obtain s0 := hSw; go_simp; try with_reducible rfl)
        try simp only [List.getElem_toArray, List.getElem_cons_succ, List.getElem_cons_zero, Act.put, List.setIfInBounds_toArray, List.set_cons_zero, List.set_cons_succ]
        refine wpAnyH_ready (rs := [14]) (by kernel_rfl) (by simp) (AllReadyH.cons rfl (fun K hK => ?_) AllReadyH.nil)
        rw [if_pos (by rfl)]
        unfold Oper.wp
        go_simp
        have HBz : Hid (Below wd.heap.size wd (wd.alloc (.cells #[.int .i64 0, .int .i64 0, .int .i64 0, .int .i64 0, .int .i64 0, .int .i64 0, .int .i64 0, .int .i64 0, .int .i64 0, .int .i64 0, .int .i64 0, .int .i64 0, .int .i64 0, .int .i64 0, .int .i64 0] 97))) := (Below.refl _ wd).alloc (Nat.le_refl _) _
        have HNz : Hid ((wd.alloc (.cells #[.int .i64 0, .int .i64 0, .int .i64 0, .int .i64 0, .int .i64 0, .int .i64 0, .int .i64 0, .int .i64 0, .int .i64 0, .int .i64 0, .int .i64 0, .int .i64 0, .int .i64 0, .int .i64 0, .int .i64 0] 97)).heap[wd.heap.size]? = some (.cells #[.int .i64 0, .int .i64 0, .int .i64 0, .int .i64 0, .int .i64 0, .int .i64 0, .int .i64 0, .int .i64 0, .int .i64 0, .int .i64 0, .int .i64 0, .int .i64 0, .int .i64 0, .int .i64 0, .int .i64 0] 97 (0, 0))) := block_new wd _
        have cz : (wd.alloc (.cells #[.int .i64 0, .int .i64 0, .int .i64 0, .int .i64 0, .int .i64 0, .int .i64 0, .int .i64 0, .int .i64 0, .int .i64 0, .int .i64 0, .int .i64 0, .int .i64 0, .int .i64 0, .int .i64 0, .int .i64 0] 97)).cell? ⟨b, o, none⟩ = some (.int .u8 (x0.toNat : Int)) := (HBz.out.cell (World.block_lt_of_cell? wd _ cd)).trans cd
        generalize wd.alloc (.cells #[.int .i64 0, .int .i64 0, .int .i64 0, .int .i64 0, .int .i64 0, .int .i64 0, .int .i64 0, .int .i64 0, .int .i64 0, .int .i64 0, .int .i64 0, .int .i64 0, .int .i64 0, .int .i64 0, .int .i64 0] 97) = wz at *
        refine hK.out _ _ cz (fun hHeld => ?_)
        clear hK K
        try simp only [List.getElem_toArray, List.getElem_cons_succ, List.getElem_cons_zero, Act.put, List.setIfInBounds_toArray, List.set_cons_zero, List.set_cons_succ]
        refine wpAnyH_ready (rs := [15]) (by kernel_rfl) (by simp) (AllReadyH.cons rfl (fun K hK => ?_) AllReadyH.nil)
        rw [if_pos (by rfl)]
        refine wp_store_block 97 (.tmp 3) (.tmp 18) rfl wd.heap.size #[.int .i64 (x0.toNat : Int), .int .i64 m1, .int .i64 m2, .int .i64 m3, .int .i64 0, .int .i64 0, .int .i64 0, .int .i64 0, .int .i64 0, .int .i64 0, .int .i64 0, .int .i64 0, .int .i64 0, .int .i64 0, .int .i64 0] rfl rfl _ _ HNz.out rfl (by kernel_rfl) (by simp [Value.oneCell']) ?_
        intro w5 hg5 hn5 hz5
        have hbne : b < wd.heap.size := World.block_lt_of_cell? wd _ cd
        have kk : Keeps (fun i => i = wd.heap.size) wz w5 := Keeps.of_grown hg5 (fun i e => (Option.some.inj e).symm)
        have c5 : w5.cell? ⟨b, o, none⟩ = some (.int .u8 (x0.toNat : Int)) := kk.cell cz (fun e => by have e' : b = wd.heap.size := e; omega)
        have HN5 := hid hn5
        have HB5 : Hid (Below wd.heap.size wd w5) := HBz.out.trans (kk.below HBz.out.size (fun i e => by have e' : i = wd.heap.size := e; omega))
        clear hg5 hn5 hz5 kk HBz HNz
        refine hK.out _ _ c5 (fun hHeld => ?_)
        clear hK K
        try simp only [List.getElem_toArray, List.getElem_cons_succ, List.getElem_cons_zero, Act.put]
        refine wpAnyH_done (by kernel_rfl) ?_ _
        refine NoPanic.normal ?_
        clear hHeld c5 cz cd HN6 HN9 HN12
        have HN0 : Hid (nodeB w5 wd.heap.size ⟨x0.toNat, m1, m2, m3, decQ l 0⟩) := HN5
        have hn9 : ¬ c = 9 := by omega
        clear HN5 hq3 hq5 hq9 hn1 hn3 hn5
        obtain ⟨nb, hnb⟩ : ∃ nb, nb = wd.heap.size := ⟨_, rfl⟩
        rw [← hnb] at HN0 ⊢
        have HNb := hid hnb
        clear hnb
        go_wp2
        go_loopw [19] (fun iv wr => ∃ j : Nat, j ≤ 11 ∧ iv = .int .i64 j ∧ Hid (nodeB wr nb ⟨x0.toNat, m1, m2, m3, decQ l j⟩) ∧ Hid (Below wd.heap.size wd wr)) (fun iv _ => 11 - (intOf iv).toNat)
        case atStart => exact ⟨0, by omega, rfl, HN0, HB5⟩
        case round =>
          obtain ⟨j, hj, rfl, HN, HB⟩ := hrel
          clear HN0 HB5
          by_cases hlt : j < 11
          · have hj0 : (0 : Int) ≤ (j : Int) := by omega
            have hj1 : (j : Int) < 11 := by omega
            have HF := hid (ifourth_any b (o + 9) 55 (c - 9) j wr (by omega) (by omega) (by omega))
            have hnu := HNum.out wr HB.out (9 + 4 * j) 4 (by omega) (by omega)
            rw [show o + (9 + 4 * j) = o + 9 + 4 * j by omega, show c - (9 + 4 * j) = c - 9 - 4 * j by omega] at hnu
            have hdl : j < (decQ l j).length := by rw [length_decQ l j hj]; exact hlt
            have k1 := HN.out.page j hdl
            have k2 : wr.frozen? ⟨nb, 4 + j, none⟩ = false := frozen_of_block HN.out _
            have hst := HN.out.setPage j (numS ((l.drop (9 + 4 * j)).take 4))
            rw [show (decQ l j).set j (numS ((l.drop (9 + 4 * j)).take 4)) = decQ l (j + 1) from decQ_set l j hlt] at hst
            have HSt := hid hst
            have HNu := hid hnu
            clear hnu hst HN
            generalize numS ((l.drop (9 + 4 * j)).take 4) = x at *
            generalize hpj : (decQ l j)[j] = pj at *
            clear hpj hdl
            go_wp2_with fail
            refine HF.out.mono ?_
            clear HF
            rintro e w7 ⟨rfl, h7⟩
            obtain rfl := h7.symm
            clear h7
            go_wp2_with fail
            refine HNu.out.mono ?_
            clear HNu
            rintro e w8 ⟨rfl, h8⟩
            obtain rfl := h8.symm
            clear h8
            have HB8 : Hid (Below wd.heap.size wd (wr.setCell ⟨nb, 4 + j, none⟩ (.int .i64 x))) := HB.out.setCell (show wd.heap.size ≤ nb from by have := HNb.out; omega) _
            clear HB
            go_wp2
            exact ⟨⟨j + 1, by omega, by go_num, HSt, HB8⟩, by simp [intOf]; omega⟩
          · obtain rfl : j = 11 := by omega
            have hr0 := below_block HB.out HR0.out (by have := HSz.out; omega)
            have HR1 := hid hr0
            clear hr0
            go_wp2_with (first
              | (refine wpList_load_mid rfl 97 (.tmp 3) rfl nb 0 rfl (nodeC ⟨x0.toNat, m1, m2, m3, decQ l 11⟩) _ (by have := range_of_block HN.out; exact this) Tryz.underlying97 rfl (by rw [length_nodeC]; kernel_rfl) ?_)
              | (refine wpList_store_block rfl 97 (.tmp 2) (.tmp 31) rfl w.heap.size (nodeC ⟨x0.toNat, m1, m2, m3, decQ l 11⟩).toArray rfl rfl _ _ HR1.out (by rw [List.size_toArray, length_nodeC]; rfl) (by rw [List.size_toArray, length_nodeC]; kernel_rfl) (nodeC_one _) ?_; intro w6 hg6 hb6 hz6))
            have hsz := HSz.out
            have hBw := HBw.out.size
            refine bodyPost_ret (results_dec rfl hb6 (length_nodeC _ _ _ _ _)) rfl ⟨?_, ?_⟩
            · unfold nodeV decL
              rw [← HX0.out, ← HMs.out.1, ← HMs.out.2.1, ← HMs.out.2.2]
              have e : decQ l 11 = decP l 11 := by unfold decQ; simp
              rw [e]
            · have hbr : Below w.heap.size w wr := HBw.out.trans (HB.out.mono (by omega))
              exact hbr.trans ((Keeps.of_grown hg6 (F := fun i => some w.heap.size = some i) (fun i e => e)).below hbr.size (fun i e => by cases e; exact Nat.le_refl _))
      · rw [if_pos (by rfl)]
        unfold Oper.wp
        go_simp
        have HBz : Hid (Below wd.heap.size wd (wd.alloc (.cells #[.int .i64 0, .int .i64 0, .int .i64 0, .int .i64 0, .int .i64 0, .int .i64 0, .int .i64 0, .int .i64 0, .int .i64 0, .int .i64 0, .int .i64 0, .int .i64 0, .int .i64 0, .int .i64 0, .int .i64 0] 97))) := (Below.refl _ wd).alloc (Nat.le_refl _) _
        have HNz : Hid ((wd.alloc (.cells #[.int .i64 0, .int .i64 0, .int .i64 0, .int .i64 0, .int .i64 0, .int .i64 0, .int .i64 0, .int .i64 0, .int .i64 0, .int .i64 0, .int .i64 0, .int .i64 0, .int .i64 0, .int .i64 0, .int .i64 0] 97)).heap[wd.heap.size]? = some (.cells #[.int .i64 0, .int .i64 0, .int .i64 0, .int .i64 0, .int .i64 0, .int .i64 0, .int .i64 0, .int .i64 0, .int .i64 0, .int .i64 0, .int .i64 0, .int .i64 0, .int .i64 0, .int .i64 0, .int .i64 0] 97 (0, 0))) := block_new wd _
        have cz : (wd.alloc (.cells #[.int .i64 0, .int .i64 0, .int .i64 0, .int .i64 0, .int .i64 0, .int .i64 0, .int .i64 0, .int .i64 0, .int .i64 0, .int .i64 0, .int .i64 0, .int .i64 0, .int .i64 0, .int .i64 0, .int .i64 0] 97)).cell? ⟨b, o, none⟩ = some (.int .u8 (x0.toNat : Int)) := (HBz.out.cell (World.block_lt_of_cell? wd _ cd)).trans cd
        generalize wd.alloc (.cells #[.int .i64 0, .int .i64 0, .int .i64 0, .int .i64 0, .int .i64 0, .int .i64 0, .int .i64 0, .int .i64 0, .int .i64 0, .int .i64 0, .int .i64 0, .int .i64 0, .int .i64 0, .int .i64 0, .int .i64 0] 97) = wz at *
        refine hK.out _ _ cz (fun hHeld => ?_)
        clear hK K
        try simp only [List.getElem_toArray, List.getElem_cons_succ, List.getElem_cons_zero, Act.put, List.setIfInBounds_toArray, List.set_cons_zero, List.set_cons_succ]
        refine wpAnyH_ready (rs := [12]) (by kernel_rfl) (by simp) (AllReadyH.cons rfl (fun K hK => ?_) AllReadyH.nil)
        rw [if_pos (by rfl)]
        go_simp
        refine (HN12.out wz HBz.out).mono ?_
        rintro e w9 ⟨rfl, h9⟩
        obtain rfl := h9.symm
        clear h9
        go_wp2_with fail
        refine hK.out _ _ cz (fun hHeld => ?_)
        clear hK K
        try simp only [List.getElem_toArray, List.getElem_cons_succ, List.getElem_cons_zero, Act.put, List.setIfInBounds_toArray, List.set_cons_zero, List.set_cons_succ]
        refine wpAnyH_take (i := 13) (v := ?_) rfl (by kernel_rfl) (by kernel_rfl) (by kernel_rfl) (fun _ _ _ h => h) (Or.inl ⟨by rfl, ?_⟩) (by assumption) ?_
        rotate_left
        · (intro W hSw; (try dsimp only at hSw); obtain s0 := hSw; go_simp; try with_reducible rfl)
        try simp only [List.getElem_toArray, List.getElem_cons_succ, List.getElem_cons_zero, Act.put, List.setIfInBounds_toArray, List.set_cons_zero, List.set_cons_succ]
        refine wpAnyH_ready (rs := [15]) (by kernel_rfl) (by simp) (AllReadyH.cons rfl (fun K hK => ?_) AllReadyH.nil)
        rw [if_pos (by rfl)]
        refine wp_store_block 97 (.tmp 3) (.tmp 18) rfl wd.heap.size #[.int .i64 (x0.toNat : Int), .int .i64 m1, .int .i64 m2, .int .i64 m3, .int .i64 0, .int .i64 0, .int .i64 0, .int .i64 0, .int .i64 0, .int .i64 0, .int .i64 0, .int .i64 0, .int .i64 0, .int .i64 0, .int .i64 0] rfl rfl _ _ HNz.out rfl (by kernel_rfl) (by simp [Value.oneCell']) ?_
        intro w5 hg5 hn5 hz5
        have hbne : b < wd.heap.size := World.block_lt_of_cell? wd _ cd
        have kk : Keeps (fun i => i = wd.heap.size) wz w5 := Keeps.of_grown hg5 (fun i e => (Option.some.inj e).symm)
        have c5 : w5.cell? ⟨b, o, none⟩ = some (.int .u8 (x0.toNat : Int)) := kk.cell cz (fun e => by have e' : b = wd.heap.size := e; omega)
        have HN5 := hid hn5
        have HB5 : Hid (Below wd.heap.size wd w5) := HBz.out.trans (kk.below HBz.out.size (fun i e => by have e' : i = wd.heap.size := e; omega))
        clear hg5 hn5 hz5 kk HBz HNz
        refine hK.out _ _ c5 (fun hHeld => ?_)
        clear hK K
        try simp only [List.getElem_toArray, List.getElem_cons_succ, List.getElem_cons_zero, Act.put]
        refine wpAnyH_done (by kernel_rfl) ?_ _
        refine NoPanic.normal ?_
        clear hHeld c5 cz cd HN6 HN9 HN12
        have HN0 : Hid (nodeB w5 wd.heap.size ⟨x0.toNat, m1, m2, m3, decQ l 0⟩) := HN5
        have hn9 : ¬ c = 9 := by omega
        clear HN5 hq3 hq5 hq9 hn1 hn3 hn5
        obtain ⟨nb, hnb⟩ : ∃ nb, nb = wd.heap.size := ⟨_, rfl⟩
        rw [← hnb] at HN0 ⊢
        have HNb := hid hnb
        clear hnb
        go_wp2
        go_loopw [19] (fun iv wr => ∃ j : Nat, j ≤ 11 ∧ iv = .int .i64 j ∧ Hid (nodeB wr nb ⟨x0.toNat, m1, m2, m3, decQ l j⟩) ∧ Hid (Below wd.heap.size wd wr)) (fun iv _ => 11 - (intOf iv).toNat)
        case atStart => exact ⟨0, by omega, rfl, HN0, HB5⟩
        case round =>
          obtain ⟨j, hj, rfl, HN, HB⟩ := hrel
          clear HN0 HB5
          by_cases hlt : j < 11
          · have hj0 : (0 : Int) ≤ (j : Int) := by omega
            have hj1 : (j : Int) < 11 := by omega
            have HF := hid (ifourth_any b (o + 9) 55 (c - 9) j wr (by omega) (by omega) (by omega))
            have hnu := HNum.out wr HB.out (9 + 4 * j) 4 (by omega) (by omega)
            rw [show o + (9 + 4 * j) = o + 9 + 4 * j by omega, show c - (9 + 4 * j) = c - 9 - 4 * j by omega] at hnu
            have hdl : j < (decQ l j).length := by rw [length_decQ l j hj]; exact hlt
            have k1 := HN.out.page j hdl
            have k2 : wr.frozen? ⟨nb, 4 + j, none⟩ = false := frozen_of_block HN.out _
            have hst := HN.out.setPage j (numS ((l.drop (9 + 4 * j)).take 4))
            rw [show (decQ l j).set j (numS ((l.drop (9 + 4 * j)).take 4)) = decQ l (j + 1) from decQ_set l j hlt] at hst
            have HSt := hid hst
            have HNu := hid hnu
            clear hnu hst HN
            generalize numS ((l.drop (9 + 4 * j)).take 4) = x at *
            generalize hpj : (decQ l j)[j] = pj at *
            clear hpj hdl
            go_wp2_with fail
            refine HF.out.mono ?_
            clear HF
            rintro e w7 ⟨rfl, h7⟩
            obtain rfl := h7.symm
            clear h7
            go_wp2_with fail
            refine HNu.out.mono ?_
            clear HNu
            rintro e w8 ⟨rfl, h8⟩
            obtain rfl := h8.symm
            clear h8
            have HB8 : Hid (Below wd.heap.size wd (wr.setCell ⟨nb, 4 + j, none⟩ (.int .i64 x))) := HB.out.setCell (show wd.heap.size ≤ nb from by have := HNb.out; omega) _
            clear HB
            go_wp2
            exact ⟨⟨j + 1, by omega, by go_num, HSt, HB8⟩, by simp [intOf]; omega⟩
          · obtain rfl : j = 11 := by omega
            have hr0 := below_block HB.out HR0.out (by have := HSz.out; omega)
            have HR1 := hid hr0
            clear hr0
            go_wp2_with (first
              | (refine wpList_load_mid rfl 97 (.tmp 3) rfl nb 0 rfl (nodeC ⟨x0.toNat, m1, m2, m3, decQ l 11⟩) _ (by have := range_of_block HN.out; exact this) Tryz.underlying97 rfl (by rw [length_nodeC]; kernel_rfl) ?_)
              | (refine wpList_store_block rfl 97 (.tmp 2) (.tmp 31) rfl w.heap.size (nodeC ⟨x0.toNat, m1, m2, m3, decQ l 11⟩).toArray rfl rfl _ _ HR1.out (by rw [List.size_toArray, length_nodeC]; rfl) (by rw [List.size_toArray, length_nodeC]; kernel_rfl) (nodeC_one _) ?_; intro w6 hg6 hb6 hz6))
            have hsz := HSz.out
            have hBw := HBw.out.size
            refine bodyPost_ret (results_dec rfl hb6 (length_nodeC _ _ _ _ _)) rfl ⟨?_, ?_⟩
            · unfold nodeV decL
              rw [← HX0.out, ← HMs.out.1, ← HMs.out.2.1, ← HMs.out.2.2]
              have e : decQ l 11 = decP l 11 := by unfold decQ; simp
              rw [e]
            · have hbr : Below w.heap.size w wr := HBw.out.trans (HB.out.mono (by omega))
              exact hbr.trans ((Keeps.of_grown hg6 (F := fun i => some w.heap.size = some i) (fun i e => e)).below hbr.size (fun i e => by cases e; exact Nat.le_refl _))
    · rw [if_pos (by rfl)]
      unfold Oper.wp
      go_simp
      have HBz : Hid (Below wd.heap.size wd (wd.alloc (.cells #[.int .i64 0, .int .i64 0, .int .i64 0, .int .i64 0, .int .i64 0, .int .i64 0, .int .i64 0, .int .i64 0, .int .i64 0, .int .i64 0, .int .i64 0, .int .i64 0, .int .i64 0, .int .i64 0, .int .i64 0] 97))) := (Below.refl _ wd).alloc (Nat.le_refl _) _
      have HNz : Hid ((wd.alloc (.cells #[.int .i64 0, .int .i64 0, .int .i64 0, .int .i64 0, .int .i64 0, .int .i64 0, .int .i64 0, .int .i64 0, .int .i64 0, .int .i64 0, .int .i64 0, .int .i64 0, .int .i64 0, .int .i64 0, .int .i64 0] 97)).heap[wd.heap.size]? = some (.cells #[.int .i64 0, .int .i64 0, .int .i64 0, .int .i64 0, .int .i64 0, .int .i64 0, .int .i64 0, .int .i64 0, .int .i64 0, .int .i64 0, .int .i64 0, .int .i64 0, .int .i64 0, .int .i64 0, .int .i64 0] 97 (0, 0))) := block_new wd _
      have cz : (wd.alloc (.cells #[.int .i64 0, .int .i64 0, .int .i64 0, .int .i64 0, .int .i64 0, .int .i64 0, .int .i64 0, .int .i64 0, .int .i64 0, .int .i64 0, .int .i64 0, .int .i64 0, .int .i64 0, .int .i64 0, .int .i64 0] 97)).cell? ⟨b, o, none⟩ = some (.int .u8 (x0.toNat : Int)) := (HBz.out.cell (World.block_lt_of_cell? wd _ cd)).trans cd
      generalize wd.alloc (.cells #[.int .i64 0, .int .i64 0, .int .i64 0, .int .i64 0, .int .i64 0, .int .i64 0, .int .i64 0, .int .i64 0, .int .i64 0, .int .i64 0, .int .i64 0, .int .i64 0, .int .i64 0, .int .i64 0, .int .i64 0] 97) = wz at *
      refine hK.out _ _ cz (fun hHeld => ?_)
      clear hK K
      try simp only [List.getElem_toArray, List.getElem_cons_succ, List.getElem_cons_zero, Act.put, List.setIfInBounds_toArray, List.set_cons_zero, List.set_cons_succ]
      refine wpAnyH_ready (rs := [9]) (by kernel_rfl) (by simp) (AllReadyH.cons rfl (fun K hK => ?_) AllReadyH.nil)
      rw [if_pos (by rfl)]
      go_simp
      refine (HN9.out wz HBz.out).mono ?_
      rintro e w9 ⟨rfl, h9⟩
      obtain rfl := h9.symm
      clear h9
      go_wp2_with fail
      refine hK.out _ _ cz (fun hHeld => ?_)
      clear hK K
      try simp only [List.getElem_toArray, List.getElem_cons_succ, List.getElem_cons_zero, Act.put, List.setIfInBounds_toArray, List.set_cons_zero, List.set_cons_succ]
      refine wpAnyH_ready (rs := [12]) (by kernel_rfl) (by simp) (AllReadyH.cons rfl (fun K hK => ?_) AllReadyH.nil)
      rw [if_pos (by rfl)]
      go_simp
      refine (HN12.out wz HBz.out).mono ?_
      rintro e w9 ⟨rfl, h9⟩
      obtain rfl := h9.symm
      clear h9
      go_wp2_with fail
      refine hK.out _ _ cz (fun hHeld => ?_)
      clear hK K
      try simp only [List.getElem_toArray, List.getElem_cons_succ, List.getElem_cons_zero, Act.put, List.setIfInBounds_toArray, List.set_cons_zero, List.set_cons_succ]
      refine wpAnyH_take (i := 13) (v := ?_) rfl (by kernel_rfl) (by kernel_rfl) (by kernel_rfl) (fun _ _ _ h => h) (Or.inl ⟨by rfl, ?_⟩) (by assumption) ?_
      rotate_left
      · (intro W hSw; (try dsimp only at hSw); obtain s0 := hSw; go_simp; try with_reducible rfl)
      try simp only [List.getElem_toArray, List.getElem_cons_succ, List.getElem_cons_zero, Act.put, List.setIfInBounds_toArray, List.set_cons_zero, List.set_cons_succ]
      refine wpAnyH_ready (rs := [15]) (by kernel_rfl) (by simp) (AllReadyH.cons rfl (fun K hK => ?_) AllReadyH.nil)
      rw [if_pos (by rfl)]
      refine wp_store_block 97 (.tmp 3) (.tmp 18) rfl wd.heap.size #[.int .i64 (x0.toNat : Int), .int .i64 m1, .int .i64 m2, .int .i64 m3, .int .i64 0, .int .i64 0, .int .i64 0, .int .i64 0, .int .i64 0, .int .i64 0, .int .i64 0, .int .i64 0, .int .i64 0, .int .i64 0, .int .i64 0] rfl rfl _ _ HNz.out rfl (by kernel_rfl) (by simp [Value.oneCell']) ?_
      intro w5 hg5 hn5 hz5
      have hbne : b < wd.heap.size := World.block_lt_of_cell? wd _ cd
      have kk : Keeps (fun i => i = wd.heap.size) wz w5 := Keeps.of_grown hg5 (fun i e => (Option.some.inj e).symm)
      have c5 : w5.cell? ⟨b, o, none⟩ = some (.int .u8 (x0.toNat : Int)) := kk.cell cz (fun e => by have e' : b = wd.heap.size := e; omega)
      have HN5 := hid hn5
      have HB5 : Hid (Below wd.heap.size wd w5) := HBz.out.trans (kk.below HBz.out.size (fun i e => by have e' : i = wd.heap.size := e; omega))
      clear hg5 hn5 hz5 kk HBz HNz
      refine hK.out _ _ c5 (fun hHeld => ?_)
      clear hK K
      try simp only [List.getElem_toArray, List.getElem_cons_succ, List.getElem_cons_zero, Act.put]
      refine wpAnyH_done (by kernel_rfl) ?_ _
      refine NoPanic.normal ?_
      clear hHeld c5 cz cd HN6 HN9 HN12
      have HN0 : Hid (nodeB w5 wd.heap.size ⟨x0.toNat, m1, m2, m3, decQ l 0⟩) := HN5
      have hn9 : ¬ c = 9 := by omega
      clear HN5 hq3 hq5 hq9 hn1 hn3 hn5
      obtain ⟨nb, hnb⟩ : ∃ nb, nb = wd.heap.size := ⟨_, rfl⟩
      rw [← hnb] at HN0 ⊢
      have HNb := hid hnb
      clear hnb
      go_wp2
      go_loopw [19] (fun iv wr => ∃ j : Nat, j ≤ 11 ∧ iv = .int .i64 j ∧ Hid (nodeB wr nb ⟨x0.toNat, m1, m2, m3, decQ l j⟩) ∧ Hid (Below wd.heap.size wd wr)) (fun iv _ => 11 - (intOf iv).toNat)
      case atStart => exact ⟨0, by omega, rfl, HN0, HB5⟩
      case round =>
        obtain ⟨j, hj, rfl, HN, HB⟩ := hrel
        clear HN0 HB5
        by_cases hlt : j < 11
        · have hj0 : (0 : Int) ≤ (j : Int) := by omega
          have hj1 : (j : Int) < 11 := by omega
          have HF := hid (ifourth_any b (o + 9) 55 (c - 9) j wr (by omega) (by omega) (by omega))
          have hnu := HNum.out wr HB.out (9 + 4 * j) 4 (by omega) (by omega)
          rw [show o + (9 + 4 * j) = o + 9 + 4 * j by omega, show c - (9 + 4 * j) = c - 9 - 4 * j by omega] at hnu
          have hdl : j < (decQ l j).length := by rw [length_decQ l j hj]; exact hlt
          have k1 := HN.out.page j hdl
          have k2 : wr.frozen? ⟨nb, 4 + j, none⟩ = false := frozen_of_block HN.out _
          have hst := HN.out.setPage j (numS ((l.drop (9 + 4 * j)).take 4))
          rw [show (decQ l j).set j (numS ((l.drop (9 + 4 * j)).take 4)) = decQ l (j + 1) from decQ_set l j hlt] at hst
          have HSt := hid hst
          have HNu := hid hnu
          clear hnu hst HN
          generalize numS ((l.drop (9 + 4 * j)).take 4) = x at *
          generalize hpj : (decQ l j)[j] = pj at *
          clear hpj hdl
          go_wp2_with fail
          refine HF.out.mono ?_
          clear HF
          rintro e w7 ⟨rfl, h7⟩
          obtain rfl := h7.symm
          clear h7
          go_wp2_with fail
          refine HNu.out.mono ?_
          clear HNu
          rintro e w8 ⟨rfl, h8⟩
          obtain rfl := h8.symm
          clear h8
          have HB8 : Hid (Below wd.heap.size wd (wr.setCell ⟨nb, 4 + j, none⟩ (.int .i64 x))) := HB.out.setCell (show wd.heap.size ≤ nb from by have := HNb.out; omega) _
          clear HB
          go_wp2
          exact ⟨⟨j + 1, by omega, by go_num, HSt, HB8⟩, by simp [intOf]; omega⟩
        · obtain rfl : j = 11 := by omega
          have hr0 := below_block HB.out HR0.out (by have := HSz.out; omega)
          have HR1 := hid hr0
          clear hr0
          go_wp2_with (first
            | (refine wpList_load_mid rfl 97 (.tmp 3) rfl nb 0 rfl (nodeC ⟨x0.toNat, m1, m2, m3, decQ l 11⟩) _ (by have := range_of_block HN.out; exact this) Tryz.underlying97 rfl (by rw [length_nodeC]; kernel_rfl) ?_)
            | (refine wpList_store_block rfl 97 (.tmp 2) (.tmp 31) rfl w.heap.size (nodeC ⟨x0.toNat, m1, m2, m3, decQ l 11⟩).toArray rfl rfl _ _ HR1.out (by rw [List.size_toArray, length_nodeC]; rfl) (by rw [List.size_toArray, length_nodeC]; kernel_rfl) (nodeC_one _) ?_; intro w6 hg6 hb6 hz6))
          have hsz := HSz.out
          have hBw := HBw.out.size
          refine bodyPost_ret (results_dec rfl hb6 (length_nodeC _ _ _ _ _)) rfl ⟨?_, ?_⟩
          · unfold nodeV decL
            rw [← HX0.out, ← HMs.out.1, ← HMs.out.2.1, ← HMs.out.2.2]
            have e : decQ l 11 = decP l 11 := by unfold decQ; simp
            rw [e]
          · have hbr : Below w.heap.size w wr := HBw.out.trans (HB.out.mono (by omega))
            exact hbr.trans ((Keeps.of_grown hg6 (F := fun i => some w.heap.size = some i) (fun i e => e)).below hbr.size (fun i e => by cases e; exact Nat.le_refl _))
  · rw [if_pos (by rfl)]
    unfold Oper.wp
    go_simp
    have HBz : Hid (Below wd.heap.size wd (wd.alloc (.cells #[.int .i64 0, .int .i64 0, .int .i64 0, .int .i64 0, .int .i64 0, .int .i64 0, .int .i64 0, .int .i64 0, .int .i64 0, .int .i64 0, .int .i64 0, .int .i64 0, .int .i64 0, .int .i64 0, .int .i64 0] 97))) := (Below.refl _ wd).alloc (Nat.le_refl _) _
    have HNz : Hid ((wd.alloc (.cells #[.int .i64 0, .int .i64 0, .int .i64 0, .int .i64 0, .int .i64 0, .int .i64 0, .int .i64 0, .int .i64 0, .int .i64 0, .int .i64 0, .int .i64 0, .int .i64 0, .int .i64 0, .int .i64 0, .int .i64 0] 97)).heap[wd.heap.size]? = some (.cells #[.int .i64 0, .int .i64 0, .int .i64 0, .int .i64 0, .int .i64 0, .int .i64 0, .int .i64 0, .int .i64 0, .int .i64 0, .int .i64 0, .int .i64 0, .int .i64 0, .int .i64 0, .int .i64 0, .int .i64 0] 97 (0, 0))) := block_new wd _
    have cz : (wd.alloc (.cells #[.int .i64 0, .int .i64 0, .int .i64 0, .int .i64 0, .int .i64 0, .int .i64 0, .int .i64 0, .int .i64 0, .int .i64 0, .int .i64 0, .int .i64 0, .int .i64 0, .int .i64 0, .int .i64 0, .int .i64 0] 97)).cell? ⟨b, o, none⟩ = some (.int .u8 (x0.toNat : Int)) := (HBz.out.cell (World.block_lt_of_cell? wd _ cd)).trans cd
    generalize wd.alloc (.cells #[.int .i64 0, .int .i64 0, .int .i64 0, .int .i64 0, .int .i64 0, .int .i64 0, .int .i64 0, .int .i64 0, .int .i64 0, .int .i64 0, .int .i64 0, .int .i64 0, .int .i64 0, .int .i64 0, .int .i64 0] 97) = wz at *
    refine hK.out _ _ cz (fun hHeld => ?_)
    clear hK K
    try simp only [List.getElem_toArray, List.getElem_cons_succ, List.getElem_cons_zero, Act.put, List.setIfInBounds_toArray, List.set_cons_zero, List.set_cons_succ]
    refine wpAnyH_ready (rs := [6]) (by kernel_rfl) (by simp) (AllReadyH.cons rfl (fun K hK => ?_) AllReadyH.nil)
    rw [if_pos (by rfl)]
    go_simp
    refine (HN6.out wz HBz.out).mono ?_
    rintro e w9 ⟨rfl, h9⟩
    obtain rfl := h9.symm
    clear h9
    go_wp2_with fail
    refine hK.out _ _ cz (fun hHeld => ?_)
    clear hK K
    try simp only [List.getElem_toArray, List.getElem_cons_succ, List.getElem_cons_zero, Act.put, List.setIfInBounds_toArray, List.set_cons_zero, List.set_cons_succ]
    refine wpAnyH_ready (rs := [9]) (by kernel_rfl) (by simp) (AllReadyH.cons rfl (fun K hK => ?_) AllReadyH.nil)
    rw [if_pos (by rfl)]
    go_simp
    refine (HN9.out wz HBz.out).mono ?_
    rintro e w9 ⟨rfl, h9⟩
    obtain rfl := h9.symm
    clear h9
    go_wp2_with fail
    refine hK.out _ _ cz (fun hHeld => ?_)
    clear hK K
    try simp only [List.getElem_toArray, List.getElem_cons_succ, List.getElem_cons_zero, Act.put, List.setIfInBounds_toArray, List.set_cons_zero, List.set_cons_succ]
    refine wpAnyH_ready (rs := [12]) (by kernel_rfl) (by simp) (AllReadyH.cons rfl (fun K hK => ?_) AllReadyH.nil)
    rw [if_pos (by rfl)]
    go_simp
    refine (HN12.out wz HBz.out).mono ?_
    rintro e w9 ⟨rfl, h9⟩
    obtain rfl := h9.symm
    clear h9
    go_wp2_with fail
    refine hK.out _ _ cz (fun hHeld => ?_)
    clear hK K
    try simp only [List.getElem_toArray, List.getElem_cons_succ, List.getElem_cons_zero, Act.put, List.setIfInBounds_toArray, List.set_cons_zero, List.set_cons_succ]
    refine wpAnyH_take (i := 13) (v := ?_) rfl (by kernel_rfl) (by kernel_rfl) (by kernel_rfl) (fun _ _ _ h => h) (Or.inl ⟨by rfl, ?_⟩) (by assumption) ?_
    rotate_left
    · (intro W hSw; (try dsimp only at hSw); obtain s0 := hSw; go_simp; try with_reducible rfl)
    try simp only [List.getElem_toArray, List.getElem_cons_succ, List.getElem_cons_zero, Act.put, List.setIfInBounds_toArray, List.set_cons_zero, List.set_cons_succ]
    refine wpAnyH_ready (rs := [15]) (by kernel_rfl) (by simp) (AllReadyH.cons rfl (fun K hK => ?_) AllReadyH.nil)
    rw [if_pos (by rfl)]
    refine wp_store_block 97 (.tmp 3) (.tmp 18) rfl wd.heap.size #[.int .i64 (x0.toNat : Int), .int .i64 m1, .int .i64 m2, .int .i64 m3, .int .i64 0, .int .i64 0, .int .i64 0, .int .i64 0, .int .i64 0, .int .i64 0, .int .i64 0, .int .i64 0, .int .i64 0, .int .i64 0, .int .i64 0] rfl rfl _ _ HNz.out rfl (by kernel_rfl) (by simp [Value.oneCell']) ?_
    intro w5 hg5 hn5 hz5
    have hbne : b < wd.heap.size := World.block_lt_of_cell? wd _ cd
    have kk : Keeps (fun i => i = wd.heap.size) wz w5 := Keeps.of_grown hg5 (fun i e => (Option.some.inj e).symm)
    have c5 : w5.cell? ⟨b, o, none⟩ = some (.int .u8 (x0.toNat : Int)) := kk.cell cz (fun e => by have e' : b = wd.heap.size := e; omega)
    have HN5 := hid hn5
    have HB5 : Hid (Below wd.heap.size wd w5) := HBz.out.trans (kk.below HBz.out.size (fun i e => by have e' : i = wd.heap.size := e; omega))
    clear hg5 hn5 hz5 kk HBz HNz
    refine hK.out _ _ c5 (fun hHeld => ?_)
    clear hK K
    try simp only [List.getElem_toArray, List.getElem_cons_succ, List.getElem_cons_zero, Act.put]
    refine wpAnyH_done (by kernel_rfl) ?_ _
    refine NoPanic.normal ?_
    clear hHeld c5 cz cd HN6 HN9 HN12
    have HN0 : Hid (nodeB w5 wd.heap.size ⟨x0.toNat, m1, m2, m3, decQ l 0⟩) := HN5
    have hn9 : ¬ c = 9 := by omega
    clear HN5 hq3 hq5 hq9 hn1 hn3 hn5
    obtain ⟨nb, hnb⟩ : ∃ nb, nb = wd.heap.size := ⟨_, rfl⟩
    rw [← hnb] at HN0 ⊢
    have HNb := hid hnb
    clear hnb
    go_wp2
    go_loopw [19] (fun iv wr => ∃ j : Nat, j ≤ 11 ∧ iv = .int .i64 j ∧ Hid (nodeB wr nb ⟨x0.toNat, m1, m2, m3, decQ l j⟩) ∧ Hid (Below wd.heap.size wd wr)) (fun iv _ => 11 - (intOf iv).toNat)
    case atStart => exact ⟨0, by omega, rfl, HN0, HB5⟩
    case round =>
      obtain ⟨j, hj, rfl, HN, HB⟩ := hrel
      clear HN0 HB5
      by_cases hlt : j < 11
      · have hj0 : (0 : Int) ≤ (j : Int) := by omega
        have hj1 : (j : Int) < 11 := by omega
        have HF := hid (ifourth_any b (o + 9) 55 (c - 9) j wr (by omega) (by omega) (by omega))
        have hnu := HNum.out wr HB.out (9 + 4 * j) 4 (by omega) (by omega)
        rw [show o + (9 + 4 * j) = o + 9 + 4 * j by omega, show c - (9 + 4 * j) = c - 9 - 4 * j by omega] at hnu
        have hdl : j < (decQ l j).length := by rw [length_decQ l j hj]; exact hlt
        have k1 := HN.out.page j hdl
        have k2 : wr.frozen? ⟨nb, 4 + j, none⟩ = false := frozen_of_block HN.out _
        have hst := HN.out.setPage j (numS ((l.drop (9 + 4 * j)).take 4))
        rw [show (decQ l j).set j (numS ((l.drop (9 + 4 * j)).take 4)) = decQ l (j + 1) from decQ_set l j hlt] at hst
        have HSt := hid hst
        have HNu := hid hnu
        clear hnu hst HN
        generalize numS ((l.drop (9 + 4 * j)).take 4) = x at *
        generalize hpj : (decQ l j)[j] = pj at *
        clear hpj hdl
        go_wp2_with fail
        refine HF.out.mono ?_
        clear HF
        rintro e w7 ⟨rfl, h7⟩
        obtain rfl := h7.symm
        clear h7
        go_wp2_with fail
        refine HNu.out.mono ?_
        clear HNu
        rintro e w8 ⟨rfl, h8⟩
        obtain rfl := h8.symm
        clear h8
        have HB8 : Hid (Below wd.heap.size wd (wr.setCell ⟨nb, 4 + j, none⟩ (.int .i64 x))) := HB.out.setCell (show wd.heap.size ≤ nb from by have := HNb.out; omega) _
        clear HB
        go_wp2
        exact ⟨⟨j + 1, by omega, by go_num, HSt, HB8⟩, by simp [intOf]; omega⟩
      · obtain rfl : j = 11 := by omega
        have hr0 := below_block HB.out HR0.out (by have := HSz.out; omega)
        have HR1 := hid hr0
        clear hr0
        go_wp2_with (first
          | (refine wpList_load_mid rfl 97 (.tmp 3) rfl nb 0 rfl (nodeC ⟨x0.toNat, m1, m2, m3, decQ l 11⟩) _ (by have := range_of_block HN.out; exact this) Tryz.underlying97 rfl (by rw [length_nodeC]; kernel_rfl) ?_)
          | (refine wpList_store_block rfl 97 (.tmp 2) (.tmp 31) rfl w.heap.size (nodeC ⟨x0.toNat, m1, m2, m3, decQ l 11⟩).toArray rfl rfl _ _ HR1.out (by rw [List.size_toArray, length_nodeC]; rfl) (by rw [List.size_toArray, length_nodeC]; kernel_rfl) (nodeC_one _) ?_; intro w6 hg6 hb6 hz6))
        have hsz := HSz.out
        have hBw := HBw.out.size
        refine bodyPost_ret (results_dec rfl hb6 (length_nodeC _ _ _ _ _)) rfl ⟨?_, ?_⟩
        · unfold nodeV decL
          rw [← HX0.out, ← HMs.out.1, ← HMs.out.2.1, ← HMs.out.2.2]
          have e : decQ l 11 = decP l 11 := by unfold decQ; simp
          rw [e]
        · have hbr : Below w.heap.size w wr := HBw.out.trans (HB.out.mono (by omega))
          exact hbr.trans ((Keeps.of_grown hg6 (F := fun i => some w.heap.size = some i) (fun i e => e)).below hbr.size (fun i e => by cases e; exact Nat.le_refl _))
end Go.Proofs.YtnghjgmpjniopaaGreat
/- An inode in the table: get, put. -/
namespace Go.Proofs.YtnghjgmpjniopaaGreat
open Go.RowKit
/-- The 64 bytes of an inode in its page of the table. -/
def inoL (L : List UInt8) (i : Nat) : List UInt8 := (L.drop (i % 8 * 64)).take 64
def putT (L : List UInt8) (i : Nat) (e : List UInt8) : List UInt8 := L.take (i % 8 * 64) ++ e ++ L.drop (i % 8 * 64 + 64)
theorem length_inoL {L : List UInt8} (h : L.length = 512) (i : Nat) : (inoL L i).length = 64 := by
  unfold inoL; rw [List.length_take, List.length_drop]; omega
theorem length_putT {L : List UInt8} (h : L.length = 512) (i : Nat) {e : List UInt8} (he : e.length = 64) : (putT L i e).length = 512 := by
  unfold putT; rw [List.length_append, List.length_append, List.length_take, List.length_drop]; omega
theorem inoL_at {L : List UInt8} (i j : Nat) (h : j < (inoL L i).length) (h2 : i % 8 * 64 + j < L.length) : (inoL L i)[j] = L[i % 8 * 64 + j] := by
  simp [inoL]
theorem length_nodeD (l : List UInt8) : (nodeC (decL l)).length = 15 := by
  unfold nodeC decL; rw [List.length_append, List.length_map, length_decP]; rfl
set_option maxRecDepth 100000 in
theorem results_get {w : World} {tmps : Array Value} {b : Nat} {cs : List Value} (h1 : tmps.getD 4 undef = .pointer (some ⟨b, 0, none⟩)) (r : w.heap[b]? = some (.cells cs.toArray 97 (0, 0))) (hl : cs.length = 15) :
    (results Tryz.f89 tmps).run Tryz.prog w = .ok (.agg cs.toArray) w := by
  have h1' : tmps[4]?.getD undef = .pointer (some ⟨b, 0, none⟩) := by simpa using h1
  have hr := run_loadVar_mid (P := Tryz.prog) w b 0 97 cs _ (by have := range_of_block r; exact this) Tryz.underlying97 rfl (by rw [hl]; kernel_rfl)
  simp only [results, Tryz.results89]
  simp [h1', asAddr, hr]
section
variable {w : World} {m c ino : Nat} {F : Nat → Prop} {size N : Nat} {Pg Cm : Nat → List UInt8} {D : Int → Bool} {o u : Nat}
theorem aTable_in (h : mapB w m c ino) (hi : ino ≤ 512) (i : Nat) (hin : i < ino) : Calls Tryz.prog 82 #[.pointer (some ⟨m, 0, none⟩), .int .i64 i] w fun e w' => e = .returned (.tuple #[.int .i64 (3 + i / 8 : Nat), .int .i64 (i % 8 * 64 : Nat), .int .i64 0]) ∧ w' = w := by
  refine (aTable_any h hi (i : Int)).mono ?_
  rintro e w' ⟨rfl, rfl⟩
  rw [if_pos ⟨by omega, by omega⟩]
  refine ⟨?_, rfl⟩
  have e1 : (3 : Int) + (i : Int) / 8 = ((3 + i / 8 : Nat) : Int) := by omega
  have e2 : (i : Int) % 8 * 64 = ((i % 8 * 64 : Nat) : Int) := by omega
  rw [e1, e2]
set_option maxRecDepth 100000 in
theorem iget_any (h : mapB w m c ino) (hi : ino ≤ 512) (i : Nat) (hin : i < ino) (hN : 3 + i / 8 < N) (hu : u < 1000000) (hp : Pc w c F size N Pg Cm D o u) :
    Calls Tryz.prog 89 #[gV m, .int .i64 i] w fun e w' => e = .returned (nodeV (decL (inoL (Pg (3 + i / 8)) i))) ∧ Keeps F w w' ∧ ∀ W, Keeps (fun i => w.heap.size ≤ i) w' W → Pc W c F size N Pg Cm D o (u + 1) := by
  have HLen := hid (hp.len _ hN)
  have HT := hid (fun W (hW : Below w.heap.size w W) => aTable_in (h.below hW) hi i hin)
  have HPg := hid (fun W (hW : Below w.heap.size w W) => ipage_any (h.below hW) (3 + i / 8) hN hu hp hW)
  obtain ⟨a, ha⟩ : ∃ a, a = i % 8 * 64 := ⟨_, rfl⟩
  obtain ⟨p, hpp⟩ : ∃ p, p = 3 + i / 8 := ⟨_, rfl⟩
  have HA := hid ha
  have ha4 : a ≤ 448 := by omega
  have ha5 : (a : Int) ≤ 448 := by omega
  have ha0 : (0 : Int) ≤ (a : Int) := by omega
  rw [← ha, ← hpp] at HT
  rw [← hpp] at HPg HLen ⊢
  have HFl := hid hp.lt
  clear h hp hpp ha
  unfold gV at HPg ⊢
  obtain ⟨wb, hwb⟩ : ∃ wb, wb = (w.alloc (.cells #[.pointer (some ⟨m, 0, none⟩)] 82)).alloc (.cells #[.int .i64 0, .int .i64 0, .int .i64 0, .int .i64 0, .int .i64 0, .int .i64 0, .int .i64 0, .int .i64 0, .int .i64 0, .int .i64 0, .int .i64 0, .int .i64 0, .int .i64 0, .int .i64 0, .int .i64 0] 97) := ⟨_, rfl⟩
  have hB : Below w.heap.size w wb := by rw [hwb]; exact ((Below.refl _ w).alloc (Nat.le_refl _) _).alloc (by simp) _
  have hb0 : wb.heap[w.heap.size]? = some (.cells #[.pointer (some ⟨m, 0, none⟩)] 82 (0, 0)) := by rw [hwb]; exact block_alloc (block_new w _) _
  have hb1 : wb.heap[w.heap.size + 1]? = some (.cells #[.int .i64 0, .int .i64 0, .int .i64 0, .int .i64 0, .int .i64 0, .int .i64 0, .int .i64 0, .int .i64 0, .int .i64 0, .int .i64 0, .int .i64 0, .int .i64 0, .int .i64 0, .int .i64 0, .int .i64 0] 97 (0, 0)) := by
    have h1 := block_new (w.alloc (.cells #[.pointer (some ⟨m, 0, none⟩)] 82)) (.cells #[.int .i64 0, .int .i64 0, .int .i64 0, .int .i64 0, .int .i64 0, .int .i64 0, .int .i64 0, .int .i64 0, .int .i64 0, .int .i64 0, .int .i64 0, .int .i64 0, .int .i64 0, .int .i64 0, .int .i64 0] 97)
    rw [World.size_alloc] at h1
    rw [hwb]; exact h1
  have HB := hid hB
  have HB0 := hid hb0
  have HB1 := hid hb1
  have c0 : ((w.alloc (.cells #[.pointer (some ⟨m, 0, none⟩)] 82)).alloc (.cells #[.int .i64 0, .int .i64 0, .int .i64 0, .int .i64 0, .int .i64 0, .int .i64 0, .int .i64 0, .int .i64 0, .int .i64 0, .int .i64 0, .int .i64 0, .int .i64 0, .int .i64 0, .int .i64 0, .int .i64 0] 97)).cell? ⟨w.heap.size, 0, none⟩ = some (.pointer (some ⟨m, 0, none⟩)) := by rw [← hwb]; exact cell_of_block hb0 0
  clear hB hb0 hb1
  go_enter Tryz.func89, Tryz.ntmps89
  go_wp2_with fail
  rw [← hwb] at c0 ⊢
  clear hwb
  refine (HT.out wb HB.out).mono ?_
  clear HT
  rintro e w1 ⟨rfl, h1⟩
  obtain rfl := h1.symm
  clear h1
  go_wp2_with fail
  refine (HPg.out wb HB.out).mono ?_
  clear HPg
  rintro e w3 ⟨g, rfl, hg, ho3, hk3, hW3⟩
  have hn5 : ¬ (512 = a) := by omega
  have hby : bytesAt w3 ⟨g, a, none⟩ (inoL (Pg p) i) := fun j hj => by
    have hj6 : j < 64 := by rw [length_inoL HLen.out] at hj; exact hj
    have h1 := ho3.cell (a + j) (by rw [HLen.out]; omega)
    rw [Addr.add_mid, h1, inoL_at i j hj (by rw [HLen.out, ← HA.out]; omega)]
    simp only [HA.out]
  have HD := hid (idec_any g a (512 - a) (inoL (Pg p) i) w3 hby (length_inoL HLen.out i) (by omega) (by omega))
  have HK3 := hid hk3
  have HW3 := hid hW3
  clear hby ho3 hk3 hW3
  go_wp2_with fail
  refine HD.out.mono ?_
  clear HD
  rintro e w5 ⟨rfl, hb5⟩
  have hs3 := HB.out.size
  have hk5 : Keeps F wb w5 := HK3.out.trans (Keeps.of_below hb5 : Keeps (fun _ => False) w3 w5) (fun i e => e.elim)
  have HR5 := hid (hk5.heap HB1.out (fun hf => by have := HFl.out _ hf; omega))
  have HK5 := hid hk5
  have HB5 := hid hb5
  clear hb5 hk5 HK3
  unfold nodeV
  generalize hdl : decL (inoL (Pg p) i) = nd at *
  have hnl : (nodeC nd).length = 15 := by rw [← hdl]; exact length_nodeD _
  have HNl := hid hnl
  have HDl := hid hdl
  clear hdl hnl
  go_wp2_with (refine wpList_store_block rfl 97 (.tmp 4) (.tmp 22) rfl (w.heap.size + 1) (nodeC nd).toArray rfl rfl _ _ HR5.out (by rw [List.size_toArray, HNl.out]; rfl) (by rw [List.size_toArray, HNl.out]; kernel_rfl) (nodeC_one _) ?_; intro w6 hg6 hb6 hz6)
  have k56 : Keeps (fun i => w.heap.size ≤ i) w5 w6 := Keeps.of_grown hg6 (fun i e => by cases e; show w.heap.size ≤ w.heap.size + 1; omega)
  refine bodyPost_ret (results_get rfl hb6 HNl.out) rfl ⟨by rw [HDl.out]; rfl, ?_, fun W hW => HW3.out W ((Keeps.of_below HB5.out).trans (k56.trans hW (fun i e => .inl e)) (fun i e => .inl e))⟩
  exact (((Keeps.of_below HB.out : Keeps F w wb).trans HK5.out (fun i e => .inl e)).trans k56 (fun i e => .inr e))
set_option maxRecDepth 100000 in
theorem iput_any (h : mapB w m c ino) (hmF0 : ¬ F m) (hi : ino ≤ 512) (i : Nat) (hin : i < ino) (n : NodeS) (hn : n.ok) (hN : 3 + i / 8 < N) (hu : u < 1000000) (hr : D ((3 + i / 8 : Nat) : Int) = true ∨ (dkD N D).length < min size 100) (hp : Pc w c F size N Pg Cm D o u) :
    Calls Tryz.prog 37 #[gV m, .int .i64 i, nodeV n] w fun e w' => e = .returned (.int .i64 0) ∧ Keeps F w w' ∧ Pc w' c F size N (updP Pg (3 + i / 8) (putT (Pg (3 + i / 8)) i (encL n))) Cm (updT D ((3 + i / 8 : Nat) : Int)) o (u + 1) := by
  have HLen := hid (hp.len _ hN)
  have HMb := hid h
  have HT := hid (fun W (hW : Below w.heap.size w W) => aTable_in (h.below hW) hi i hin)
  have HPg := hid (fun W (hW : Below w.heap.size w W) => ipage_any (h.below hW) (3 + i / 8) hN hu hp hW)
  have HEn := hid (fun W => ienc_any n hn W)
  obtain ⟨a, ha⟩ : ∃ a, a = i % 8 * 64 := ⟨_, rfl⟩
  have HPu : Hid (∀ L e, putT L i e = L.take a ++ e ++ L.drop (a + 64)) := fun L e => by unfold putT; rw [ha]
  obtain ⟨p, hpp⟩ : ∃ p, p = 3 + i / 8 := ⟨_, rfl⟩
  have ha4 : a ≤ 448 := by omega
  have ha5 : (a : Int) ≤ 448 := by omega
  have ha0 : (0 : Int) ≤ (a : Int) := by omega
  rw [← ha, ← hpp] at HT
  rw [← hpp] at HPg HLen hr ⊢
  have HPN : Hid (p < N) := by rw [hpp]; exact hN
  have HFl := hid hp.lt
  have HRo := hid hr
  have hel : (encL n).length = 64 := length_encTo n 11 (Nat.le_refl _) hn.pages
  have HEl := hid hel
  have hpl := hn.pages
  clear h hp hpp ha hr hn hel hN
  unfold gV at HPg ⊢
  unfold nodeV at HEn ⊢
  have hncs : (nodeC n).length = 15 := by unfold nodeC; rw [List.length_append, List.length_map, hpl]; rfl
  generalize nodeC n = nc at *
  have HNs := hid hncs
  clear hncs hpl
  obtain ⟨wb, hwb⟩ : ∃ wb, wb = (w.alloc (.cells #[.pointer (some ⟨m, 0, none⟩)] 82)).alloc (.cells nc.toArray 97) := ⟨_, rfl⟩
  have hB : Below w.heap.size w wb := by rw [hwb]; exact ((Below.refl _ w).alloc (Nat.le_refl _) _).alloc (by simp) _
  have hb0 : wb.heap[w.heap.size]? = some (.cells #[.pointer (some ⟨m, 0, none⟩)] 82 (0, 0)) := by rw [hwb]; exact block_alloc (block_new w _) _
  have hb1 : wb.heap[w.heap.size + 1]? = some (.cells nc.toArray 97 (0, 0)) := by
    have h1 := block_new (w.alloc (.cells #[.pointer (some ⟨m, 0, none⟩)] 82)) (.cells nc.toArray 97)
    rw [World.size_alloc] at h1
    rw [hwb]; exact h1
  have hsb : wb.heap.size = w.heap.size + 2 := by rw [hwb]; simp
  have HSb := hid hsb
  clear hsb
  have HB := hid hB
  have HB0 := hid hb0
  have HB1 := hid hb1
  have c0 : ((w.alloc (.cells #[.pointer (some ⟨m, 0, none⟩)] 82)).alloc (.cells nc.toArray 97)).cell? ⟨w.heap.size, 0, none⟩ = some (.pointer (some ⟨m, 0, none⟩)) := by rw [← hwb]; exact cell_of_block hb0 0
  clear hB hb0 hb1
  go_enter Tryz.func37, Tryz.ntmps37
  go_wp2_with fail
  rw [← hwb] at c0 ⊢
  clear hwb
  refine (HT.out wb HB.out).mono ?_
  clear HT
  rintro e w1 ⟨rfl, h1⟩
  obtain rfl := h1.symm
  clear h1
  go_wp2_with fail
  refine (HPg.out wb HB.out).mono ?_
  clear HPg
  rintro e w3 ⟨g, rfl, hg, ho3, hk3, hW3⟩
  have hn5 : ¬ (512 = a) := by omega
  have hs3 := HB.out.size
  have HR0 := hid (hk3.heap HB0.out (fun hf => by have := HFl.out _ hf; omega))
  have HR1 := hid (hk3.heap HB1.out (fun hf => by have := HFl.out _ hf; omega))
  have HO3 := hid ho3
  have HG := hid hg
  have HK3 := hid hk3
  have HW3 := hid hW3
  clear ho3 hk3 hW3 hg HB0 HB1 c0
  go_wp2_with fail
  have hbd : Below w3.heap.size w3 w3.drew := (Below.refl _ w3).drew
  have HBd := hid hbd
  have HR1d := hid (below_block hbd HR1.out (lt_of_heap HR1.out))
  clear hbd
  refine wp_region_noPanic ?_
  refine wp_region_held_drew (S := fun W => W.heap[w.heap.size + 1]? = some (.cells nc.toArray 97 (0, 0))) (by kernel_rfl) HR1.out (fun hHeld => ?_)
  generalize w3.drew = wd at *
  refine wpAnyH_take (i := 0) (v := ?_) rfl (by kernel_rfl) (by kernel_rfl) (by kernel_rfl) (fun _ _ _ h => h) (Or.inl ⟨by rfl, ?_⟩) (by assumption) ?_
  rotate_left
  · (intro W hSw; (try dsimp only at hSw); obtain s0 := hSw; go_simp; try with_reducible rfl)
  try simp only [List.getElem_toArray, List.getElem_cons_zero, Act.put, List.setIfInBounds_toArray, List.set_cons_zero, List.set_cons_succ]
  refine wpAnyH_take (i := 1) (v := ?_) rfl (by kernel_rfl) (by kernel_rfl) (by kernel_rfl) (fun _ _ _ h => h) (Or.inl ⟨by rfl, ?_⟩) (by assumption) ?_
  rotate_left
  · (intro W hSw; (try dsimp only at hSw); obtain s0 := hSw; go_simp; try with_reducible rfl)
  try simp only [List.getElem_toArray, List.getElem_cons_succ, List.getElem_cons_zero, Act.put, List.setIfInBounds_toArray, List.set_cons_zero, List.set_cons_succ]
  have hq5 : (a : Int) ≤ 512 := by omega
  refine wpAnyH_take (i := 2) (v := .slice (some ⟨g, a, none⟩) (512 - a) (512 - a)) rfl (by kernel_rfl) (by kernel_rfl) (by kernel_rfl) (fun _ _ _ h => h) (Or.inl ⟨by rfl, ?_⟩) (by assumption) ?_
  · (intro W hSw; (try dsimp only at hSw); obtain s0 := hSw; go_simp; try first | with_reducible rfl | go_num | (rw [if_pos (by assumption)]; simp only [*]) | simp only [*])
  try simp only [List.getElem_toArray, List.getElem_cons_succ, List.getElem_cons_zero, Act.put, List.setIfInBounds_toArray, List.set_cons_zero, List.set_cons_succ]
  refine wpAnyH_take (i := 3) (v := .agg nc.toArray) rfl (by kernel_rfl) (by kernel_rfl) (by kernel_rfl) (fun _ _ _ h => h) (yieldsIf_load_mid (by rfl) 97 (.tmp 5) rfl (w.heap.size + 1) 0 rfl nc _ (fun W hW => by have := range_of_block hW; exact this) Tryz.underlying97 rfl (by rw [HNs.out]; kernel_rfl)) (by assumption) ?_
  try simp only [List.getElem_toArray, List.getElem_cons_succ, List.getElem_cons_zero, Act.put, List.setIfInBounds_toArray, List.set_cons_zero, List.set_cons_succ]
  refine wpAnyH_ready (rs := [4]) (by kernel_rfl) (by simp) (AllReadyH.cons rfl (fun K hK => ?_) AllReadyH.nil)
  rw [if_pos (by rfl)]
  go_simp
  refine (HEn.out wd).mono ?_
  clear HEn
  rintro e w5 ⟨b5, rfl, hb5, ho5, hB5⟩
  have HR5 := hid (below_block hB5 HR1d.out (lt_of_heap HR1d.out))
  have HO5 := hid ho5
  have HB5 := hid hB5
  have hd3 := HBd.out.size
  have HOg := hid (((HO3.out.below HBd.out).below hB5))
  have hgb : g < w3.heap.size := HO3.out.lt
  clear hB5 ho5
  go_wp2_with fail
  refine hK.out _ _ HR5.out (fun hHeld => ?_)
  clear hK K
  try simp only [List.getElem_toArray, List.getElem_cons_succ, List.getElem_cons_zero, Act.put, List.setIfInBounds_toArray, List.set_cons_zero, List.set_cons_succ]
  refine wpAnyH_ready (rs := [5]) (by kernel_rfl) (by simp) (AllReadyH.cons rfl (fun K hK => ?_) AllReadyH.nil)
  rw [if_pos (by rfl)]
  refine wp_copy_own8 (.tmp 24) (.tmp 26) rfl g a (512 - a) (512 - a) ⟨b5, 0, none⟩ 64 64 rfl rfl (Pg p) (encL n) HOg.out HO5.out.at (by rw [HEl.out]; show 64 = min 64 (512 - a); omega) (by rw [HEl.out, HLen.out]; omega) ?_
  intro w6 hk6 ho6 hz6
  rw [HEl.out] at ho6
  have hge := HG.out
  have hsb := HSb.out
  have k36 : Keeps (fun i => i = g) w3 w6 := (Keeps.of_below HBd.out : Keeps (fun i => i = g) w3 wd).trans ((Keeps.of_below HB5.out : Keeps (fun i => i = g) wd w5).trans hk6 (fun i e => .inl e)) (fun i e => .inl e)
  have HR6 := hid (k36.heap HR1.out (fun e => by have e' : w.heap.size + 1 = g := e; omega))
  have c6 : w6.cell? ⟨w.heap.size, 0, none⟩ = some (.pointer (some ⟨m, 0, none⟩)) := cell_of_block (k36.heap HR0.out (fun e => by have e' : w.heap.size = g := e; omega)) 0
  have hpl : putT (Pg p) i (encL n) = (Pg p).take a ++ encL n ++ (Pg p).drop (a + 64) := HPu.out _ _
  rw [← hpl] at ho6
  have k36' : Keeps (fun i => w.heap.size ≤ i) w3 w6 := k36.mono (fun i e => by have e' : i = g := e; show w.heap.size ≤ i; omega)
  have hp6 := HW3.out w6 k36'
  have hpln : (putT (Pg p) i (encL n)).length = 512 := length_putT HLen.out i HEl.out
  have HWr := hid (hp6.write p HPN.out (putT (Pg p) i (encL n)) hpln ⟨g, 0, none⟩ 512 ho6.at HRo.out)
  have kw6 : Keeps F w w6 := ((Keeps.of_below HB.out : Keeps F w wb).trans HK3.out (fun i e => .inl e)).trans k36' (fun i e => .inr e)
  have HKw := hid kw6
  have HCa := hid (amCache_any (HMb.out.keep kw6 hmF0))
  clear hk6 ho6 hz6 hge k36 k36' hp6 hpln hpl kw6
  refine hK.out _ _ HR6.out (fun hHeld => ?_)
  clear hK K
  try simp only [List.getElem_toArray, List.getElem_cons_succ, List.getElem_cons_zero, Act.put, List.setIfInBounds_toArray, List.set_cons_zero, List.set_cons_succ]
  refine wpAnyH_done (by kernel_rfl) ?_ _
  refine NoPanic.normal ?_
  clear hHeld
  go_wp2_with fail
  refine HCa.out.mono ?_
  clear HCa
  rintro e w7 ⟨rfl, h7⟩
  obtain rfl := h7.symm
  clear h7
  go_wp2_with fail
  refine HWr.out.mono ?_
  clear HWr
  rintro e w8 ⟨rfl, hk8, hp8⟩
  have HK8 := hid hk8
  have HP8 := hid hp8
  clear hk8 hp8
  go_wp2
  go_ret
  exact ⟨rfl, HKw.out.trans HK8.out (fun i e => .inl e), HP8.out⟩
end
end Go.Proofs.YtnghjgmpjniopaaGreat
/- A cache stays when a block of numbers or bools is written that is none of its own. -/
namespace Go.Proofs.YtnghjgmpjniopaaGreat
open Go.RowKit Go.Maps
/-- A block of numbers, bools, slices or pointers, none of a log's, a cache's, a map's. -/
def offN (w : World) (b : Nat) : Prop := ∃ cs t fr, w.heap[b]? = some (.cells cs t fr) ∧ (t ≠ 68 ∧ t ≠ 73 ∧ t ≠ 77) ∧ ∀ v ∈ cs.toList, (∃ n, v = .int .i64 n) ∨ (∃ x, v = .bool x) ∨ (∃ a n c, v = .slice a n c) ∨ ∃ a, v = .pointer a
theorem offN.not {w : World} {b : Nat} {ad : Addr} {v : Value} (h : offN w b) (hc : w.cell? ad = some v) (hv : (∀ n, v ≠ .int .i64 n) ∧ (∀ x, v ≠ .bool x) ∧ (∀ a n c, v ≠ .slice a n c) ∧ ∀ a, v ≠ .pointer a) : ad.block ≠ b := fun e => by
  obtain ⟨cs, t, fr, hb, -, hk⟩ := h
  have hp := plain_addr hc
  rw [hp, e, cell_of_block hb] at hc
  have hm : v ∈ cs.toList := by
    obtain ⟨h1, h2⟩ := Array.getElem?_eq_some_iff.1 hc
    rw [← h2]; simp
  rcases hk v hm with ⟨n, rfl⟩ | ⟨x, rfl⟩ | ⟨a, n, c, rfl⟩ | ⟨a, rfl⟩
  · exact hv.1 n rfl
  · exact hv.2.1 x rfl
  · exact hv.2.2.1 a n c rfl
  · exact hv.2.2.2 a rfl
theorem offN.noMap {w : World} {b : Nat} (h : offN w b) (e : Array MapEntry) (k : Nat) : w.heap[b]? ≠ some (.map e k) := fun hm => by
  obtain ⟨cs, t, fr, hb, -⟩ := h
  rw [hb] at hm; cases hm
theorem offN.type {w : World} {b : Nat} (h : offN w b) {cs : Array Value} {t : TypeId} {fr : Nat × Nat} (hm : w.heap[b]? = some (.cells cs t fr)) : t ≠ 68 ∧ t ≠ 73 ∧ t ≠ 77 := by
  obtain ⟨cs', t', fr', hb, ht, -⟩ := h
  rw [hb] at hm
  simp only [Option.some.injEq, Obj.cells.injEq] at hm
  rw [← hm.2.1]; exact ht
theorem AnyAt.keepY {w w' : World} {d : DL} {S : DiskS} {F G : Nat → Prop} (h : AnyAt w d S F) (hb : ∀ b, G b → offN w b) (hF : ∀ b, G b → ¬ F b) (k : Keeps G w w') : AnyAt w' d S F := by
  rcases h with ⟨h, hf⟩ | ⟨h, hf⟩
  · refine .inl ⟨?_, hf⟩
    have hne : ∀ i, d.cutFoot S.waits i → ¬ G i := fun i hi e => hF i e (hf i hi)
    obtain ⟨h1, ⟨a, e1, e2, e3⟩, ⟨ad, c, e4, e5, e6⟩, h4⟩ := h
    refine ⟨h1.keep k (hne _ (.inl rfl)) (fun i hi => hne i (.inr hi)), ⟨a, e1, e2, fun q hq => ⟨fun j u hu => ?_, Nat.lt_of_lt_of_le (e3 q hq).2 k.size⟩⟩, ⟨ad, c, e4, fun j s hj => ?_, e6⟩, h4⟩
    · refine k.cell ((e3 q hq).1 j u hu) (fun hG => (hb _ hG).not ((e3 q hq).1 j u hu) ?_ rfl)
      rw [List.getElem?_map] at hu
      cases ho : S.ops[j]? with
      | none => rw [ho] at hu; cases hu
      | some o => rw [ho] at hu; obtain rfl := Option.some.inj hu; cases o <;> simp [encOp]
    · exact k.cell (e5 j s hj) (fun hG => (hb _ hG).not (e5 j s hj) (by simp) rfl)
  · refine .inr ⟨?_, hf⟩
    have hne : ∀ i, d.foot S.waits i → ¬ G i := fun i hi e => hF i e (hf i hi)
    refine h.keep k hne (fun i hi e => ?_)
    obtain ⟨ad, c, e4, e5, e6⟩ := h.first
    have hpos : 0 < S.first.length := by rw [h.flen]; exact h.plates.pos
    have hc := e5 0 S.first[0] (List.getElem?_eq_getElem hpos)
    have h1 := (hb i e).not hc (by simp)
    rw [add_block] at h1
    rw [e4] at hi
    exact h1 (Option.some.inj hi)
theorem LogIn.keepY {w w' : World} {p : Nat} {d : DL} {S : DiskS} {size rec : Nat} {F G : Nat → Prop} (h : LogIn w p d S size rec F) (hb : ∀ b, G b → offN w b) (hF : ∀ b, G b → ¬ F b) (k : Keeps G w w') : LogIn w' p d S size rec F := by
  refine ⟨k.heap h.heap (fun e => ?_), h.disk.keepY hb hF k, h.off⟩
  exact absurd ((hb p e).type h.heap) (by decide)
theorem CacheAt.keepY {w w' : World} {c : Nat} {L : CLay} {C : CS} (h : CacheAt w c L C) {G : Nat → Prop} (hg : ∀ b, G b → offN w b) (hF : ∀ b, G b → ¬ L.F b) (k : Keeps G w w') : CacheAt w' c L C := by
  obtain ⟨es, kk, hm⟩ := h.dmap
  obtain ⟨es', kk', hu⟩ := h.umap
  have hmap : ∀ m e k0, w.heap[m]? = some (.map e k0) → ¬ G m := fun m e k0 hm e1 => (hg m e1).noMap _ _ hm
  exact {
    heap := k.heap h.heap (fun e => absurd ((hg c e).type h.heap) (by decide))
    log := h.log.keepY hg hF k
    lt := fun i hi => Nat.lt_of_lt_of_le (h.lt i hi) k.size
    dirty := h.dirty.keep k (hmap _ _ _ hm)
    bytes := fun n v hv => by
      obtain ⟨g', cap, bs, h1, h2, h3, h4, h5⟩ := h.bytes n v hv
      subst h2
      refine ⟨g', cap, bs, h1, rfl, fun j hj => k.cell (h3 j hj) (fun hG => (hg _ hG).not (h3 j hj) (by simp) rfl), h4, h5⟩
    clean := h.clean
    used := h.used.keep k (hmap _ _ _ hu)
    offc := h.offc
    offd := h.offd
    offu := h.offu
    ne := h.ne
    pages := h.pages
    fits := h.fits
    few := h.few
    ub := h.ub }
section
variable {w w' : World} {c : Nat} {F : Nat → Prop} {size N : Nat} {Pg Cm : Nat → List UInt8} {D : Int → Bool} {o u : Nat}
/-- The same for several blocks. -/
theorem Pc.keepYs (h : Pc w c F size N Pg Cm D o u) {G : Nat → Prop} (hg : ∀ b, G b → offN w b) (hF : ∀ b, G b → ¬ F b) (k : Keeps G w w') : Pc w' c F size N Pg Cm D o u := by
  obtain ⟨L, C, h⟩ := h
  exact ⟨L, C, h.at_.keepY hg (fun b hb hf => hF b hb (h.foot _ (.inl hf))) k, h.sz, h.nn, h.made, h.ops, h.uses, h.pg, h.cm, h.dirty, h.room, h.foot, fun i hi => Nat.lt_of_lt_of_le (h.lt i hi) k.size, Nat.lt_of_lt_of_le h.p0 k.size, h.quiet⟩
theorem Pc.keepY (h : Pc w c F size N Pg Cm D o u) {b : Nat} (hg : offN w b) (hF : ¬ F b) (k : Keeps (fun i => i = b) w w') : Pc w' c F size N Pg Cm D o u := h.keepYs (G := fun i => i = b) (fun i e => by have e' : i = b := e; rw [e']; exact hg) (fun i e => by have e' : i = b := e; rw [e']; exact hF) k
end
end Go.Proofs.YtnghjgmpjniopaaGreat
/- law05's live. -/
namespace Go.Proofs.YtnghjgmpjniopaaGreat
open Go.RowKit
theorem freeTo_count {L : List UInt8} {a z lo : Nat} (h : ∀ n, n < 4096 → isFree L a z n = decide (lo ≤ n ∧ n < z)) : ∀ k, k ≤ 4096 → (freeTo L a z k).length = min k z - lo
  | 0, _ => by rw [freeTo_zero]; simp
  | k + 1, hk => by
    have ih := freeTo_count h k (by omega)
    have h1 := h k (by omega)
    by_cases hf : lo ≤ k ∧ k < z
    · rw [decide_eq_true hf] at h1
      rw [freeTo_yes h1, List.length_append, ih]
      simp
      omega
    · rw [decide_eq_false hf] at h1
      rw [freeTo_no h1, ih]
      omega
theorem isFree_bits {k a z n : Nat} (hk : k ≤ 4096) (ha : a ≤ k) : isFree (bitsTo k) a z n = decide (k ≤ n ∧ n < z) := by
  unfold isFree
  rw [bitL_bitsTo k n hk]
  by_cases h : n < k
  · rw [decide_eq_true h, decide_eq_false (p := k ≤ n ∧ n < z) (fun hh => by omega)]; simp
  · rw [decide_eq_false h]
    simp only [Bool.not_false, Bool.and_true]
    apply decide_eq_decide.2
    omega
theorem dkD_putLD (N : Nat) : ∀ (ks : List (Nat × List UInt8)) (D : Int → Bool), (dkD N (putLD D ks)).length ≤ (dkD N D).length + ks.length
  | [], _ => Nat.le_refl _
  | p :: ks, D => by
    have ih := dkD_putLD N ks (updT D p.1)
    have h1 := dkD_updT N D p.1
    have e : putLD D (p :: ks) = putLD (updT D p.1) ks := rfl
    rw [e, List.length_cons]
    have h2 : (if D (p.1 : Int) = true then 0 else 1) ≤ 1 := by split <;> omega
    omega
theorem dkD_upd1 (N : Nat) (D : Int → Bool) (n : Nat) : (dkD N (updT D n)).length ≤ (dkD N D).length + 1 := by
  have h1 := dkD_updT N D n
  have h2 : (if D (n : Int) = true then 0 else 1) ≤ 1 := by split <;> omega
  omega
theorem length_empK (N ino k : Nat) : (empK N ino k).length = 3 + k := by simp [empK]; omega
/-- What page n has, behind Make. -/
theorem putL_other {Pg : Nat → List UInt8} {n : Nat} : ∀ (ks : List (Nat × List UInt8)), (∀ x ∈ ks, x.1 ≠ n) → putL Pg ks n = Pg n := by
  intro ks
  induction ks generalizing Pg with
  | nil => intro _; rfl
  | cons p ks ih =>
    intro h
    have e : putL Pg (p :: ks) = putL (updP Pg p.1 p.2) ks := rfl
    rw [e, ih (fun x hx => h x (List.mem_cons_of_mem _ hx))]
    unfold updP
    rw [if_neg (fun e => h p List.mem_cons_self e.symm)]
theorem made_at (N ino k : Nat) (Pg : Nat → List UInt8) : putL Pg (empK N ino k) 0 = superL N ino ∧ putL Pg (empK N ino k) 1 = bitsTo 1 ∧ putL Pg (empK N ino k) 2 = bitsTo (3 + ino / 8) := by
  have e : putL Pg (empK N ino k) = putL (updP (updP (updP Pg 0 (superL N ino)) 1 (bitsTo 1)) 2 (bitsTo (3 + ino / 8))) ((List.range k).map (fun j => (3 + j, zN 512))) := rfl
  have hr : ∀ n, n < 3 → ∀ x ∈ (List.range k).map (fun j => (3 + j, zN 512)), x.1 ≠ n := fun n hn x hx => by
    obtain ⟨j, -, rfl⟩ := List.mem_map.1 hx
    show 3 + j ≠ n
    omega
  rw [e, putL_other _ (hr 0 (by omega)), putL_other _ (hr 1 (by omega)), putL_other _ (hr 2 (by omega))]
  exact ⟨rfl, rfl, rfl⟩
theorem freeBits {k a z : Nat} (hk : k ≤ 4096) (ha : a ≤ k) (hz : z ≤ 4096) : (freeTo (bitsTo k) a z 4096).length = z - k := by
  rw [freeTo_count (lo := k) (fun n _ => isFree_bits hk ha) 4096 (Nat.le_refl _)]
  omega
end Go.Proofs.YtnghjgmpjniopaaGreat
/- The store: New, Get, Make. -/
namespace Go.Proofs.YtnghjgmpjniopaaGreat
open Go.RowKit
/-- A store in memory. -/
def storeB (w : World) (s m : Nat) : Prop := w.heap[s]? = some (.cells #[.pointer (some ⟨m, 0, none⟩)] 84 (0, 0))
theorem storeB.keep {w w' : World} {s m : Nat} {F : Nat → Prop} (h : storeB w s m) (k : Keeps F w w') (hF : ¬ F s) : storeB w' s m := k.heap h hF
theorem storeB.below {w w' : World} {s m : Nat} (h : storeB w s m) (k : Below w.heap.size w w') : storeB w' s m := below_block k h (lt_of_heap h)
theorem storeB.cell {w : World} {s m : Nat} (h : storeB w s m) : w.cell? ⟨s, 0, none⟩ = some (.pointer (some ⟨m, 0, none⟩)) := cell_of_block h 0
set_option maxRecDepth 100000 in
theorem iNew_ok (m : Nat) (w : World) : Calls Tryz.prog 8 #[.pointer (some ⟨m, 0, none⟩)] w fun e w' => e = .returned (.tuple #[.pointer (some ⟨w.heap.size, 0, none⟩), .int .i64 0]) ∧ storeB w' w.heap.size m ∧ Below w.heap.size w w' := by
  have hb : Below w.heap.size w (w.alloc (.cells #[.pointer (some ⟨m, 0, none⟩)] 84)) := (Below.refl _ w).alloc (Nat.le_refl _) _
  have hn : storeB (w.alloc (.cells #[.pointer (some ⟨m, 0, none⟩)] 84)) w.heap.size m := block_new w _
  have HB := hid hb
  have HN := hid hn
  clear hb hn
  go_enter Tryz.func8, Tryz.ntmps8
  go_wp2
  go_returns
  exact ⟨rfl, HN.out, HB.out⟩
set_option maxRecDepth 100000 in
theorem iend_ok (s : Nat) (w : World) : Calls Tryz.prog 38 #[.pointer (some ⟨s, 0, none⟩), .int .i64 0] w fun e w' => e = .returned (.int .i64 0) ∧ w' = w := by
  go_enter Tryz.func38, Tryz.ntmps38
  go_wp2
  go_ret
  exact ⟨rfl, rfl⟩
theorem node_off {w : World} {b : Nat} {cs : List Value} {fr : Nat × Nat} (h : w.heap[b]? = some (.cells cs.toArray 97 fr)) (hc : ∀ v ∈ cs, ∃ n, v = .int .i64 n) : offN w b :=
  ⟨_, _, _, h, by decide, fun v hv => .inl (hc v (by simpa using hv))⟩
theorem zero15 : ∀ v ∈ (List.replicate 15 (Value.int .i64 0)), ∃ n, v = .int .i64 n := fun _ hv => ⟨0, List.eq_of_mem_replicate hv⟩
set_option maxRecDepth 100000 in
theorem results_Get {w : World} {tmps : Array Value} {b : Nat} {cs : List Value} {t : Value} (h1 : tmps.getD 4 undef = .pointer (some ⟨b, 0, none⟩)) (h2 : tmps.getD 5 undef = t) (r : w.heap[b]? = some (.cells cs.toArray 97 (0, 0))) (hl : cs.length = 15) :
    (results Tryz.f39 tmps).run Tryz.prog w = .ok (.tuple #[.agg cs.toArray, t]) w := by
  have h1' : tmps[4]?.getD undef = .pointer (some ⟨b, 0, none⟩) := by simpa using h1
  have h2' : tmps[5]?.getD undef = t := by simpa using h2
  have hr := run_loadVar_mid (P := Tryz.prog) w b 0 97 cs _ (by have := range_of_block r; exact this) Tryz.underlying97 rfl (by rw [hl]; kernel_rfl)
  simp only [results, Tryz.results39]
  simp [h1', h2', asAddr, hr]
section
variable {w : World} {s m c ino : Nat} {F : Nat → Prop} {size N : Nat} {Pg Cm : Nat → List UInt8} {D : Int → Bool} {o u : Nat}
set_option maxRecDepth 100000 in
theorem iGet_ok (h : mapB w m c ino) (hmF : ¬ F m) (hs : storeB w s m) (hsF : ¬ F s) (hi : ino ≤ 512) (i : Nat) (hi0 : 0 < i) (hin : i < ino) (hb : bitL (Pg 1) i = true) (hN : 3 + i / 8 < N) (hu : u < 999990) (hp : Pc w c F size N Pg Cm D o u) :
    Calls Tryz.prog 39 #[.pointer (some ⟨s, 0, none⟩), .int .i64 i] w fun e w' => e = .returned (.tuple #[nodeV (decL (inoL (Pg (3 + i / 8)) i)), .int .i64 0]) ∧ Keeps F w w' ∧ Pc w' c F size N Pg Cm D o (u + 2) := by
  have ht : takenP (Pg 1) 1 ino (i : Int) = true := by
    unfold takenP
    rw [if_pos ⟨by omega, by omega⟩, Int.toNat_natCast]; exact hb
  obtain ⟨wb, hwb⟩ : ∃ wb, wb = w.alloc (.cells #[.int .i64 0, .int .i64 0, .int .i64 0, .int .i64 0, .int .i64 0, .int .i64 0, .int .i64 0, .int .i64 0, .int .i64 0, .int .i64 0, .int .i64 0, .int .i64 0, .int .i64 0, .int .i64 0, .int .i64 0] 97) := ⟨_, rfl⟩
  have hB : Below w.heap.size w wb := by rw [hwb]; exact (Below.refl _ w).alloc (Nat.le_refl _) _
  have hr0 : wb.heap[w.heap.size]? = some (.cells #[.int .i64 0, .int .i64 0, .int .i64 0, .int .i64 0, .int .i64 0, .int .i64 0, .int .i64 0, .int .i64 0, .int .i64 0, .int .i64 0, .int .i64 0, .int .i64 0, .int .i64 0, .int .i64 0, .int .i64 0] 97 (0, 0)) := by rw [hwb]; exact block_new w _
  have HIn := hid (amInodes_any (h.below hB))
  have hus := aUsedInode_any (h.below hB) hmF hi (i : Int) (by omega) (by omega) (hp.below hB)
  rw [ht] at hus
  have HUs := hid hus
  have HGt := hid (fun W (hk : Keeps F wb W) (hW : Pc W c F size N Pg Cm D o (u + 1)) => iget_any ((h.below hB).keep hk hmF) hi i hin hN (by omega) hW)
  have c0 : (w.alloc (.cells #[.int .i64 0, .int .i64 0, .int .i64 0, .int .i64 0, .int .i64 0, .int .i64 0, .int .i64 0, .int .i64 0, .int .i64 0, .int .i64 0, .int .i64 0, .int .i64 0, .int .i64 0, .int .i64 0, .int .i64 0] 97)).cell? ⟨s, 0, none⟩ = some (.pointer (some ⟨m, 0, none⟩)) := by rw [← hwb]; exact (hs.below hB).cell
  have HSt := hid (hs.below hB)
  have HB := hid hB
  have HR0 := hid hr0
  have HFl := hid hp.lt
  have hi0' : ¬ ((i : Int) ≤ 0) := by omega
  have hin' : ¬ ((ino : Int) ≤ (i : Int)) := by omega
  clear h hp hs hB hr0 hus ht hb
  generalize hnd : decL (inoL (Pg (3 + i / 8)) i) = nd at *
  have hnl : (nodeC nd).length = 15 := by rw [← hnd]; exact length_nodeD _
  have HNl := hid hnl
  clear hnd hnl
  unfold gV at HGt
  go_enter Tryz.func39, Tryz.ntmps39
  go_wp2_with fail
  rw [← hwb] at c0 ⊢
  clear hwb
  refine HIn.out.mono ?_
  clear HIn
  rintro e w1 ⟨rfl, h1⟩
  obtain rfl := h1.symm
  clear h1
  go_wp2_with fail
  refine HUs.out.mono ?_
  clear HUs
  rintro e w2 ⟨rfl, hk2, hp2⟩
  have HG2 := hid (HGt.out w2 hk2 hp2)
  have c2 := (HSt.out.keep hk2 hsF).cell
  have HK2 := hid hk2
  have HR2 := hid (hk2.heap HR0.out (fun hf => by have := HFl.out _ hf; omega))
  clear hk2 hp2 c0 HGt
  go_wp2_with fail
  refine HG2.out.mono ?_
  clear HG2
  rintro e w3 ⟨rfl, hk3, hW3⟩
  have HR3 := hid (hk3.heap HR2.out (fun hf => by have := HFl.out _ hf; omega))
  have HK3 := hid hk3
  have HW3 := hid hW3
  clear hk3 hW3 c2
  unfold nodeV
  go_wp2_with (refine wpList_store_block rfl 97 (.tmp 4) (.tmp 36) rfl w.heap.size (nodeC nd).toArray rfl rfl _ _ HR3.out (by rw [List.size_toArray, HNl.out]; rfl) (by rw [List.size_toArray, HNl.out]; kernel_rfl) (nodeC_one _) ?_; intro w6 hg6 hb6 hz6)
  have hp3 := HW3.out w3 (Keeps.refl _ _)
  have hoff : offN w3 w.heap.size := node_off (cs := List.replicate 15 (Value.int .i64 0)) HR3.out zero15
  have k36 : Keeps (fun i => i = w.heap.size) w3 w6 := Keeps.of_grown hg6 (fun i e => (Option.some.inj e).symm)
  have hp6 := hp3.keepY hoff (fun hf => by have := HFl.out _ hf; omega) k36
  refine bodyPost_ret (results_Get rfl rfl hb6 HNl.out) rfl ⟨rfl, ?_, hp6⟩
  exact (((Keeps.of_below HB.out : Keeps F w wb).trans HK2.out (fun i e => .inl e)).trans HK3.out (fun i e => .inl e)).trans k36 (fun i e => .inr (by have e' : i = w.heap.size := e; omega))
/-- A new inode. -/
def newN (k mode : Nat) : NodeS := ⟨k, mode, 1, 0, List.replicate 11 0⟩
theorem newN_ok (k mode : Nat) (hk : k ≤ 3) (hm : mode ≤ 4095) : (newN k mode).ok := ⟨by show k < 256; omega, by show mode < 65536; omega, by show 1 < 65536; omega, by show 0 < 4294967296; omega, rfl, fun p hp => by rw [List.eq_of_mem_replicate hp]; omega⟩
theorem inoC_two (Pg : Nat → List UInt8) (D : Int → Bool) (q : Nat) : inoC Pg D q ≤ 2 := by
  unfold inoC
  have a1 : (if D 1 = true then 0 else 1) ≤ 1 := by split <;> omega
  have a2 : (if inoT Pg q = Pg (3 + q / 8) then 0 else if D (3 + q / 8 : Nat) then 0 else 1) ≤ 1 := by
    split
    · omega
    · split <;> omega
  omega
theorem dkD_ino2 (N : Nat) (Pg : Nat → List UInt8) (D : Int → Bool) (q : Nat) : (dkD N (inoD Pg D q)).length ≤ (dkD N D).length + 2 := by
  have d1 : (dkD N (updT D 1)).length ≤ (dkD N D).length + 1 := dkD_upd1 N D 1
  unfold inoD
  split
  · omega
  · have d2 := dkD_upd1 N (updT D 1) (3 + q / 8)
    omega
/-- The pages behind Make. -/
def makP (Pg : Nat → List UInt8) (q k mode : Nat) : Nat → List UInt8 := updP (inoP Pg q) (3 + q / 8) (putT (inoP Pg q (3 + q / 8)) q (encL (newN k mode)))
set_option maxRecDepth 100000 in
theorem iMake_ok (h : mapB w m c ino) (hmF : ¬ F m) (hs : storeB w s m) (hsF : ¬ F s) (hi : ino ≤ 512) (h8 : ino % 8 = 0) (hN : 3 + ino / 8 ≤ N) (k mode q : Nat) (rest : List Nat) (hk1 : 1 ≤ k) (hk3 : k ≤ 3) (hm : mode ≤ 4095) (hf : freeTo (Pg 1) 1 ino 4096 = q :: rest) (hr : (dkD N D).length + 3 ≤ min size 100) (hu : u < 999990) (hp : Pc w c F size N Pg Cm D o u) :
    Calls Tryz.prog 11 #[.pointer (some ⟨s, 0, none⟩), .int .i64 k, .int .i64 mode] w fun e w' => e = .returned (.tuple #[.int .i64 q, .int .i64 0]) ∧ Keeps F w w' ∧ Pc w' c F size N (makP Pg q k mode) Cm (updT (inoD Pg D q) ((3 + q / 8 : Nat) : Int)) o (u + 3) := by
  have hq := freeTo_first hf
  have hc2 := inoC_two Pg D q
  have hd2 := dkD_ino2 N Pg D q
  have HIn := hid (aInode_any h hmF hi h8 hN (by omega) (by omega) hp)
  have HPt := hid (fun W (hk : Keeps F w W) (hW : Pc W c F size N (inoP Pg q) Cm (inoD Pg D q) o (u + 2)) => iput_any (h.keep hk hmF) hmF hi q hq.2.1 (newN k mode) (newN_ok k mode hk3 hm) (by omega) (by omega) (.inr (by omega)) hW)
  have c0 := hs.cell
  have HS := hid hs
  have HMo := hid (iisMode_any (mode : Int) w)
  rw [decide_eq_true ⟨by omega, by omega⟩] at HMo
  have HF := hid hf
  have HR := hid hr
  have HC := hid hc2
  have hka : ¬ ((k : Int) < 1) := by omega
  have hkb : ¬ ((3 : Int) < (k : Int)) := by omega
  unfold gV nodeV at HPt
  have hnc : nodeC (newN k mode) = [.int .i64 k, .int .i64 mode, .int .i64 1, .int .i64 0, .int .i64 0, .int .i64 0, .int .i64 0, .int .i64 0, .int .i64 0, .int .i64 0, .int .i64 0, .int .i64 0, .int .i64 0, .int .i64 0, .int .i64 0] := rfl
  rw [hnc] at HPt
  clear h hp hs hf hr hc2 hd2 hnc
  go_enter Tryz.func11, Tryz.ntmps11
  go_wp2_with fail
  refine HMo.out.mono ?_
  clear HMo
  rintro e w1 ⟨rfl, h1⟩
  obtain rfl := h1.symm
  clear h1
  go_wp2_with fail
  refine HIn.out.mono ?_
  clear HIn
  rintro e w2 ⟨hk2, hx⟩
  rcases hx with ⟨h0, -⟩ | ⟨q', rest', h0, hx⟩
  · rw [HF.out] at h0; cases h0
  obtain rfl : q = q' := (List.cons.inj (HF.out.symm.trans h0)).1
  rcases hx with ⟨hfl, -, -⟩ | ⟨-, rfl, hp2⟩
  · have := HR.out; have := HC.out; omega
  have HP2 := hid (HPt.out w2 hk2 hp2)
  have HK2 := hid hk2
  have c2 := (HS.out.keep hk2 hsF).cell
  clear hk2 hp2 h0 c0 HPt
  go_wp2_with fail
  refine HP2.out.mono ?_
  clear HP2
  rintro e w3 ⟨rfl, hk3', hp3⟩
  have HK3 := hid (HK2.out.trans hk3' (fun i e => .inl e))
  have HP3 := hid hp3
  have HEn := hid (iend_ok s w3)
  clear hk3' hp3
  go_wp2_with fail
  refine HEn.out.mono ?_
  clear HEn
  rintro e w4 ⟨rfl, h4⟩
  obtain rfl := h4.symm
  clear h4
  go_wp2
  go_returns
  exact ⟨rfl, HK3.out, HP3.out⟩
end
end Go.Proofs.YtnghjgmpjniopaaGreat
/- A file at work: its block, its slots. -/
namespace Go.Proofs.YtnghjgmpjniopaaGreat
open Go.RowKit
/-- A file: its number, what its inode tells, and its slots: eleven of the inode, then those of the indirect page. -/
structure FileS where
  num : Nat
  kind : Nat
  mode : Nat
  links : Nat
  size : Nat
  slots : List Nat
def FileS.cells (m : Nat) (S : FileS) : List Value := [.pointer (some ⟨m, 0, none⟩), .int .i64 S.num, .int .i64 S.kind, .int .i64 S.mode, .int .i64 S.links, .int .i64 S.size] ++ S.slots.map (fun n : Nat => Value.int .i64 n)
def fileB (w : World) (f m : Nat) (S : FileS) : Prop := w.heap[f]? = some (.cells (S.cells m).toArray 159 (0, 0))
section
variable {w w' : World} {f m : Nat} {S : FileS}
theorem fileB.lt (h : fileB w f m S) : f < w.heap.size := lt_of_heap h
theorem fileB.keep {F : Nat → Prop} (h : fileB w f m S) (k : Keeps F w w') (hF : ¬ F f) : fileB w' f m S := k.heap h hF
theorem fileB.below (h : fileB w f m S) (k : Below w.heap.size w w') : fileB w' f m S := below_block k h (lt_of_heap h)
theorem fileB.head (h : fileB w f m S) : w.cell? ⟨f, 0, none⟩ = some (.pointer (some ⟨m, 0, none⟩)) ∧ w.cell? ⟨f, 1, none⟩ = some (.int .i64 S.num) ∧ w.cell? ⟨f, 2, none⟩ = some (.int .i64 S.kind) ∧ w.cell? ⟨f, 3, none⟩ = some (.int .i64 S.mode) ∧ w.cell? ⟨f, 4, none⟩ = some (.int .i64 S.links) ∧ w.cell? ⟨f, 5, none⟩ = some (.int .i64 S.size) := by
  refine ⟨?_, ?_, ?_, ?_, ?_, ?_⟩ <;> (rw [cell_of_block h]; rfl)
theorem fileB.slot (h : fileB w f m S) (j : Nat) (hj : j < S.slots.length) : w.cell? ⟨f, 6 + j, none⟩ = some (.int .i64 (S.slots[j] : Nat)) := by
  rw [cell_of_block h]
  unfold FileS.cells
  rw [List.getElem?_toArray, List.getElem?_append_right (by simp), List.length_cons, List.length_cons, List.length_cons, List.length_cons, List.length_cons, List.length_cons, List.length_nil, show 6 + j - (0 + 1 + 1 + 1 + 1 + 1 + 1) = j by omega, List.getElem?_map, List.getElem?_eq_getElem hj]
  rfl
theorem fileB.frozen (h : fileB w f m S) (j : Nat) : w.frozen? ⟨f, j, none⟩ = false := frozen_of_block h _
theorem fileB.setSlot (h : fileB w f m S) (j x : Nat) : fileB (w.setCell ⟨f, 6 + j, none⟩ (.int .i64 x)) f m { S with slots := S.slots.set j x } := by
  have h1 := block_setCell h (6 + j) (.int .i64 x)
  unfold fileB
  rw [h1, List.setIfInBounds_toArray]
  unfold FileS.cells
  rw [List.set_append_right _ _ (by simp)]
  simp only [List.length_cons, List.length_nil, List.map_set]
  rw [show 6 + j - (0 + 1 + 1 + 1 + 1 + 1 + 1) = j by omega]
theorem fileB.setSize (h : fileB w f m S) (x : Nat) : fileB (w.setCell ⟨f, 5, none⟩ (.int .i64 x)) f m { S with size := x } := by
  have h1 := block_setCell h 5 (.int .i64 x)
  unfold fileB
  rw [h1, List.setIfInBounds_toArray]
  rfl
set_option maxRecDepth 100000 in
theorem islot_any (f j : Nat) (hj : j < 139) (w : World) : Calls Tryz.prog 125 #[.pointer (some ⟨f, 0, none⟩), .int .i64 j] w fun e w' => e = .returned (.pointer (some ⟨f, 6 + j, none⟩)) ∧ w' = w := by
  have h0 : (0 : Int) ≤ (j : Int) := by omega
  by_cases h1 : j ≤ 10
  · have h2 : (j : Int) ≤ 10 := by omega
    go_enter Tryz.func125, Tryz.ntmps125
    go_wp2
    go_ret
    exact ⟨rfl, rfl⟩
  · obtain ⟨i, rfl⟩ : ∃ i, j = i + 11 := ⟨j - 11, by omega⟩
    have h2 : ¬ (((i + 11 : Nat) : Int) ≤ 10) := by omega
    have h3 : ((i + 11 : Nat) : Int) - 10 - 1 = (i : Int) := by omega
    rw [show 6 + (i + 11) = 17 + i by omega]
    go_enter Tryz.func125, Tryz.ntmps125
    go_wp2
    go_ret
    exact ⟨rfl, rfl⟩
end
end Go.Proofs.YtnghjgmpjniopaaGreat
/- open: a file at work. -/
namespace Go.Proofs.YtnghjgmpjniopaaGreat
open Go.RowKit
/-- The numbers of an indirect page, k of them. -/
def farL (L : List UInt8) (k : Nat) : List Nat := (List.range k).map (fun j => numS ((L.drop (4 * j)).take 4))
theorem farL_succ (L : List UInt8) (k : Nat) : farL L (k + 1) = farL L k ++ [numS ((L.drop (4 * k)).take 4)] := by simp [farL, List.range_succ]
theorem length_farL (L : List UInt8) (k : Nat) : (farL L k).length = k := by simp [farL]
set_option maxRecDepth 100000 in
theorem file_cells (m i kd md lk sz p0 p1 p2 p3 p4 p5 p6 p7 p8 p9 p10 : Nat) : (((((((((((((((((Tryz.zeroCells159.setIfInBounds 0 (.pointer (some ⟨m, 0, none⟩))).setIfInBounds 1 (.int .i64 i)).setIfInBounds 2 (.int .i64 kd)).setIfInBounds 3 (.int .i64 md)).setIfInBounds 4 (.int .i64 lk)).setIfInBounds 5 (.int .i64 sz)).setIfInBounds 6 (.int .i64 p0)).setIfInBounds 7 (.int .i64 p1)).setIfInBounds 8 (.int .i64 p2)).setIfInBounds 9 (.int .i64 p3)).setIfInBounds 10 (.int .i64 p4)).setIfInBounds 11 (.int .i64 p5)).setIfInBounds 12 (.int .i64 p6)).setIfInBounds 13 (.int .i64 p7)).setIfInBounds 14 (.int .i64 p8)).setIfInBounds 15 (.int .i64 p9)).setIfInBounds 16 (.int .i64 p10)) = (FileS.cells m ⟨i, kd, md, lk, sz, [p0, p1, p2, p3, p4, p5, p6, p7, p8, p9, p10] ++ List.replicate 128 0⟩).toArray := by
  kernel_rfl
section
variable {w : World} {m c ino : Nat} {F : Nat → Prop} {size N : Nat} {Pg Cm : Nat → List UInt8} {D : Int → Bool} {o u : Nat}
set_option maxRecDepth 100000 in
set_option maxHeartbeats 2000000 in
theorem iopen_near (i : Nat) (n : NodeS) (hn : n.ok) (hs : n.size ≤ 5120) (w : World) : Calls Tryz.prog 40 #[gV m, .int .i64 i, nodeV n] w fun e w' => ∃ f, e = .returned (.pointer (some ⟨f, 0, none⟩)) ∧ w.heap.size ≤ f ∧ fileB w' f m ⟨i, n.kind, n.mode, n.links, n.size, n.pages ++ List.replicate 128 0⟩ ∧ Below w.heap.size w w' := by
  obtain ⟨kd, md, lk, sz, pages⟩ := n
  have hp : pages.length = 11 := hn.pages
  obtain ⟨p0, p1, p2, p3, p4, p5, p6, p7, p8, p9, p10, rfl⟩ := list11 hp
  have hs' : ¬ ((5120 : Int) < (sz : Int)) := by have : sz ≤ 5120 := hs; omega
  have HH := hid (fun W => ihasFar_any (sz : Int) W)
  rw [decide_eq_false hs'] at HH
  unfold gV
  show Calls Tryz.prog 40 #[.agg #[.pointer (some ⟨m, 0, none⟩)], .int .i64 i, .agg #[.int .i64 kd, .int .i64 md, .int .i64 lk, .int .i64 sz, .int .i64 p0, .int .i64 p1, .int .i64 p2, .int .i64 p3, .int .i64 p4, .int .i64 p5, .int .i64 p6, .int .i64 p7, .int .i64 p8, .int .i64 p9, .int .i64 p10]] w _
  clear hn hp hs hs'
  obtain ⟨wb, hwb⟩ : ∃ wb, wb = ((w.alloc (.cells #[.pointer (some ⟨m, 0, none⟩)] 82)).alloc (.cells #[.int .i64 kd, .int .i64 md, .int .i64 lk, .int .i64 sz, .int .i64 p0, .int .i64 p1, .int .i64 p2, .int .i64 p3, .int .i64 p4, .int .i64 p5, .int .i64 p6, .int .i64 p7, .int .i64 p8, .int .i64 p9, .int .i64 p10] 97)).alloc (.cells (((((((((((((((((Tryz.zeroCells159.setIfInBounds 0 (.pointer (some ⟨m, 0, none⟩))).setIfInBounds 1 (.int .i64 i)).setIfInBounds 2 (.int .i64 kd)).setIfInBounds 3 (.int .i64 md)).setIfInBounds 4 (.int .i64 lk)).setIfInBounds 5 (.int .i64 sz)).setIfInBounds 6 (.int .i64 p0)).setIfInBounds 7 (.int .i64 p1)).setIfInBounds 8 (.int .i64 p2)).setIfInBounds 9 (.int .i64 p3)).setIfInBounds 10 (.int .i64 p4)).setIfInBounds 11 (.int .i64 p5)).setIfInBounds 12 (.int .i64 p6)).setIfInBounds 13 (.int .i64 p7)).setIfInBounds 14 (.int .i64 p8)).setIfInBounds 15 (.int .i64 p9)).setIfInBounds 16 (.int .i64 p10)) 159) := ⟨_, rfl⟩
  have hB : Below w.heap.size w wb := by rw [hwb]; exact (((Below.refl _ w).alloc (Nat.le_refl _) _).alloc (by simp) _).alloc (by simp; omega) _
  have hf : fileB wb (w.heap.size + 1 + 1) m ⟨i, kd, md, lk, sz, [p0, p1, p2, p3, p4, p5, p6, p7, p8, p9, p10] ++ List.replicate 128 0⟩ := by
    have h1 := block_new ((w.alloc (.cells #[.pointer (some ⟨m, 0, none⟩)] 82)).alloc (.cells #[.int .i64 kd, .int .i64 md, .int .i64 lk, .int .i64 sz, .int .i64 p0, .int .i64 p1, .int .i64 p2, .int .i64 p3, .int .i64 p4, .int .i64 p5, .int .i64 p6, .int .i64 p7, .int .i64 p8, .int .i64 p9, .int .i64 p10] 97)) (.cells (((((((((((((((((Tryz.zeroCells159.setIfInBounds 0 (.pointer (some ⟨m, 0, none⟩))).setIfInBounds 1 (.int .i64 i)).setIfInBounds 2 (.int .i64 kd)).setIfInBounds 3 (.int .i64 md)).setIfInBounds 4 (.int .i64 lk)).setIfInBounds 5 (.int .i64 sz)).setIfInBounds 6 (.int .i64 p0)).setIfInBounds 7 (.int .i64 p1)).setIfInBounds 8 (.int .i64 p2)).setIfInBounds 9 (.int .i64 p3)).setIfInBounds 10 (.int .i64 p4)).setIfInBounds 11 (.int .i64 p5)).setIfInBounds 12 (.int .i64 p6)).setIfInBounds 13 (.int .i64 p7)).setIfInBounds 14 (.int .i64 p8)).setIfInBounds 15 (.int .i64 p9)).setIfInBounds 16 (.int .i64 p10)) 159)
    rw [World.size_alloc, World.size_alloc] at h1
    unfold fileB
    rw [hwb, h1, file_cells]
  have HB := hid hB
  have HF := hid hf
  clear hB hf
  go_enter Tryz.func40, Tryz.ntmps40
  go_wp2_with fail
  rw [← hwb]
  clear hwb
  refine (HH.out wb).mono ?_
  clear HH
  rintro e w1 ⟨rfl, h1⟩
  obtain rfl := h1.symm
  clear h1
  go_wp2
  go_ret
  exact ⟨w.heap.size + 1 + 1, rfl, by omega, HF.out, HB.out⟩
end
end Go.Proofs.YtnghjgmpjniopaaGreat
/- open of a file with an indirect page. -/
namespace Go.Proofs.YtnghjgmpjniopaaGreat
open Go.RowKit
/-- The slots, k numbers of the indirect page read. -/
def slotsTo (ps : List Nat) (L : List UInt8) (k : Nat) : List Nat := ps ++ (farL L k ++ List.replicate (128 - k) 0)
theorem length_slotsTo {ps : List Nat} (h : ps.length = 11) (L : List UInt8) (k : Nat) (hk : k ≤ 128) : (slotsTo ps L k).length = 139 := by
  unfold slotsTo; rw [List.length_append, List.length_append, length_farL, List.length_replicate]; omega
theorem slotsTo_set {ps : List Nat} (h : ps.length = 11) (L : List UInt8) (k : Nat) (hk : k < 128) : (slotsTo ps L k).set (11 + k) (numS ((L.drop (4 * k)).take 4)) = slotsTo ps L (k + 1) := by
  unfold slotsTo
  rw [List.set_append_right _ _ (by omega), h, show 11 + k - 11 = k by omega, List.set_append_right _ _ (by rw [length_farL]; omega), length_farL, Nat.sub_self, farL_succ, show 128 - k = (128 - (k + 1)) + 1 by omega, List.replicate_succ, List.set_cons_zero]
  simp
section
variable {w : World} {m c ino : Nat} {F : Nat → Prop} {size N : Nat} {Pg Cm : Nat → List UInt8} {D : Int → Bool} {o u : Nat}
set_option maxRecDepth 100000 in
set_option maxHeartbeats 2000000 in
theorem iopen_far (h : mapB w m c ino) (hp : Pc w c F size N Pg Cm D o u) (hu : u < 1000000) (i : Nat) (n : NodeS) (hn : n.ok) (hs : 5120 < n.size) (hN : n.pages.getD 10 0 < N) : Calls Tryz.prog 40 #[gV m, .int .i64 i, nodeV n] w fun e w' => ∃ f, e = .returned (.pointer (some ⟨f, 0, none⟩)) ∧ w.heap.size ≤ f ∧ fileB w' f m ⟨i, n.kind, n.mode, n.links, n.size, slotsTo n.pages (Pg (n.pages.getD 10 0)) 128⟩ ∧ Keeps F w w' ∧ Pc w' c F size N Pg Cm D o (u + 1) := by
  obtain ⟨kd, md, lk, sz, pages⟩ := n
  have hpl : pages.length = 11 := hn.pages
  obtain ⟨p0, p1, p2, p3, p4, p5, p6, p7, p8, p9, p10, rfl⟩ := list11 hpl
  have hs' : (5120 : Int) < (sz : Int) := by have : 5120 < sz := hs; omega
  have HH := hid (fun W => ihasFar_any (sz : Int) W)
  rw [decide_eq_true hs'] at HH
  have hN' : p10 < N := hN
  have HPg := hid (fun W (hW : Below w.heap.size w W) => ipage_any (h.below hW) p10 hN' hu hp hW)
  have HLen := hid (hp.len p10 hN')
  have HFl := hid hp.lt
  unfold gV at HPg ⊢
  show Calls Tryz.prog 40 #[.agg #[.pointer (some ⟨m, 0, none⟩)], .int .i64 i, .agg #[.int .i64 kd, .int .i64 md, .int .i64 lk, .int .i64 sz, .int .i64 p0, .int .i64 p1, .int .i64 p2, .int .i64 p3, .int .i64 p4, .int .i64 p5, .int .i64 p6, .int .i64 p7, .int .i64 p8, .int .i64 p9, .int .i64 p10]] w (fun e w' => ∃ f, e = .returned (.pointer (some ⟨f, 0, none⟩)) ∧ w.heap.size ≤ f ∧ fileB w' f m ⟨i, kd, md, lk, sz, slotsTo [p0, p1, p2, p3, p4, p5, p6, p7, p8, p9, p10] (Pg p10) 128⟩ ∧ Keeps F w w' ∧ Pc w' c F size N Pg Cm D o (u + 1))
  clear hn hpl hs hs' hN hN' h hp
  obtain ⟨wb, hwb⟩ : ∃ wb, wb = ((w.alloc (.cells #[.pointer (some ⟨m, 0, none⟩)] 82)).alloc (.cells #[.int .i64 kd, .int .i64 md, .int .i64 lk, .int .i64 sz, .int .i64 p0, .int .i64 p1, .int .i64 p2, .int .i64 p3, .int .i64 p4, .int .i64 p5, .int .i64 p6, .int .i64 p7, .int .i64 p8, .int .i64 p9, .int .i64 p10] 97)).alloc (.cells (((((((((((((((((Tryz.zeroCells159.setIfInBounds 0 (.pointer (some ⟨m, 0, none⟩))).setIfInBounds 1 (.int .i64 i)).setIfInBounds 2 (.int .i64 kd)).setIfInBounds 3 (.int .i64 md)).setIfInBounds 4 (.int .i64 lk)).setIfInBounds 5 (.int .i64 sz)).setIfInBounds 6 (.int .i64 p0)).setIfInBounds 7 (.int .i64 p1)).setIfInBounds 8 (.int .i64 p2)).setIfInBounds 9 (.int .i64 p3)).setIfInBounds 10 (.int .i64 p4)).setIfInBounds 11 (.int .i64 p5)).setIfInBounds 12 (.int .i64 p6)).setIfInBounds 13 (.int .i64 p7)).setIfInBounds 14 (.int .i64 p8)).setIfInBounds 15 (.int .i64 p9)).setIfInBounds 16 (.int .i64 p10)) 159) := ⟨_, rfl⟩
  have hB : Below w.heap.size w wb := by rw [hwb]; exact (((Below.refl _ w).alloc (Nat.le_refl _) _).alloc (by simp) _).alloc (by simp; omega) _
  have hf : fileB wb (w.heap.size + 1 + 1) m ⟨i, kd, md, lk, sz, [p0, p1, p2, p3, p4, p5, p6, p7, p8, p9, p10] ++ List.replicate 128 0⟩ := by
    have h1 := block_new ((w.alloc (.cells #[.pointer (some ⟨m, 0, none⟩)] 82)).alloc (.cells #[.int .i64 kd, .int .i64 md, .int .i64 lk, .int .i64 sz, .int .i64 p0, .int .i64 p1, .int .i64 p2, .int .i64 p3, .int .i64 p4, .int .i64 p5, .int .i64 p6, .int .i64 p7, .int .i64 p8, .int .i64 p9, .int .i64 p10] 97)) (.cells (((((((((((((((((Tryz.zeroCells159.setIfInBounds 0 (.pointer (some ⟨m, 0, none⟩))).setIfInBounds 1 (.int .i64 i)).setIfInBounds 2 (.int .i64 kd)).setIfInBounds 3 (.int .i64 md)).setIfInBounds 4 (.int .i64 lk)).setIfInBounds 5 (.int .i64 sz)).setIfInBounds 6 (.int .i64 p0)).setIfInBounds 7 (.int .i64 p1)).setIfInBounds 8 (.int .i64 p2)).setIfInBounds 9 (.int .i64 p3)).setIfInBounds 10 (.int .i64 p4)).setIfInBounds 11 (.int .i64 p5)).setIfInBounds 12 (.int .i64 p6)).setIfInBounds 13 (.int .i64 p7)).setIfInBounds 14 (.int .i64 p8)).setIfInBounds 15 (.int .i64 p9)).setIfInBounds 16 (.int .i64 p10)) 159)
    rw [World.size_alloc, World.size_alloc] at h1
    unfold fileB
    rw [hwb, h1, file_cells]
  have hg0 : wb.heap[w.heap.size]? = some (.cells #[.pointer (some ⟨m, 0, none⟩)] 82 (0, 0)) := by rw [hwb]; exact block_alloc (block_alloc (block_new w _) _) _
  have hg1 : wb.heap[w.heap.size + 1]? = some (.cells #[.int .i64 kd, .int .i64 md, .int .i64 lk, .int .i64 sz, .int .i64 p0, .int .i64 p1, .int .i64 p2, .int .i64 p3, .int .i64 p4, .int .i64 p5, .int .i64 p6, .int .i64 p7, .int .i64 p8, .int .i64 p9, .int .i64 p10] 97 (0, 0)) := by
    have h1 := block_new (w.alloc (.cells #[.pointer (some ⟨m, 0, none⟩)] 82)) (.cells #[.int .i64 kd, .int .i64 md, .int .i64 lk, .int .i64 sz, .int .i64 p0, .int .i64 p1, .int .i64 p2, .int .i64 p3, .int .i64 p4, .int .i64 p5, .int .i64 p6, .int .i64 p7, .int .i64 p8, .int .i64 p9, .int .i64 p10] 97)
    rw [World.size_alloc] at h1
    rw [hwb]; exact block_alloc h1 _
  have hsb : wb.heap.size = w.heap.size + 3 := by rw [hwb]; simp
  have HB := hid hB
  have HF := hid hf
  have HSb := hid hsb
  have d0 : wb.cell? ⟨w.heap.size, 0, none⟩ = some (.pointer (some ⟨m, 0, none⟩)) := cell_of_block hg0 0
  have d1 : wb.cell? ⟨w.heap.size + 1, 14, none⟩ = some (.int .i64 p10) := cell_of_block hg1 14
  clear hB hf hg0 hg1 hsb
  go_enter Tryz.func40, Tryz.ntmps40
  go_wp2_with fail
  rw [← hwb]
  clear hwb
  generalize Value.agg (((((((((((((((((Tryz.zeroCells159.setIfInBounds 0 (.pointer (some ⟨m, 0, none⟩))).setIfInBounds 1 (.int .i64 i)).setIfInBounds 2 (.int .i64 kd)).setIfInBounds 3 (.int .i64 md)).setIfInBounds 4 (.int .i64 lk)).setIfInBounds 5 (.int .i64 sz)).setIfInBounds 6 (.int .i64 p0)).setIfInBounds 7 (.int .i64 p1)).setIfInBounds 8 (.int .i64 p2)).setIfInBounds 9 (.int .i64 p3)).setIfInBounds 10 (.int .i64 p4)).setIfInBounds 11 (.int .i64 p5)).setIfInBounds 12 (.int .i64 p6)).setIfInBounds 13 (.int .i64 p7)).setIfInBounds 14 (.int .i64 p8)).setIfInBounds 15 (.int .i64 p9)).setIfInBounds 16 (.int .i64 p10)) = bv
  refine (HH.out wb).mono ?_
  clear HH
  rintro e w1 ⟨rfl, h1⟩
  obtain rfl := h1.symm
  clear h1
  go_wp2_with fail
  refine (HPg.out wb HB.out).mono ?_
  clear HPg
  rintro e w3 ⟨g, rfl, hg, ho3, hk3, hW3⟩
  obtain ⟨f, hff⟩ : ∃ f, f = w.heap.size + 1 + 1 := ⟨_, rfl⟩
  rw [← hff] at HF ⊢
  have hsb := HSb.out
  have HF3 : Hid (fileB w3 f m ⟨i, kd, md, lk, sz, slotsTo [p0, p1, p2, p3, p4, p5, p6, p7, p8, p9, p10] (Pg p10) 0⟩) := HF.out.keep hk3 (fun hf => by have := HFl.out _ hf; omega)
  have HO3 := hid ho3
  have HK3 := hid hk3
  have HW3 := hid hW3
  have HG : Hid (f < g ∧ w.heap.size ≤ f) := ⟨by omega, by omega⟩
  clear ho3 hk3 hW3 hg HF d0 d1 hff hsb
  obtain ⟨ps, hps⟩ : ∃ ps, ps = [p0, p1, p2, p3, p4, p5, p6, p7, p8, p9, p10] := ⟨_, rfl⟩
  have hpl : ps.length = 11 := by rw [hps]; rfl
  rw [← hps] at HF3
  have HPs := hid hps
  have HPl := hid hpl
  clear hps hpl
  go_wp2
  go_loopw [23] (fun iv wr => ∃ j : Nat, j ≤ 128 ∧ iv = .int .i64 j ∧ Hid (fileB wr f m ⟨i, kd, md, lk, sz, slotsTo ps (Pg p10) j⟩) ∧ Hid (ownB wr g (Pg p10)) ∧ Hid (Keeps (fun i => i = f) w3 wr)) (fun iv _ => 128 - (intOf iv).toNat)
  case atStart => exact ⟨0, by omega, rfl, HF3, HO3, Keeps.refl _ _⟩
  case round =>
    obtain ⟨j, hj, rfl, HFj, HOj, HKj⟩ := hrel
    clear HF3 HO3
    by_cases hlt : j < 128
    · have hj0 : (0 : Int) ≤ (j : Int) := by omega
      have hj1 : (j : Int) < 128 := by omega
      have hbd : Below wr.heap.size wr wr.drew := (Below.refl _ wr).drew
      have hFd := HFj.out.below hbd
      have hOd := HOj.out.below hbd
      have HKd : Hid (Keeps (fun i => i = f) w3 wr.drew) := HKj.out.trans (Keeps.of_below hbd : Keeps (fun i => i = f) wr wr.drew) (fun i e => .inl e)
      have hfo := ifourth_any g 0 512 512 j wr.drew (by omega) (by omega) (by omega)
      rw [Nat.zero_add] at hfo
      have HFo := hid hfo
      clear hfo
      have hlp : 4 * j + 4 ≤ (Pg p10).length := by rw [HLen.out]; omega
      have hnu := number_any (((Pg p10).drop (4 * j)).take 4) (some ⟨g, 0 + 4 * j, none⟩) (512 - 4 * j) wr.drew (part_in hOd.at (4 * j) 4 hlp) (by rw [len_part hlp]; omega)
      rw [len_part hlp, Nat.zero_add] at hnu
      have hsl : 11 + j < (slotsTo ps (Pg p10) j).length := by rw [length_slotsTo HPl.out _ j hj]; omega
      obtain ⟨pj, k1⟩ : ∃ pj : Nat, wr.drew.cell? ⟨f, 17 + j, none⟩ = some (.int .i64 pj) := by
        have k1 := hFd.slot (11 + j) hsl
        rw [show 6 + (11 + j) = 17 + j by omega] at k1
        exact ⟨_, k1⟩
      have k2 := hFd.frozen (17 + j)
      have hst := hFd.setSlot (11 + j) (numS (((Pg p10).drop (4 * j)).take 4))
      rw [show 6 + (11 + j) = 17 + j by omega, show (slotsTo ps (Pg p10) j).set (11 + j) (numS (((Pg p10).drop (4 * j)).take 4)) = slotsTo ps (Pg p10) (j + 1) from slotsTo_set HPl.out _ j hlt] at hst
      have HNu := hid hnu
      have HSt := hid hst
      have HOd := hid hOd
      clear hnu hst hOd hFd hbd HFj HOj HKj hlp
      generalize numS (((Pg p10).drop (4 * j)).take 4) = x at *
      clear hsl
      go_wp2
      refine wp_region_noPanic ?_
      refine wp_region_held_drew (S := fun _ => True) (by kernel_rfl) trivial (fun hHeld => ?_)
      generalize wr.drew = wd at *
      refine wpAnyH_take (i := 0) (v := ?_) rfl (by kernel_rfl) (by kernel_rfl) (by kernel_rfl) (fun _ _ _ h => h) (Or.inl ⟨by rfl, ?_⟩) (by assumption) ?_
      rotate_left
      · (intro W hSw; (try dsimp only at hSw); obtain _ := hSw; go_simp; try with_reducible rfl)
      try simp only [List.getElem_toArray, List.getElem_cons_zero, Act.put, List.setIfInBounds_toArray, List.set_cons_zero, List.set_cons_succ]
      refine wpAnyH_take (i := 1) (v := ?_) rfl (by kernel_rfl) (by kernel_rfl) (by kernel_rfl) (fun _ _ _ h => h) (Or.inl ⟨by rfl, ?_⟩) (by assumption) ?_
      rotate_left
      · (intro W hSw; (try dsimp only at hSw); obtain _ := hSw; go_simp; try with_reducible rfl)
      try simp only [List.getElem_toArray, List.getElem_cons_succ, List.getElem_cons_zero, Act.put, List.setIfInBounds_toArray, List.set_cons_zero, List.set_cons_succ]
      refine wpAnyH_take (i := 2) (v := ?_) rfl (by kernel_rfl) (by kernel_rfl) (by kernel_rfl) (fun _ _ _ h => h) (Or.inl ⟨by rfl, ?_⟩) (by assumption) ?_
      rotate_left
      · (intro W hSw; (try dsimp only at hSw); obtain _ := hSw; go_simp; try with_reducible rfl)
      try simp only [List.getElem_toArray, List.getElem_cons_succ, List.getElem_cons_zero, Act.put, List.setIfInBounds_toArray, List.set_cons_zero, List.set_cons_succ]
      refine wpAnyH_take (i := 3) (v := ?_) rfl (by kernel_rfl) (by kernel_rfl) (by kernel_rfl) (fun _ _ _ h => h) (Or.inl ⟨by rfl, ?_⟩) (by assumption) ?_
      rotate_left
      · (intro W hSw; (try dsimp only at hSw); obtain _ := hSw; go_simp; try with_reducible rfl)
      try simp only [List.getElem_toArray, List.getElem_cons_succ, List.getElem_cons_zero, Act.put, List.setIfInBounds_toArray, List.set_cons_zero, List.set_cons_succ]
      refine wpAnyH_take (i := 6) (v := ?_) rfl (by kernel_rfl) (by kernel_rfl) (by kernel_rfl) (fun _ _ _ h => h) (Or.inl ⟨by rfl, ?_⟩) (by assumption) ?_
      rotate_left
      · (intro W hSw; (try dsimp only at hSw); obtain _ := hSw; go_simp; try with_reducible rfl)
      try simp only [List.getElem_toArray, List.getElem_cons_succ, List.getElem_cons_zero, Act.put, List.setIfInBounds_toArray, List.set_cons_zero, List.set_cons_succ]
      refine wpAnyH_take (i := 7) (v := ?_) rfl (by kernel_rfl) (by kernel_rfl) (by kernel_rfl) (fun _ _ _ h => h) (Or.inl ⟨by rfl, ?_⟩) (by assumption) ?_
      rotate_left
      · (intro W hSw; (try dsimp only at hSw); obtain _ := hSw; go_simp; try with_reducible rfl)
      try simp only [List.getElem_toArray, List.getElem_cons_succ, List.getElem_cons_zero, Act.put, List.setIfInBounds_toArray, List.set_cons_zero, List.set_cons_succ]
      refine wpAnyH_ready (rs := [4]) (by kernel_rfl) (by simp) (AllReadyH.cons rfl (fun K hK => ?_) AllReadyH.nil)
      rw [if_pos (by rfl)]
      go_simp
      refine HFo.out.mono ?_
      clear HFo
      rintro e w7 ⟨rfl, h7⟩
      obtain rfl := h7.symm
      clear h7
      go_wp2_with fail
      refine hK.out _ _ trivial (fun hHeld => ?_)
      clear hK K
      try simp only [List.getElem_toArray, List.getElem_cons_succ, List.getElem_cons_zero, Act.put, List.setIfInBounds_toArray, List.set_cons_zero, List.set_cons_succ]
      refine wpAnyH_ready (rs := [5]) (by kernel_rfl) (by simp) (AllReadyH.cons rfl (fun K hK => ?_) AllReadyH.nil)
      rw [if_pos (by rfl)]
      go_simp
      refine HNu.out.mono ?_
      clear HNu
      rintro e w8 ⟨rfl, h8⟩
      obtain rfl := h8.symm
      clear h8
      go_wp2_with fail
      refine hK.out _ _ trivial (fun hHeld => ?_)
      clear hK K
      try simp only [List.getElem_toArray, List.getElem_cons_succ, List.getElem_cons_zero, Act.put, List.setIfInBounds_toArray, List.set_cons_zero, List.set_cons_succ]
      refine wpAnyH_take (i := 8) (v := .pointer (some ⟨f, 17 + j, none⟩)) rfl (by kernel_rfl) (by kernel_rfl) (by kernel_rfl) (fun _ _ _ h => h) (Or.inl ⟨by rfl, ?_⟩) (by assumption) ?_
      · (intro W hSw; (try dsimp only at hSw); obtain _ := hSw; go_simp; try first | with_reducible rfl | go_num | (rw [if_pos (by assumption)]; simp only [*]) | simp only [*])
      try simp only [List.getElem_toArray, List.getElem_cons_succ, List.getElem_cons_zero, Act.put, List.setIfInBounds_toArray, List.set_cons_zero, List.set_cons_succ]
      refine wpAnyH_ready (rs := [9]) (by kernel_rfl) (by simp) (AllReadyH.cons rfl (fun K hK => ?_) AllReadyH.nil)
      rw [if_pos (by rfl)]
      unfold Oper.wp
      go_simp
      have kk : Keeps (fun i => i = f) wd (wd.setCell ⟨f, 17 + j, none⟩ (.int .i64 x)) := (Keeps.refl _ wd).grown (grown_setCell (grown_refl _ _) _ _) (fun i e => .inl (Option.some.inj e).symm)
      have HK9 := hid (HKd.out.trans kk (fun i e => .inl e))
      have HO9 := hid (HOd.out.keep kk (fun e => by have e' : g = f := e; have := HG.out; omega))
      clear kk HKd HOd k1 k2
      generalize wd.setCell ⟨f, 17 + j, none⟩ (.int .i64 x) = w9 at *
      refine hK.out _ _ trivial (fun hHeld => ?_)
      clear hK K
      try simp only [List.getElem_toArray, List.getElem_cons_succ, List.getElem_cons_zero, Act.put]
      refine wpAnyH_done (by kernel_rfl) ?_ _
      refine NoPanic.normal ?_
      clear hHeld
      go_wp2
      exact ⟨⟨j + 1, by omega, by go_num, HSt, HO9, HK9⟩, by simp [intOf]; omega⟩
    · obtain rfl : j = 128 := by omega
      go_wp2
      go_ret
      have hsf := HG.out.2
      have kw : Keeps (fun i => w.heap.size ≤ i) w3 wr := HKj.out.mono (fun i e => by have e' : i = f := e; show w.heap.size ≤ i; omega)
      refine ⟨f, rfl, hsf, ?_, ?_, HW3.out wr kw⟩
      · have := HFj.out
        rw [HPs.out] at this
        exact this
      · exact (((Keeps.of_below HB.out : Keeps F w wb).trans HK3.out (fun i e => .inl e)).trans kw (fun i e => .inr e))
end
end Go.Proofs.YtnghjgmpjniopaaGreat
/- The slots, rising: the iterator. -/
namespace Go.Proofs.YtnghjgmpjniopaaGreat
open Go.RowKit Go.Shelf
attribute [local go_sem] Oper.semAt_some
/-- Numbers from a on, ahead of z. -/
def upTo (a z : Nat) : List Nat := (List.range (z - a)).map (fun j => a + j)
theorem upTo_none (a : Nat) : upTo a a = [] := by simp [upTo]
theorem upTo_succ {a z : Nat} (h : a ≤ z) : upTo a (z + 1) = upTo a z ++ [z] := by
  unfold upTo
  rw [show z + 1 - a = (z - a) + 1 by omega, List.range_succ, List.map_append]
  simp; omega
theorem length_upTo (a z : Nat) : (upTo a z).length = z - a := by simp [upTo]
set_option maxRecDepth 100000 in
theorem irising_any (f a z : Nat) (w : World) : Calls Tryz.prog 120 #[.pointer (some ⟨f, 0, none⟩), .int .i64 a, .int .i64 z] w fun e w' => e = .returned (.func (.func 138) #[] #[.pointer (some ⟨w.heap.size + 1, 0, none⟩), .pointer (some ⟨w.heap.size + 1 + 1, 0, none⟩), .pointer (some ⟨w.heap.size, 0, none⟩)]) ∧ w' = ((w.alloc (.cells #[.pointer (some ⟨f, 0, none⟩)] 101)).alloc (.cells #[.int .i64 a] 3)).alloc (.cells #[.int .i64 z] 3) := by
  go_enter Tryz.func120, Tryz.ntmps120
  go_wp2
  go_ret
  exact ⟨by simp, rfl⟩
set_option maxRecDepth 100000 in
set_option maxHeartbeats 4000000 in
theorem irising1_in (n : Nat) (hn : 2 ≤ n) (l fb ab zb f a z : Nat) (G : Nat → Prop) (hz : z ≤ 139) (hfn : ¬ G fb) (hzn : ¬ G zb) (J Jx : List Nat → World → Prop)
    (hY : ∀ pre (x : Nat) W, x < 139 → J pre W → pre.length < z - a → YieldAt Fence.wide (n - 1) Tryz.prog l #[.pointer (some ⟨f, 6 + x, none⟩)] W fun e W' =>
      (e = .returned (.bool true) ∧ J (pre ++ [x]) W' ∧ Keeps G W W') ∨ (e = .returned (.bool false) ∧ Jx (pre ++ [x]) W'))
    (W : World) (hfb : W.cell? ⟨fb, 0, none⟩ = some (.pointer (some ⟨f, 0, none⟩))) (hab : W.cell? ⟨ab, 0, none⟩ = some (.int .i64 a)) (hzb : W.cell? ⟨zb, 0, none⟩ = some (.int .i64 z)) (h0 : J [] W) :
    CallsIn Fence.wide n Tryz.prog 138 #[.func (.yield l) #[] #[], .pointer (some ⟨ab, 0, none⟩), .pointer (some ⟨zb, 0, none⟩), .pointer (some ⟨fb, 0, none⟩)] W fun e W' => (∃ v, e = .returned v) ∧
      ((∃ ys, ys = upTo a z ∧ J ys W') ∨ (∃ pre, (∃ q, a ≤ q ∧ q < z ∧ pre = upTo a q ++ [q]) ∧ Jx pre W')) := by
  have HY := hid hY
  have HC : Hid (∀ wr, Keeps G W wr → wr.cell? ⟨fb, 0, none⟩ = some (.pointer (some ⟨f, 0, none⟩)) ∧ wr.cell? ⟨zb, 0, none⟩ = some (.int .i64 z)) := fun wr hb => ⟨hb.cell hfb hfn, hb.cell hzb hzn⟩
  have HS : Hid (∀ wr q, q < 139 → CallsIn (Fence.wide) (n - 1) Tryz.prog 125 #[.pointer (some ⟨f, 0, none⟩), .int .i64 (q : Nat)] wr fun e w' => e = .returned (.pointer (some ⟨f, 6 + q, none⟩)) ∧ w' = wr) := fun wr q hq => callsIn_wide.2 (islot_any f q hq wr)
  have HJ0 := hid h0
  clear hY h0
  have hf9 : Fence.wide.fn 125 := trivial
  have h1n : 1 ≤ n := by omega
  refine callsIn_of_wp Tryz.func138 rfl trivial ?_ rfl
  simp only [Tryz.ntmps138, List.size_toArray, List.length_cons, List.length_nil, Nat.reduceAdd, Nat.reduceSub, Array.replicate_succ, Array.replicate_zero, List.push_toArray, List.append_toArray, List.nil_append, List.cons_append]
  gi_wp2
  clear hab
  gi_loopw [5] (fun i wr => ∃ q : Nat, a ≤ q ∧ (q ≤ z ∨ q = a) ∧ i = .int .i64 q ∧ Hid (J (upTo a q) wr) ∧ Hid (Keeps G W wr)) (fun i _ => z - (intOf i).toNat)
  case atStart => exact ⟨a, Nat.le_refl _, .inr rfl, rfl, by rw [upTo_none]; exact HJ0, Keeps.refl _ _⟩
  case round =>
    obtain ⟨q, hq1, hq2, rfl, HJ, HB⟩ := hrel
    clear HJ0
    obtain ⟨cf, cz⟩ := HC.out wr HB.out
    by_cases hlt : q < z
    · have hlt' : (q : Int) < (z : Int) := by omega
      have HSq := hid (HS.out wr q (by omega))
      obtain ⟨fn, tmps, assign, body, hy, hR⟩ := HY.out _ q wr (by omega) HJ.out (by rw [length_upTo]; omega)
      have HR := hid hR
      clear hR
      gi_wp2_with (gi_at_call 125; refine HSq.out.mono ?_; rintro e w9 ⟨rfl, h9⟩; obtain rfl := h9.symm; clear h9)
      refine HR.out.mono ?_
      rintro e W3 (⟨rfl, hJ3, hk3⟩ | ⟨rfl, hJx3⟩)
      · have HJ3 : Hid (J (upTo a (q + 1)) W3) := by rw [upTo_succ hq1]; exact hJ3
        have HB3 := hid (HB.out.trans hk3 (fun i e => .inl e))
        clear hJ3 hk3
        gi_wp2
        go_roundw
        case rel => exact ⟨q + 1, by omega, by omega, by go_num, HJ3, HB3⟩
        case measure => simp [intOf]; omega
      · have HX := hid hJx3
        clear hJx3
        gi_wp2
        refine bodyPost_ret (results_none rfl _ _ _) rfl ?_
        exact ⟨⟨_, rfl⟩, .inr ⟨_, ⟨q, hq1, hlt, rfl⟩, HX.out⟩⟩
    · have hge : ¬ ((q : Int) < (z : Int)) := by omega
      have hup : upTo a q = upTo a z := by
        rcases hq2 with h | h
        · rw [show q = z by omega]
        · rw [h, upTo_none]; unfold upTo; rw [show z - a = 0 by omega]; rfl
      rw [hup] at HJ
      gi_wp2
      go_end0
      exact ⟨⟨_, rfl⟩, .inl HJ.out⟩
/-- Numbers ahead of z, falling, k of them. -/
def dnL (z k : Nat) : List Nat := (List.range k).map (fun j => z - 1 - j)
theorem dnL_succ (z k : Nat) : dnL z (k + 1) = dnL z k ++ [z - 1 - k] := by simp [dnL, List.range_succ]
theorem length_dnL (z k : Nat) : (dnL z k).length = k := by simp [dnL]
set_option maxRecDepth 100000 in
theorem ifalling_any (f z a : Nat) (w : World) : Calls Tryz.prog 122 #[.pointer (some ⟨f, 0, none⟩), .int .i64 z, .int .i64 a] w fun e w' => e = .returned (.func (.func 139) #[] #[.pointer (some ⟨w.heap.size + 1, 0, none⟩), .pointer (some ⟨w.heap.size + 1 + 1, 0, none⟩), .pointer (some ⟨w.heap.size, 0, none⟩)]) ∧ w' = ((w.alloc (.cells #[.pointer (some ⟨f, 0, none⟩)] 101)).alloc (.cells #[.int .i64 z] 3)).alloc (.cells #[.int .i64 a] 3) := by
  go_enter Tryz.func122, Tryz.ntmps122
  go_wp2
  go_ret
  exact ⟨by simp, rfl⟩
set_option maxRecDepth 100000 in
set_option maxHeartbeats 4000000 in
theorem ifalling1_in (n : Nat) (hn : 2 ≤ n) (l fb zb ab f z a : Nat) (G : Nat → Prop) (hz : z ≤ 139) (ha : a ≤ 139) (hfn : ¬ G fb) (han : ¬ G ab) (J Jx : List Nat → World → Prop)
    (hY : ∀ pre (x : Nat) W, x < 139 → J pre W → pre.length < z - a → YieldAt Fence.wide (n - 1) Tryz.prog l #[.pointer (some ⟨f, 6 + x, none⟩)] W fun e W' =>
      (e = .returned (.bool true) ∧ J (pre ++ [x]) W' ∧ Keeps G W W') ∨ (e = .returned (.bool false) ∧ Jx (pre ++ [x]) W'))
    (W : World) (hfb : W.cell? ⟨fb, 0, none⟩ = some (.pointer (some ⟨f, 0, none⟩))) (hzb : W.cell? ⟨zb, 0, none⟩ = some (.int .i64 z)) (hab : W.cell? ⟨ab, 0, none⟩ = some (.int .i64 a)) (h0 : J [] W) :
    CallsIn Fence.wide n Tryz.prog 139 #[.func (.yield l) #[] #[], .pointer (some ⟨zb, 0, none⟩), .pointer (some ⟨ab, 0, none⟩), .pointer (some ⟨fb, 0, none⟩)] W fun e W' => (∃ v, e = .returned v) ∧
      ((∃ ys, ys = dnL z (z - a) ∧ J ys W') ∨ (∃ pre, (∃ k, k < z - a ∧ pre = dnL z (k + 1)) ∧ Jx pre W')) := by
  have HY := hid hY
  have HC : Hid (∀ wr, Keeps G W wr → wr.cell? ⟨fb, 0, none⟩ = some (.pointer (some ⟨f, 0, none⟩)) ∧ wr.cell? ⟨ab, 0, none⟩ = some (.int .i64 a)) := fun wr hb => ⟨hb.cell hfb hfn, hb.cell hab han⟩
  have HS : Hid (∀ wr q, q < 139 → CallsIn (Fence.wide) (n - 1) Tryz.prog 125 #[.pointer (some ⟨f, 0, none⟩), .int .i64 (q : Nat)] wr fun e w' => e = .returned (.pointer (some ⟨f, 6 + q, none⟩)) ∧ w' = wr) := fun wr q hq => callsIn_wide.2 (islot_any f q hq wr)
  have HJ0 := hid h0
  clear hY h0
  have hf9 : Fence.wide.fn 125 := trivial
  have h1n : 1 ≤ n := by omega
  refine callsIn_of_wp Tryz.func139 rfl trivial ?_ rfl
  simp only [Tryz.ntmps139, List.size_toArray, List.length_cons, List.length_nil, Nat.reduceAdd, Nat.reduceSub, Array.replicate_succ, Array.replicate_zero, List.push_toArray, List.append_toArray, List.nil_append, List.cons_append]
  gi_wp2
  clear hzb
  gi_loopw [5] (fun i wr => ∃ k : Nat, k ≤ z - a ∧ i = .int .i64 ((z : Int) - 1 - k) ∧ Hid (J (dnL z k) wr) ∧ Hid (Keeps G W wr)) (fun i _ => (intOf i + 1).toNat)
  case atStart => exact ⟨0, by omega, by simp, HJ0, Keeps.refl _ _⟩
  case round =>
    obtain ⟨k, hk, rfl, HJ, HB⟩ := hrel
    clear HJ0
    obtain ⟨cf, ca⟩ := HC.out wr HB.out
    by_cases hlt : k < z - a
    · obtain ⟨q, hq⟩ : ∃ q, q = z - 1 - k := ⟨_, rfl⟩
      have hq' : (z : Int) - 1 - (k : Int) = (q : Int) := by omega
      have hlt' : (a : Int) ≤ (q : Int) := by omega
      rw [hq']
      have HSq := hid (HS.out wr q (by omega))
      obtain ⟨fn, tmps, assign, body, hy, hR⟩ := HY.out _ q wr (by omega) HJ.out (by rw [length_dnL]; omega)
      have HR := hid hR
      have HQ := hid hq
      clear hR hq
      gi_wp2_with (gi_at_call 125; refine HSq.out.mono ?_; rintro e w9 ⟨rfl, h9⟩; obtain rfl := h9.symm; clear h9)
      refine HR.out.mono ?_
      rintro e W3 (⟨rfl, hJ3, hk3⟩ | ⟨rfl, hJx3⟩)
      · have HJ3 : Hid (J (dnL z (k + 1)) W3) := by rw [dnL_succ, ← HQ.out]; exact hJ3
        have HB3 := hid (HB.out.trans hk3 (fun i e => .inl e))
        clear hJ3 hk3
        gi_wp2
        go_roundw
        case rel => exact ⟨k + 1, by omega, by congr 1; omega, HJ3, HB3⟩
        case measure => simp [intOf]
      · have HX : Hid (Jx (dnL z (k + 1)) W3) := by rw [dnL_succ, ← HQ.out]; exact hJx3
        clear hJx3
        gi_wp2
        refine bodyPost_ret (results_none rfl _ _ _) rfl ?_
        exact ⟨⟨_, rfl⟩, .inr ⟨_, ⟨k, hlt, rfl⟩, HX.out⟩⟩
    · have hke : k = z - a := by omega
      have hge : ¬ ((a : Int) ≤ (z : Int) - 1 - (k : Int)) := by omega
      rw [hke] at HJ
      gi_wp2
      go_end0
      exact ⟨⟨_, rfl⟩, .inl HJ.out⟩
set_option maxRecDepth 100000 in
theorem irising_stops (n : Nat) (hn : 2 ≤ n) (fb ab zb f a z : Nat) (G : Nat → Prop) (hz : z ≤ 139) (w : World) (hfn : ¬ G fb) (hzn : ¬ G zb)
    (hfb : w.cell? ⟨fb, 0, none⟩ = some (.pointer (some ⟨f, 0, none⟩))) (hab : w.cell? ⟨ab, 0, none⟩ = some (.int .i64 a)) (hzb : w.cell? ⟨zb, 0, none⟩ = some (.int .i64 z)) :
    SeqStopsK Fence.wide n Tryz.prog 138 #[.pointer (some ⟨ab, 0, none⟩), .pointer (some ⟨zb, 0, none⟩), .pointer (some ⟨fb, 0, none⟩)] (fun x : Fin 139 => #[Value.pointer (some ⟨f, 6 + x.val, none⟩)]) (Keeps G) (fun ys => ys.map Fin.val = upTo a z) (fun pre => ∃ q, a ≤ q ∧ q < z ∧ pre.map Fin.val = upTo a q ++ [q]) (z - a) w := fun l J Jx W hW _ _ hY h0 => by
  have hb : Keeps (fun _ => False) w W := Keeps.of_below hW
  refine (irising1_in n hn l fb ab zb f a z G hz hfn hzn (fun pre W => ∃ p, p.map Fin.val = pre ∧ J p W) (fun pre W => ∃ p, p.map Fin.val = pre ∧ Jx p W) (fun pre x W1 hx hJ hl => ?_) W (hb.cell hfb (fun h => h)) (hb.cell hab (fun h => h)) (hb.cell hzb (fun h => h)) ⟨[], rfl, h0⟩).mono ?_
  · obtain ⟨p, rfl, hJ⟩ := hJ
    obtain ⟨fn, tmps, assign, body, hy, hR⟩ := hY p ⟨x, hx⟩ W1 hJ (by rwa [List.length_map] at hl)
    refine ⟨fn, tmps, assign, body, hy, hR.mono ?_⟩
    rintro e W' (⟨rfl, h1, h2⟩ | ⟨rfl, h1⟩)
    · exact .inl ⟨rfl, ⟨_, by rw [List.map_append]; rfl, h1⟩, h2⟩
    · exact .inr ⟨rfl, ⟨_, by rw [List.map_append]; rfl, h1⟩⟩
  · rintro e W' ⟨he, ⟨ys, rfl, p, hp, hj⟩ | ⟨pre, ⟨q, hq1, hq2, rfl⟩, p, hp, hj⟩⟩
    · exact ⟨he, .inl ⟨p, hp, hj⟩⟩
    · exact ⟨he, .inr ⟨p, ⟨q, hq1, hq2, hp⟩, hj⟩⟩
set_option maxRecDepth 100000 in
theorem ifalling_stops (n : Nat) (hn : 2 ≤ n) (fb zb ab f z a : Nat) (G : Nat → Prop) (hz : z ≤ 139) (ha : a ≤ 139) (w : World) (hfn : ¬ G fb) (han : ¬ G ab)
    (hfb : w.cell? ⟨fb, 0, none⟩ = some (.pointer (some ⟨f, 0, none⟩))) (hzb : w.cell? ⟨zb, 0, none⟩ = some (.int .i64 z)) (hab : w.cell? ⟨ab, 0, none⟩ = some (.int .i64 a)) :
    SeqStopsK Fence.wide n Tryz.prog 139 #[.pointer (some ⟨zb, 0, none⟩), .pointer (some ⟨ab, 0, none⟩), .pointer (some ⟨fb, 0, none⟩)] (fun x : Fin 139 => #[Value.pointer (some ⟨f, 6 + x.val, none⟩)]) (Keeps G) (fun ys => ys.map Fin.val = dnL z (z - a)) (fun pre => ∃ k, k < z - a ∧ pre.map Fin.val = dnL z (k + 1)) (z - a) w := fun l J Jx W hW _ _ hY h0 => by
  have hb : Keeps (fun _ => False) w W := Keeps.of_below hW
  refine (ifalling1_in n hn l fb zb ab f z a G hz ha hfn han (fun pre W => ∃ p, p.map Fin.val = pre ∧ J p W) (fun pre W => ∃ p, p.map Fin.val = pre ∧ Jx p W) (fun pre x W1 hx hJ hl => ?_) W (hb.cell hfb (fun h => h)) (hb.cell hzb (fun h => h)) (hb.cell hab (fun h => h)) ⟨[], rfl, h0⟩).mono ?_
  · obtain ⟨p, rfl, hJ⟩ := hJ
    obtain ⟨fn, tmps, assign, body, hy, hR⟩ := hY p ⟨x, hx⟩ W1 hJ (by rwa [List.length_map] at hl)
    refine ⟨fn, tmps, assign, body, hy, hR.mono ?_⟩
    rintro e W' (⟨rfl, h1, h2⟩ | ⟨rfl, h1⟩)
    · exact .inl ⟨rfl, ⟨_, by rw [List.map_append]; rfl, h1⟩, h2⟩
    · exact .inr ⟨rfl, ⟨_, by rw [List.map_append]; rfl, h1⟩⟩
  · rintro e W' ⟨he, ⟨ys, rfl, p, hp, hj⟩ | ⟨pre, ⟨k, hk, rfl⟩, p, hp, hj⟩⟩
    · exact ⟨he, .inl ⟨p, hp, hj⟩⟩
    · exact ⟨he, .inr ⟨p, ⟨k, hk, hp⟩, hj⟩⟩
end Go.Proofs.YtnghjgmpjniopaaGreat
/- The parts of a file: the iterator. -/
namespace Go.Proofs.YtnghjgmpjniopaaGreat
open Go.RowKit Go.Shelf
attribute [local go_sem] Oper.semAt_some
/-- The slot of the k-th page of bytes. -/
def dslot (k : Nat) : Nat := if k < 10 then k else k + 1
theorem need_dslot (k : Nat) (hk : k < 138) : needZ (((k * 512 + 1 : Nat)) : Int) = dslot k + 1 := by
  unfold needZ needN fillN dslot
  rw [if_neg (by omega), Int.toNat_natCast, if_neg (by omega)]
  by_cases h : k < 10
  · rw [if_neg (by omega), if_pos h]; omega
  · rw [if_pos (by omega), if_neg h]; omega
theorem dslot_lt (k : Nat) (hk : k < 138) : dslot k < 139 := by unfold dslot; split <;> omega
/-- What is yielded of the k-th page. -/
def partV (sl : List Nat) (a z k : Nat) : Array Value := #[.int .i64 (sl.getD (dslot k) 0 : Nat), .agg #[.int .i64 (a - k * 512 : Nat), .int .i64 (min (z - k * 512) 512 : Nat)]]
set_option maxRecDepth 100000 in
theorem iparts_any (f a z : Nat) (w : World) : Calls Tryz.prog 92 #[.pointer (some ⟨f, 0, none⟩), .int .i64 a, .int .i64 z] w fun e w' => e = .returned (.func (.func 124) #[] #[.pointer (some ⟨w.heap.size + 1, 0, none⟩), .pointer (some ⟨w.heap.size + 1 + 1, 0, none⟩), .pointer (some ⟨w.heap.size, 0, none⟩)]) ∧ w' = ((w.alloc (.cells #[.pointer (some ⟨f, 0, none⟩)] 101)).alloc (.cells #[.int .i64 a] 3)).alloc (.cells #[.int .i64 z] 3) := by
  go_enter Tryz.func92, Tryz.ntmps92
  go_wp2
  go_ret
  exact ⟨by simp, rfl⟩
set_option maxRecDepth 100000 in
set_option maxHeartbeats 4000000 in
theorem iparts1_in (n : Nat) (hn : 2 ≤ n) (l fb ab zb f m a z : Nat) (S : FileS) (hS : S.slots.length = 139) (G : Nat → Prop) (hz : z ≤ 70656) (haz : a ≤ 70656) (hfn : ¬ G fb) (han : ¬ G ab) (hzn : ¬ G zb) (hfG : ¬ G f) (J Jx : List Nat → World → Prop)
    (hJa : ∀ pre W W', J pre W → Below W.heap.size W W' → J pre W')
    (hY : ∀ pre (x : Nat) W, a / 512 ≤ x → x < fillN z → J pre W → pre.length < fillN z - a / 512 → YieldAt Fence.wide (n - 1) Tryz.prog l (partV S.slots a z x) W fun e W' =>
      (e = .returned (.bool true) ∧ J (pre ++ [x]) W' ∧ Keeps G W W') ∨ (e = .returned (.bool false) ∧ Jx (pre ++ [x]) W'))
    (W : World) (hf : fileB W f m S) (hfb : W.cell? ⟨fb, 0, none⟩ = some (.pointer (some ⟨f, 0, none⟩))) (hab : W.cell? ⟨ab, 0, none⟩ = some (.int .i64 a)) (hzb : W.cell? ⟨zb, 0, none⟩ = some (.int .i64 z)) (h0 : J [] W) :
    CallsIn Fence.wide n Tryz.prog 124 #[.func (.yield l) #[] #[], .pointer (some ⟨ab, 0, none⟩), .pointer (some ⟨zb, 0, none⟩), .pointer (some ⟨fb, 0, none⟩)] W fun e W' => (∃ v, e = .returned v) ∧
      ((∃ ys, ys = upTo (a / 512) (fillN z) ∧ J ys W') ∨ (∃ pre, (∃ q, a / 512 ≤ q ∧ q < fillN z ∧ pre = upTo (a / 512) q ++ [q]) ∧ Jx pre W')) := by
  have HY := hid hY
  have HJa := hid hJa
  have HC : Hid (∀ wr, Keeps G W wr → wr.cell? ⟨fb, 0, none⟩ = some (.pointer (some ⟨f, 0, none⟩)) ∧ wr.cell? ⟨ab, 0, none⟩ = some (.int .i64 a) ∧ wr.cell? ⟨zb, 0, none⟩ = some (.int .i64 z) ∧ fileB wr f m S) := fun wr hb => ⟨hb.cell hfb hfn, hb.cell hab han, hb.cell hzb hzn, hf.keep hb hfG⟩
  have HSl : Hid (∀ wr q, q < 139 → CallsIn (Fence.wide) (n - 1) Tryz.prog 125 #[.pointer (some ⟨f, 0, none⟩), .int .i64 (q : Nat)] wr fun e w' => e = .returned (.pointer (some ⟨f, 6 + q, none⟩)) ∧ w' = wr) := fun wr q hq => callsIn_wide.2 (islot_any f q hq wr)
  have HFi : Hid (∀ wr, CallsIn (Fence.wide) (n - 1) Tryz.prog 43 #[.int .i64 z] wr fun e w' => e = .returned (.int .i64 (fillN z : Nat)) ∧ w' = wr) := fun wr => callsIn_wide.2 (ifilled_any z (by omega) wr)
  have HNe : Hid (∀ wr (q : Nat), q < 138 → CallsIn (Fence.wide) (n - 1) Tryz.prog 13 #[.int .i64 ((q * 512 + 1 : Nat) : Int)] wr fun e w' => e = .returned (.int .i64 ((dslot q + 1 : Nat) : Int)) ∧ w' = wr) := fun wr q hq => by
    have := iNeed_any (((q * 512 + 1 : Nat)) : Int) wr
    rw [need_dslot q hq] at this
    exact callsIn_wide.2 this
  have HJ0 := hid h0
  have hfz : fillN z ≤ 138 := by unfold fillN; omega
  have HS := hid hS
  clear hY h0 hJa hS
  have hf9 : Fence.wide.fn 125 := trivial
  have hf8 : Fence.wide.fn 43 := trivial
  have hf7 : Fence.wide.fn 13 := trivial
  have h1n : 1 ≤ n := by omega
  have hmz : (z : Int) ≤ 70656 := by omega
  refine callsIn_of_wp Tryz.func124 rfl trivial ?_ rfl
  simp only [Tryz.ntmps124, List.size_toArray, List.length_cons, List.length_nil, Nat.reduceAdd, Nat.reduceSub, Array.replicate_succ, Array.replicate_zero, List.push_toArray, List.append_toArray, List.nil_append, List.cons_append]
  have EA : Hid ((a : Int) / 512 = ((a / 512 : Nat) : Int)) := by unfold Hid; omega
  gi_wp2
  rw [EA.out]
  clear EA
  obtain ⟨a5, ha5⟩ : ∃ a5, a5 = a / 512 := ⟨_, rfl⟩
  rw [← ha5]
  have HA5 := hid ha5
  clear ha5
  gi_loopw [5] (fun i wr => ∃ q : Nat, a5 ≤ q ∧ (q ≤ fillN z ∨ q = a5) ∧ i = .int .i64 q ∧ Hid (J (upTo a5 q) wr) ∧ Hid (Keeps G W wr)) (fun i _ => fillN z - (intOf i).toNat)
  case atStart => exact ⟨a5, Nat.le_refl _, .inr rfl, rfl, by rw [upTo_none]; exact HJ0, Keeps.refl _ _⟩
  case round =>
    obtain ⟨q, hq1, hq2, rfl, HJ, HB⟩ := hrel
    clear HJ0
    obtain ⟨cf, ca, cz, hfl⟩ := HC.out wr HB.out
    have HFl := hid hfl
    clear hfl
    have HFq := hid (HFi.out wr)
    generalize hfz' : fillN z = fz at *
    by_cases hlt : q < fz
    · have hlt' : (q : Int) < (fz : Int) := by omega
      have hNq := HNe.out wr q (by omega)
      obtain ⟨ds, hds⟩ : ∃ ds, ds = dslot q := ⟨_, rfl⟩
      rw [← hds] at hNq
      have HNq := hid hNq
      have EQ1 : Hid ((q : Int) * 512 + 1 = ((q * 512 + 1 : Nat) : Int)) := by unfold Hid; omega
      have HMin : Hid (min (z : Int) 70656 = (z : Int)) := by unfold Hid; omega
      have HSq := hid (fun W => HSl.out W ds (by rw [hds]; exact dslot_lt q (by omega)))
      have hd138 : (ds : Int) ≤ 138 := by have := dslot_lt q (by omega); omega
      have hd0 : (0 : Int) ≤ (ds : Int) := by omega
      have HDs := hid hds
      clear hNq hds
      have HV : Hid (max ((a : Int) - (q : Int) * 512) 0 = ((a - q * 512 : Nat) : Int) ∧ min ((z : Int) - (q : Int) * 512) 512 = ((min (z - q * 512) 512 : Nat) : Int)) := by
        have hzq : q * 512 < z := by rw [← hfz'] at hlt; unfold fillN at hlt; omega
        exact ⟨by omega, by omega⟩
      gi_wp2_with (first
        | (gi_at_call 43; rw [HMin.out]; refine HFq.out.mono ?_; rintro e w9 ⟨rfl, h9⟩; obtain rfl := h9.symm; clear h9)
        | (gi_at_call 13; rw [EQ1.out]; refine HNq.out.mono ?_; rintro e w9 ⟨rfl, h9⟩; obtain rfl := h9.symm; clear h9))
      rw [HV.out.1, HV.out.2]
      obtain ⟨pa, hpa⟩ : ∃ pa, pa = a - q * 512 := ⟨_, rfl⟩
      obtain ⟨pz, hpz⟩ : ∃ pz, pz = min (z - q * 512) 512 := ⟨_, rfl⟩
      rw [← hpa, ← hpz]
      have HPA := hid hpa
      have HPZ := hid hpz
      have hbp : Below wr.heap.size wr (wr.alloc (.cells #[.int .i64 pa, .int .i64 pz] 165)).drew := ((Below.refl _ wr).alloc (Nat.le_refl _) _).drew
      have e0 : (wr.alloc (.cells #[.int .i64 pa, .int .i64 pz] 165)).drew.cell? ⟨wr.heap.size, 0, none⟩ = some (.int .i64 pa) := cell_of_block (block_new wr (.cells #[.int .i64 pa, .int .i64 pz] 165)) 0
      have e1 : (wr.alloc (.cells #[.int .i64 pa, .int .i64 pz] 165)).drew.cell? ⟨wr.heap.size, 1, none⟩ = some (.int .i64 pz) := cell_of_block (block_new wr (.cells #[.int .i64 pa, .int .i64 pz] 165)) 1
      have hfw := HFl.out.below hbp
      have hsl : ds < S.slots.length := by rw [HS.out]; omega
      have e2 := hfw.slot ds hsl
      have e3 : (wr.alloc (.cells #[.int .i64 pa, .int .i64 pz] 165)).drew.cell? ⟨fb, 0, none⟩ = some (.pointer (some ⟨f, 0, none⟩)) := (hbp.cell (World.block_lt_of_cell? wr _ cf)).trans cf
      have HJp := hid (HJa.out _ _ _ HJ.out hbp)
      have HBp := hid hbp
      have hpv : partV S.slots a z q = #[.int .i64 (S.slots[ds] : Nat), .agg #[.int .i64 pa, .int .i64 pz]] := by
        unfold partV
        rw [← HDs.out, ← hpa, ← hpz, List.getD_eq_getElem?_getD, List.getElem?_eq_getElem hsl]; rfl
      obtain ⟨fn, tmps, assign, body, hy, hR⟩ := HY.out _ q _ (by rw [← HA5.out]; exact hq1) hlt HJp.out (by rw [length_upTo, ← HA5.out]; omega)
      rw [hpv] at hy
      have HR := hid hR
      clear hbp hfw hpa hpz cf ca cz hR hpv
      refine wpIn_region_any (by kernel_rfl) ?_
      show wpAnyIn _ _ _ _ _ _ _ _ _ (wr.alloc (.cells #[.int .i64 pa, .int .i64 pz] 165)).drew
      generalize (wr.alloc (.cells #[.int .i64 pa, .int .i64 pz] 165)).drew = wp at *
      generalize hsd : S.slots[ds] = sd at *
      refine wpAnyIn_take (i := 0) (v := .func (.yield l) #[] #[]) rfl rfl (by kernel_rfl) (by kernel_rfl) (by kernel_rfl) (fun _ _ _ h => h) ⟨Or.inl ⟨by rfl, fun W => rfl⟩, fun W => rfl⟩ ?_
      try simp only [List.getElem_toArray, List.getElem_cons_zero, Act.put, List.setIfInBounds_toArray, List.set_cons_zero, List.set_cons_succ]
      refine wpAnyIn_take (i := 2) (v := .int .i64 ds) rfl rfl (by kernel_rfl) (by kernel_rfl) (by kernel_rfl) (fun _ _ _ h => h) ⟨Or.inl ⟨by rfl, fun W => rfl⟩, fun W => rfl⟩ ?_
      try simp only [List.getElem_toArray, List.getElem_cons_succ, List.getElem_cons_zero, Act.put, List.setIfInBounds_toArray, List.set_cons_zero, List.set_cons_succ]
      -- ORDERS
      refine wpAnyIn_ready (rs := [1, 6]) (by kernel_rfl) (by simp) (BigFrame.allReadyIn_want rfl rfl (fun K hK => ?_) (BigFrame.allReadyIn_want rfl rfl (fun K hK => ?_) AllReadyIn.nil))
      · try simp only [List.getElem_toArray, List.getElem_cons_succ, List.getElem_cons_zero]
        gi_big_op
        refine hK _ _ ?_
        clear hK K
        refine wpAnyIn_ready (rs := [3, 6]) (by kernel_rfl) (by simp) (BigFrame.allReadyIn_want rfl rfl (fun K hK => ?_) (BigFrame.allReadyIn_want rfl rfl (fun K hK => ?_) AllReadyIn.nil))
        · try simp only [List.getElem_toArray, List.getElem_cons_succ, List.getElem_cons_zero]
          refine ⟨fun _ _ => trivial, ?_⟩
          go_simp
          refine (HSq.out wp).mono ?_
          rintro e w9 ⟨rfl, h9⟩
          obtain rfl := h9.symm
          clear h9
          refine hK _ _ ?_
          clear hK K
          refine wpAnyIn_take (i := 4) (v := .pointer (some ⟨f, 6 + ds, none⟩)) rfl rfl (by kernel_rfl) (by kernel_rfl) (by kernel_rfl) (fun _ _ _ h => h) ⟨Or.inl ⟨by rfl, fun W => rfl⟩, fun W => rfl⟩ ?_
          try simp only [List.getElem_toArray, List.getElem_cons_succ, List.getElem_cons_zero, Act.put, List.setIfInBounds_toArray, List.set_cons_zero, List.set_cons_succ]
          refine wpAnyIn_ready (rs := [5, 6]) (by kernel_rfl) (by simp) (BigFrame.allReadyIn_want rfl rfl (fun K hK => ?_) (BigFrame.allReadyIn_want rfl rfl (fun K hK => ?_) AllReadyIn.nil))
          · try simp only [List.getElem_toArray, List.getElem_cons_succ, List.getElem_cons_zero]
            gi_big_op
            refine hK _ _ ?_
            clear hK K
            refine wpAnyIn_ready (rs := [6]) (by kernel_rfl) (by simp) (BigFrame.allReadyIn_want rfl rfl (fun K hK => ?_) AllReadyIn.nil)
            try simp only [List.getElem_toArray, List.getElem_cons_succ, List.getElem_cons_zero]
            gi_big_op
            refine hK _ _ ?_
            clear hK K
            refine wpAnyIn_ready (rs := [7]) (by kernel_rfl) (by simp) (BigFrame.allReadyIn_want rfl rfl (fun K hK => ?_) AllReadyIn.nil)
            try simp only [List.getElem_toArray, List.getElem_cons_succ, List.getElem_cons_zero]
            refine ⟨fun _ _ => trivial, ?_⟩
            go_simp
            refine HR.out.mono ?_
            clear HR
            rintro e W3 (⟨rfl, hJ3, hk3⟩ | ⟨rfl, hJx3⟩)
            · have HJ3 : Hid (J (upTo a5 (q + 1)) W3) := by rw [upTo_succ hq1]; exact hJ3
              have HB3 : Hid (Keeps G W W3) := (HB.out.trans (Keeps.of_below HBp.out : Keeps G wr wp) (fun i e => .inl e)).trans hk3 (fun i e => .inl e)
              clear hJ3 hk3
              refine hK _ _ ?_
              clear hK K
              refine wpAnyIn_take (i := 8) (v := .bool false) rfl rfl (by kernel_rfl) (by kernel_rfl) (by kernel_rfl) (fun _ _ _ h => h) ⟨Or.inl ⟨by rfl, fun W => rfl⟩, fun W => rfl⟩ ?_
              try simp only [List.getElem_toArray, List.getElem_cons_succ, List.getElem_cons_zero, Act.put, List.setIfInBounds_toArray, List.set_cons_zero, List.set_cons_succ]
              refine wpAnyIn_done (by kernel_rfl) ?_ _
              gi_wp2
              go_roundw
              case rel => exact ⟨q + 1, by omega, .inl (by omega), by go_num, HJ3, HB3⟩
              case measure => simp [intOf]; omega
            · have HX := hid hJx3
              clear hJx3
              refine hK _ _ ?_
              clear hK K
              refine wpAnyIn_take (i := 8) (v := .bool true) rfl rfl (by kernel_rfl) (by kernel_rfl) (by kernel_rfl) (fun _ _ _ h => h) ⟨Or.inl ⟨by rfl, fun W => rfl⟩, fun W => rfl⟩ ?_
              try simp only [List.getElem_toArray, List.getElem_cons_succ, List.getElem_cons_zero, Act.put, List.setIfInBounds_toArray, List.set_cons_zero, List.set_cons_succ]
              refine wpAnyIn_done (by kernel_rfl) ?_ _
              gi_wp2
              refine bodyPost_ret (results_none rfl _ _ _) rfl ?_
              exact ⟨⟨_, rfl⟩, .inr ⟨_, ⟨q, by rw [← HA5.out]; exact hq1, by rw [hfz']; exact hlt, by rw [← HA5.out]⟩, HX.out⟩⟩
          · try simp only [List.getElem_toArray, List.getElem_cons_succ, List.getElem_cons_zero]
            gi_big_op
            refine hK _ _ ?_
            clear hK K
            refine wpAnyIn_ready (rs := [5]) (by kernel_rfl) (by simp) (BigFrame.allReadyIn_want rfl rfl (fun K hK => ?_) AllReadyIn.nil)
            try simp only [List.getElem_toArray, List.getElem_cons_succ, List.getElem_cons_zero]
            gi_big_op
            refine hK _ _ ?_
            clear hK K
            refine wpAnyIn_ready (rs := [7]) (by kernel_rfl) (by simp) (BigFrame.allReadyIn_want rfl rfl (fun K hK => ?_) AllReadyIn.nil)
            try simp only [List.getElem_toArray, List.getElem_cons_succ, List.getElem_cons_zero]
            refine ⟨fun _ _ => trivial, ?_⟩
            go_simp
            refine HR.out.mono ?_
            clear HR
            rintro e W3 (⟨rfl, hJ3, hk3⟩ | ⟨rfl, hJx3⟩)
            · have HJ3 : Hid (J (upTo a5 (q + 1)) W3) := by rw [upTo_succ hq1]; exact hJ3
              have HB3 : Hid (Keeps G W W3) := (HB.out.trans (Keeps.of_below HBp.out : Keeps G wr wp) (fun i e => .inl e)).trans hk3 (fun i e => .inl e)
              clear hJ3 hk3
              refine hK _ _ ?_
              clear hK K
              refine wpAnyIn_take (i := 8) (v := .bool false) rfl rfl (by kernel_rfl) (by kernel_rfl) (by kernel_rfl) (fun _ _ _ h => h) ⟨Or.inl ⟨by rfl, fun W => rfl⟩, fun W => rfl⟩ ?_
              try simp only [List.getElem_toArray, List.getElem_cons_succ, List.getElem_cons_zero, Act.put, List.setIfInBounds_toArray, List.set_cons_zero, List.set_cons_succ]
              refine wpAnyIn_done (by kernel_rfl) ?_ _
              gi_wp2
              go_roundw
              case rel => exact ⟨q + 1, by omega, .inl (by omega), by go_num, HJ3, HB3⟩
              case measure => simp [intOf]; omega
            · have HX := hid hJx3
              clear hJx3
              refine hK _ _ ?_
              clear hK K
              refine wpAnyIn_take (i := 8) (v := .bool true) rfl rfl (by kernel_rfl) (by kernel_rfl) (by kernel_rfl) (fun _ _ _ h => h) ⟨Or.inl ⟨by rfl, fun W => rfl⟩, fun W => rfl⟩ ?_
              try simp only [List.getElem_toArray, List.getElem_cons_succ, List.getElem_cons_zero, Act.put, List.setIfInBounds_toArray, List.set_cons_zero, List.set_cons_succ]
              refine wpAnyIn_done (by kernel_rfl) ?_ _
              gi_wp2
              refine bodyPost_ret (results_none rfl _ _ _) rfl ?_
              exact ⟨⟨_, rfl⟩, .inr ⟨_, ⟨q, by rw [← HA5.out]; exact hq1, by rw [hfz']; exact hlt, by rw [← HA5.out]⟩, HX.out⟩⟩
        · try simp only [List.getElem_toArray, List.getElem_cons_succ, List.getElem_cons_zero]
          gi_big_op
          refine hK _ _ ?_
          clear hK K
          refine wpAnyIn_ready (rs := [3]) (by kernel_rfl) (by simp) (BigFrame.allReadyIn_want rfl rfl (fun K hK => ?_) AllReadyIn.nil)
          try simp only [List.getElem_toArray, List.getElem_cons_succ, List.getElem_cons_zero]
          refine ⟨fun _ _ => trivial, ?_⟩
          go_simp
          refine (HSq.out wp).mono ?_
          rintro e w9 ⟨rfl, h9⟩
          obtain rfl := h9.symm
          clear h9
          refine hK _ _ ?_
          clear hK K
          refine wpAnyIn_take (i := 4) (v := .pointer (some ⟨f, 6 + ds, none⟩)) rfl rfl (by kernel_rfl) (by kernel_rfl) (by kernel_rfl) (fun _ _ _ h => h) ⟨Or.inl ⟨by rfl, fun W => rfl⟩, fun W => rfl⟩ ?_
          try simp only [List.getElem_toArray, List.getElem_cons_succ, List.getElem_cons_zero, Act.put, List.setIfInBounds_toArray, List.set_cons_zero, List.set_cons_succ]
          refine wpAnyIn_ready (rs := [5]) (by kernel_rfl) (by simp) (BigFrame.allReadyIn_want rfl rfl (fun K hK => ?_) AllReadyIn.nil)
          try simp only [List.getElem_toArray, List.getElem_cons_succ, List.getElem_cons_zero]
          gi_big_op
          refine hK _ _ ?_
          clear hK K
          refine wpAnyIn_ready (rs := [7]) (by kernel_rfl) (by simp) (BigFrame.allReadyIn_want rfl rfl (fun K hK => ?_) AllReadyIn.nil)
          try simp only [List.getElem_toArray, List.getElem_cons_succ, List.getElem_cons_zero]
          refine ⟨fun _ _ => trivial, ?_⟩
          go_simp
          refine HR.out.mono ?_
          clear HR
          rintro e W3 (⟨rfl, hJ3, hk3⟩ | ⟨rfl, hJx3⟩)
          · have HJ3 : Hid (J (upTo a5 (q + 1)) W3) := by rw [upTo_succ hq1]; exact hJ3
            have HB3 : Hid (Keeps G W W3) := (HB.out.trans (Keeps.of_below HBp.out : Keeps G wr wp) (fun i e => .inl e)).trans hk3 (fun i e => .inl e)
            clear hJ3 hk3
            refine hK _ _ ?_
            clear hK K
            refine wpAnyIn_take (i := 8) (v := .bool false) rfl rfl (by kernel_rfl) (by kernel_rfl) (by kernel_rfl) (fun _ _ _ h => h) ⟨Or.inl ⟨by rfl, fun W => rfl⟩, fun W => rfl⟩ ?_
            try simp only [List.getElem_toArray, List.getElem_cons_succ, List.getElem_cons_zero, Act.put, List.setIfInBounds_toArray, List.set_cons_zero, List.set_cons_succ]
            refine wpAnyIn_done (by kernel_rfl) ?_ _
            gi_wp2
            go_roundw
            case rel => exact ⟨q + 1, by omega, .inl (by omega), by go_num, HJ3, HB3⟩
            case measure => simp [intOf]; omega
          · have HX := hid hJx3
            clear hJx3
            refine hK _ _ ?_
            clear hK K
            refine wpAnyIn_take (i := 8) (v := .bool true) rfl rfl (by kernel_rfl) (by kernel_rfl) (by kernel_rfl) (fun _ _ _ h => h) ⟨Or.inl ⟨by rfl, fun W => rfl⟩, fun W => rfl⟩ ?_
            try simp only [List.getElem_toArray, List.getElem_cons_succ, List.getElem_cons_zero, Act.put, List.setIfInBounds_toArray, List.set_cons_zero, List.set_cons_succ]
            refine wpAnyIn_done (by kernel_rfl) ?_ _
            gi_wp2
            refine bodyPost_ret (results_none rfl _ _ _) rfl ?_
            exact ⟨⟨_, rfl⟩, .inr ⟨_, ⟨q, by rw [← HA5.out]; exact hq1, by rw [hfz']; exact hlt, by rw [← HA5.out]⟩, HX.out⟩⟩
      · try simp only [List.getElem_toArray, List.getElem_cons_succ, List.getElem_cons_zero]
        gi_big_op
        refine hK _ _ ?_
        clear hK K
        refine wpAnyIn_ready (rs := [1]) (by kernel_rfl) (by simp) (BigFrame.allReadyIn_want rfl rfl (fun K hK => ?_) AllReadyIn.nil)
        try simp only [List.getElem_toArray, List.getElem_cons_succ, List.getElem_cons_zero]
        gi_big_op
        refine hK _ _ ?_
        clear hK K
        refine wpAnyIn_ready (rs := [3]) (by kernel_rfl) (by simp) (BigFrame.allReadyIn_want rfl rfl (fun K hK => ?_) AllReadyIn.nil)
        try simp only [List.getElem_toArray, List.getElem_cons_succ, List.getElem_cons_zero]
        refine ⟨fun _ _ => trivial, ?_⟩
        go_simp
        refine (HSq.out wp).mono ?_
        rintro e w9 ⟨rfl, h9⟩
        obtain rfl := h9.symm
        clear h9
        refine hK _ _ ?_
        clear hK K
        refine wpAnyIn_take (i := 4) (v := .pointer (some ⟨f, 6 + ds, none⟩)) rfl rfl (by kernel_rfl) (by kernel_rfl) (by kernel_rfl) (fun _ _ _ h => h) ⟨Or.inl ⟨by rfl, fun W => rfl⟩, fun W => rfl⟩ ?_
        try simp only [List.getElem_toArray, List.getElem_cons_succ, List.getElem_cons_zero, Act.put, List.setIfInBounds_toArray, List.set_cons_zero, List.set_cons_succ]
        refine wpAnyIn_ready (rs := [5]) (by kernel_rfl) (by simp) (BigFrame.allReadyIn_want rfl rfl (fun K hK => ?_) AllReadyIn.nil)
        try simp only [List.getElem_toArray, List.getElem_cons_succ, List.getElem_cons_zero]
        gi_big_op
        refine hK _ _ ?_
        clear hK K
        refine wpAnyIn_ready (rs := [7]) (by kernel_rfl) (by simp) (BigFrame.allReadyIn_want rfl rfl (fun K hK => ?_) AllReadyIn.nil)
        try simp only [List.getElem_toArray, List.getElem_cons_succ, List.getElem_cons_zero]
        refine ⟨fun _ _ => trivial, ?_⟩
        go_simp
        refine HR.out.mono ?_
        clear HR
        rintro e W3 (⟨rfl, hJ3, hk3⟩ | ⟨rfl, hJx3⟩)
        · have HJ3 : Hid (J (upTo a5 (q + 1)) W3) := by rw [upTo_succ hq1]; exact hJ3
          have HB3 : Hid (Keeps G W W3) := (HB.out.trans (Keeps.of_below HBp.out : Keeps G wr wp) (fun i e => .inl e)).trans hk3 (fun i e => .inl e)
          clear hJ3 hk3
          refine hK _ _ ?_
          clear hK K
          refine wpAnyIn_take (i := 8) (v := .bool false) rfl rfl (by kernel_rfl) (by kernel_rfl) (by kernel_rfl) (fun _ _ _ h => h) ⟨Or.inl ⟨by rfl, fun W => rfl⟩, fun W => rfl⟩ ?_
          try simp only [List.getElem_toArray, List.getElem_cons_succ, List.getElem_cons_zero, Act.put, List.setIfInBounds_toArray, List.set_cons_zero, List.set_cons_succ]
          refine wpAnyIn_done (by kernel_rfl) ?_ _
          gi_wp2
          go_roundw
          case rel => exact ⟨q + 1, by omega, .inl (by omega), by go_num, HJ3, HB3⟩
          case measure => simp [intOf]; omega
        · have HX := hid hJx3
          clear hJx3
          refine hK _ _ ?_
          clear hK K
          refine wpAnyIn_take (i := 8) (v := .bool true) rfl rfl (by kernel_rfl) (by kernel_rfl) (by kernel_rfl) (fun _ _ _ h => h) ⟨Or.inl ⟨by rfl, fun W => rfl⟩, fun W => rfl⟩ ?_
          try simp only [List.getElem_toArray, List.getElem_cons_succ, List.getElem_cons_zero, Act.put, List.setIfInBounds_toArray, List.set_cons_zero, List.set_cons_succ]
          refine wpAnyIn_done (by kernel_rfl) ?_ _
          gi_wp2
          refine bodyPost_ret (results_none rfl _ _ _) rfl ?_
          exact ⟨⟨_, rfl⟩, .inr ⟨_, ⟨q, by rw [← HA5.out]; exact hq1, by rw [hfz']; exact hlt, by rw [← HA5.out]⟩, HX.out⟩⟩
    · have hge : ¬ ((q : Int) < (fz : Int)) := by omega
      have hup : upTo a5 q = upTo (a / 512) fz := by
        rw [← HA5.out]
        rcases hq2 with h | h
        · rw [show q = fz by omega]
        · rw [h, upTo_none]; unfold upTo; rw [show fz - a5 = 0 by omega]; rfl
      have HMin : Hid (min (z : Int) 70656 = (z : Int)) := by unfold Hid; omega
      rw [hup] at HJ
      gi_wp2_with (gi_at_call 43; rw [HMin.out]; refine HFq.out.mono ?_; rintro e w9 ⟨rfl, h9⟩; obtain rfl := h9.symm; clear h9)
      go_end0
      rw [← hfz'] at HJ
      exact ⟨⟨_, rfl⟩, .inl ⟨_, rfl, HJ.out⟩⟩
end Go.Proofs.YtnghjgmpjniopaaGreat
