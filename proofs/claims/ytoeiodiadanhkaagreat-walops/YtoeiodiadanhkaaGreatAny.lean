/- A disk, or a Fork of one, and a bound of the blocks that it writes. -/
import Derived.Test.YtoeiodiadanhkaaGreatFork
import Derived.Test.YtoeiodiadanhkaaGreatOpsSec
import Derived.Test.YtoeiodiadanhkaaGreatJoined1
namespace Go.Proofs.YtoeiodiadanhkaaGreat
open Go.RowKit
/-- A disk, cut or its own; all that it writes lies in F. -/
def AnyAt (w : World) (d : DL) (S : DiskS) (F : Nat → Prop) : Prop := (CutIn w d S ∧ ∀ i, d.cutFoot S.waits i → F i) ∨ (DiskIn w d S ∧ ∀ i, d.foot S.waits i → F i)
theorem AnyAt.rd {w : World} {d : DL} {S : DiskS} {F : Nat → Prop} (h : AnyAt w d S F) : DiskRd w d S := by
  rcases h with h | h
  · exact h.1.rd
  · exact h.1.rd
theorem AnyAt.below {w w' : World} {d : DL} {S : DiskS} {F : Nat → Prop} (h : AnyAt w d S F) (k : Below w.heap.size w w') : AnyAt w' d S F := by
  rcases h with h | h
  · exact .inl ⟨h.1.below k, h.2⟩
  · exact .inr ⟨h.1.below k, h.2⟩
theorem AnyAt.mono {w : World} {d : DL} {S : DiskS} {F G : Nat → Prop} (h : AnyAt w d S F) (hG : ∀ i, F i → G i) : AnyAt w d S G := by
  rcases h with h | h
  · exact .inl ⟨h.1, fun i hi => hG i (h.2 i hi)⟩
  · exact .inr ⟨h.1, fun i hi => hG i (h.2 i hi)⟩
theorem AnyAt.next {w w1 w2 : World} {d : DL} {S : DiskS} {F : Nat → Prop} (h : AnyAt w2 d S (fun i => (F i ∨ (w.heap.size ≤ i ∧ i < w1.heap.size)) ∨ (w1.heap.size ≤ i ∧ i < w2.heap.size))) (h1 : w.heap.size ≤ w1.heap.size) (h2 : w1.heap.size ≤ w2.heap.size) : AnyAt w2 d S (fun i => F i ∨ (w.heap.size ≤ i ∧ i < w2.heap.size)) :=
  h.mono (fun i hi => by
    rcases hi with (h | h) | h
    · exact .inl h
    · exact .inr ⟨h.1, by omega⟩
    · exact .inr ⟨by omega, h.2⟩)
theorem AnyAt.later {w w1 w2 : World} {d : DL} {S : DiskS} {F : Nat → Prop} (h : AnyAt w2 d S (fun i => F i ∨ (w.heap.size ≤ i ∧ i < w1.heap.size))) (h2 : w1.heap.size ≤ w2.heap.size) : AnyAt w2 d S (fun i => F i ∨ (w.heap.size ≤ i ∧ i < w2.heap.size)) :=
  h.mono (fun i hi => hi.imp id (fun h => ⟨h.1, by omega⟩))
theorem at_flush (d : DL) (S : DiskS) (F : Nat → Prop) (w : World) (h : AnyAt w d S F) (hB : S.ops.length ≤ 1000000) :
    Calls Tryz.prog 77 #[.pointer (some ⟨d.p, 0, none⟩)] w fun e w' => e = .returned (.int .i64 0) ∧ ∃ d', d'.p = d.p ∧ AnyAt w' d' S.flushed (fun i => F i ∨ (w.heap.size ≤ i ∧ i < w'.heap.size)) ∧ Keeps F w w' := by
  rcases h with ⟨h, hf⟩ | ⟨h, hf⟩
  · refine (flush_cut d S w h hB).mono ?_
    rintro e w' ⟨rfl, d', hD, e1, e2, e3, e4⟩
    exact ⟨rfl, d', e1, .inr ⟨hD, fun i hi => (e3 i hi).imp (hf i) (fun h => ⟨h, hD.foot_lt hi⟩)⟩, e4.mono hf⟩
  · refine (flush_disk d S w h (by unfold opsMax; omega)).mono ?_
    rintro e w' ⟨rfl, d', hD, e1, e2, e3, e4⟩
    exact ⟨rfl, d', e1, .inr ⟨hD, fun i hi => (e3 i hi).imp (hf i) (fun h => ⟨h, hD.foot_lt hi⟩)⟩, e4.mono hf⟩
theorem at_write (d : DL) (S : DiskS) (F : Nat → Prop) (n : Int) (l : List UInt8) (ad : Addr) (c : Nat) (w : World) (h : AnyAt w d S F) (hB : S.ops.length ≤ 1000000) (h0 : 0 ≤ n) (h1 : n < S.safe.length) (hl : l.length = 512) (hb : bytesAt w ad l) :
    Calls Tryz.prog 76 #[.pointer (some ⟨d.p, 0, none⟩), .int .i64 n, .slice (some ad) 512 c] w fun e w' => e = .returned (.int .i64 0) ∧ ∃ d', d'.p = d.p ∧ AnyAt w' d' (S.wrote n ⟨l.toArray⟩) (fun i => F i ∨ (w.heap.size ≤ i ∧ i < w'.heap.size)) ∧ Keeps F w w' := by
  rcases h with ⟨h, hf⟩ | ⟨h, hf⟩
  · refine (write_cut_ok d S n l ad c w h hB h0 h1 hl hb).mono ?_
    rintro e w' ⟨rfl, d', hD, e1, e2, e3, e4⟩
    exact ⟨rfl, d', e1, .inr ⟨hD, fun i hi => (e3 i hi).imp (hf i) (fun h => ⟨h, hD.foot_lt hi⟩)⟩, e4.mono hf⟩
  · refine (write_ok d S n l ad c w h (by unfold opsMax; omega) h0 h1 hl hb).mono ?_
    rintro e w' ⟨rfl, d', hD, e1, e2, e3, e4⟩
    exact ⟨rfl, d', e1, .inr ⟨hD, fun i hi => (e3 i hi).imp (hf i) (fun h => ⟨h, hD.foot_lt hi⟩)⟩, e4.mono hf⟩
/-- A layout: a disk, and how many of its sectors are the log's. -/
def layV (p size : Nat) : Value := .agg #[.pointer (some ⟨p, 0, none⟩), .int .i64 size]
def pagesS (S : DiskS) (size : Nat) : Nat := S.safe.length - 1 - size
set_option maxRecDepth 100000 in
set_option maxHeartbeats 1000000 in
theorem lay_pages (d : DL) (S : DiskS) (size : Nat) (w : World) (h : DiskRd w d S) (hs : size + 1 ≤ S.safe.length) :
    Calls Tryz.prog 51 #[layV d.p size] w fun e w' => e = .returned (.int .i64 (pagesS S size : Nat)) ∧ Below w.heap.size w w' := by
  have hm := h.plates.most
  have HSe := hid (fun W hW => sectors_disk_rd d S W (h.below (w' := W) hW))
  have HP : Hid (((pagesS S size : Nat) : Int) = (S.safe.length : Int) - 1 - (size : Int)) := by unfold Hid pagesS; omega
  clear h
  unfold layV
  go_enter Tryz.func51, Tryz.ntmps51
  go_wp2_with fail
  have hb := block_new w (.cells #[.pointer (some ⟨d.p, 0, none⟩), .int .i64 size] 77)
  have HBl := hid ((Below.refl w.heap.size w).alloc (Nat.le_refl _) (.cells #[.pointer (some ⟨d.p, 0, none⟩), .int .i64 size] 77))
  have c0 : (w.alloc (.cells #[.pointer (some ⟨d.p, 0, none⟩), .int .i64 size] 77)).cell? ⟨w.heap.size, 0, none⟩ = some (.pointer (some ⟨d.p, 0, none⟩)) := cell_of_block hb 0
  have c1 : (w.alloc (.cells #[.pointer (some ⟨d.p, 0, none⟩), .int .i64 size] 77)).cell? ⟨w.heap.size, 1, none⟩ = some (.int .i64 size) := cell_of_block hb 1
  clear hb
  generalize w.alloc (.cells #[.pointer (some ⟨d.p, 0, none⟩), .int .i64 size] 77) = w1 at *
  refine wp_region_noPanic ?_
  refine wp_region_held_drew (S := fun W => W.cell? ⟨w.heap.size, 0, none⟩ = some (.pointer (some ⟨d.p, 0, none⟩)) ∧ W.cell? ⟨w.heap.size, 1, none⟩ = some (.int .i64 size)) (by kernel_rfl) ⟨c0, c1⟩ (fun hHeld => ?_)
  refine wpAnyH_take (i := 0) (v := ?_) rfl (by kernel_rfl) (by kernel_rfl) (by kernel_rfl) (fun _ _ _ h => h) (Or.inl ⟨by rfl, ?_⟩) (by assumption) ?_
  rotate_left
  · (intro W hSw; (try dsimp only at hSw); obtain ⟨s1, s2⟩ := hSw; go_simp; try with_reducible rfl)
  try simp only [List.getElem_toArray, List.getElem_cons_zero, Act.put, List.setIfInBounds_toArray, List.set_cons_zero, List.set_cons_succ]
  refine wpAnyH_take (i := 1) (v := ?_) rfl (by kernel_rfl) (by kernel_rfl) (by kernel_rfl) (fun _ _ _ h => h) (Or.inl ⟨by rfl, ?_⟩) (by assumption) ?_
  rotate_left
  · (intro W hSw; (try dsimp only at hSw); obtain ⟨s1, s2⟩ := hSw; go_simp; try with_reducible rfl)
  try simp only [List.getElem_toArray, List.getElem_cons_succ, List.getElem_cons_zero, Act.put, List.setIfInBounds_toArray, List.set_cons_zero, List.set_cons_succ]
  refine wpAnyH_take (i := 4) (v := ?_) rfl (by kernel_rfl) (by kernel_rfl) (by kernel_rfl) (fun _ _ _ h => h) (Or.inl ⟨by rfl, ?_⟩) (by assumption) ?_
  rotate_left
  · (intro W hSw; (try dsimp only at hSw); obtain ⟨s1, s2⟩ := hSw; go_simp; try with_reducible rfl)
  try simp only [List.getElem_toArray, List.getElem_cons_succ, List.getElem_cons_zero, Act.put, List.setIfInBounds_toArray, List.set_cons_zero, List.set_cons_succ]
  refine wpAnyH_take (i := 5) (v := ?_) rfl (by kernel_rfl) (by kernel_rfl) (by kernel_rfl) (fun _ _ _ h => h) (Or.inl ⟨by rfl, ?_⟩) (by assumption) ?_
  rotate_left
  · (intro W hSw; (try dsimp only at hSw); obtain ⟨s1, s2⟩ := hSw; go_simp; try with_reducible rfl)
  try simp only [List.getElem_toArray, List.getElem_cons_succ, List.getElem_cons_zero, Act.put, List.setIfInBounds_toArray, List.set_cons_zero, List.set_cons_succ]
  refine wpAnyH_ready (rs := [2]) (by kernel_rfl) (by simp) (AllReadyH.cons rfl (fun K hK => ?_) AllReadyH.nil)
  rw [if_pos (by rfl)]
  go_simp
  refine (HSe.out _ HBl.out.drew).mono ?_
  rintro e w2 ⟨rfl, h2⟩
  obtain rfl := h2.symm
  go_wp2_with fail
  refine hK.out _ _ ⟨c0, c1⟩ (fun hHeld => ?_)
  clear hK K
  try simp only [List.getElem_toArray, List.getElem_cons_succ, List.getElem_cons_zero, Act.put, List.setIfInBounds_toArray, List.set_cons_zero, List.set_cons_succ]
  refine wpAnyH_take (i := 3) (v := ?_) rfl (by kernel_rfl) (by kernel_rfl) (by kernel_rfl) (fun _ _ _ h => h) (Or.inl ⟨by rfl, ?_⟩) (by assumption) ?_
  rotate_left
  · (intro W hSw; (try dsimp only at hSw); obtain ⟨s1, s2⟩ := hSw; go_simp; try with_reducible rfl)
  try simp only [List.getElem_toArray, List.getElem_cons_succ, List.getElem_cons_zero, Act.put, List.setIfInBounds_toArray, List.set_cons_zero, List.set_cons_succ]
  refine wpAnyH_take (i := 6) (v := ?_) rfl (by kernel_rfl) (by kernel_rfl) (by kernel_rfl) (fun _ _ _ h => h) (Or.inl ⟨by rfl, ?_⟩) (by assumption) ?_
  rotate_left
  · (intro W hSw; (try dsimp only at hSw); obtain ⟨s1, s2⟩ := hSw; go_simp; try with_reducible rfl)
  try simp only [List.getElem_toArray, List.getElem_cons_succ, List.getElem_cons_zero, Act.put, List.setIfInBounds_toArray, List.set_cons_zero, List.set_cons_succ]
  refine wpAnyH_take (i := 7) (v := ?_) rfl (by kernel_rfl) (by kernel_rfl) (by kernel_rfl) (fun _ _ _ h => h) (Or.inl ⟨by rfl, ?_⟩) (by assumption) ?_
  rotate_left
  · (intro W hSw; (try dsimp only at hSw); obtain ⟨s1, s2⟩ := hSw; go_simp; try with_reducible rfl)
  try simp only [List.getElem_toArray, List.getElem_cons_succ, List.getElem_cons_zero, Act.put, List.setIfInBounds_toArray, List.set_cons_zero, List.set_cons_succ]
  refine wpAnyH_done (by kernel_rfl) ?_ _
  refine NoPanic.normal ?_
  go_wp2
  go_ret
  refine ⟨?_, HBl.out.drew⟩
  show Ending.returned (Value.int .i64 (IntKind.i64.wrap (IntKind.i64.wrap ((S.safe.length : Int) - 1) - (size : Int)))) = _
  rw [IntWalk.i64_in ((S.safe.length : Int) - 1) (by omega), IntWalk.i64_in _ (by omega), HP.out]
set_option maxRecDepth 100000 in
set_option maxHeartbeats 1000000 in
theorem lay_has (d : DL) (S : DiskS) (size : Nat) (n : Int) (w : World) (h : DiskRd w d S) (hs : size + 1 ≤ S.safe.length) :
    Calls Tryz.prog 47 #[layV d.p size, .int .i64 n] w fun e w' => e = .returned (.bool (decide (0 ≤ n ∧ n < (pagesS S size : Nat)))) ∧ Below w.heap.size w w' := by
  have HPg := hid (fun W hW => lay_pages d S size W (h.below (w' := W) hW) hs)
  unfold layV at HPg ⊢
  have hm := h.plates.most
  have hpm : pagesS S size ≤ 4096 := by unfold pagesS; omega
  clear h
  by_cases hn : n < 0
  · have hd : decide (0 ≤ n) = false := decide_eq_false (by omega)
    go_enter Tryz.func47, Tryz.ntmps47
    go_wp2
    go_ret
    refine ⟨?_, ((Below.refl w.heap.size w).alloc (Nat.le_refl _) (.cells #[.pointer (some ⟨d.p, 0, none⟩), .int .i64 size] 77))⟩
    show Ending.returned (Value.bool false) = _
    simp [hd]
  · have hd : decide (0 ≤ n) = true := decide_eq_true (by omega)
    go_enter Tryz.func47, Tryz.ntmps47
    go_wp2_with fail
    refine (HPg.out _ ((Below.refl w.heap.size w).alloc (Nat.le_refl _) (.cells #[.pointer (some ⟨d.p, 0, none⟩), .int .i64 size] 77))).mono ?_
    rintro e w2 ⟨rfl, hb2⟩
    have HB2 := hid (((Below.refl w.heap.size w).alloc (Nat.le_refl _) (.cells #[.pointer (some ⟨d.p, 0, none⟩), .int .i64 size] 77)).trans (hb2.mono (by simp)))
    clear hb2
    go_wp2
    go_ret
    refine ⟨?_, HB2.out⟩
    show Ending.returned (Value.bool (decide (n < (pagesS S size : Nat)))) = _
    simp [hd]
set_option maxRecDepth 100000 in
theorem lay_home (p size : Nat) (n : Int) (w : World) (hs : size ≤ 4096) (h0 : 0 ≤ n) (h1 : n ≤ 4096) :
    Calls Tryz.prog 49 #[layV p size, .int .i64 n] w fun e w' => e = .returned (.int .i64 (1 + (size : Int) + n)) ∧ Below w.heap.size w w' := by
  unfold layV
  go_enter Tryz.func49, Tryz.ntmps49
  go_wp2
  go_ret
  exact ⟨rfl, (Below.refl _ _).alloc (Nat.le_refl _) _⟩
set_option maxRecDepth 100000 in
theorem lay_capacity (p size : Nat) (w : World) (hs : size ≤ 4096) :
    Calls Tryz.prog 39 #[layV p size] w fun e w' => e = .returned (.int .i64 ((min size 100 : Nat) : Int)) ∧ Below w.heap.size w w' := by
  unfold layV
  go_enter Tryz.func39, Tryz.ntmps39
  go_wp2
  go_ret
  refine ⟨?_, (Below.refl _ _).alloc (Nat.le_refl _) _⟩
  show Ending.returned (Value.int .i64 (min (size : Int) 100)) = _
  rw [show ((min size 100 : Nat) : Int) = min (size : Int) 100 by omega]
end Go.Proofs.YtoeiodiadanhkaaGreat
