/- Rows that may be written: what Read tells. -/
import Derived.Test.YtkkmbgjlmdddoabGreatBaseE
import Derived.Test.YtkkmbgjlmdddoabGreatBAbortP
import Derived.Test.YtkkmbgjlmdddoabGreatImageOwn
namespace Go.Proofs.YtkkmbgjlmdddoabGreat
open Go.RowKit
/-- A row of bytes that may be written. -/
def rowU (w : World) (g : Nat) (l : List UInt8) : Prop := bytesAt w ⟨g, 0, none⟩ l ∧ (∀ j, j < l.length → w.frozen? ⟨g, j, none⟩ = false) ∧ ∃ cs fz, w.heap[g]? = some (.cells cs 5 fz) 
section
variable {w w' : World} {g : Nat} {l : List UInt8} {G : Nat → Prop}
theorem rowU.lt (h : rowU w g l) : g < w.heap.size := by obtain ⟨-, -, cs, fz, h⟩ := h; exact lt_of_heap h
theorem rowU.keep (h : rowU w g l) (k : Keeps G w w') (hg : ¬ G g) : rowU w' g l := by
  obtain ⟨h1, h2, cs, fz, h3⟩ := h
  have h5 := k.heap h3 hg
  refine ⟨fun j hj => k.cell (h1 j hj) (by rw [add_block]; exact hg), fun j hj => ?_, cs, fz, h5⟩
  have := h2 j hj
  simp only [World.frozen?, h3] at this
  simp only [World.frozen?, h5]
  exact this
theorem rowU.below (h : rowU w g l) (hb : Below w.heap.size w w') : rowU w' g l := h.keep (G := fun _ => False) (Keeps.of_below hb) (fun h => h)
theorem rowU.cell (h : rowU w g l) (j : Nat) (hj : j < l.length) : w.cell? ⟨g, j, none⟩ = some (.int .u8 (l[j].toNat : Int)) := by
  have := h.1 j hj
  rwa [Addr.add_mid, Nat.zero_add] at this
theorem rowU.frozen (h : rowU w g l) (j : Nat) (hj : j < l.length) : w.frozen? ⟨g, j, none⟩ = false := h.2.1 j hj
theorem rowU.set (h : rowU w g l) (j : Nat) (hj : j < l.length) (x : UInt8) : rowU (w.setCell ⟨g, j, none⟩ (.int .u8 (x.toNat : Int))) g (l.set j x) := by
  obtain ⟨h1, h2, cs, fz, h3⟩ := h
  have h5 := block_setCell h3 j (.int .u8 (x.toNat : Int))
  refine ⟨fun i hi => ?_, fun i hi => ?_, _, fz, h5⟩
  · have hi' : i < l.length := by simpa using hi
    have c1 := h1 i hi'
    have cj := h1 j hj
    rw [Addr.add_mid, Nat.zero_add, cell_of_block h3] at c1 cj
    rw [Addr.add_mid, Nat.zero_add, cell_of_block h5]
    have hjs : j < cs.size := (Array.getElem?_eq_some_iff.1 cj).1
    by_cases e : i = j
    · subst e
      rw [Array.getElem?_setIfInBounds_self_of_lt hjs, List.getElem_set_self]
    · rw [Array.getElem?_setIfInBounds_ne (fun h => e h.symm), c1, List.getElem_set_ne (fun h => e h.symm)]
  · have := h2 i (by simpa using hi)
    simp only [World.frozen?, h3] at this
    simp only [World.frozen?, h5]
    exact this
theorem rowU_own (h : ownB w g l) : rowU w g l := ⟨h.at, fun j _ => h.frozen j, _, _, h⟩
theorem rowU_new (w : World) (s : ByteArray) (cap : Nat) : rowU ((w.alloc (.cells (bytesRow s cap) 5 ((bytesRow s cap).size, (bytesRow s cap).size + 1))).drew) w.heap.size s.data.toList := by
  have hb := block_new w (.cells (bytesRow s cap) 5 ((bytesRow s cap).size, (bytesRow s cap).size + 1))
  have hsz := size_row s cap
  refine ⟨fun j hj => ?_, fun j hj => ?_, _, _, hb⟩
  · have hj' : j < s.data.size := by simpa using hj
    rw [Addr.add_mid, Nat.zero_add]
    refine (cell_of_block hb j).trans ?_
    rw [bytesRow_at s _ j hj']
    simp
  · have hj' : j < s.size := by simpa using hj
    have hb' : ((w.alloc (.cells (bytesRow s cap) 5 ((bytesRow s cap).size, (bytesRow s cap).size + 1))).drew).heap[w.heap.size]? = _ := hb
    simp only [World.frozen?, hb']
    simp
    omega
theorem rowU_of_row {lo n cap : Nat} (h : w.ownsRow lo 5 1 (.slice (some ⟨g, 0, none⟩) n cap) n (l.map U8)) (hl : l.length = n) : rowU w g l := by
  rcases h.2 with ⟨e, -⟩ | ⟨g', cap', cur, e, -, hh, -⟩
  · cases e
  · obtain ⟨rfl, -⟩ : g = g' ∧ cap = cap' := by simpa using e
    exact ⟨row_bytesAt h hl, fun j _ => frozen_of_block hh j, _, _, hh⟩
end
set_option maxRecDepth 100000 in
set_option maxHeartbeats 1000000 in
theorem read_row (d : DL) (S : DiskS) (n : Int) (w : World) (h : DiskRd w d S) (h0 : 0 ≤ n) (h1 : n < S.safe.length) :
    Calls Tryz.prog 90 #[.pointer (some ⟨d.p, 0, none⟩), .int .i64 n] w fun e w' => ∃ b c, e = .returned (.tuple #[.slice (some ⟨b, 0, none⟩) (seenS S.safe S.waits n).size c, .int .i64 0]) ∧ (seenS S.safe S.waits n).size ≤ c ∧ w.heap.size ≤ b ∧ rowU w' b (seenS S.safe S.waits n).data.toList ∧ Below w.heap.size w w' := by
  have c2 : w.cell? ⟨d.p, 2, none⟩ = some (.slice (some ⟨d.L.g, 0, none⟩) S.safe.length d.L.cap) := by rw [cell_of_block h.heap]; rfl
  have c3 : w.cell? ⟨d.p, 3, none⟩ = some (.map (some d.L.m)) := by rw [cell_of_block h.heap]; rfl
  have HD := hid (decide_eq_true (And.intro h0 h1))
  have HC2 := hid c2
  have HS := hid (seen_any d.p d.L S.safe S.waits S.ops.length n w c2 c3 h.plates h0 h1)
  clear h c2 c3
  generalize seenS S.safe S.waits n = s at *
  have hconv := fun W => run_bytes_of_string (P := Tryz.prog) W 116 57 5 s Tryz.underlying116 Tryz.underlying57 Tryz.underlying5
  go_enter Tryz.func90, Tryz.ntmps90
  go_wp2_with fail
  refine (has_any d.p 2 _ _ _ _ _ HC2.out).mono ?_
  rintro e w9 ⟨rfl, h9⟩
  obtain rfl := h9.symm
  rw [HD.out]
  go_wp2_with fail
  refine HS.out.mono ?_
  rintro e w9 ⟨rfl, h9⟩
  obtain rfl := h9.symm
  go_wp2
  go_returns
  refine ⟨w.heap.size, grownCap w s.size 0 5, rfl, grownCap_ge _ _ _ _, Nat.le_refl _, rowU_new w s _, ((Below.refl _ w).alloc (Nat.le_refl _) _).drew⟩
section
variable {p : Nat} {d : DL} {S : DiskS} {size rec : Nat} {F : Nat → Prop}
set_option maxRecDepth 100000 in
set_option maxHeartbeats 1000000 in
theorem log_read_row (n : Nat) (w : World) (h : LogIn w p d S size rec F) (hs : size + 1 ≤ S.safe.length) (hn : n < pagesS S size) :
    Calls Tryz.prog 59 #[.pointer (some ⟨p, 0, none⟩), .int .i64 n] w fun e w' => ∃ b c, e = .returned (.tuple #[.slice (some ⟨b, 0, none⟩) (seenS S.safe S.waits (1 + (size : Int) + (n : Int))).size c, .int .i64 0]) ∧ (seenS S.safe S.waits (1 + (size : Int) + (n : Int))).size ≤ c ∧ w.heap.size ≤ b ∧ rowU w' b (seenS S.safe S.waits (1 + (size : Int) + (n : Int))).data.toList ∧ Below w.heap.size w w' := by
  have hm := h.disk.rd.plates.most
  have hpm : 1 + size + n < S.safe.length := by unfold pagesS at hn; omega
  have HH := hid (fun W (hW : Below w.heap.size w W) => lay_has d S size (n : Int) W ((h.below hW).disk.rd) hs)
  have HHm := hid (fun W => lay_home d.p size (n : Int) W (by omega) (by omega) (by omega))
  have HR := hid (fun W (hW : Below w.heap.size w W) => read_row d S (1 + (size : Int) + (n : Int)) W ((h.below hW).disk.rd) (by omega) (by omega))
  have HC : Hid (∀ W, Below w.heap.size w W → W.cell? ⟨p, 0, none⟩ = some (.pointer (some ⟨d.p, 0, none⟩)) ∧ W.cell? ⟨p, 1, none⟩ = some (.int .i64 size)) := fun W hW => ⟨cell_of_block (h.below hW).heap 0, cell_of_block (h.below hW).heap 1⟩
  have hd : decide (0 ≤ (n : Int) ∧ (n : Int) < (pagesS S size : Nat)) = true := decide_eq_true ⟨by omega, by omega⟩
  unfold layV at HH HHm
  rw [hd] at HH
  obtain ⟨c0, c1⟩ := HC.out w (Below.refl _ _)
  clear h hd
  generalize seenS S.safe S.waits (1 + (size : Int) + (n : Int)) = T at *
  go_enter Tryz.func59, Tryz.ntmps59
  go_wp2_with fail
  refine (HH.out _ (Below.refl _ _)).mono ?_
  rintro e w1 ⟨rfl, hb1⟩
  have HB1 := hid hb1
  obtain ⟨d0, d1⟩ := HC.out w1 hb1
  clear hb1 c0 c1 HH
  go_wp2_with fail
  refine wp_region_noPanic ?_
  refine wp_region_held_drew (S := fun W => W.cell? ⟨p, 0, none⟩ = some (.pointer (some ⟨d.p, 0, none⟩)) ∧ W.cell? ⟨p, 1, none⟩ = some (.int .i64 size)) (by kernel_rfl) ⟨d0, d1⟩ (fun hHeld => ?_)
  refine wpAnyH_take (i := 0) (v := ?_) rfl (by kernel_rfl) (by kernel_rfl) (by kernel_rfl) (fun _ _ _ h => h) (Or.inl ⟨by rfl, ?_⟩) (by assumption) ?_
  rotate_left
  · (intro W hSw; (try dsimp only at hSw); obtain ⟨s0, s1⟩ := hSw; go_simp; try with_reducible rfl)
  try simp only [List.getElem_toArray, List.getElem_cons_zero, Act.put, List.setIfInBounds_toArray, List.set_cons_zero, List.set_cons_succ]
  refine wpAnyH_take (i := 1) (v := ?_) rfl (by kernel_rfl) (by kernel_rfl) (by kernel_rfl) (fun _ _ _ h => h) (Or.inl ⟨by rfl, ?_⟩) (by assumption) ?_
  rotate_left
  · (intro W hSw; (try dsimp only at hSw); obtain ⟨s0, s1⟩ := hSw; go_simp; try with_reducible rfl)
  try simp only [List.getElem_toArray, List.getElem_cons_succ, List.getElem_cons_zero, Act.put, List.setIfInBounds_toArray, List.set_cons_zero, List.set_cons_succ]
  refine wpAnyH_take (i := 2) (v := ?_) rfl (by kernel_rfl) (by kernel_rfl) (by kernel_rfl) (fun _ _ _ h => h) (Or.inl ⟨by rfl, ?_⟩) (by assumption) ?_
  rotate_left
  · (intro W hSw; (try dsimp only at hSw); obtain ⟨s0, s1⟩ := hSw; go_simp; try with_reducible rfl)
  try simp only [List.getElem_toArray, List.getElem_cons_succ, List.getElem_cons_zero, Act.put, List.setIfInBounds_toArray, List.set_cons_zero, List.set_cons_succ]
  refine wpAnyH_take (i := 3) (v := ?_) rfl (by kernel_rfl) (by kernel_rfl) (by kernel_rfl) (fun _ _ _ h => h) (Or.inl ⟨by rfl, ?_⟩) (by assumption) ?_
  rotate_left
  · (intro W hSw; (try dsimp only at hSw); obtain ⟨s0, s1⟩ := hSw; go_simp; try with_reducible rfl)
  try simp only [List.getElem_toArray, List.getElem_cons_succ, List.getElem_cons_zero, Act.put, List.setIfInBounds_toArray, List.set_cons_zero, List.set_cons_succ]
  refine wpAnyH_take (i := 4) (v := ?_) rfl (by kernel_rfl) (by kernel_rfl) (by kernel_rfl) (fun _ _ _ h => h) (Or.inl ⟨by rfl, ?_⟩) (by assumption) ?_
  rotate_left
  · (intro W hSw; (try dsimp only at hSw); obtain ⟨s0, s1⟩ := hSw; go_simp; try with_reducible rfl)
  try simp only [List.getElem_toArray, List.getElem_cons_succ, List.getElem_cons_zero, Act.put, List.setIfInBounds_toArray, List.set_cons_zero, List.set_cons_succ]
  refine wpAnyH_take (i := 5) (v := ?_) rfl (by kernel_rfl) (by kernel_rfl) (by kernel_rfl) (fun _ _ _ h => h) (Or.inl ⟨by rfl, ?_⟩) (by assumption) ?_
  rotate_left
  · (intro W hSw; (try dsimp only at hSw); obtain ⟨s0, s1⟩ := hSw; go_simp; try with_reducible rfl)
  try simp only [List.getElem_toArray, List.getElem_cons_succ, List.getElem_cons_zero, Act.put, List.setIfInBounds_toArray, List.set_cons_zero, List.set_cons_succ]
  refine wpAnyH_take (i := 6) (v := ?_) rfl (by kernel_rfl) (by kernel_rfl) (by kernel_rfl) (fun _ _ _ h => h) (Or.inl ⟨by rfl, ?_⟩) (by assumption) ?_
  rotate_left
  · (intro W hSw; (try dsimp only at hSw); obtain ⟨s0, s1⟩ := hSw; go_simp; try with_reducible rfl)
  try simp only [List.getElem_toArray, List.getElem_cons_succ, List.getElem_cons_zero, Act.put, List.setIfInBounds_toArray, List.set_cons_zero, List.set_cons_succ]
  refine wpAnyH_take (i := 7) (v := ?_) rfl (by kernel_rfl) (by kernel_rfl) (by kernel_rfl) (fun _ _ _ h => h) (Or.inl ⟨by rfl, ?_⟩) (by assumption) ?_
  rotate_left
  · (intro W hSw; (try dsimp only at hSw); obtain ⟨s0, s1⟩ := hSw; go_simp; try with_reducible rfl)
  try simp only [List.getElem_toArray, List.getElem_cons_succ, List.getElem_cons_zero, Act.put, List.setIfInBounds_toArray, List.set_cons_zero, List.set_cons_succ]
  refine wpAnyH_take (i := 8) (v := ?_) rfl (by kernel_rfl) (by kernel_rfl) (by kernel_rfl) (fun _ _ _ h => h) (Or.inl ⟨by rfl, ?_⟩) (by assumption) ?_
  rotate_left
  · (intro W hSw; (try dsimp only at hSw); obtain ⟨s0, s1⟩ := hSw; go_simp; try with_reducible rfl)
  try simp only [List.getElem_toArray, List.getElem_cons_succ, List.getElem_cons_zero, Act.put, List.setIfInBounds_toArray, List.set_cons_zero, List.set_cons_succ]
  refine wpAnyH_take (i := 9) (v := ?_) rfl (by kernel_rfl) (by kernel_rfl) (by kernel_rfl) (fun _ _ _ h => h) (Or.inl ⟨by rfl, ?_⟩) (by assumption) ?_
  rotate_left
  · (intro W hSw; (try dsimp only at hSw); obtain ⟨s0, s1⟩ := hSw; go_simp; try with_reducible rfl)
  try simp only [List.getElem_toArray, List.getElem_cons_succ, List.getElem_cons_zero, Act.put, List.setIfInBounds_toArray, List.set_cons_zero, List.set_cons_succ]
  refine wpAnyH_ready (rs := [10]) (by kernel_rfl) (by simp) (AllReadyH.cons rfl (fun K hKK => ?_) AllReadyH.nil)
  rw [if_pos (by rfl)]
  go_simp
  refine (HHm.out w1.drew).mono ?_
  clear HHm
  rintro e w2 ⟨rfl, hb2⟩
  have hB2 : Below w.heap.size w w2 := HB1.out.drew.trans (hb2.mono HB1.out.size)
  have HB2 := hid hB2
  obtain ⟨e0, e1⟩ := HC.out w2 hB2
  clear hb2 hB2
  go_wp2_with fail
  refine hKK.out _ _ ⟨e0, e1⟩ (fun hHeld => ?_)
  clear hKK K
  try simp only [List.getElem_toArray, List.getElem_cons_succ, List.getElem_cons_zero, Act.put, List.setIfInBounds_toArray, List.set_cons_zero, List.set_cons_succ]
  refine wpAnyH_ready (rs := [11]) (by kernel_rfl) (by simp) (AllReadyH.cons rfl (fun K hKK => ?_) AllReadyH.nil)
  rw [if_pos (by rfl)]
  go_simp
  refine (HR.out w2 HB2.out).mono ?_
  clear HR
  rintro e w3 ⟨b, c, rfl, hcc, hbb, hat, hb3⟩
  have hB3 : Below w.heap.size w w3 := HB2.out.trans (hb3.mono HB2.out.size)
  have HB3 := hid hB3
  have HAt := hid hat
  have hs2 := HB2.out.size
  obtain ⟨f0, f1⟩ := HC.out w3 hB3
  clear hb3 hB3 hat
  go_wp2_with fail
  refine hKK.out _ _ ⟨f0, f1⟩ (fun hHeld => ?_)
  clear hKK K
  try simp only [List.getElem_toArray, List.getElem_cons_succ, List.getElem_cons_zero, Act.put, List.setIfInBounds_toArray, List.set_cons_zero, List.set_cons_succ]
  refine wpAnyH_take (i := 12) (v := ?_) rfl (by kernel_rfl) (by kernel_rfl) (by kernel_rfl) (fun _ _ _ h => h) (Or.inl ⟨by rfl, ?_⟩) (by assumption) ?_
  rotate_left
  · (intro W hSw; (try dsimp only at hSw); obtain ⟨s0, s1⟩ := hSw; go_simp; try with_reducible rfl)
  try simp only [List.getElem_toArray, List.getElem_cons_succ, List.getElem_cons_zero, Act.put, List.setIfInBounds_toArray, List.set_cons_zero, List.set_cons_succ]
  refine wpAnyH_take (i := 13) (v := ?_) rfl (by kernel_rfl) (by kernel_rfl) (by kernel_rfl) (fun _ _ _ h => h) (Or.inl ⟨by rfl, ?_⟩) (by assumption) ?_
  rotate_left
  · (intro W hSw; (try dsimp only at hSw); obtain ⟨s0, s1⟩ := hSw; go_simp; try with_reducible rfl)
  try simp only [List.getElem_toArray, List.getElem_cons_succ, List.getElem_cons_zero, Act.put, List.setIfInBounds_toArray, List.set_cons_zero, List.set_cons_succ]
  refine wpAnyH_take (i := 14) (v := ?_) rfl (by kernel_rfl) (by kernel_rfl) (by kernel_rfl) (fun _ _ _ h => h) (Or.inl ⟨by rfl, ?_⟩) (by assumption) ?_
  rotate_left
  · (intro W hSw; (try dsimp only at hSw); obtain ⟨s0, s1⟩ := hSw; go_simp; try with_reducible rfl)
  try simp only [List.getElem_toArray, List.getElem_cons_succ, List.getElem_cons_zero, Act.put, List.setIfInBounds_toArray, List.set_cons_zero, List.set_cons_succ]
  refine wpAnyH_take (i := 15) (v := ?_) rfl (by kernel_rfl) (by kernel_rfl) (by kernel_rfl) (fun _ _ _ h => h) (Or.inl ⟨by rfl, ?_⟩) (by assumption) ?_
  rotate_left
  · (intro W hSw; (try dsimp only at hSw); obtain ⟨s0, s1⟩ := hSw; go_simp; try with_reducible rfl)
  try simp only [List.getElem_toArray, List.getElem_cons_succ, List.getElem_cons_zero, Act.put, List.setIfInBounds_toArray, List.set_cons_zero, List.set_cons_succ]
  refine wpAnyH_done (by kernel_rfl) ?_ _
  refine NoPanic.normal ?_
  go_wp2
  go_returns
  exact ⟨b, c, rfl, hcc, by omega, HAt.out, HB3.out⟩
end
/-- What Read answers of a page that is there: a row that may be written. -/
def ReadRow (w0 w w' : World) (c : Nat) (L : CLay) (C : CS) (n : Nat) (e : Ending) : Prop :=
  ∃ g cap D' u' k, e = .returned (.tuple #[.slice (some ⟨g, 0, none⟩) 512 cap, .int .i64 0]) ∧ 512 ≤ cap ∧ w.heap.size ≤ g ∧ rowU w' g (C.see n) ∧ k ≤ 1 ∧ (∀ W, Keeps (fun i => w0.heap.size ≤ i) w' W → CacheAt W c { L with Du := D' } { C with uses := C.uses + k, used := u' }) ∧ Keeps (fun i => i = c ∨ i = L.um) w w'
section
variable {c : Nat} {L : CLay} {C : CS}
set_option maxRecDepth 100000 in
set_option maxHeartbeats 2000000 in
theorem bread_row {w0 : World} (n : Nat) (w : World) (h0 : CacheAt w0 c L C) (hw : Below w0.heap.size w0 w) (hM : Made C.S) (hu : C.uses < 1000000) (hn : n < C.N) :
    Calls Tryz.prog 29 #[.pointer (some ⟨c, 0, none⟩), .int .i64 n] w fun e w' => ReadRow w0 w w' c L C n e := by
  have h := h0.below hw
  have H0 := hid h0
  have HBw := hid hw
  clear h0 hw
  obtain ⟨c0, c1, -, -, -⟩ := h.cells
  have hpl := h.pagesLe
  have hn0 : -9223372036854775808 ≤ (n : Int) := by omega
  have hn1 : (n : Int) < 9223372036854775808 := by omega
  have H := hid h
  have HM := hid hM
  cases hdv : L.dv n with
  | some v =>
    obtain ⟨g0, cap0, bs, h1, rfl, h3, h4, h5⟩ := h.bytes n v hdv
    have HDv := hid hdv
    have HDi := hid h1
    have hcl := bclone_any bs ⟨g0, 0, none⟩ cap0 w (by omega) (by omega) h3
    rw [h4] at hcl
    have HCl := hid hcl
    have H4 := hid h4
    clear h hM hdv h1 h3 h4 h5 hcl
    go_enter Tryz.func29, Tryz.ntmps29
    go_wp2_with (refine wpList_lookup_grp rfl (.tmp 16) (.tmp 17) 91 rfl 57 Tryz.underlying91 (Tryz.zeroValue57 _) rfl H.out.dirty n rfl hn0 hn1 (.slice (some ⟨g0, 0, none⟩) 512 cap0) true (by rw [HDv.out]; rfl) (by rw [HDv.out]; rfl) ?_)
    refine HCl.out.mono ?_
    clear HCl
    rintro e w1 ⟨g, cap, rfl, hrow, hb⟩
    have HB := hid hb
    have HR := hid hrow
    clear hb hrow
    go_wp2
    go_returns
    have hsee : C.see n = bs := by unfold CS.see; rw [HDi.out]; rfl
    have hg := (HR.out.lt g rfl).1
    refine ⟨g, cap, L.Du, C.used, 0, rfl, ?_, hg, by rw [hsee]; exact rowU_of_row HR.out H4.out, by omega, fun W hW => ?_, Keeps.of_below HB.out⟩
    · rcases HR.out.2 with ⟨e, -⟩ | ⟨g', cap', cur, e, -, -, hc, -⟩
      · cases e
      · obtain ⟨-, rfl⟩ : g = g' ∧ cap = cap' := by simpa using e
        exact hc
    · have hb2 := HBw.out.trans (HB.out.mono HBw.out.size)
      exact H0.out.below (hb2.trans (hW.below hb2.size (fun i e => e)))
  | none =>
    have HDv := hid hdv
    have HDi := hid (h.clean n hdv)
    clear h hM hdv
    have hxp : n < pagesS C.S C.size := by rw [← H.out.pages]; omega
    have hx1 : C.size + 1 + n < C.S.safe.length := by unfold pagesS at hxp; omega
    have hsz : (seenS C.S.safe C.S.waits ((1 + C.size + n : Nat) : Int)).size = 512 := HM.out.seen (1 + C.size + n) (by omega)
    have hlr := log_read_row n w H.out.log H.out.fits hxp
    rw [show (1 + (C.size : Int) + (n : Int)) = ((1 + C.size + n : Nat) : Int) by omega, hsz] at hlr
    have HLr := hid hlr
    have HS5 : Hid ((secL C.S (1 + C.size + n)).length = 512) := HM.out.sec _ (by omega)
    have hcl := lt_of_heap H.out.heap
    clear hlr hsz hx1 hxp
    go_enter Tryz.func29, Tryz.ntmps29
    go_wp2_with (refine wpList_lookup_grp rfl (.tmp 16) (.tmp 17) 91 rfl 57 Tryz.underlying91 (Tryz.zeroValue57 _) rfl H.out.dirty (n : Int) rfl hn0 hn1 (.slice none 0 0) false (by rw [HDv.out]; rfl) (by rw [HDv.out]; rfl) ?_)
    refine HLr.out.mono ?_
    clear HLr
    rintro e w1 ⟨g, cap, rfl, hcap, hg1, hby, hb1⟩
    have H1 := hid (H.out.below hb1)
    have HBy := hid hby
    have HB1 := hid hb1
    have HUs := hid (buse_any C.used _ _ _ C.most C.uses hu H.out.ub (n : Int) (by omega) (by omega) hpl w1 H1.out.heap H1.out.used)
    clear hby hb1
    go_wp2_with fail
    refine HUs.out.mono ?_
    clear HUs
    rintro e w2 ⟨rfl, u', D', hc2, hU2, hT2, hK2⟩
    have h0 : 0 < (secL C.S (1 + C.size + n)).length := by rw [HS5.out]; omega
    have hgn : ¬ (g = c ∨ g = L.um) := by
      have h1 := HBy.out.1 0 h0
      have h2 := H1.out.out (G := fun i => i = c ∨ i = L.um) (fun i hi => hi.elim .inl (fun e => .inr (.inr e))) h1 (fun y => by simp) (fun y => by simp) (fun y => by simp)
      rw [add_block] at h2
      exact h2
    have HBy2 : Hid (rowU w2 g (secL C.S (1 + C.size + n))) := HBy.out.keep hK2 hgn
    have HK2 : Hid (Keeps (fun i => i = c ∨ i = L.um) w w2) := (Keeps.of_below HB1.out).trans hK2 (fun i e => .inl e)
    have HW2 : Hid (∀ W, Keeps (fun i => w0.heap.size ≤ i) w2 W → CacheAt W c { L with Du := D' } { C with uses := C.uses + 1, used := u' }) := fun W hW => by
      obtain ⟨es', kk', hm'⟩ := H0.out.umap
      have hcl0 := lt_of_heap H0.out.heap
      have hul0 := lt_of_heap hm'
      exact H0.out.use (hW.heap hc2 (by omega)) (hU2.keep hW (by omega)) hT2 (((Keeps.of_below HBw.out).trans HK2.out (fun i e => .inl e)).trans hW (fun i e => .inr e)) hu
    clear hc2 hU2 hT2 hK2 h0 hgn
    go_wp2
    go_returns
    have hsee : C.see n = secL C.S (1 + C.size + n) := by unfold CS.see; rw [HDi.out]; rfl
    exact ⟨g, cap, D', u', 1, rfl, hcap, hg1, by rw [hsee]; exact HBy2.out, by omega, HW2.out, HK2.out⟩
end
end Go.Proofs.YtkkmbgjlmdddoabGreat
