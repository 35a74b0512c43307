/- Log.Commit of whatever pages: what it answers, and how the log stands then. -/
import Derived.Test.YtkkmbgjlmdddoabGreatBaseD
namespace Go.Proofs.YtkkmbgjlmdddoabGreat
open Go.RowKit
/-- The bytes that the group has of a number behind the first j pages. -/
def grpL (ps : List PageS) (bl : Nat → List UInt8) : Nat → Int → List UInt8
  | 0 => fun _ => []
  | j + 1 => fun n => if (ps[j]?).map PageS.n = some n then bl j else grpL ps bl j n
def inPages (N : Nat) (ps : List PageS) : Bool := ps.all (fun p => decide (0 ≤ p.n ∧ p.n < (N : Int)))
/-- What Commit answers. -/
def comErr (N size : Nat) (ps : List PageS) : Int := if ps.length = 0 then 0 else if min size 100 < ps.length then 6 else if inPages N ps then grpErr ps ps.length else 2
/-- The disk behind a Commit. -/
def comS (S : DiskS) (size : Nat) (ps : List PageS) (bl : Nat → List UInt8) : DiskS := if comErr (pagesS S size) size ps = 0 ∧ ps.length ≠ 0 then writtenS S size (grpL ps bl ps.length) (grpKeys (grpVal ps ps.length) (pagesS S size)) else S
theorem inPages_iff {N : Nat} {ps : List PageS} : inPages N ps = true ↔ ∀ j (hj : j < ps.length), 0 ≤ ps[j].n ∧ ps[j].n < (N : Int) := by
  unfold inPages
  rw [List.all_eq_true]
  constructor
  · intro h j hj; simpa using h _ (List.getElem_mem hj)
  · intro h p hp
    obtain ⟨j, hj, rfl⟩ := List.mem_iff_getElem.1 hp
    simpa using h j hj
theorem grpVal_some (ps : List PageS) (bl : Nat → List UInt8) (n : Int) (v : Value) : ∀ k, grpVal ps k n = some v → ∃ j, j < k ∧ ∃ hj : j < ps.length, ps[j].n = n ∧ v = ps[j].val ∧ grpL ps bl k n = bl j
  | 0, h => by simp [grpVal] at h
  | k + 1, h => by
    cases hp : ps[k]? with
    | none =>
      rw [grpVal, hp] at h
      dsimp only at h
      obtain ⟨j, h1, h2, h3, h4, h5⟩ := grpVal_some ps bl n v k h
      exact ⟨j, by omega, h2, h3, h4, by rw [grpL, hp]; simpa using h5⟩
    | some p =>
      obtain ⟨hk, hpk⟩ := List.getElem?_eq_some_iff.1 hp
      rw [grpVal, hp] at h
      dsimp only at h
      unfold updV at h
      by_cases e : n = p.n
      · rw [if_pos e] at h
        exact ⟨k, by omega, hk, by rw [hpk, e], by rw [hpk]; exact (Option.some.inj h).symm, by rw [grpL, hp]; simp [e]⟩
      · rw [if_neg e] at h
        obtain ⟨j, h1, h2, h3, h4, h5⟩ := grpVal_some ps bl n v k h
        exact ⟨j, by omega, h2, h3, h4, by rw [grpL, hp]; simp [Ne.symm e, h5]⟩
theorem grpErr_step {ps : List PageS} {k : Nat} (hk : k < ps.length) (h : grpErr ps (k + 1) = 0) : grpErr ps k = 0 ∧ grpVal ps k ps[k].n = none ∧ ps[k].len = 512 := by
  rw [grpErr, List.getElem?_eq_getElem hk] at h
  simp only at h
  split at h
  · cases h
  · rename_i hn
    simp only [not_or, Bool.not_eq_true, Option.isSome_eq_false_iff, Option.isNone_iff_eq_none, Decidable.not_not] at hn
    exact ⟨h, hn.1, hn.2⟩
theorem grpErr_len {ps : List PageS} : ∀ k, k ≤ ps.length → grpErr ps k = 0 → ∀ j (hj : j < ps.length), j < k → ps[j].len = 512
  | 0, _, _, j, _, h => by omega
  | k + 1, hk, he, j, hj, h => by
    obtain ⟨h1, h2, h3⟩ := grpErr_step (by omega) he
    by_cases e : j = k
    · subst e; exact h3
    · exact grpErr_len k (by omega) h1 j hj (by omega)
theorem grpBytes_of {w : World} {ps : List PageS} {bl : Nat → List UInt8} {F : Nat → Prop} (he : grpErr ps ps.length = 0) (hv : ∀ j (hj : j < ps.length), ps[j].len = 512 → ∃ ad, ps[j].a = some ad ∧ bytesAt w ad (bl j) ∧ (bl j).length = 512 ∧ ¬ F ad.block) : GrpBytes w (grpVal ps ps.length) (grpL ps bl ps.length) F := fun n v hnv => by
  obtain ⟨j, h1, h2, h3, h4, h5⟩ := grpVal_some ps bl n v ps.length hnv
  have hl := grpErr_len ps.length (Nat.le_refl _) he j h2 h2
  obtain ⟨ad, e, hb, h512, hf⟩ := hv j h2 hl
  refine ⟨ad, ps[j].cap, ?_, by rw [h5]; exact hb, by rw [h5]; exact h512, hf⟩
  rw [h4, PageS.val, e, hl]
theorem filt_eq (val : Int → Option Value) (n : Int) (v : Value) (hn : val n = none) : ∀ L : List Int, L.Nodup → n ∈ L → (L.filter (fun k => (updV val n v k).isSome)).length = (L.filter (fun k => (val k).isSome)).length + 1
  | [], _, h => by simp at h
  | k :: L, h, hm => by
    obtain ⟨h1, h2⟩ := List.nodup_cons.1 h
    by_cases e : k = n
    · subst e
      have hrest : L.filter (fun q => (updV val k v q).isSome) = L.filter (fun q => (val q).isSome) := List.filter_congr (fun q hq => by
        have : q ≠ k := fun e => h1 (e ▸ hq)
        simp [updV, this])
      rw [List.filter_cons, List.filter_cons, hrest]
      simp [updV, hn]
    · have ih := filt_eq val n v hn L h2 (by rcases List.mem_cons.1 hm with h | h; exact absurd h.symm e; exact h)
      have hk : (updV val n v k).isSome = (val k).isSome := by simp [updV, e]
      rw [List.filter_cons, List.filter_cons, hk]
      split
      · simp only [List.length_cons, ih]
      · exact ih
theorem grpKeys_len (ps : List PageS) (N : Nat) (hin : ∀ j (hj : j < ps.length), 0 ≤ ps[j].n ∧ ps[j].n < (N : Int)) : ∀ k, k ≤ ps.length → grpErr ps k = 0 → (grpKeys (grpVal ps k) N).length = k
  | 0, _, _ => by simp [grpKeys, grpVal]
  | k + 1, hk, he => by
    obtain ⟨h1, h2, h3⟩ := grpErr_step (by omega) he
    have ih := grpKeys_len ps N hin k (by omega) h1
    have hnd : ((List.range N).map (fun k : Nat => (k : Int))).Nodup := List.pairwise_map.2 (List.nodup_range.imp (fun h => by omega))
    have e : grpVal ps (k + 1) = updV (grpVal ps k) ps[k].n ps[k].val := by rw [grpVal, List.getElem?_eq_getElem (by omega)]
    have hm : ps[k].n ∈ (List.range N).map (fun k : Nat => (k : Int)) := by
      obtain ⟨a, b⟩ := hin k (by omega)
      exact List.mem_map.2 ⟨ps[k].n.toNat, List.mem_range.2 (by omega), by omega⟩
    have := filt_eq (grpVal ps k) ps[k].n ps[k].val h2 _ hnd hm
    rw [e]
    unfold grpKeys at ih ⊢
    omega
section
variable {p : Nat} {d : DL} {S : DiskS} {size rec : Nat} {F : Nat → Prop}
theorem LogIn.more {w w' : World} (h : LogIn w p d S size rec F) (k : Below w.heap.size w w') : LogIn w' p d S size rec (fun i => F i ∨ (w.heap.size ≤ i ∧ i < w'.heap.size)) :=
  ⟨(h.below k).heap, (h.below k).disk.mono (fun _ h => .inl h), fun hf => hf.elim h.off (fun e => by have := lt_of_heap h.heap; omega)⟩
set_option maxRecDepth 100000 in
set_option maxHeartbeats 1000000 in
theorem commit_long (ps : List PageS) (pa : Option Addr) (pc : Nat) (w : World) (h : LogIn w p d S size rec F) (hs : size + 1 ≤ S.safe.length) (h2 : min size 100 < ps.length) :
    Calls Tryz.prog 46 #[.pointer (some ⟨p, 0, none⟩), .slice pa ps.length pc] w fun e w' => e = .returned (.int .i64 6) ∧ Below w.heap.size w w' := by
  have hm := h.disk.rd.plates.most
  have c0 : w.cell? ⟨p, 0, none⟩ = some (.pointer (some ⟨d.p, 0, none⟩)) := cell_of_block h.heap 0
  have c1 : w.cell? ⟨p, 1, none⟩ = some (.int .i64 size) := cell_of_block h.heap 1
  have hcp := lay_capacity d.p size w (by omega)
  unfold layV at hcp
  have HCp := hid hcp
  clear h hcp
  generalize min size 100 = q at *
  generalize ps.length = L at *
  have hn0 : ¬ ((L : Int) = 0) := by omega
  have hnq : ((q : Int) < (L : Int)) := by omega
  go_enter Tryz.func46, Tryz.ntmps46
  go_wp2_with fail
  refine HCp.out.mono ?_
  clear HCp
  rintro e w1 ⟨rfl, hb1⟩
  have HB1 := hid hb1
  clear hb1 c0 c1
  go_wp2
  go_ret
  exact ⟨rfl, HB1.out⟩
set_option maxRecDepth 100000 in
theorem commit_empty (pa : Option Addr) (pc : Nat) (w : World) : Calls Tryz.prog 46 #[.pointer (some ⟨p, 0, none⟩), .slice pa 0 pc] w fun e w' => e = .returned (.int .i64 0) ∧ w' = w := by
  go_enter Tryz.func46, Tryz.ntmps46
  go_wp2
  go_ret
  exact ⟨rfl, rfl⟩
set_option maxRecDepth 100000 in
set_option maxHeartbeats 1000000 in
theorem commit_bad (ps : List PageS) (pa : Option Addr) (pc : Nat) (w : World) (h : LogIn w p d S size rec F) (hs : size + 1 ≤ S.safe.length) (hp : pagesAt w pa ps) (h1 : ps.length ≠ 0) (h2 : ps.length ≤ min size 100)
    (hbad : inPages (pagesS S size) ps = true → grpErr ps ps.length ≠ 0) :
    Calls Tryz.prog 46 #[.pointer (some ⟨p, 0, none⟩), .slice pa ps.length pc] w fun e w' => e = .returned (.int .i64 (if inPages (pagesS S size) ps then grpErr ps ps.length else 2)) ∧ Below w.heap.size w w' := by
  have hm := h.disk.rd.plates.most
  have HC : Hid (∀ W, Below w.heap.size w W → W.cell? ⟨p, 0, none⟩ = some (.pointer (some ⟨d.p, 0, none⟩)) ∧ W.cell? ⟨p, 1, none⟩ = some (.int .i64 size)) := fun W hW => ⟨cell_of_block (h.below hW).heap 0, cell_of_block (h.below hW).heap 1⟩
  have hcp := lay_capacity d.p size w (by omega)
  have HGr := hid (fun W (hW : Below w.heap.size w W) => grouped_any d S size ps pa pc W ((h.below hW).disk.rd) hs (fun j hj => by
    obtain ⟨b, o, e, hc⟩ := hp j hj
    exact ⟨b, o, e, fun i hi => ⟨(hW.cell (p := ⟨b, o + i * 2, none⟩) (World.block_lt_of_cell? w _ (hc i hi).1)).trans (hc i hi).1, (hW.cell (p := ⟨b, o + i * 2 + 1, none⟩) (World.block_lt_of_cell? w _ (hc i hi).2)).trans (hc i hi).2⟩⟩) (by omega))
  unfold layV at hcp HGr
  have HCp := hid hcp
  have HBad := hid hbad
  obtain ⟨c0, c1⟩ := HC.out w (Below.refl _ _)
  obtain ⟨V, hV⟩ : ∃ V, V = (if inPages (pagesS S size) ps then grpErr ps ps.length else 2) := ⟨_, rfl⟩
  rw [← hV]
  have HVd := hid hV
  clear h hp hcp hbad hV
  generalize min size 100 = q at *
  have hn0 : ¬ ((ps.length : Int) = 0) := by omega
  have hnq : ¬ ((q : Int) < (ps.length : Int)) := by omega
  go_enter Tryz.func46, Tryz.ntmps46
  go_wp2_with fail
  refine HCp.out.mono ?_
  clear HCp
  rintro e w1 ⟨rfl, hb1⟩
  have HB1 := hid hb1
  obtain ⟨d0, d1⟩ := HC.out w1 hb1
  clear hb1 c0 c1
  go_wp2_with fail
  refine (HGr.out w1 HB1.out).mono ?_
  clear HGr
  rintro e w2 ⟨hb2, hg2⟩
  have HB2 := hid (HB1.out.trans (hb2.mono HB1.out.size))
  rcases hg2 with ⟨j, hj, hbad, rfl⟩ | ⟨hall, m, D, rfl, hm2, hgi⟩
  · have hni : inPages (pagesS S size) ps = false := by
      cases hq : inPages (pagesS S size) ps with
      | false => rfl
      | true => exact absurd (inPages_iff.1 hq j hj) hbad
    have HNi := hid hni
    clear hb2 hbad d0 d1 hni
    go_wp2
    go_ret
    have e : V = 2 := by rw [HVd.out, if_neg (by rw [HNi.out]; decide)]
    subst e
    exact ⟨rfl, HB2.out⟩
  · have hi := inPages_iff.2 hall
    have hne := HBad.out hi
    obtain ⟨E, hE⟩ : ∃ E, E = grpErr ps ps.length := ⟨_, rfl⟩
    rw [← hE] at hne ⊢
    have HI := hid hi
    have HE := hid hE
    clear hb2 hgi hi hall d0 d1 hE
    go_wp2
    go_ret
    have e : V = E := by rw [HVd.out, if_pos HI.out, HE.out]
    subst e
    exact ⟨rfl, HB2.out⟩
theorem commit_any_fv (ps : List PageS) (pa : Option Addr) (pc : Nat) (bl : Nat → List UInt8) (w : World) (h : LogIn w p d S size rec F) (hF : ∀ i, F i → i < w.heap.size) (hs : size + 1 ≤ S.safe.length) (hp : pagesAt w pa ps)
    (hv : ∀ j (hj : j < ps.length), ps[j].len = 512 → ∃ ad, ps[j].a = some ad ∧ bytesAt w ad (bl j) ∧ (bl j).length = 512 ∧ ¬ F ad.block) (ho : S.ops.length ≤ 800000) :
    Calls Tryz.prog 46 #[.pointer (some ⟨p, 0, none⟩), .slice pa ps.length pc] w fun e w' => e = .returned (.int .i64 (comErr (pagesS S size) size ps)) ∧ ∃ d', (d'.fv = d.fv ∧ ((d' = d ∧ comS S size ps bl = S ∧ Below w.heap.size w w') ∨ OwnAt w' d' (comS S size ps bl) (fun i => F i ∨ (w.heap.size ≤ i ∧ i < w'.heap.size)))) ∧ LogIn w' p d' (comS S size ps bl) size rec (fun i => F i ∨ (w.heap.size ≤ i ∧ i < w'.heap.size)) ∧ Keeps F w w' := by
  by_cases h0 : ps.length = 0
  · have e0 : comErr (pagesS S size) size ps = 0 := by unfold comErr; rw [if_pos h0]
    have e1 : comS S size ps bl = S := by unfold comS; rw [if_neg (fun h => h.2 h0)]
    rw [e0, e1, h0]
    refine (commit_empty pa pc w).mono ?_
    rintro e w' ⟨rfl, rfl⟩
    exact ⟨rfl, d, ⟨rfl, .inl ⟨rfl, rfl, Below.refl _ _⟩⟩, h.more (Below.refl _ _), Keeps.refl _ _⟩
  by_cases h1 : min size 100 < ps.length
  · have e0 : comErr (pagesS S size) size ps = 6 := by unfold comErr; rw [if_neg h0, if_pos h1]
    have e1 : comS S size ps bl = S := by unfold comS; rw [if_neg (fun h => by rw [e0] at h; exact absurd h.1 (by decide))]
    rw [e0, e1]
    refine (commit_long ps pa pc w h hs h1).mono ?_
    rintro e w' ⟨rfl, hb⟩
    exact ⟨rfl, d, ⟨rfl, .inl ⟨rfl, rfl, hb⟩⟩, h.more hb, Keeps.of_below hb⟩
  have e0 : comErr (pagesS S size) size ps = if inPages (pagesS S size) ps then grpErr ps ps.length else 2 := by unfold comErr; rw [if_neg h0, if_neg h1]
  by_cases h2 : inPages (pagesS S size) ps = true ∧ grpErr ps ps.length = 0
  · obtain ⟨hi, hg⟩ := h2
    have e1 : comErr (pagesS S size) size ps = 0 := by rw [e0, hi, if_pos rfl, hg]
    have e2 : comS S size ps bl = writtenS S size (grpL ps bl ps.length) (grpKeys (grpVal ps ps.length) (pagesS S size)) := by unfold comS; rw [if_pos ⟨e1, h0⟩]
    rw [e1, e2]
    refine (commit_fv ps pa pc (grpL ps bl ps.length) w h hF hs hp (by omega) (by omega) (by omega) (inPages_iff.1 hi) hg (grpBytes_of hg hv) ho).mono ?_
    rintro e w' ⟨h1, d', h2, h3⟩
    exact ⟨h1, d', ⟨h2.1, .inr h2.2⟩, h3⟩
  · have hne : (if inPages (pagesS S size) ps then grpErr ps ps.length else 2) ≠ 0 := by
      split
      · rename_i hi; exact fun hg => h2 ⟨hi, hg⟩
      · decide
    have e2 : comS S size ps bl = S := by unfold comS; rw [if_neg (fun h => hne (e0 ▸ h.1))]
    rw [e0, e2]
    refine (commit_bad ps pa pc w h hs hp h0 (by omega) (fun hi hg => h2 ⟨hi, hg⟩)).mono ?_
    rintro e w' ⟨rfl, hb⟩
    exact ⟨rfl, d, ⟨rfl, .inl ⟨rfl, rfl, hb⟩⟩, h.more hb, Keeps.of_below hb⟩
theorem commit_any (ps : List PageS) (pa : Option Addr) (pc : Nat) (bl : Nat → List UInt8) (w : World) (h : LogIn w p d S size rec F) (hF : ∀ i, F i → i < w.heap.size) (hs : size + 1 ≤ S.safe.length) (hp : pagesAt w pa ps)
    (hv : ∀ j (hj : j < ps.length), ps[j].len = 512 → ∃ ad, ps[j].a = some ad ∧ bytesAt w ad (bl j) ∧ (bl j).length = 512 ∧ ¬ F ad.block) (ho : S.ops.length ≤ 800000) :
    Calls Tryz.prog 46 #[.pointer (some ⟨p, 0, none⟩), .slice pa ps.length pc] w fun e w' => e = .returned (.int .i64 (comErr (pagesS S size) size ps)) ∧ ∃ d', LogIn w' p d' (comS S size ps bl) size rec (fun i => F i ∨ (w.heap.size ≤ i ∧ i < w'.heap.size)) ∧ Keeps F w w' := by
  refine (commit_any_fv ps pa pc bl w h hF hs hp hv ho).mono ?_
  rintro e w' ⟨h1, d', _, h2⟩
  exact ⟨h1, d', h2⟩
end
end Go.Proofs.YtkkmbgjlmdddoabGreat
