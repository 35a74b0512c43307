/- Log.Commit of pages that are right. -/
import Derived.Test.YtoeiodiadanhkaaGreatLogM
namespace Go.Proofs.YtoeiodiadanhkaaGreat
open Go.RowKit
theorem filt_le (val : Int → Option Value) (n : Int) (v : Value) : ∀ L : List Int, L.Nodup → (L.filter (fun k => (updV val n v k).isSome)).length ≤ (L.filter (fun k => (val k).isSome)).length + 1
  | [], _ => by simp
  | k :: L, h => by
    obtain ⟨h1, h2⟩ := List.nodup_cons.1 h
    have ih := filt_le val n v L h2
    by_cases e : k = n
    · subst e
      have hrest : L.filter (fun q => (updV val k v q).isSome) = L.filter (fun q => (val q).isSome) := List.filter_congr (fun q hq => by
        have : q ≠ k := fun e => h1 (e ▸ hq)
        simp [updV, this])
      rw [List.filter_cons, List.filter_cons, hrest]
      split <;> split <;> (try simp only [List.length_cons]) <;> omega
    · have hk : (updV val n v k).isSome = (val k).isSome := by simp [updV, e]
      rw [List.filter_cons, List.filter_cons, hk]
      split
      · simp only [List.length_cons]; omega
      · exact ih
theorem grpKeys_le (ps : List PageS) (N : Nat) : ∀ j, (grpKeys (grpVal ps j) N).length ≤ j
  | 0 => by simp [grpKeys, grpVal]
  | j + 1 => by
    have ih := grpKeys_le ps N j
    have hnd : ((List.range N).map (fun k : Nat => (k : Int))).Nodup := by
      refine List.pairwise_map.2 (List.nodup_range.imp (fun h => by omega))
    cases hp : ps[j]? with
    | none =>
      have e : grpVal ps (j + 1) = grpVal ps j := by rw [grpVal, hp]
      rw [e]; omega
    | some p =>
      have e : grpVal ps (j + 1) = updV (grpVal ps j) p.n p.val := by rw [grpVal, hp]
      have := filt_le (grpVal ps j) p.n p.val _ hnd
      rw [e]
      unfold grpKeys at ih ⊢
      omega
section
variable {p : Nat} {d : DL} {S : DiskS} {size rec : Nat} {F : Nat → Prop}
set_option maxRecDepth 100000 in
set_option maxHeartbeats 1000000 in
theorem commit_ok (ps : List PageS) (pa : Option Addr) (pc : Nat) (l : Int → List UInt8) (w : World) (h : LogIn w p d S size rec F) (hF : ∀ i, F i → i < w.heap.size) (hs : size + 1 ≤ S.safe.length) (hp : pagesAt w pa ps)
    (h1 : 1 ≤ ps.length) (h2 : ps.length ≤ size) (h3 : ps.length ≤ 100) (hin : ∀ j (hj : j < ps.length), 0 ≤ ps[j].n ∧ ps[j].n < (pagesS S size : Nat)) (he : grpErr ps ps.length = 0)
    (hv : GrpBytes w (grpVal ps ps.length) l F) (ho : S.ops.length ≤ 800000) :
    Calls Tryz.prog 13 #[.pointer (some ⟨p, 0, none⟩), .slice pa ps.length pc] w fun e w' => e = .returned (.int .i64 0) ∧ ∃ d', LogIn w' p d' (writtenS S size l (grpKeys (grpVal ps ps.length) (pagesS S size))) size rec (fun i => F i ∨ (w.heap.size ≤ i ∧ i < w'.heap.size)) ∧ Keeps F w w' := by
  have hm := h.disk.rd.plates.most
  have hpl := lt_of_heap h.heap
  have HC : Hid (∀ W, Below w.heap.size w W → W.cell? ⟨p, 0, none⟩ = some (.pointer (some ⟨d.p, 0, none⟩)) ∧ W.cell? ⟨p, 1, none⟩ = some (.int .i64 size)) := fun W hW => ⟨cell_of_block (h.below hW).heap 0, cell_of_block (h.below hW).heap 1⟩
  have hcp := lay_capacity d.p size w (by omega)
  have HGr := hid (fun W (hW : Below w.heap.size w W) => grouped_any d S size ps pa pc W ((h.below hW).disk.rd) hs (fun j hj => by
    obtain ⟨b, o, e, hc⟩ := hp j hj
    exact ⟨b, o, e, fun i hi => ⟨(hW.cell (p := ⟨b, o + i * 2, none⟩) (World.block_lt_of_cell? w _ (hc i hi).1)).trans (hc i hi).1, (hW.cell (p := ⟨b, o + i * 2 + 1, none⟩) (World.block_lt_of_cell? w _ (hc i hi).2)).trans (hc i hi).2⟩⟩) h3)
  unfold layV at hcp HGr
  have HCp := hid hcp
  have H := hid h
  have HV := hid hv
  have HFl := hid hF
  have HIn := hid hin
  have HE := hid he
  have HKl := hid (grpKeys_le ps (pagesS S size) ps.length)
  have hcap : ps.length ≤ min size 100 := by omega
  obtain ⟨c0, c1⟩ := HC.out w (Below.refl _ _)
  clear h hp hF hin he hv hcp
  generalize min size 100 = q at *
  have hn0 : ¬ ((ps.length : Int) = 0) := by omega
  have hnq : ¬ ((q : Int) < (ps.length : Int)) := by omega
  go_enter Tryz.func13, Tryz.ntmps13
  go_wp2_with fail
  refine HCp.out.mono ?_
  clear HCp
  rintro e w1 ⟨rfl, hb1⟩
  have HB1 := hid hb1
  obtain ⟨d0, d1⟩ := HC.out w1 hb1
  clear hb1 c0 c1
  go_wp2_with fail
  refine (HGr.out w1 HB1.out).mono ?_
  clear HGr
  rintro e w2 ⟨hb2, hg2⟩
  rcases hg2 with ⟨j, hj, hbad, -⟩ | ⟨-, m, D, rfl, hm2, hgi⟩
  · exact absurd (HIn.out j hj) hbad
  rw [HE.out]
  have hB2 : Below w.heap.size w w2 := HB1.out.trans (hb2.mono HB1.out.size)
  have HB2 := hid hB2
  obtain ⟨e0, e1⟩ := HC.out w2 hB2
  have hs12 := HB1.out.size
  have hs22 := hB2.size
  have hv2 : GrpBytes w2 (grpVal ps ps.length) l F := fun n v hnv => by
    obtain ⟨ad, c, e, hby, h512, hnf⟩ := HV.out n v hnv
    exact ⟨ad, c, e, fun q hq => (hB2.cell (World.block_lt_of_cell? w _ (hby q hq))).trans (hby q hq), h512, hnf⟩
  have hwg := write_group d S F size m 100 D (pagesS S size) (grpVal ps ps.length) l w2 (H.out.disk.below hB2) (fun i hi => by have := HFl.out i hi; omega) hgi (fun hf => by have := HFl.out _ hf; omega) (by decide) hv2 (by unfold pagesS; omega) (by have := HKl.out; omega) (by have := HKl.out; omega) ho
  unfold layV at hwg
  have HWg := hid hwg
  clear hb2 hgi hB2 hv2 hwg d0 d1
  go_wp2_with fail
  refine HWg.out.mono ?_
  clear HWg
  rintro e w3 ⟨rfl, d3, e3, hA3, hK3⟩
  have hK : Keeps F w w3 := (Keeps.of_below HB2.out).trans hK3 (fun i hi => .inl hi)
  have HK := hid hK
  have hhp := hK.heap H.out.heap H.out.off
  rw [← e3] at hhp
  have HHp := hid hhp
  have HA3 := hid hA3
  have hs3 := hK3.size
  clear hA3 hK3 hK hhp e3
  go_wp2
  go_ret
  exact ⟨rfl, d3, ⟨HHp.out, HA3.out.mono (fun i hi => hi.imp id (fun h => ⟨by omega, h.2⟩)), fun hf => hf.elim H.out.off (fun h => by omega)⟩, HK.out⟩
end
end Go.Proofs.YtoeiodiadanhkaaGreat
