/- wal.layout.logged: the pages that a log has. -/
import Derived.Test.YtkkmbgjlmdddoabGreatNums
import Derived.Test.YtkkmbgjlmdddoabGreatBaseD
namespace Go.Proofs.YtkkmbgjlmdddoabGreat
open Go.RowKit Go.Maps
/-- What the group has behind the first j numbers: slices vs. -/
def logVal (ns : List Nat) (vs : Nat → Value) : Nat → Int → Option Value
  | 0 => fun _ => none
  | j + 1 => match ns[j]? with
    | some n => updV (logVal ns vs j) n (vs j)
    | none => logVal ns vs j
theorem logVal_congr (ns : List Nat) (vs vs' : Nat → Value) : ∀ k, (∀ j, j < k → vs j = vs' j) → logVal ns vs k = logVal ns vs' k
  | 0, _ => rfl
  | k + 1, h => by rw [logVal, logVal, logVal_congr ns vs vs' k (fun j hj => h j (by omega)), h k (by omega)]
theorem logVal_some (ns : List Nat) (vs : Nat → Value) (n : Int) (v : Value) : ∀ k, logVal ns vs k n = some v → ∃ j, j < k ∧ ∃ hj : j < ns.length, (ns[j] : Int) = n ∧ v = vs j
  | 0, h => by simp [logVal] at h
  | k + 1, h => by
    cases hp : ns[k]? with
    | none =>
      rw [logVal, hp] at h
      dsimp only at h
      obtain ⟨j, h1, h2, h3, h4⟩ := logVal_some ns vs n v k h
      exact ⟨j, by omega, h2, h3, h4⟩
    | some p =>
      obtain ⟨hk, hpk⟩ := List.getElem?_eq_some_iff.1 hp
      rw [logVal, hp] at h
      dsimp only at h
      unfold updV at h
      by_cases e : n = (p : Int)
      · rw [if_pos e] at h
        exact ⟨k, by omega, hk, by rw [hpk, e], (Option.some.inj h).symm⟩
      · rw [if_neg e] at h
        obtain ⟨j, h1, h2, h3, h4⟩ := logVal_some ns vs n v k h
        exact ⟨j, by omega, h2, h3, h4⟩
theorem logVal_isSome (ns : List Nat) (vs : Nat → Value) (n : Int) : ∀ k, k ≤ ns.length → ((logVal ns vs k n).isSome = true ↔ ∃ j, ∃ hj : j < ns.length, j < k ∧ (ns[j] : Int) = n)
  | 0, _ => by simp [logVal]
  | k + 1, hk => by
    have ih := logVal_isSome ns vs n k (by omega)
    have hp : ns[k]? = some ns[k] := List.getElem?_eq_getElem (by omega)
    rw [logVal, hp]
    dsimp only
    unfold updV
    by_cases e : n = (ns[k] : Int)
    · rw [if_pos e]
      exact ⟨fun _ => ⟨k, by omega, by omega, e.symm⟩, fun _ => rfl⟩
    · rw [if_neg e, ih]
      constructor
      · rintro ⟨j, hj, h1, h2⟩; exact ⟨j, hj, by omega, h2⟩
      · rintro ⟨j, hj, h1, h2⟩
        refine ⟨j, hj, ?_, h2⟩
        by_cases e2 : j = k
        · subst e2; exact absurd h2.symm e
        · omega
/-- The bytes of sector n, as they are read. -/
def secL (S : DiskS) (n : Nat) : List UInt8 := (seenS S.safe S.waits (n : Int)).data.toList
def LoggedTo (S : DiskS) (ns : List Nat) (N K : Nat) (w' : World) (e : Ending) : Prop := ∃ m D vs, e = .returned (.map (some m)) ∧ K ≤ m ∧ GrpIn w' m 100 D N (logVal ns vs ns.length) ∧
  ∀ j, j < ns.length → ∃ b cp, vs j = .slice (some ⟨b, 0, none⟩) 512 cp ∧ K ≤ b ∧ bytesAt w' ⟨b, 0, none⟩ (secL S (1 + j))
set_option maxRecDepth 100000 in
set_option maxHeartbeats 2000000 in
theorem logged_any (d : DL) (S : DiskS) (size N : Nat) (ns : List Nat) (a : Option Addr) (c : Nat) (w : World) (h : DiskRd w d S) (hns : intsAt w a (natsZ ns)) (hl : ns.length ≤ 100) (hl2 : ns.length + 1 ≤ S.safe.length) (hN : ∀ n ∈ ns, n < N) (hN2 : N ≤ 4096) (h5 : ∀ n, n < S.safe.length → (secL S n).length = 512) :
    Calls Tryz.prog 77 #[layV d.p size, .slice a ns.length c] w fun e w' => Below w.heap.size w w' ∧ LoggedTo S ns N w.heap.size w' e := by
  have hm := h.plates.most
  have HR := hid (fun (j : Nat) (hj : 1 + j < S.safe.length) W hW => read_room d S ((1 : Int) + (j : Int)) W (h.below (w' := W) hW) (by omega) (by omega))
  have HMono : Hid (∀ {W : World} {m : Nat} {D : DataW Value}, W.ownsMap Tryz.prog 3 selfElem m ns.length D → W.ownsMap Tryz.prog 3 selfElem m 100 D) := fun {W m D} ⟨es, c, h1, h2, h3, h4⟩ => ⟨es, c, h1, h2, by omega, h4⟩
  have HNs := hid hns
  have HN := hid hN
  have H5 := hid h5
  clear h hns hN h5
  unfold layV
  obtain ⟨m1, m2, m3, m4⟩ := new2 w (.cells #[.pointer (some ⟨d.p, 0, none⟩), .int .i64 size] 98) (.map #[] 0)
  have HM1 := hid m1
  have HG0 : Hid (GrpIn ((w.alloc (.cells #[.pointer (some ⟨d.p, 0, none⟩), .int .i64 size] 98)).alloc (.map #[] 0)) (w.heap.size + 1) 0 (.map []) N (logVal ns (fun _ => .bool false) 0)) :=
    ⟨map_empty m2, fun _ _ => rfl, fun n v hv => (by cases hv), fun n v hv => (by cases hv), fun n v hv => (by cases hv)⟩
  have HB0 := hid m3
  have hmk : ∀ W : World, (Instr.makeMap 125 none).run Tryz.prog W = .ok (.map (some W.heap.size)) (W.alloc (.map #[] 0)) := fun W => by kernel_rfl
  clear m1 m2 m3 m4
  go_enter Tryz.func77, Tryz.ntmps77
  go_wp2
  clear hmk
  generalize (w.alloc (.cells #[.pointer (some ⟨d.p, 0, none⟩), .int .i64 size] 98)).alloc (.map #[] 0) = w1 at *
  go_loopw [11] (fun i wr => ∃ (j : Nat) (D : DataW Value) (vs : Nat → Value), j ≤ ns.length ∧ i = .int .i64 j ∧ Hid (GrpIn wr (w.heap.size + 1) j D N (logVal ns vs j)) ∧ Hid (∀ k, k < j → ∃ b cp, vs k = .slice (some ⟨b, 0, none⟩) 512 cp ∧ w.heap.size ≤ b ∧ b ≠ w.heap.size + 1 ∧ bytesAt wr ⟨b, 0, none⟩ (secL S (1 + k))) ∧ Hid (wr.heap[w.heap.size]? = some (.cells #[.pointer (some ⟨d.p, 0, none⟩), .int .i64 size] 98 (0, 0))) ∧ Hid (Below w.heap.size w wr)) (fun i _ => ns.length - (intOf i).toNat)
  case atStart => exact ⟨0, _, _, by omega, rfl, HG0, fun k h => by omega, HM1, HB0⟩
  case round =>
    obtain ⟨j, D, vs, hj, rfl, hG, hV, hM, hB⟩ := hrel
    clear HG0 HM1 HB0
    by_cases hlt : j < ns.length
    · have hj0 : (0 : Int) ≤ (j : Int) := by omega
      have hj1 : (j : Int) < (ns.length : Int) := by omega
      have hjz : j < (natsZ ns).length := by simpa using hlt
      obtain ⟨nb, no, rfl, hc⟩ := HNs.out j hjz
      have hcj := hc j hjz
      have hcell : wr.cell? ⟨nb, no + j, none⟩ = some (.int .i64 (ns[j] : Nat)) := by
        rw [hB.out.cell (p := ⟨nb, no + j, none⟩) (World.block_lt_of_cell? w _ hcj), hcj]; simp
      have l0 : wr.cell? ⟨w.heap.size, 0, none⟩ = some (.pointer (some ⟨d.p, 0, none⟩)) := cell_of_block hM.out 0
      have hxN := HN.out ns[j] (List.getElem_mem hlt)
      have HRj := hid (HR.out j (by omega) wr hB.out)
      have hsz : (seenS S.safe S.waits (1 + (j : Int))).data.toList.length = 512 := by
        have := H5.out (1 + j) (by omega)
        unfold secL at this
        rw [show (((1 + j : Nat)) : Int) = 1 + (j : Int) by omega] at this
        exact this
      have hsz2 : (seenS S.safe S.waits (1 + (j : Int))).size = 512 := by simpa using hsz
      rw [hsz2] at HRj
      have HV1 : Hid (∀ v, logVal ns (fun k => if k = j then v else vs k) (j + 1) = updV (logVal ns vs j) (ns[j] : Nat) v) := fun v => by
        rw [logVal, List.getElem?_eq_getElem hlt]
        dsimp only
        rw [if_pos rfl, logVal_congr ns (fun k => if k = j then v else vs k) vs j (fun k hk => by simp; omega)]
      have hwl : w.heap.size + 1 < wr.heap.size := by
        obtain ⟨es, ck, hb, -⟩ := hG.out.mapOwn
        exact lt_of_heap hb
      clear hc hcj hjz hsz hsz2
      obtain ⟨x, hx⟩ : ∃ x, x = ns[j] := ⟨_, rfl⟩
      rw [← hx] at hcell hxN HV1
      have hx0 : (0 : Int) ≤ (x : Int) := by omega
      have hx1 : (x : Int) < (N : Int) := by omega
      clear hx
      go_wp2_with fail
      refine HRj.out.mono ?_
      clear HRj
      rintro e w5 ⟨b, cp, rfl, hcp, hb, hat, hb5⟩
      have HG5 := hid (hG.out.below hb5)
      have HM5 := hid (below_block hb5 hM.out (lt_of_heap hM.out))
      have HB5 := hid (hB.out.trans (hb5.mono hB.out.size))
      have HV5 : Hid (∀ k, k < j → ∃ b cp, vs k = .slice (some ⟨b, 0, none⟩) 512 cp ∧ w.heap.size ≤ b ∧ b ≠ w.heap.size + 1 ∧ bytesAt w5 ⟨b, 0, none⟩ (secL S (1 + k))) := fun k hk => by
        obtain ⟨b, cp, e, h1, h2, h3⟩ := hV.out k hk
        exact ⟨b, cp, e, h1, h2, fun q hq => (hb5.cell (World.block_lt_of_cell? wr _ (h3 q hq))).trans (h3 q hq)⟩
      have HAt : Hid (bytesAt w5 ⟨b, 0, none⟩ (secL S (1 + j))) := by
        unfold Hid secL
        rw [show (((1 + j : Nat)) : Int) = 1 + (j : Int) by omega]
        exact hat
      have hsB := hB.out.size
      clear hat hb5 l0 hcell hG hM hB hV
      go_wp2_with (refine wpList_mapUpdate_self rfl (.tmp 17) (.tmp 18) (.tmp 24) 125 rfl 3 57 (int_keyed Tryz.underlying3) Tryz.underlying125 (w.heap.size + 1) j D rfl HG5.out.mapOwn (by unfold maxLen; omega) (.int .i64 x) (.slice (some ⟨b, 0, none⟩) 512 cp) (.int .i64 x) rfl rfl (keyI (by omega) (by omega)) ?_; intro w6 hm6 hg6; have HG6 := hid (HG5.out.put hx0 hx1 hm6); have HB6 := hid (HB5.out.trans (below_of_row hg6 HB5.out.size (fun i e => by have := Option.some.inj e; omega))); have HM6 := hid (grown_block hg6 HM5.out (fun e => by have := Option.some.inj e; omega)); have HK6 : Hid (Keeps (fun i => i = w.heap.size + 1) w5 w6) := (Keeps.refl _ _).grown hg6 (fun i e => .inl (Option.some.inj e).symm); clear hm6 hg6)
      refine ⟨⟨j + 1, _, fun k => if k = j then .slice (some ⟨b, 0, none⟩) 512 cp else vs k, by omega, by go_num, by rw [HV1.out]; exact HG6, fun k hk => ?_, HM6, HB6⟩, by simp [intOf]; omega⟩
      by_cases e : k = j
      · subst e
        refine ⟨b, cp, by simp, by omega, by omega, fun q hq => HK6.out.cell (HAt.out q hq) (by rw [add_block]; show ¬ (b = w.heap.size + 1); omega)⟩
      · obtain ⟨b1, cp1, e1, h1, h2, h3⟩ := HV5.out k (by omega)
        exact ⟨b1, cp1, by simp [e, e1], h1, h2, fun q hq => HK6.out.cell (h3 q hq) (by rw [add_block]; exact h2)⟩
    · obtain rfl : j = ns.length := by omega
      have hge : ¬ ((ns.length : Int) < (ns.length : Int)) := by omega
      go_wp2
      go_ret
      refine ⟨hB.out, _, D, vs, rfl, by omega, ⟨HMono.out hG.out.mapOwn, hG.out.absent, hG.out.there, hG.out.held, hG.out.dom⟩, fun k hk => ?_⟩
      obtain ⟨b, cp, e, h1, h2, h3⟩ := hV.out k hk
      exact ⟨b, cp, e, h1, h3⟩
end Go.Proofs.YtkkmbgjlmdddoabGreat
