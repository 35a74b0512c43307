/- disk.Disk.Write: a sector that is written waits; a number of no sector, or other than 512 bytes, is refused. -/
import Derived.Test.YtabpfneihihmaaaDoorDisk
import Derived.Laws.IdiomStrings
namespace Go.Proofs.YtabpfneihihmaaaDoor
open Go.RowKit Go.Maps
/-- The bytes l lie from ad on. -/
def bytesAt (w : World) (ad : Addr) (l : List UInt8) : Prop := ∀ j (hj : j < l.length), w.cell? (ad.add j) = some (.int .u8 (l[j].toNat : Int))
set_option maxRecDepth 100000 in
set_option maxHeartbeats 1000000 in
theorem write_ok (d : DL) (S : DiskS) (n : Int) (l : List UInt8) (ad : Addr) (c : Nat) (w : World) (h : DiskIn w d S) (hB : S.ops.length < opsMax) (h0 : 0 ≤ n) (h1 : n < S.safe.length) (hl : l.length = 512) (hb : bytesAt w ad l) :
    Calls Tryd.prog 5 #[.pointer (some ⟨d.p, 0, none⟩), .int .i64 n, .slice (some ad) 512 c] w fun e w' => e = .returned (.int .i64 0) ∧
      ∃ d', DiskIn w' d' (S.wrote n ⟨l.toArray⟩) ∧ d'.p = d.p ∧ d'.fv = d.fv ∧ (∀ i, d'.foot (S.wrote n ⟨l.toArray⟩).waits i → d.foot S.waits i ∨ w.heap.size ≤ i) ∧ Keeps (d.foot S.waits) w w' := by
  have hcv := run_convert_bytes_back (P := Tryd.prog) w 22 39 5 ad c l Tryd.underlying22 Tryd.underlying5 Tryd.underlying39 hb
  rw [hl] at hcv
  have c2 : w.cell? ⟨d.p, 2, none⟩ = some (.slice (some ⟨d.L.g, 0, none⟩) S.safe.length d.L.cap) := by rw [cell_of_block h.heap]; rfl
  have HD := hid (decide_eq_true (And.intro h0 h1))
  have HC2 := hid c2
  have HN := hid (note_write d S n ⟨l.toArray⟩ w h hB h0 h1)
  clear hb hl h c2
  generalize hs : (⟨l.toArray⟩ : ByteArray) = s at *
  clear hs
  go_enter Tryd.func5, Tryd.ntmps5
  go_wp2_with fail
  refine (has_any d.p 2 _ _ _ _ _ HC2.out).mono ?_
  rintro e w9 ⟨rfl, h9⟩
  obtain rfl := h9.symm
  rw [HD.out]
  go_wp2_with fail
  refine HN.out.mono ?_
  rintro e w1 ⟨rfl, hq⟩
  have HQ := hid hq
  clear hq
  go_wp2
  go_ret
  exact ⟨rfl, HQ.out⟩
set_option maxRecDepth 100000 in
set_option maxHeartbeats 1000000 in
theorem write_no (d : DL) (S : DiskS) (n : Int) (a : Option Addr) (k c : Nat) (w : World) (h : DiskIn w d S) (h1 : ¬ (0 ≤ n ∧ n < S.safe.length)) :
    Calls Tryd.prog 5 #[.pointer (some ⟨d.p, 0, none⟩), .int .i64 n, .slice a k c] w fun e w' => e = .returned (.int .i64 2) ∧ w' = w := by
  have HC2 := hid (show w.cell? ⟨d.p, 2, none⟩ = some (.slice (some ⟨d.L.g, 0, none⟩) S.safe.length d.L.cap) by rw [cell_of_block h.heap]; rfl)
  have HD := hid (decide_eq_false h1)
  clear h h1
  go_enter Tryd.func5, Tryd.ntmps5
  go_wp2_with fail
  refine (has_any d.p 2 _ _ _ _ _ HC2.out).mono ?_
  rintro e w9 ⟨rfl, h9⟩
  obtain rfl := h9.symm
  rw [HD.out]
  go_wp2
  go_ret
  exact ⟨rfl, rfl⟩
set_option maxRecDepth 100000 in
set_option maxHeartbeats 1000000 in
theorem write_len (d : DL) (S : DiskS) (n : Int) (a : Option Addr) (k c : Nat) (w : World) (h : DiskIn w d S) (h0 : 0 ≤ n) (h1 : n < S.safe.length) (hk : k ≠ 512) :
    Calls Tryd.prog 5 #[.pointer (some ⟨d.p, 0, none⟩), .int .i64 n, .slice a k c] w fun e w' => e = .returned (.int .i64 3) ∧ w' = w := by
  have HC2 := hid (show w.cell? ⟨d.p, 2, none⟩ = some (.slice (some ⟨d.L.g, 0, none⟩) S.safe.length d.L.cap) by rw [cell_of_block h.heap]; rfl)
  have HD := hid (decide_eq_true (And.intro h0 h1))
  have hk' : ¬ ((k : Int) = 512) := by omega
  clear h
  go_enter Tryd.func5, Tryd.ntmps5
  go_wp2_with fail
  refine (has_any d.p 2 _ _ _ _ _ HC2.out).mono ?_
  rintro e w9 ⟨rfl, h9⟩
  obtain rfl := h9.symm
  rw [HD.out]
  go_wp2
  go_ret
  exact ⟨rfl, rfl⟩
/-- What Write answers. -/
def errW (S : DiskS) (n : Int) (l : List UInt8) : Int := if ¬ (0 ≤ n ∧ n < S.safe.length) then 2 else if l.length ≠ 512 then 3 else 0
/-- A disk behind Write. -/
def DiskS.put (S : DiskS) (n : Int) (l : List UInt8) : DiskS := if errW S n l = 0 then S.wrote n ⟨l.toArray⟩ else S
theorem put_safe (S : DiskS) (n : Int) (l : List UInt8) : (S.put n l).safe = S.safe := by unfold DiskS.put; split <;> rfl
theorem put_first (S : DiskS) (n : Int) (l : List UInt8) : (S.put n l).first = S.first := by unfold DiskS.put; split <;> rfl
theorem put_ops (S : DiskS) (n : Int) (l : List UInt8) : (S.put n l).ops.length ≤ S.ops.length + 1 := by unfold DiskS.put; split <;> simp [DiskS.wrote]
theorem write_any (d : DL) (S : DiskS) (n : Int) (l : List UInt8) (ad : Addr) (k c : Nat) (w : World) (h : DiskIn w d S) (hB : S.ops.length < opsMax) (hk : l.length = k) (hb : bytesAt w ad l) :
    Calls Tryd.prog 5 #[.pointer (some ⟨d.p, 0, none⟩), .int .i64 n, .slice (some ad) k c] w fun e w' => e = .returned (.int .i64 (errW S n l)) ∧
      ∃ d', DiskIn w' d' (S.put n l) ∧ d'.p = d.p ∧ d'.fv = d.fv ∧ (∀ i, d'.foot (S.put n l).waits i → d.foot S.waits i ∨ w.heap.size ≤ i) ∧ Keeps (d.foot S.waits) w w' := by
  by_cases hn : 0 ≤ n ∧ n < S.safe.length
  · by_cases hl : l.length = 512
    · have e0 : errW S n l = 0 := by rw [errW, if_neg (not_not_intro hn), if_neg (not_not_intro hl)]
      have e1 : S.put n l = S.wrote n ⟨l.toArray⟩ := by rw [DiskS.put, if_pos e0]
      rw [e0, e1]
      obtain rfl : k = 512 := by omega
      exact write_ok d S n l ad c w h hB hn.1 hn.2 hl hb
    · have e0 : errW S n l = 3 := by rw [errW, if_neg (not_not_intro hn), if_pos hl]
      have e1 : S.put n l = S := by rw [DiskS.put, if_neg (by rw [e0]; decide)]
      rw [e0, e1]
      refine (write_len d S n (some ad) k c w h hn.1 hn.2 (by omega)).mono ?_
      rintro e w' ⟨rfl, rfl⟩
      exact ⟨rfl, d, h, rfl, rfl, fun i hi => .inl hi, Keeps.refl _ _⟩
  · have e0 : errW S n l = 2 := by rw [errW, if_pos hn]
    have e1 : S.put n l = S := by rw [DiskS.put, if_neg (by rw [e0]; decide)]
    rw [e0, e1]
    refine (write_no d S n (some ad) k c w h hn).mono ?_
    rintro e w' ⟨rfl, rfl⟩
    exact ⟨rfl, d, h, rfl, rfl, fun i hi => .inl hi, Keeps.refl _ _⟩
end Go.Proofs.YtabpfneihihmaaaDoor
