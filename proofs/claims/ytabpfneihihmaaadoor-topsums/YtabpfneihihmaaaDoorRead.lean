/- plates.seen, disk.Disk.Read: a sector as it was written last. -/
import Derived.Test.YtabpfneihihmaaaDoorWrite
namespace Go.Proofs.YtabpfneihihmaaaDoor
open Go.RowKit Go.Maps
/-- A sector as it is read. -/
def seenS (safe : List ByteArray) (waits : Int → List ByteArray) (n : Int) : ByteArray := if waits n = [] then safe.getD n.toNat ⟨#[]⟩ else (waits n).getLastD ⟨#[]⟩
set_option maxRecDepth 100000 in
set_option maxHeartbeats 1000000 in
theorem seen_any (p : Nat) (L : PL) (safe : List ByteArray) (waits : Int → List ByteArray) (B : Nat) (n : Int) (w : World) (h2 : w.cell? ⟨p, 2, none⟩ = some (.slice (some ⟨L.g, 0, none⟩) safe.length L.cap)) (h3 : w.cell? ⟨p, 3, none⟩ = some (.map (some L.m))) (h : PlatesIn w L safe waits B) (h0 : 0 ≤ n) (h1 : n < safe.length) :
    Calls Tryd.prog 19 #[.pointer (some ⟨p, 2, none⟩), .int .i64 n] w fun e w' => e = .returned (.string (seenS safe waits n)) ∧ w' = w := by
  have hm := h.most
  have hlook := h.look n h0 h1 w rfl
  by_cases hn : waits n = []
  · rw [PL.rowV, if_pos hn] at hlook
    have hlt : n.toNat < safe.length := by omega
    have cn : w.cell? ⟨L.g, n.toNat, none⟩ = some (.string (safe.getD n.toNat ⟨#[]⟩)) := by
      rw [h.safeRow.cellAt n.toNat (by omega)]
      simp [hlt]
    have hs : seenS safe waits n = safe.getD n.toNat ⟨#[]⟩ := by rw [seenS, if_pos hn]
    rw [hs]
    generalize safe.getD n.toNat ⟨#[]⟩ = s at *
    clear h hs hn
    go_enter Tryd.func19, Tryd.ntmps19
    go_wp2
    go_ret
    exact ⟨rfl, rfl⟩
  · rw [PL.rowV, if_neg hn] at hlook
    have hpos : 0 < (waits n).length := List.length_pos_iff.2 hn
    have hdom := h.rows n hn
    have hmost : (waits n).length ≤ 9223372036854775807 := by
      obtain ⟨cur, _, h1, h2, _⟩ := row_block hdom
      unfold maxLen at h2; omega
    have cn : w.cell? ⟨L.row n, (waits n).length - 1, none⟩ = some (.string ((waits n).getLastD ⟨#[]⟩)) := by
      rw [hdom.cellAt _ (by omega)]
      rw [List.getElem?_map, ← List.getLast?_eq_getElem?, List.getLast?_eq_some_getLast hn]
      simp [List.getLastD_eq_getLast?, List.getLast?_eq_some_getLast hn]
    have hs : seenS safe waits n = (waits n).getLastD ⟨#[]⟩ := by rw [seenS, if_neg hn]
    rw [hs]
    generalize (waits n).getLastD ⟨#[]⟩ = s at *
    generalize hk : (waits n).length = k at *
    clear h hs hn hdom hk
    have k0 : (0 : Int) < (k : Int) := by omega
    have k1 : ((k : Int) - 1).toNat = k - 1 := by omega
    go_enter Tryd.func19, Tryd.ntmps19
    go_wp2
    go_ret
    exact ⟨rfl, rfl⟩
set_option maxRecDepth 100000 in
set_option maxHeartbeats 1000000 in
theorem read_ok_rd (d : DL) (S : DiskS) (n : Int) (w : World) (h : DiskRd w d S) (h0 : 0 ≤ n) (h1 : n < S.safe.length) :
    Calls Tryd.prog 8 #[.pointer (some ⟨d.p, 0, none⟩), .int .i64 n] w fun e w' => ∃ b c, e = .returned (.tuple #[.slice (some ⟨b, 0, none⟩) (seenS S.safe S.waits n).size c, .int .i64 0]) ∧ w.heap.size ≤ b ∧ bytesAt w' ⟨b, 0, none⟩ (seenS S.safe S.waits n).data.toList ∧ Below w.heap.size w w' := by
  have c2 : w.cell? ⟨d.p, 2, none⟩ = some (.slice (some ⟨d.L.g, 0, none⟩) S.safe.length d.L.cap) := by rw [cell_of_block h.heap]; rfl
  have c3 : w.cell? ⟨d.p, 3, none⟩ = some (.map (some d.L.m)) := by rw [cell_of_block h.heap]; rfl
  have HD := hid (decide_eq_true (And.intro h0 h1))
  have HC2 := hid c2
  have HS := hid (seen_any d.p d.L S.safe S.waits S.ops.length n w c2 c3 h.plates h0 h1)
  clear h c2 c3
  generalize seenS S.safe S.waits n = s at *
  have hconv := fun W => run_bytes_of_string (P := Tryd.prog) W 39 22 5 s Tryd.underlying39 Tryd.underlying22 Tryd.underlying5
  go_enter Tryd.func8, Tryd.ntmps8
  go_wp2_with fail
  refine (has_any d.p 2 _ _ _ _ _ HC2.out).mono ?_
  rintro e w9 ⟨rfl, h9⟩
  obtain rfl := h9.symm
  rw [HD.out]
  go_wp2_with fail
  refine HS.out.mono ?_
  rintro e w9 ⟨rfl, h9⟩
  obtain rfl := h9.symm
  go_wp2
  go_returns
  refine ⟨w.heap.size, grownCap w s.size 0 5, rfl, Nat.le_refl _, fun j hj => ?_, ((Below.refl _ w).alloc (Nat.le_refl _) _).drew⟩
  have hj' : j < s.data.size := by simpa using hj
  rw [Addr.add_mid, Nat.zero_add]
  refine (cell_of_block (block_new w _) j).trans ?_
  rw [bytesRow_at s _ j hj']
  simp
theorem read_ok (d : DL) (S : DiskS) (n : Int) (w : World) (h : DiskIn w d S) (h0 : 0 ≤ n) (h1 : n < S.safe.length) :
    Calls Tryd.prog 8 #[.pointer (some ⟨d.p, 0, none⟩), .int .i64 n] w fun e w' => ∃ b c, e = .returned (.tuple #[.slice (some ⟨b, 0, none⟩) (seenS S.safe S.waits n).size c, .int .i64 0]) ∧ w.heap.size ≤ b ∧ bytesAt w' ⟨b, 0, none⟩ (seenS S.safe S.waits n).data.toList ∧ Below w.heap.size w w' :=
  read_ok_rd d S n w h.rd h0 h1
set_option maxRecDepth 100000 in
set_option maxHeartbeats 1000000 in
theorem read_no_rd (d : DL) (S : DiskS) (n : Int) (w : World) (h : DiskRd w d S) (h1 : ¬ (0 ≤ n ∧ n < S.safe.length)) :
    Calls Tryd.prog 8 #[.pointer (some ⟨d.p, 0, none⟩), .int .i64 n] w fun e w' => e = .returned (.tuple #[.slice none 0 0, .int .i64 2]) ∧ w' = w := by
  have HC2 := hid (show w.cell? ⟨d.p, 2, none⟩ = some (.slice (some ⟨d.L.g, 0, none⟩) S.safe.length d.L.cap) by rw [cell_of_block h.heap]; rfl)
  have HD := hid (decide_eq_false h1)
  clear h h1
  go_enter Tryd.func8, Tryd.ntmps8
  go_wp2_with fail
  refine (has_any d.p 2 _ _ _ _ _ HC2.out).mono ?_
  rintro e w9 ⟨rfl, h9⟩
  obtain rfl := h9.symm
  rw [HD.out]
  go_wp2
  go_returns
  exact ⟨rfl, rfl⟩
theorem read_no (d : DL) (S : DiskS) (n : Int) (w : World) (h : DiskIn w d S) (h1 : ¬ (0 ≤ n ∧ n < S.safe.length)) :
    Calls Tryd.prog 8 #[.pointer (some ⟨d.p, 0, none⟩), .int .i64 n] w fun e w' => e = .returned (.tuple #[.slice none 0 0, .int .i64 2]) ∧ w' = w :=
  read_no_rd d S n w h.rd h1
end Go.Proofs.YtabpfneihihmaaaDoor
