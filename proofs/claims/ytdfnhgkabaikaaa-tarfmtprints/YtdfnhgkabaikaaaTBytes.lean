/- tarBytes. -/
import Derived.Test.YtdfnhgkabaikaaaTRight
import Derived.Test.YtdfnhgkabaikaaaTSmall
import Derived.Deep.Cut
namespace Go.Proofs.Ytdfnhgkabaikaaa
open Go.RowKit
/-- Entries that can be read: five cells each, their data as they were handed in. -/
def entsAt (w : World) (la : Option Addr) (l : List (EN × Value)) : Prop :=
  ∀ i (hi : i < l.length), ∃ b o, la = some ⟨b, o, none⟩ ∧ b < w.heap.size ∧ w.rangeAt b (o + i * 5) [str l[i].1.name, .int .i64 l[i].1.kind, .int .i64 l[i].1.mode, str l[i].1.link, l[i].2] ∧ Rd w l[i].2 l[i].1.data
theorem entsAt.up {w w' : World} {la : Option Addr} {l : List (EN × Value)} (h : entsAt w la l) (hB : Below w.heap.size w w') : entsAt w' la l := fun i hi => by
  obtain ⟨b, o, e, hb, hr, hd⟩ := h i hi
  exact ⟨b, o, e, Nat.lt_of_lt_of_le hb hB.size, fun j v hj => (World.cell?_of_block (w := w) (hB.block b hb)).trans (hr j v hj), hd.up hB⟩
/-- How many bytes entries take, with the end. -/
def sizeTo (l : List (EN × Value)) (k : Nat) : Nat := 1024 + ((l.take k).map (fun e => 512 + filledN e.1.data.length)).sum
theorem sizeTo_next {l : List (EN × Value)} {k : Nat} (hk : k < l.length) : sizeTo l (k + 1) = sizeTo l k + (512 + filledN l[k].1.data.length) := by
  unfold sizeTo
  rw [List.take_succ_eq_append_getElem hk, List.map_append, List.sum_append]
  simp; omega
theorem rangeAt5 {w : World} {b o : Nat} {e0 e1 e2 e3 e4 : Value} (h : w.rangeAt b o [e0, e1, e2, e3, e4]) : w.cell? ⟨b, o, none⟩ = some e0 ∧ w.cell? ⟨b, o + 1, none⟩ = some e1 ∧ w.cell? ⟨b, o + 2, none⟩ = some e2 ∧ w.cell? ⟨b, o + 3, none⟩ = some e3 ∧ w.cell? ⟨b, o + 4, none⟩ = some e4 :=
  ⟨h 0 e0 rfl, h 1 e1 rfl, h 2 e2 rfl, h 3 e3 rfl, h 4 e4 rfl⟩
theorem sizeTo_le {l : List (EN × Value)} (hs : ∀ i (hi : i < l.length), l[i].1.data.length ≤ 70656) : ∀ k, k ≤ l.length → sizeTo l k ≤ 1024 + k * 71680
  | 0, _ => by simp [sizeTo]
  | k + 1, hk => by
    have := sizeTo_le hs k (by omega)
    rw [sizeTo_next (by omega)]
    have h2 := hs k (by omega)
    have h3 : filledN l[k].1.data.length ≤ 71168 := by unfold filledN; omega
    omega
set_option maxHeartbeats 2000000 in
set_option maxRecDepth 100000 in
theorem tarBytes_any (l : List (EN × Value)) (la : Option Addr) (lc : Nat) (w : World) (h : entsAt w la l) (hl : l.length ≤ 256) (hs : ∀ i (hi : i < l.length), l[i].1.data.length ≤ 70656) :
    Calls Try.prog 20 #[.slice la l.length lc] w fun e w' => e = .returned (.int .i64 (sizeTo l l.length : Nat)) ∧ Below w.heap.size w w' := by
  have H := hid h
  have HS := hid hs
  have HLe := hid (sizeTo_le hs)
  have HL := hid hl
  have ql : (l.length : Int) ≤ 256 := by omega
  clear h hs hl
  go_enter Try.func20, Try.ntmps20
  go_wp2
  go_loopw [3, 8] (fun x i wr => ∃ k : Nat, k ≤ l.length ∧ x = .int .i64 (sizeTo l k : Nat) ∧ i = .int .i64 k ∧ Hid (Below w.heap.size w wr)) (fun _ i _ => l.length - (intOf i).toNat)
  case atStart => exact ⟨0, by omega, rfl, rfl, Below.refl _ _⟩
  case round =>
    obtain ⟨k, hk, rfl, rfl, hB⟩ := hrel
    by_cases hlt : k < l.length
    · have hk0 : (0 : Int) ≤ (k : Int) := by omega
      have hk1 : (k : Int) < (l.length : Int) := by omega
      obtain ⟨b, o, rfl, hbw, hrg, hrd⟩ := H.out.up hB.out k hlt
      obtain ⟨c0, c1, c2, c3, c4⟩ := rangeAt5 hrg
      have HN := hid (sizeTo_next hlt)
      have hb1 : sizeTo l k ≤ 19000000 := by have := HLe.out k (by omega); have := HL.out; omega
      have hb2 : l[k].1.data.length ≤ 70656 := HS.out k hlt
      obtain ⟨dao, dcap, hdv, -, -, -, -⟩ := hrd
      rw [hdv] at c4
      generalize l[k].1.name = nm at *
      generalize l[k].1.kind = kd at *
      generalize l[k].1.mode = md at *
      generalize l[k].1.link = lk at *
      generalize l[k].1.data.length = n at *
      generalize sizeTo l k = sz at *
      clear hrg hbw hdv
      have hbx := block_new wr (.cells #[str nm, .int .i64 kd, .int .i64 md, str lk, .slice dao n dcap] 31)
      have hBx := (Below.refl wr.heap.size wr).alloc (Nat.le_refl _) (.cells #[str nm, .int .i64 kd, .int .i64 md, str lk, .slice dao n dcap] 31)
      go_upto_region 5 with (fail)
      have d4 : (wr.alloc (.cells #[str nm, .int .i64 kd, .int .i64 md, str lk, .slice dao n dcap] 31)).cell? ⟨wr.heap.size, 4, none⟩ = some (.slice dao n dcap) := cell_of_block hbx 4
      have HB2 := hid (hB.out.trans (hBx.mono hB.out.size))
      clear hbx hBx hB c0 c1 c2 c3 c4
      generalize wr.alloc (.cells #[str nm, .int .i64 kd, .int .i64 md, str lk, .slice dao n dcap] 31) = w2 at *
      have HFi := hid (filled_any n w2 (by omega))
      have HFb : Hid (filledN n ≤ n + 511) := by unfold Hid filledN; omega
      have qF : filledN n ≤ 71680 := by have := HFb.out; omega
      generalize filledN n = F at *
      go_wp2_with fail
      refine HFi.out.mono ?_
      rintro e w3 ⟨rfl, rfl⟩
      clear HFi
      go_wp2
      exact ⟨⟨k + 1, by omega, by rw [HN.out]; go_num, by go_num, HB2⟩, by simp [intOf]; omega⟩
    · have hge : ¬ ((k : Int) < (l.length : Int)) := by omega
      obtain rfl : k = l.length := by omega
      go_wp2
      go_ret
      exact ⟨rfl, hB.out⟩
end Go.Proofs.Ytdfnhgkabaikaaa
