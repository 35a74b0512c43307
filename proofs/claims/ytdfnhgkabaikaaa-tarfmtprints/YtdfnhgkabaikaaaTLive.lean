/- live. -/
import Derived.Test.YtdfnhgkabaikaaaTParse
import Derived.Lib.SlBytesConst
namespace Go.Proofs.Ytdfnhgkabaikaaa
open Go.RowKit
def liveE : EN := ⟨[97], 1, 420, [], [104, 105]⟩
def liveL : List UInt8 := tarL [(liveE, .slice none 0 0)] 2048 1
set_option maxRecDepth 1000000 in
set_option maxHeartbeats 4000000 in
theorem live_parse : parseF 118 liveL 0 [] = (some [liveE], 0) := by kernel_rfl
set_option maxRecDepth 1000000 in
theorem live_tar (dv : Value) : tarL [(liveE, dv)] 2048 1 = liveL := rfl
theorem live_size (dv : Value) : sizeTo [(liveE, dv)] 1 = 2048 := by kernel_rfl
theorem live_right : rightE liveE = 0 := by kernel_rfl
set_option maxRecDepth 1000000 in
theorem live_len : liveL.length = 2048 := by kernel_rfl
set_option maxRecDepth 1000000 in
theorem live_first : liveL.getD 0 0 = 97 := by kernel_rfl
theorem print_none {w w' : World} {e : Ending} (h : PrintTo w [] e w') : Below w.heap.size w w' ∧ ∃ g, e = .returned (.tuple #[.slice (some ⟨g, 0, none⟩) 1024 1024, .int .i64 0]) := by
  refine ⟨h.1, ?_⟩
  rcases h.2 with ⟨er, hp, -⟩ | ⟨-, -, -, g, -, he, -⟩
  · cases hp with
    | bad k hk => simp at hk
    | long _ hh => rcases hh with hh | hh <;> simp [sizeTo] at hh
  · exact ⟨g, he⟩
theorem print_one {w w' : World} {e : Ending} {dv : Value} (h : PrintTo w [(liveE, dv)] e w') : Below w.heap.size w w' ∧ ∃ g, e = .returned (.tuple #[.slice (some ⟨g, 0, none⟩) 2048 2048, .int .i64 0]) ∧ blkB w' g liveL := by
  refine ⟨h.1, ?_⟩
  rcases h.2 with ⟨er, hp, -⟩ | ⟨-, -, -, g, -, he, hb⟩
  · cases hp with
    | bad k hk _ hn =>
      obtain rfl : k = 0 := by simpa using hk
      exact absurd live_right hn
    | long _ hh =>
      have h1 : sizeTo [(liveE, dv)] [(liveE, dv)].length = 2048 := live_size dv
      rw [h1] at hh
      rcases hh with hh | hh
      · simp at hh
      · omega
  · have h1 : sizeTo [(liveE, dv)] [(liveE, dv)].length = 2048 := live_size dv
    rw [h1] at he hb
    exact ⟨g, he, hb⟩
theorem rd_blk {w : World} {g : Nat} {L : List UInt8} (h : blkB w g L) (hL : L.length ≤ 9223372036854775807) : Rd w (.slice (some ⟨g, 0, none⟩) L.length L.length) L := by
  refine ⟨_, _, rfl, Nat.le_refl _, hL, (fun h => by cases h), fun ad ha j x hj => ?_⟩
  cases ha
  refine ⟨g, 0, rfl, lt_of_heap h, ?_⟩
  have hlt := (List.getElem?_eq_some_iff.1 hj).1
  rw [Nat.zero_add, h.cell j hlt, List.getD_eq_getElem?_getD, hj]
  rfl
/-- Entries in a row of one's own, as they are read. -/
theorem ents_of_row {w : World} {K : Nat} {lv : Value} {acc : List (EN × Value)} (h : w.ownsRow K 31 5 lv acc.length (acc.flatMap entC)) (hd : ∀ p ∈ acc, DataU w 0 p.2 p.1.data) : ∃ la lc, lv = .slice la acc.length lc ∧ entsAt w la acc ∧ acc.length ≤ lc ∧ (la = none → lc = 0) ∧ lc ≤ maxLen := by
  rcases h.2 with ⟨rfl, h0⟩ | ⟨g, cap, cur, rfl, hg, hh, hc, hm, hs, hx⟩
  · have : acc = [] := List.length_eq_zero_iff.1 h0
    subst this
    exact ⟨none, 0, rfl, fun i hi => by simp at hi, by simp, fun _ => rfl, by unfold maxLen; omega⟩
  · refine ⟨_, _, rfl, fun i hi => ⟨g, 0, rfl, lt_of_heap hh, fun j v hj => ?_, (hd _ (List.getElem_mem hi)).rd⟩, hc, (fun h => by cases h), hm⟩
    rw [cell_of_block hh, Nat.zero_add]
    have hj5 : j < 5 := (List.getElem?_eq_some_iff.1 hj).1
    have h1 : (acc.flatMap entC)[i * 5 + j]? = some v := by
      have : ∀ (l : List (EN × Value)) (i j : Nat) (hi : i < l.length), j < 5 → (l.flatMap entC)[i * 5 + j]? = (entC l[i])[j]? := by
        intro l
        induction l with
        | nil => intro i j hi; simp at hi
        | cons p l ih =>
          intro i j hi hj
          rw [List.flatMap_cons]
          have h5 : (entC p).length = 5 := rfl
          cases i with
          | zero => rw [List.getElem?_append_left (by omega)]; simp
          | succ i =>
            rw [List.getElem?_append_right (by omega), h5, show (i + 1) * 5 + j - 5 = i * 5 + j by omega, ih i j (by simpa using hi) hj]
            simp
      rw [this acc i j hi hj5]
      exact hj
    have h2 : i * 5 + j < acc.length * 5 := by omega
    have h3 : (cur.toList.take (acc.length * 5))[i * 5 + j]? = some v := by rw [hx]; exact h1
    rw [List.getElem?_take_of_lt h2] at h3
    simpa using h3
theorem one_of {acc : List (EN × Value)} {x : EN} (h : acc.map Prod.fst = [x]) : ∃ dv, acc = [(x, dv)] := by
  match acc with
  | [] => simp at h
  | [(a, d)] => exact ⟨d, by simp at h; rw [h]⟩
  | a :: b :: l => simp at h
set_option maxHeartbeats 4000000 in
set_option maxRecDepth 100000 in
theorem tlive_any (w : World) : Calls Try.prog 13 #[] w fun e w' => e = .returned (.bool true) ∧ Below w.heap.size w w' := by
  go_enter Try.func13, Try.ntmps13
  go_wp2_with fail
  refine (print_any [] none 0 w (fun i hi => by simp at hi) (by simp)).mono ?_
  rintro e w1 h1
  obtain ⟨hB1, g1, rfl⟩ := print_none h1
  have HB1 := hid hB1
  clear h1 hB1
  have kc := Lib.run_convert_bytes_const (P := Try.prog) w1 23 5 #[.int .u8 104, .int .u8 105] 2 2 Try.underlying23 Try.underlying5
  have hb1 := block_new w1 (.cells #[.int .u8 104, .int .u8 105] 5 (2, 3))
  have hB1 := (Below.refl w1.heap.size w1).alloc (Nat.le_refl _) (.cells #[.int .u8 104, .int .u8 105] 5 (2, 3))
  simp only [List.size_toArray, List.length_cons, List.length_nil, Nat.reduceAdd] at kc
  go_wp2_with fail
  generalize hW2 : World.alloc (World.alloc w1 _) _ = w2
  have hb2 := block_new (w1.alloc (.cells #[.int .u8 104, .int .u8 105] 5 (2, 3))) (.cells #[str [97], .int .i64 1, .int .i64 420, str [], .slice (some ⟨w1.heap.size, 0, none⟩) 2 2] 31)
  rw [World.size_alloc] at hb2
  have x1 : w2.heap[w1.heap.size]? = some (.cells #[.int .u8 104, .int .u8 105] 5 (2, 3)) := by rw [← hW2]; exact block_alloc hb1 _
  have x2 : w2.heap[w1.heap.size + 1]? = some (.cells #[str [97], .int .i64 1, .int .i64 420, str [], .slice (some ⟨w1.heap.size, 0, none⟩) 2 2] 31 (0, 0)) := by rw [← hW2]; exact hb2
  have hB2 : Below w1.heap.size w1 w2 := by rw [← hW2]; exact hB1.alloc (by simp) _
  have hE : entsAt w2 (some ⟨w1.heap.size + 1, 0, none⟩) [(liveE, .slice (some ⟨w1.heap.size, 0, none⟩) 2 2)] := fun i hi => by
    obtain rfl : i = 0 := by simpa using hi
    refine ⟨_, 0, rfl, lt_of_heap x2, fun j v hj => ?_, _, _, rfl, (by show 2 ≤ 2; omega), (by omega), (fun h => by cases h), fun ad ha j x hj => ?_⟩
    · rw [cell_of_block x2]
      have hj' : [str [97], .int .i64 1, .int .i64 420, str [], .slice (some ⟨w1.heap.size, 0, none⟩) 2 2][j]? = some v := hj
      simpa using hj'
    · cases ha
      refine ⟨_, 0, rfl, lt_of_heap x1, ?_⟩
      rw [cell_of_block x1]
      have hj2 : ([104, 105] : List UInt8)[j]? = some x := hj
      rcases j with _ | _ | j
      · have : (104 : UInt8) = x := by simpa using hj2
        subst this; rfl
      · have : (105 : UInt8) = x := by simpa using hj2
        subst this; rfl
      · simp at hj2
  refine (print_any [(liveE, .slice (some ⟨w1.heap.size, 0, none⟩) 2 2)] _ 1 w2 hE (by simp)).mono ?_
  rintro e w3 h3
  obtain ⟨hB3, g3, rfl, hb3⟩ := print_one h3
  have HB3 : Hid (Below w.heap.size w w3) := HB1.out.trans (((hB2.trans (hB3.mono hB2.size))).mono HB1.out.size)
  have HBk := hid hb3
  clear h3 hB3 hb3 hE hB2 x1 x2 hb1 hb2 hB1 kc hW2 HB1
  have HPa := hid (parse_any liveL (some ⟨g3, 0, none⟩) 2048 w3 (by have := rd_blk HBk.out (by rw [live_len]; omega); rw [live_len] at this ⊢; exact this))
  rw [live_len] at HPa
  go_wp2_with fail
  refine HPa.out.mono ?_
  clear HPa
  rintro e w4 ⟨hB4, h4⟩
  rw [if_neg (by rw [live_len]; omega), live_parse] at h4
  obtain ⟨acc, lv, hac, rfl, hrow, hdat⟩ := h4
  obtain ⟨la, lc, rfl, hea, -, -, -⟩ := ents_of_row hrow hdat
  obtain ⟨dv, rfl⟩ := one_of hac
  obtain ⟨b, o, rfl, hbw, hrg, hrd⟩ := hea 0 (by simp)
  obtain ⟨-, -, -, -, c4⟩ := rangeAt5 hrg
  obtain ⟨da, dc, hdv, -⟩ := id hrd
  have hstr := run_str hrd
  have cb : w4.cell? ⟨g3, 0, none⟩ = some (.int .u8 97) := by
    have hb4 : blkB w4 g3 liveL := below_block hB4 HBk.out (lt_of_heap HBk.out)
    have := hb4.cell 0 (by rw [live_len]; omega)
    rw [live_first] at this
    exact this
  have HB4 : Hid (Below w.heap.size w w4) := HB3.out.trans (hB4.mono HB3.out.size)
  have hdv' : dv = .slice da 2 dc := hdv
  subst hdv'
  have c4' : w4.cell? ⟨b, o + 4, none⟩ = some (.slice da 2 dc) := c4
  have hstr' : (convert 23 9 (.slice da 2 dc)).run Try.prog w4 = .ok (.string ⟨#[104, 105]⟩) w4 := hstr
  clear hB4 hac hrow hdat hea hrg hrd c4 hstr hdv hbw HBk HB3
  simp only [List.length_cons, List.length_nil, Nat.zero_add]
  go_wp2
  go_ret
  exact ⟨rfl, HB4.out⟩
end Go.Proofs.Ytdfnhgkabaikaaa
