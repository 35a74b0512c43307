/- TarfmtTells' walk. -/
import Derived.Test.YtdfnhgkabaikaaaTBackW
namespace Go.Proofs.Ytdfnhgkabaikaaa
open Go.RowKit
/-- Places of headers, one behind the other. -/
theorem szs_next {l : List (EN × Value)} {k : Nat} (hk : k < l.length) : szs ((l.map Prod.fst).take (k + 1)) = szs ((l.map Prod.fst).take k) + (512 + filledN l[k].1.data.length) := by
  have h1 := sizeTo_next hk
  rw [sizeTo_szs, sizeTo_szs, List.map_take, List.map_take] at h1
  omega
theorem szs_take_le (es : List EN) (k : Nat) : szs (es.take k) ≤ szs es := by
  conv => rhs; rw [← List.take_append_drop k es]
  unfold szs
  rw [List.map_append, List.sum_append]
  omega
/-- Bytes of one's own, one of them written anew. -/
theorem rd_set {w : World} {g cap : Nat} {C : Array Value} {bs : List UInt8} {k : Nat} (x : UInt8) (hblk : w.heap[g]? = some (.cells C 5 (0, 0))) (htk : C.toList.take bs.length = bs.map B) (hk : k < bs.length) (hc1 : bs.length ≤ cap) (hc2 : cap ≤ 9223372036854775807) : Rd (w.setCell ⟨g, k, none⟩ (B x)) (.slice (some ⟨g, 0, none⟩) bs.length cap) (bs.set k x) := by
  have hgetC : ∀ j, j < bs.length → C[j]? = some (B (bs.getD j 0)) := fun j hj => by
    have h1 : (C.toList.take bs.length)[j]? = some (B (bs.getD j 0)) := by rw [htk, List.getElem?_map, get_some (d := (0 : UInt8)) hj]; rfl
    rw [List.getElem?_take_of_lt hj] at h1
    simpa using h1
  have hb2 := block_setCell hblk k (B x)
  have hl2 : (bs.set k x).length = bs.length := List.length_set
  refine ⟨_, cap, by rw [hl2], by omega, hc2, (fun h => by cases h), fun ad had j y hj => ?_⟩
  cases had
  refine ⟨g, 0, rfl, lt_of_heap hb2, ?_⟩
  have hj5 : j < bs.length := by have := (List.getElem?_eq_some_iff.1 hj).1; omega
  rw [Nat.zero_add, cell_of_block hb2, Array.getElem?_setIfInBounds]
  rw [List.getElem?_set] at hj
  by_cases e : k = j
  · subst e
    rw [if_pos rfl, if_pos hk] at hj
    have hCs : k < C.size := (Array.getElem?_eq_some_iff.1 (hgetC k hk)).1
    rw [if_pos rfl, if_pos hCs]
    injection hj with hj
    rw [hj]
  · rw [if_neg e] at hj ⊢
    rw [hgetC j hj5, List.getD_eq_getElem?_getD, hj]
    rfl
theorem parse_none {bs : List UInt8} {n sm cap : Nat} {ao : Option Addr} {w : World} (hr : Rd w (.slice ao n cap) bs) (hn : n ≤ 60000) (hp : parseF 118 bs 0 [] = (none, sm)) : Calls Try.prog 17 #[.slice ao n cap] w fun e w' => Below w.heap.size w w' ∧ e = .returned (.tuple #[.slice none 0 0, .int .i64 3, .int .i64 (sm : Nat)]) := by
  obtain ⟨ao', cap', e, -⟩ := id hr
  simp only [Value.slice.injEq] at e
  obtain ⟨rfl, rfl, rfl⟩ := e
  refine (parse_any bs ao cap w hr).mono ?_
  rintro e w' ⟨hB, h2⟩
  rw [if_neg (by omega), hp] at h2
  exact ⟨hB, h2⟩
set_option maxHeartbeats 2000000 in
set_option maxRecDepth 100000 in
theorem tells_walk (l : List (EN × Value)) (la : Option Addr) (lc k a : Nat) (x : UInt8) (w : World) (h : entsAt w la l) (hl : l.length ≤ 1954687338212) (hk : k < 65536) (ha : a < 65536) :
    Calls Try.prog 6 #[.slice la l.length lc, .agg #[.int .u16 (k : Nat), .int .u16 (a : Nat)], B x] w fun e w' => e = .returned (.bool true) ∧ Below w.heap.size w w' := by
  have H := hid h
  have HL := hid hl
  clear h hl
  have hb0 := block_new w (.cells #[.int .u16 (k : Nat), .int .u16 (a : Nat)] 42)
  have hBz := (Below.refl w.heap.size w).alloc (Nat.le_refl _) (.cells #[.int .u16 (k : Nat), .int .u16 (a : Nat)] 42)
  go_enter Try.func6, Try.ntmps6
  go_wp2_with fail
  generalize World.alloc w _ = w0 at *
  have c0 : w0.cell? ⟨w.heap.size, 0, none⟩ = some (.int .u16 (k : Nat)) := cell_of_block hb0 0
  have c1 : w0.cell? ⟨w.heap.size, 1, none⟩ = some (.int .u16 (a : Nat)) := cell_of_block hb0 1
  go_quiet (fail)
  have HBz : Hid (Below w.heap.size w (w0.drewN nq)) := below_drewN hBz _
  clear hb0 hBz c0 c1
  go_wp2_with fail
  generalize w0.drewN nq = w1 at *
  refine (print_any l la lc w1 (H.out.up HBz.out) (by have := HL.out; omega)).mono ?_
  rintro e w2 h2
  obtain ⟨hB2, ⟨er, hE, rfl⟩ | ⟨g, n, hg, rfl, hT⟩⟩ := print_to h2
  · have hne : (er != 0) = true := bne_iff_ne.2 hE.ne
    have HB : Hid (Below w.heap.size w w2) := HBz.out.trans (hB2.mono HBz.out.size)
    clear h2 hB2 hE
    go_wp2_with fail
    refine (tlive_any w2).mono ?_
    rintro e w3 ⟨rfl, hB3⟩
    have HB3 : Hid (Below w.heap.size w w3) := HB.out.trans (hB3.mono HB.out.size)
    clear hB3 HB
    go_wp2
    go_ret
    exact ⟨rfl, HB3.out⟩
  · have HB : Hid (Below w.heap.size w w2) := HBz.out.trans (hB2.mono HBz.out.size)
    have HT := hid hT
    clear h2 hB2 hg hT HBz
    by_cases h0 : l.length = 0
    · have q0 : ((l.length : Int) == 0) = true := beq_iff_eq.2 (by omega)
      go_wp2_with fail
      refine (tlive_any w2).mono ?_
      rintro e w3 ⟨rfl, hB3⟩
      have HB3 : Hid (Below w.heap.size w w3) := HB.out.trans (hB3.mono HB.out.size)
      clear hB3 HB
      go_wp2
      go_ret
      exact ⟨rfl, HB3.out⟩
    · have q0 : ((l.length : Int) == 0) = false := beq_eq_false_iff_ne.2 (by omega)
      have q1 : ¬ ((l.length : Int) = 0) := by omega
      obtain ⟨K, hK, hKl⟩ : ∃ K : Nat, ((k : Int) % (l.length : Int)) = (K : Int) ∧ K < l.length := ⟨k % l.length, by omega, Nat.mod_lt _ (by omega)⟩
      have hL : l.length ≤ 115 := by have := HT.out.few; simpa using this
      have HK := hid hKl
      have HLL := hid hL
      clear hKl hL
      go_wp2
      go_loopw [11, 12] (fun s i wr => ∃ m : Nat, m ≤ K ∧ i = .int .i64 m ∧ s = .int .i64 (szs ((l.map Prod.fst).take m) : Nat) ∧ Below w2.heap.size w2 wr) (fun _ i _ => K - (intOf i).toNat)
      case atStart => exact ⟨0, by omega, rfl, rfl, Below.refl _ _⟩
      case round =>
        obtain ⟨m, hm, rfl, rfl, hB⟩ := hrel
        by_cases hlt : m < K
        · have hml : m < l.length := by have := HK.out; omega
          obtain ⟨b, o, rfl, -, hrg, hrd⟩ := (H.out.up (HB.out.trans (hB.mono HB.out.size))) m hml
          obtain ⟨-, -, -, -, c4⟩ := rangeAt5 hrg
          have hD : l[m].1.data.length ≤ 70656 := right_data (HT.out.right _ (List.mem_map.2 ⟨l[m], List.getElem_mem hml, rfl⟩))
          obtain ⟨da, dc, hdv, -⟩ := hrd
          have HN := hid (szs_next hml)
          have hsz : szs ((l.map Prod.fst).take m) ≤ 60000 := by
            have h1 := szs_take_le (l.map Prod.fst) m
            have h2 := HT.out.max
            have h3 := HT.out.len
            rw [tarB_len HT.out.right] at h3
            omega
          rw [hdv] at c4
          generalize szs ((l.map Prod.fst).take m) = sm at *
          generalize l[m].1.data.length = D at *
          have hi0 : (0 : Int) ≤ (m : Int) := by omega
          have hi1 : (m : Int) < (l.length : Int) := by omega
          have hi2 : (m : Int) < (K : Int) := by omega
          have hd0 : (0 : Int) ≤ (D : Int) + 511 := by omega
          clear hrg hdv
          have hE : ((D : Int) + 511) / 512 * 512 = (filledN D : Nat) := by unfold filledN; omega
          have hF : (filledN D : Nat) ≤ 71680 := by unfold filledN; omega
          have hmb : m < 200 := by have := HLL.out; omega
          have hdec : decide ((D : Int) + 511 < 0) = false := decide_eq_false (by omega)
          go_wp2
          refine ⟨⟨m + 1, by omega, by go_num, ?_, hB⟩, by simp [intOf]; omega⟩
          rw [HN.out]
          congr 1
        · have hge : ¬ ((m : Int) < (K : Int)) := by omega
          have hmK : m = K := by omega
          subst hmK
          have hsz : szs ((l.map Prod.fst).take m) + 512 ≤ n := by
            have h1 := szs_take_le (l.map Prod.fst) (m + 1)
            have h2 := szs_next (l := l) (k := m) HK.out
            have h3 := HT.out.len
            rw [tarB_len HT.out.right] at h3
            omega
          have hmx := HT.out.max
          obtain ⟨j, hj, hj5⟩ : ∃ j : Nat, ((a : Int) % 512) = (j : Int) ∧ j < 512 := ⟨a % 512, by omega, by omega⟩
          have HC := hid (fun f (hf : l.length < f) (ho : j < 148 ∨ 156 ≤ j) (hx : (tarB (l.map Prod.fst)).getD (szs ((l.map Prod.fst).take m) + j) 0 ≠ x) => parse_changed (l := l.map Prod.fst) (k := m) (j := j) (f := f) (x := x) HT.out.right (by simpa using HK.out) (by simpa using hf) (by have := HT.out.few; omega) hj5 ho hx)
          generalize szs ((l.map Prod.fst).take m) = sm at *
          have c1 : ¬ ((n : Int) < (sm : Int) + 512) := by omega
          have HB2 : Hid (Below w.heap.size w wr) := HB.out.trans (hB.mono HB.out.size)
          have HT2 := hid (HT.out.up hB)
          clear hB HT HB
          by_cases h8 : 148 ≤ j ∧ j < 156
          · have q3 : (148 : Int) ≤ (j : Int) := by omega
            have q4 : (j : Int) < 156 := by omega
            clear h8 HC
            go_wp2_with fail
            refine (tlive_any wr).mono ?_
            rintro e w3 ⟨rfl, hB3⟩
            have HB3 : Hid (Below w.heap.size w w3) := HB2.out.trans (hB3.mono HB2.out.size)
            clear hB3 HB2
            go_wp2
            go_ret
            exact ⟨rfl, HB3.out⟩
          · have ho : j < 148 ∨ 156 ≤ j := by omega
            have hcase : ¬ (148 : Int) ≤ (j : Int) ∨ ((148 : Int) ≤ (j : Int) ∧ ¬ (j : Int) < 156) := by omega
            have hin : sm + j < (tarB (l.map Prod.fst)).length := by rw [HT2.out.len]; omega
            have cy := HT2.out.blk.cell (sm + j) hin
            have HO := hid ho
            have q5 : (0 : Int) ≤ (sm : Int) + (j : Int) := by omega
            have q6 : (sm : Int) + (j : Int) < (n : Int) := by omega
            have q7 : ((sm : Int) + (j : Int)).toNat = sm + j := by omega
            clear h8 ho hin
            by_cases hx : (tarB (l.map Prod.fst)).getD (sm + j) 0 = x
            · rw [hx] at cy
              clear hx HC
              have q8 : (V x == V x) = true := by simp
              rcases hcase with q3 | ⟨q3, q4⟩
              all_goals
                go_wp2_with fail
                refine (tlive_any wr).mono ?_
                rintro e w3 ⟨rfl, hB3⟩
                have HB3 : Hid (Below w.heap.size w w3) := HB2.out.trans (hB3.mono HB2.out.size)
                clear hB3 HB2
                go_wp2
                go_ret
                exact ⟨rfl, HB3.out⟩
            · have HP := hid (HC.out 118 (by have := HLL.out; omega) HO.out hx)
              generalize (tarB (l.map Prod.fst)).getD (sm + j) 0 = y at *
              have q8 : (V y == V x) = false := beq_eq_false_iff_ne.2 (fun e => hx (V_inj e))
              clear HC hx
              rcases hcase with q3 | ⟨q3, q4⟩
              all_goals
                go_wp2_with fail
                refine (copy_blk (tarB (l.map Prod.fst)) _ wr HT2.out.rd (by rw [HT2.out.len]; omega) (by rw [HT2.out.len]; omega)).mono ?_
                rintro e w3 ⟨g3, cap3, C3, rfl, hc1, hc2, hg3, hblk, htk, hB3⟩
                have hin : sm + j < (tarB (l.map Prod.fst)).length := by rw [HT2.out.len]; omega
                have HR := hid (rd_set x hblk htk hin hc1 hc2)
                have HB3 : Hid (Below w.heap.size w (w3.setCell ⟨g3, sm + j, none⟩ (B x))) := (HB2.out.trans (hB3.mono HB2.out.size)).setCell (Nat.le_trans HB2.out.size hg3) (B x)
                have ck : w3.cell? ⟨g3, sm + j, none⟩ = some (B ((tarB (l.map Prod.fst)).getD (sm + j) 0)) := by
                  have h1 : (C3.toList.take (tarB (l.map Prod.fst)).length)[sm + j]? = some (B ((tarB (l.map Prod.fst)).getD (sm + j) 0)) := by rw [htk, List.getElem?_map, get_some (d := (0 : UInt8)) hin]; rfl
                  rw [List.getElem?_take_of_lt hin] at h1
                  rw [cell_of_block hblk]
                  simpa using h1
                generalize (tarB (l.map Prod.fst)).getD (sm + j) 0 = y3 at *
                have fk : w3.frozen? ⟨g3, sm + j, none⟩ = false := frozen_of_block hblk _
                have HM : Hid (n ≤ 60000) := HT2.out.max
                rw [HT2.out.len] at HR ⊢
                clear hblk htk hc1 hc2 hin hg3 hB3 HT2 HB2 cy
                go_upto_region 15 with fail
                generalize hW : World.setCell w3 _ _ = w4
                have HB4 : Hid (Below w.heap.size w w4) := by unfold Hid; rw [← hW]; exact HB3.out
                have HR4 : Hid (Rd w4 (.slice (some ⟨g3, 0, none⟩) n cap3) ((tarB (l.map Prod.fst)).set (sm + j) x)) := by unfold Hid; rw [← hW]; exact HR.out
                clear hW HB3 HR ck fk
                go_wp2_with fail
                refine (parse_none HR4.out HM.out HP.out).mono ?_
                rintro e w5 ⟨hB5, rfl⟩
                have HB5 : Hid (Below w.heap.size w w5) := HB4.out.trans (hB5.mono HB4.out.size)
                clear hB5 HB4 HR4 HP
                go_wp2_with fail
                refine (tlive_any w5).mono ?_
                rintro e w6 ⟨rfl, hB6⟩
                have HB6 : Hid (Below w.heap.size w w6) := HB5.out.trans (hB6.mono HB5.out.size)
                clear hB6 HB5
                go_wp2
                go_ret
                exact ⟨rfl, HB6.out⟩
end Go.Proofs.Ytdfnhgkabaikaaa
