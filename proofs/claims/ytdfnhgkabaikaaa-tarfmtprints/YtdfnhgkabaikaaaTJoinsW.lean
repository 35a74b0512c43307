/- TarfmtJoins' walk. -/
import Derived.Test.YtdfnhgkabaikaaaTBackW
namespace Go.Proofs.Ytdfnhgkabaikaaa
open Go.RowKit
theorem run_append_more {P : Program} {w : World} (t ty e : TypeId) (i : TypeInfo) (ht : P.underlying t = some (.slice e)) (hi : P.info? e = some i) (d : Addr) (n cap : Nat) (hn : n ≤ cap) (a : Option Addr) (c : Nat) :
    (Builtin.append_ #[t, t] ty #[.slice (some d) n cap, .slice a 0 c]).run P w = .ok (.slice (some d) n cap) w := by
  cases a <;> simp [Builtin.append_, run_underlying ht, sizeOf, typeInfo, Builtin.lenOf, Builtin.firstCells, loadCells, loadCellsFrom, hi, hn, storeCells]
/-- append of entries, be it none, to a row of one's own. -/
theorem wpList_append_ents {w : World} {ops : Array Oper} {rest : List Oper} {o : Oper} {a : Act} {Q : Exit → Act → World → Prop} (hgd : o.guard = none) (s x : Operand)
    (ho : o.op = .call { callee := .builtin .append, args := #[s, x], argTypes := #[22, 22] }) (base : Nat) (v : Value) (n : Nat) (xs : List Value) (hs : a.eval s = v) (hown : w.ownsRow base 31 5 v n xs)
    (sa : Option Addr) (m c : Nat) (news : List Value) (hx : a.eval x = .slice sa m c) (hl : news.length = m * 5) (hc : 0 < m → ∃ ad, sa = some ad ∧ ∀ j u, news[j]? = some u → w.cell? (ad.add j) = some u) (h1 : ∀ u ∈ news, u.oneCell' = true)
    (hn : n + m ≤ 3000000) (hbase : base ≤ w.heap.size)
    (h : ∀ v' w', w'.ownsRow base 31 5 v' (n + m) (xs ++ news) → w.grownBy w' v.ownBlock → (v'.ownBlock = v.ownBlock ∨ v'.ownBlock = some w.heap.size) → wpList Try.prog ops Q rest (a.put o.dst v') w') : wpList Try.prog ops Q (o :: rest) a w := by
  obtain ⟨i0, hi, hz0, hz1, hz2⟩ := info_parts infoE3
  rcases Nat.eq_zero_or_pos m with rfl | hpos
  · obtain rfl : news = [] := List.eq_nil_of_length_eq_zero (by simpa using hl)
    rw [List.append_nil, Nat.add_zero] at h
    have hrun : (Builtin.append_ #[22, 22] o.type #[v, .slice sa 0 c]).run Try.prog w = .ok v w := by
      rcases hown.2 with ⟨rfl, -⟩ | ⟨g, cap, cur, rfl, -, -, hle, -⟩
      · exact run_append_none _ o.type _ i0 Try.underlying22 hi sa c
      · exact run_append_more _ o.type _ i0 Try.underlying22 hi _ n cap hle sa c
    refine wpList_plain hgd fun K hK => ?_
    unfold Oper.wp
    simp [execOp, ho, resolve, invoke, builtin, hs, hx, hrun, Result.andThen]
    exact hK _ _ (h v w hown (grown_refl _ _) (.inl rfl))
  · obtain ⟨ad, rfl, hcell⟩ := hc hpos
    refine wpList_append_lies _ hgd s x _ ho base 31 i0 _ 5 72 Try.underlying22 hi hz0 hz1 hz2 rfl (by omega) v n xs hs hown ad m c news hx hl hcell h1 hpos (by unfold maxLen; omega) (by omega) hbase w.heap.size rfl ?_
    intro g cap w1 hown1 hgr hat _
    refine h _ w1 hown1 hgr ?_
    rcases hat with e | e
    · exact .inl e.symm
    · exact .inr (by rw [e]; rfl)
theorem flat5 : ∀ (l : List (EN × Value)) (i j : Nat) (hi : i < l.length), j < 5 → (l.flatMap entC)[i * 5 + j]? = (entC l[i])[j]? := by
  intro l
  induction l with
  | nil => intro i j hi; simp at hi
  | cons p l ih =>
    intro i j hi hj
    rw [List.flatMap_cons]
    have h5 : (entC p).length = 5 := rfl
    cases i with
    | zero => rw [List.getElem?_append_left (by omega)]; simp
    | succ i =>
      rw [List.getElem?_append_right (by omega), h5, show (i + 1) * 5 + j - 5 = i * 5 + j by omega, ih i j (by simpa using hi) hj]
      simp
theorem flat5_len : ∀ l : List (EN × Value), (l.flatMap entC).length = l.length * 5
  | [] => rfl
  | p :: l => by
    rw [List.flatMap_cons, List.length_append, flat5_len l, List.length_cons]
    show 5 + l.length * 5 = (l.length + 1) * 5
    omega
theorem flat5_one (l : List (EN × Value)) (hd : ∀ p ∈ l, ∃ a n c, p.2 = .slice a n c) : ∀ u ∈ l.flatMap entC, u.oneCell' = true := fun u hu => by
  obtain ⟨p, hp, hu⟩ := List.mem_flatMap.1 hu
  obtain ⟨a, n, c, he⟩ := hd p hp
  unfold entC at hu
  rw [he] at hu
  simp only [List.mem_cons, List.mem_nil_iff, or_false] at hu
  rcases hu with rfl | rfl | rfl | rfl | rfl <;> rfl
/-- The cells of entries that can be read. -/
theorem entsAt.cells {w : World} {la : Option Addr} {l : List (EN × Value)} (h : entsAt w la l) : 0 < l.length → ∃ ad, la = some ad ∧ ∀ j u, (l.flatMap entC)[j]? = some u → w.cell? (ad.add j) = some u := fun h0 => by
  obtain ⟨b, o, rfl, -⟩ := h 0 h0
  refine ⟨_, rfl, fun j u hu => ?_⟩
  have hj : j < l.length * 5 := by have := (List.getElem?_eq_some_iff.1 hu).1; rwa [flat5_len] at this
  obtain ⟨b', o', e, -, hr, -⟩ := h (j / 5) (by omega)
  simp only [Option.some.injEq, Addr.mk.injEq, and_true] at e
  obtain ⟨rfl, rfl⟩ := e
  have hj2 : j = j / 5 * 5 + j % 5 := by omega
  rw [hj2, flat5 l (j / 5) (j % 5) (by omega) (by omega)] at hu
  rw [Addr.add_mid, hj2, ← Nat.add_assoc]
  have h3 : j / 5 * 5 + j % 5 = j := by omega
  have := hr (j % 5) u hu
  rw [h3] at *
  exact this
/-- Entries in a row of one's own, their data to be read. -/
theorem ents_of_rowR {w : World} {K : Nat} {lv : Value} {acc : List (EN × Value)} (h : w.ownsRow K 31 5 lv acc.length (acc.flatMap entC)) (hd : ∀ p ∈ acc, Rd w p.2 p.1.data) : ∃ la lc, lv = .slice la acc.length lc ∧ entsAt w la acc := by
  rcases h.2 with ⟨rfl, h0⟩ | ⟨g, cap, cur, rfl, hg, hh, hc, hm, hs, hx⟩
  · have : acc = [] := List.length_eq_zero_iff.1 h0
    subst this
    exact ⟨none, 0, rfl, fun i hi => by simp at hi⟩
  · refine ⟨_, _, rfl, fun i hi => ⟨g, 0, rfl, lt_of_heap hh, fun j v hj => ?_, hd _ (List.getElem_mem hi)⟩⟩
    rw [cell_of_block hh, Nat.zero_add]
    have hj5 : j < 5 := (List.getElem?_eq_some_iff.1 hj).1
    have h1 : (acc.flatMap entC)[i * 5 + j]? = some v := by rw [flat5 acc i j hi hj5]; exact hj
    have h2 : i * 5 + j < acc.length * 5 := by omega
    have h3 : (cur.toList.take (acc.length * 5))[i * 5 + j]? = some v := by rw [hx]; exact h1
    rw [List.getElem?_take_of_lt h2] at h3
    simpa using h3
theorem entsAt.data {w : World} {la : Option Addr} {l : List (EN × Value)} (h : entsAt w la l) : ∀ p ∈ l, Rd w p.2 p.1.data := fun p hp => by
  obtain ⟨i, hi, rfl⟩ := List.getElem_of_mem hp
  obtain ⟨b, o, -, -, -, hd⟩ := h i hi
  exact hd
theorem Rd.slice {w : World} {v : Value} {bs : List UInt8} (h : Rd w v bs) : ∃ a n c, v = .slice a n c := by
  obtain ⟨ao, cap, rfl, -⟩ := h
  exact ⟨_, _, _, rfl⟩
/-- append of bytes that can be read to bytes of one's own, where it is wanted. -/
theorem wpList_append_buf {w0 w : World} {ops : Array Oper} {rest : List Oper} {o : Oper} {a : Act} {Q : Exit → Act → World → Prop} (hwd : Region.wanted o (yielded ops a.tmps) = true) (s x : Operand)
    (ho : o.op = .call { callee := .builtin .append, args := #[s, x], argTypes := #[23, 23] }) (K : Nat) (v xv : Value) (bs cs : List UInt8) (hs : a.eval s = v) (hown : Buf K w0 w v bs) (hx : a.eval x = xv) (hr : Rd w xv cs) (h0 : 0 < cs.length) (hn : bs.length + cs.length ≤ 1000000)
    (h : ∀ v' w', Buf K w0 w' v' (bs ++ cs) → Below K w w' → wpList Try.prog ops Q rest (a.put o.dst v') w') : wpList Try.prog ops Q (o :: rest) a w := by
  obtain ⟨i0, hi, hz0, hz1, hz2⟩ := info_parts infoU
  obtain ⟨ao, cap, rfl, r1, r2, r3, r4⟩ := hr
  cases ao with
  | none => have := r3 rfl; omega
  | some ad =>
    obtain ⟨v', w', hrun, h2, h3, -⟩ := run_append_ownF (P := Try.prog) w K 23 o.type 5 i0 _ 1 1 Try.underlying23 hi hz0 hz1 hz2 rfl (by omega) v bs.length (bs.map B) hown.1 ad cs.length cap (cs.map B) (by simp) (fun j u hu => by
      rw [List.getElem?_map] at hu
      obtain ⟨x, hxj, rfl⟩ := Option.map_eq_some_iff.1 hu
      obtain ⟨b', off', rfl, _, hc⟩ := r4 _ rfl j x hxj
      rw [Addr.add_mid]; exact hc) (B_one _) (by unfold maxLen; omega) (by omega) hown.2.2
    have hK : ∀ g, v.ownBlock = some g → K ≤ g := fun g hg => by
      rcases hown.1.2 with ⟨rfl, -⟩ | ⟨g', cap, cur, fz, rfl, hbg, -⟩
      · simp [Value.ownBlock] at hg
      · simp [Value.ownBlock] at hg
        omega
    have hB : Below K w w' := ⟨h3.os, h3.tape, h3.output, h3.size, fun k hk => h3.block k (by have := hown.2.2; omega) (fun e => by have := hK k e.symm; omega)⟩
    unfold wpList
    rw [if_pos hwd]
    refine .inl ?_
    unfold Oper.wp execOp
    simp only [ho, resolve, invoke, builtin, Sem.run_bind, Sem.run_pure, Result.andThen_ok, List.map_toArray, List.map_cons, List.map_nil, hs, hx, hrun]
    refine h v' w' ⟨?_, hown.2.1.trans hB, Nat.le_trans hown.2.2 h3.size⟩ hB
    rw [List.length_append, List.map_append]
    exact h2
set_option maxHeartbeats 2000000 in
set_option maxRecDepth 100000 in
theorem joins_walk (l1 l2 : List (EN × Value)) (a1 a2 : Option Addr) (c1 c2 : Nat) (w : World) (h1 : entsAt w a1 l1) (h2 : entsAt w a2 l2) (hl : l1.length + l2.length ≤ 3000000) :
    Calls Try.prog 8 #[.slice a1 l1.length c1, .slice a2 l2.length c2] w fun e w' => e = .returned (.bool true) ∧ Below w.heap.size w w' := by
  have H1 := hid h1
  have H2 := hid h2
  have HL := hid hl
  clear h1 h2 hl
  have HO1 := hid (flat5_one l1 (fun p hp => (H1.out.data p hp).slice))
  have HO2 := hid (flat5_one l2 (fun p hp => (H2.out.data p hp).slice))
  go_enter Try.func8, Try.ntmps8
  go_wp2_with (first
    | (refine wpList_append_ents rfl (.tmp 12) (.tmp 13) rfl w.heap.size (.slice none 0 0) 0 [] rfl (World.ownsRow_nil _ _ _ _) a1 l1.length c1 (l1.flatMap entC) rfl (flat5_len _) H1.out.cells HO1.out (by have := HL.out; omega) (Nat.le_refl _) ?_; intro v1 w1 hown1 hgr1 hat1; have hB1 : Hid (Below w.heap.size w w1) := ⟨hgr1.os, hgr1.tape, hgr1.output, hgr1.size, fun k hk => hgr1.block k hk (by simp [Value.ownBlock])⟩; have hw1 := hid hown1; clear hown1 hgr1)
    | (refine wpList_append_ents rfl (.tmp 14) (.tmp 15) rfl w.heap.size v1 (0 + l1.length) ([] ++ l1.flatMap entC) rfl hw1.out a2 l2.length c2 (l2.flatMap entC) rfl (flat5_len _) (H2.out.up hB1.out).cells HO2.out (by have := HL.out; omega) hB1.out.size ?_; intro v2 w2 hown2 hgr2 hat2; have hw2 := hid hown2; have hG2 := hid hgr2; clear hown2 hgr2))
  have HB2 : Hid (Below w.heap.size w w2) := ⟨hG2.out.os.trans hB1.out.os, hG2.out.tape.trans hB1.out.tape, hG2.out.output.trans hB1.out.output, Nat.le_trans hB1.out.size hG2.out.size, fun k hk => (hG2.out.block k (Nat.lt_of_lt_of_le hk hB1.out.size) (by rcases hat1 with e | e <;> rw [e] <;> simp [Value.ownBlock] <;> omega)).trans (hB1.out.block k hk)⟩
  obtain ⟨la, lc, rfl, hE⟩ := ents_of_rowR (w := w2) (K := w.heap.size) (lv := v2) (acc := l1 ++ l2) (by have := hw2.out; rw [List.nil_append, Nat.zero_add] at this; rw [List.length_append, List.flatMap_append]; exact this) (fun p hp => by
    rcases List.mem_append.1 hp with hp | hp
    · exact (H1.out.data p hp).up HB2.out
    · exact (H2.out.data p hp).up HB2.out)
  have HE := hid hE
  have HL2 : Hid ((l1 ++ l2).length ≤ 3000000) := by unfold Hid; rw [List.length_append]; exact HL.out
  have HM : Hid ((l1 ++ l2).map Prod.fst = l1.map Prod.fst ++ l2.map Prod.fst) := List.map_append
  generalize l1 ++ l2 = l3 at *
  clear hE hw2 hw1 hG2 hB1 hat1 hat2 HO1 HO2
  refine (print_any l1 a1 c1 w2 (H1.out.up HB2.out) (by have := HL.out; omega)).mono ?_
  rintro e w3 h3
  obtain ⟨hB3, h3'⟩ := print_to h3
  have HB3 : Hid (Below w.heap.size w w3) := HB2.out.trans (hB3.mono HB2.out.size)
  have HE3 := hid (HE.out.up hB3)
  clear h3 hB3 HB2 HE
  rcases h3' with ⟨er, hE, rfl⟩ | ⟨g1, n1, hg1, rfl, hT1⟩
  · have hne : (er != 0) = true := bne_iff_ne.2 hE.ne
    clear hE
    go_wp2_with fail
    refine (print_any l2 a2 c2 w3 (H2.out.up HB3.out) (by have := HL.out; omega)).mono ?_
    rintro e w4 h4
    obtain ⟨hB4, h4'⟩ := print_to h4
    have HB4 : Hid (Below w.heap.size w w4) := HB3.out.trans (hB4.mono HB3.out.size)
    have HE4 := hid (HE3.out.up hB4)
    clear h4 hB4 HB3 HE3
    obtain ⟨vy, ey, rfl⟩ : ∃ vy ey, e = .returned (.tuple #[vy, .int .i64 ey]) := by
      rcases h4' with ⟨er, -, rfl⟩ | ⟨g1, n1, -, rfl, -⟩
      · exact ⟨_, _, rfl⟩
      · exact ⟨_, _, rfl⟩
    clear h4'
    go_wp2_with fail
    refine (print_any l3 la lc w4 HE4.out (by have := HL2.out; omega)).mono ?_
    rintro e w5 h5
    obtain ⟨hB5, h5'⟩ := print_to h5
    have HB5 : Hid (Below w.heap.size w w5) := HB4.out.trans (hB5.mono HB4.out.size)
    clear h5 hB5 HB4 HE4
    obtain ⟨vz, ez, rfl⟩ : ∃ vy ey, e = .returned (.tuple #[vy, .int .i64 ey]) := by
      rcases h5' with ⟨er, -, rfl⟩ | ⟨g1, n1, -, rfl, -⟩
      · exact ⟨_, _, rfl⟩
      · exact ⟨_, _, rfl⟩
    clear h5'
    go_wp2_with fail
    refine (tlive_any w5).mono ?_
    rintro e w6 ⟨rfl, hB6⟩
    have HB6 : Hid (Below w.heap.size w w6) := HB5.out.trans (hB6.mono HB5.out.size)
    clear hB6 HB5
    go_wp2
    go_ret
    exact ⟨rfl, HB6.out⟩
  · have HT1 := hid hT1
    clear hT1 hg1
    go_wp2_with fail
    refine (print_any l2 a2 c2 w3 (H2.out.up HB3.out) (by have := HL.out; omega)).mono ?_
    rintro e w4 h4
    obtain ⟨hB4, h4'⟩ := print_to h4
    have HB4 : Hid (Below w.heap.size w w4) := HB3.out.trans (hB4.mono HB3.out.size)
    have HE4 := hid (HE3.out.up hB4)
    have HT14 := hid (HT1.out.up hB4)
    clear h4 hB4 HB3 HE3 HT1
    rcases h4' with ⟨er, hE, rfl⟩ | ⟨g2, n2, hg2, rfl, hT2⟩
    · have hne : (er != 0) = true := bne_iff_ne.2 hE.ne
      clear hE
      go_wp2_with fail
      refine (print_any l3 la lc w4 HE4.out (by have := HL2.out; omega)).mono ?_
      rintro e w5 h5
      obtain ⟨hB5, h5'⟩ := print_to h5
      have HB5 : Hid (Below w.heap.size w w5) := HB4.out.trans (hB5.mono HB4.out.size)
      clear h5 hB5 HB4 HE4
      obtain ⟨vz, ez, rfl⟩ : ∃ vy ey, e = .returned (.tuple #[vy, .int .i64 ey]) := by
        rcases h5' with ⟨er, -, rfl⟩ | ⟨g1, n1, -, rfl, -⟩
        · exact ⟨_, _, rfl⟩
        · exact ⟨_, _, rfl⟩
      clear h5'
      go_wp2_with fail
      refine (tlive_any w5).mono ?_
      rintro e w6 ⟨rfl, hB6⟩
      have HB6 : Hid (Below w.heap.size w w6) := HB5.out.trans (hB6.mono HB5.out.size)
      clear hB6 HB5
      go_wp2
      go_ret
      exact ⟨rfl, HB6.out⟩
    · have HT2 := hid hT2
      clear hT2 hg2
      go_wp2_with fail
      refine (print_any l3 la lc w4 HE4.out (by have := HL2.out; omega)).mono ?_
      rintro e w5 h5
      obtain ⟨hB5, h5'⟩ := print_to h5
      have HB5 : Hid (Below w.heap.size w w5) := HB4.out.trans (hB5.mono HB4.out.size)
      have HT15 := hid (HT14.out.up hB5)
      have HT25 := hid (HT2.out.up hB5)
      clear h5 hB5 HB4 HE4 HT14 HT2
      rcases h5' with ⟨er, hE, rfl⟩ | ⟨g3, n3, hg3, rfl, hT3⟩
      · have hne : (er != 0) = true := bne_iff_ne.2 hE.ne
        clear hE
        go_wp2_with fail
        refine (tlive_any w5).mono ?_
        rintro e w6 ⟨rfl, hB6⟩
        have HB6 : Hid (Below w.heap.size w w6) := HB5.out.trans (hB6.mono HB5.out.size)
        clear hB6 HB5
        go_wp2
        go_ret
        exact ⟨rfl, HB6.out⟩
      · have HT3 := hid hT3
        clear hT3 hg3
        have hn1 : ¬ ((n1 : Int) < 1024) := by have := HT15.out.len; rw [tarB_len HT15.out.right] at this; omega
        go_wp2_with fail
        refine (tlive_any w5).mono ?_
        rintro e w6 ⟨rfl, hB6⟩
        have HB6 : Hid (Below w.heap.size w w6) := HB5.out.trans (hB6.mono HB5.out.size)
        have HT16 := hid (HT15.out.up hB6)
        have HT26 := hid (HT25.out.up hB6)
        have HT36 := hid (HT3.out.up hB6)
        clear hB6 HB5 HT15 HT25 HT3
        have hmx := HT16.out.max
        obtain ⟨m, rfl⟩ : ∃ m, n1 = m + 1024 := ⟨n1 - 1024, by omega⟩
        have q0 : (0 : Int) ≤ ((m + 1024 : Nat) : Int) - 1024 := by omega
        have q1 : ((m + 1024 : Nat) : Int) - 1024 ≤ ((m + 1024 : Nat) : Int) := by omega
        have q2 : (((m + 1024 : Nat) : Int) - 1024).toNat = m := by omega
        go_wp2_with fail
        have hfl : (flat (l1.map Prod.fst)).length = m := by
          have h1 := HT16.out.len
          rw [tarB_len HT16.out.right] at h1
          rw [flat_len HT16.out.right]
          omega
        have HRd : Hid (Rd w6 (.slice (some ⟨g1, 0, none⟩) m (m + 1024)) (flat (l1.map Prod.fst))) := by
          refine ⟨_, m + 1024, by rw [hfl], by omega, by omega, (fun h => by cases h), fun ad ha i x hx => ?_⟩
          cases ha
          have hi : i < m := by have := (List.getElem?_eq_some_iff.1 hx).1; omega
          refine ⟨g1, 0, rfl, lt_of_heap HT16.out.blk, ?_⟩
          rw [Nat.zero_add, HT16.out.blk.cell i (by rw [HT16.out.len]; omega), List.getD_eq_getElem?_getD]
          unfold tarB
          rw [List.getElem?_append_left (by omega), hx]
          rfl
        have HFl := hid hfl
        refine (copy_buf (flat (l1.map Prod.fst)) _ w6 HRd.out (by omega)).mono ?_
        rintro e w7 ⟨v7, rfl, hbf⟩
        have HBf := hid hbf
        have HT27 := hid (HT26.out.up hbf.2.1)
        have h20 : 0 < (tarB (l2.map Prod.fst)).length := by rw [tarB_len HT27.out.right]; omega
        have HN : Hid ((flat (l1.map Prod.fst)).length + (tarB (l2.map Prod.fst)).length ≤ 1000000) := by unfold Hid; rw [HT27.out.len]; have := HT27.out.max; omega
        have H20 := hid h20
        clear hfl hbf HRd HT26 HT16 h20
        go_wp2_with (refine wpList_append_buf (by rfl) (.tmp 54) (.tmp 55) rfl w6.heap.size v7 (.slice (some ⟨g2, 0, none⟩) n2 n2) (flat (l1.map Prod.fst)) (tarB (l2.map Prod.fst)) rfl HBf.out rfl HT27.out.rd H20.out HN.out ?_; intro v8 w8 hb8 hB8; have HB8 := hid hb8; have HBw8 := hid hB8; clear hb8 hB8)
        have hR3 : Rd w8 (.slice (some ⟨g3, 0, none⟩) n3 n3) (flat (l1.map Prod.fst) ++ tarB (l2.map Prod.fst)) := by
          have := (HT36.out.up HB8.out.2.1).rd
          rw [HM.out, tarB_append] at this
          exact this
        refine (same_rd _ _ v8 w8 hR3 (Rd.of_buf HB8.out)).mono ?_
        rintro e w9 ⟨rfl, hB9⟩
        have HB9 : Hid (Below w.heap.size w w9) := by
          have h8 : Below w.heap.size w w8 := HB6.out.trans (HB8.out.2.1.mono HB6.out.size)
          exact h8.trans (hB9.mono h8.size)
        clear hR3 hB9 HB8 HBw8 HT36 HT27 HBf HB6 HN H20 HFl HM HL2
        go_wp2
        go_ret
        exact ⟨rfl, HB9.out⟩
end Go.Proofs.Ytdfnhgkabaikaaa
