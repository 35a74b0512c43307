/- The reference's Decode. -/
import Derived.Test.YtkmmeokccmppbaaFWord
import Derived.Test.YtkmmeokccmppbaaMDec
namespace Go.Proofs.Ytkmmeokccmppbaa
open Go.RowKit
theorem dec_sig {bs : List UInt8} (h : bs.take 3 ≠ [68, 77, 1]) : dec bs = none := by
  unfold dec pRead
  rw [if_neg h]
theorem err_word1 {m : MS} (h : wordOk m.os = false) : m.err ≠ 0 := fun e => by have := (err_zero e).1; rw [h] at this; cases this
theorem err_word2 {m : MS} (h : wordOk m.arch = false) : m.err ≠ 0 := fun e => by have := (err_zero e).2.1; rw [h] at this; cases this
theorem dec_word1 {bs : List UInt8} (h : ∀ s t, pWord (bs.drop 3) = some (s, t) → wordOk s = false) : dec bs = none := by
  cases hd : dec bs with
  | none => rfl
  | some m =>
    obtain ⟨e, h32, he⟩ := dec_some hd
    have hw := (err_zero he).1
    have := pWord_word hw (wordB m.arch ++ (UInt8.ofNat m.ls.length :: m.ls.flatten))
    have hb : bs.drop 3 = wordB m.os ++ (wordB m.arch ++ (UInt8.ofNat m.ls.length :: m.ls.flatten)) := by rw [← e]; simp [enc]
    have h2 := h _ _ (by rw [hb]; exact this)
    rw [hw] at h2
    cases h2
theorem dec_word2 {bs s t : List UInt8} (h1 : pWord (bs.drop 3) = some (s, t)) (h : ∀ s t', pWord t = some (s, t') → wordOk s = false) : dec bs = none := by
  cases hd : dec bs with
  | none => rfl
  | some m =>
    obtain ⟨e, h32, he⟩ := dec_some hd
    have hw := (err_zero he).1
    have hw2 := (err_zero he).2.1
    have h3 := pWord_word hw (wordB m.arch ++ (UInt8.ofNat m.ls.length :: m.ls.flatten))
    have hb : bs.drop 3 = wordB m.os ++ (wordB m.arch ++ (UInt8.ofNat m.ls.length :: m.ls.flatten)) := by rw [← e]; simp [enc]
    rw [hb, h3] at h1
    simp only [Option.some.injEq, Prod.mk.injEq] at h1
    have h2 := h _ _ (by rw [← h1.2]; exact pWord_word hw2 _)
    rw [hw2] at h2
    cases h2
/-- Behind two words that are right. -/
theorem dec_words {bs s t s2 t2 : List UInt8} (h0 : bs.take 3 = [68, 77, 1]) (h1 : pWord (bs.drop 3) = some (s, t)) (hw1 : wordOk s = true) (h2 : pWord t = some (s2, t2)) (hw2 : wordOk s2 = true) :
    dec bs = match pLayers t2 with | none => none | some ls => if ls.length ≤ 8 then some ⟨s, s2, ls⟩ else none := by
  unfold dec pRead
  rw [if_pos h0, h1]
  simp only [h2]
  cases hp : pLayers t2 with
  | none => rfl
  | some ls =>
    simp only
    by_cases hl : ls.length ≤ 8
    · rw [if_pos hl, if_pos]
      unfold MS.err
      simp [hw1, hw2]
      omega
    · rw [if_neg hl, if_neg]
      unfold MS.err
      simp [hw1, hw2]
      omega
theorem dec_layers {bs s t s2 : List UInt8} {n : UInt8} {t2 : List UInt8} (h0 : bs.take 3 = [68, 77, 1]) (h1 : pWord (bs.drop 3) = some (s, t)) (hw1 : wordOk s = true) (h2 : pWord t = some (s2, n :: t2)) (hw2 : wordOk s2 = true) :
    (n.toNat ≤ 8 ∧ t2.length = 32 * n.toNat → dec bs = some ⟨s, s2, chunks n.toNat t2⟩) ∧ (¬ (n.toNat ≤ 8 ∧ t2.length = 32 * n.toNat) → dec bs = none) := by
  have hd := dec_words h0 h1 hw1 h2 hw2
  simp only [pLayers] at hd
  refine ⟨fun ⟨a, b⟩ => ?_, fun hn => ?_⟩
  · rw [hd, if_pos b]
    simp only
    rw [if_pos (by rw [(flatten_chunks n.toNat t2 b).2.1]; exact a)]
  · rw [hd]
    by_cases b : t2.length = 32 * n.toNat
    · rw [if_pos b]
      simp only
      rw [if_neg (by rw [(flatten_chunks n.toNat t2 b).2.1]; exact fun a => hn ⟨a, b⟩)]
    · rw [if_neg b]
theorem dec_short {bs s t s2 : List UInt8} (h0 : bs.take 3 = [68, 77, 1]) (h1 : pWord (bs.drop 3) = some (s, t)) (hw1 : wordOk s = true) (h2 : pWord t = some (s2, [])) (hw2 : wordOk s2 = true) : dec bs = none := by
  rw [dec_words h0 h1 hw1 h2 hw2]
  rfl
theorem take3 {bs : List UInt8} (h : 3 ≤ bs.length) : bs.take 3 = [bs.getD 0 0, bs.getD 1 0, bs.getD 2 0] := by
  match bs, h with
  | a :: b :: c :: r, _ => rfl
theorem row_below {w w' : World} {K size n : Nat} {e : TypeId} {v : Value} {xs : List Value} (h : w.ownsRow K e size v n xs) (hB : Below w.heap.size w w') : w'.ownsRow K e size v n xs := by
  refine ⟨h.1, ?_⟩
  rcases h.2 with h | ⟨g, cap, cur, e, hg, hh, r⟩
  · exact .inl h
  · exact .inr ⟨g, cap, cur, e, hg, (hB.block g (lt_of_heap hh)).trans hh, r⟩
/-- The first i bytes, and noughts. -/
def fillTo (l : List UInt8) (i : Nat) : List UInt8 := l.take i ++ List.replicate (32 - i) 0
theorem fillTo_len (l : List UInt8) (h : l.length = 32) (i : Nat) (hi : i ≤ 32) : (fillTo l i).length = 32 := by
  simp [fillTo, h]; omega
theorem fillTo_set (l : List UInt8) (h : l.length = 32) (i : Nat) (hi : i < 32) : (fillTo l i).set i (l.getD i 0) = fillTo l (i + 1) := by
  unfold fillTo
  have e : 32 - i = (32 - (i + 1)) + 1 := by omega
  have hl : i < l.length := by omega
  have hm : (l.take i).length = i := by rw [List.length_take]; omega
  rw [List.set_append_right _ _ (by omega), hm, Nat.sub_self, e, List.replicate_succ, List.set_cons_zero, List.getD_eq_getElem?_getD, List.getElem?_eq_getElem hl, List.take_succ_eq_append_getElem hl, List.append_assoc]
  rfl
theorem fillTo_all (l : List UInt8) (h : l.length = 32) : fillTo l 32 = l := by
  simp [fillTo, List.take_of_length_le (show l.length ≤ 32 by omega)]
theorem V_is (x : UInt8) (n : Nat) (hn : n < 256) (h : V x = (n : Int)) : x = UInt8.ofNat n := by
  apply UInt8.toNat_inj.1
  unfold V at h
  rw [UInt8.toNat_ofNat']
  omega
set_option maxHeartbeats 2000000 in
set_option maxRecDepth 100000 in
theorem fdecode_any (w : World) (v : Value) (bs : List UInt8) (hr : Rd w v bs) (hbl : (bs.length : Int) ≤ 9223372036854774000) : Calls Try.prog 10 #[v] w fun e w' => DecTo w w' bs e := by
  have hB0 : Below w.heap.size w (w.alloc (.cells #[str [], str [], .slice none 0 0] 26)) := (Below.refl _ _).alloc (Nat.le_refl _) _
  have HR := hid (hr.up hB0)
  have HB := hid hB0
  have HM : Hid ((w.alloc (.cells #[str [], str [], .slice none 0 0] 26)).heap[w.heap.size]? = some (.cells #[str [], str [], .slice none 0 0] 26 (0, 0))) := block_new w _
  have hs0 : w.heap.size < (w.alloc (.cells #[str [], str [], .slice none 0 0] 26)).heap.size := by simp
  clear hB0
  obtain ⟨ao, cap, rfl, h1, h2, h3, -⟩ := hr
  by_cases hlen : bs.length < 3
  · have HD : Hid (dec bs = none) := dec_sig (fun h => by have := congrArg List.length h; simp at this; omega)
    have q1 : (bs.length : Int) < 3 := by omega
    go_enter Try.func10, Try.ntmps10
    go_wp2_with (refine wpList_store_block rfl 26 (.tmp 2) (.tmp 33) rfl w.heap.size #[str [], str [], .slice none 0 0] rfl rfl _ 26 HM.out rfl infoM (oneM _ _ _ _ _) ?_; intro w6 hg6 hb6 hz6; have H6 := hid hb6; have HB6 := hid (HB.out.grown hg6 HB.out.size (fun k hk => by cases hk; exact Nat.le_refl _)); clear hg6 hb6 hz6)
    refine bodyPost_ret (results_cell_slot Try.results10 _ _ rfl H6.out _ Try.underlying26 rfl infoM) rfl ⟨.inl ⟨HD.out, rfl⟩, HB6.out⟩
  · have q1 : ¬ ((bs.length : Int) < 3) := by omega
    have q2 : (0 : Int) < (bs.length : Int) := by omega
    have q3 : (1 : Int) < (bs.length : Int) := by omega
    have q4 : (2 : Int) < (bs.length : Int) := by omega
    obtain ⟨b, o, rfl, c0⟩ := HR.out.cell (j := 0) (by omega)
    obtain ⟨b', o', e1, c1⟩ := HR.out.cell (j := 1) (by omega)
    obtain ⟨b2', o2', e2, c2⟩ := HR.out.cell (j := 2) (by omega)
    simp only [Option.some.injEq, Addr.mk.injEq, and_true] at e1 e2
    obtain ⟨rfl, rfl⟩ := e1
    obtain ⟨rfl, rfl⟩ := e2
    rw [Nat.add_zero] at c0
    have HT := hid (take3 (bs := bs) (by omega))
    have HW1 := hid (fword_any _ _ bs 3 HR.out (by omega) (by omega))
    generalize bs.getD 0 0 = x0 at *
    generalize bs.getD 1 0 = x1 at *
    generalize bs.getD 2 0 = x2 at *
    by_cases g0 : V x0 = 68
    · by_cases g1 : V x1 = 77
      · by_cases g2 : V x2 = 1
        · have HSg : Hid (bs.take 3 = [68, 77, 1]) := by
            unfold Hid
            rw [HT.out, V_is x0 68 (by omega) g0, V_is x1 77 (by omega) g1, V_is x2 1 (by omega) g2]
            rfl
          have e0 : (V x0 != 68) = false := by rw [bne_eq_false_iff_eq]; exact g0
          have e1 : (V x1 != 77) = false := by rw [bne_eq_false_iff_eq]; exact g1
          have e2 : (V x2 != 1) = false := by rw [bne_eq_false_iff_eq]; exact g2
          clear g0 g1 g2 HT
          go_enter Try.func10, Try.ntmps10
          go_wp2_with fail
          refine HW1.out.mono ?_
          clear HW1 e0 e1 e2 c0 c1 c2
          generalize w.alloc (.cells #[str [], str [], .slice none 0 0] 26) = w1 at *
          rintro e w2 ⟨⟨s', i', rfl, hno⟩ | ⟨s, t, hp1, hw1, htl, htd, rfl⟩, hB2⟩
          · have HD : Hid (dec bs = none) := dec_word1 hno
            replace HM := hid ((hB2.block _ hs0).trans HM.out)
            replace HB := hid (HB.out.trans (hB2.mono HB.out.size))
            clear hno hB2 HSg
            go_wp2_with (refine wpList_store_block rfl 26 (.tmp 2) (.tmp 42) rfl w.heap.size #[str [], str [], .slice none 0 0] rfl rfl _ 26 HM.out rfl infoM (oneM _ _ _ _ _) ?_; intro w6 hg6 hb6 hz6; have H6 := hid hb6; have HB6 := hid (HB.out.grown hg6 HB.out.size (fun k hk => by cases hk; exact Nat.le_refl _)); clear hg6 hb6 hz6)
            refine bodyPost_ret (results_cell_slot Try.results10 _ _ rfl H6.out _ Try.underlying26 rfl infoM) rfl ⟨.inl ⟨HD.out, rfl⟩, HB6.out⟩
          · replace HM := hid ((hB2.block _ hs0).trans HM.out)
            replace HB := hid (HB.out.trans (hB2.mono HB.out.size))
            replace HR := hid (HR.out.up hB2)
            have hs1 := lt_of_heap HM.out
            have hjl : 3 + 1 + s.length ≤ bs.length := by omega
            have HP1 := hid hp1
            have HTd := hid htd
            have HTl := hid htl
            clear hs0 hB2 hp1 htd htl
            generalize hj : 3 + 1 + s.length = j at *
            have HW2 := hid (fword_any w2 _ bs j HR.out (by omega) (by omega))
            have HWs := hid hw1
            clear hw1 hj
            go_wp2_with fail
            refine HW2.out.mono ?_
            clear HW2
            rintro e w3 ⟨⟨s', i', rfl, hno⟩ | ⟨s2, t2, hp2, hw2, htl2, htd2, rfl⟩, hB3⟩
            · have HD : Hid (dec bs = none) := dec_word2 HP1.out (by rw [HTd.out]; exact hno)
              replace HM := hid ((hB3.block _ hs1).trans HM.out)
              replace HB := hid (HB.out.trans (hB3.mono HB.out.size))
              clear hno hB3 HSg
              go_wp2_with (refine wpList_store_block rfl 26 (.tmp 2) (.tmp 79) rfl w.heap.size #[str [], str [], .slice none 0 0] rfl rfl _ 26 HM.out rfl infoM (oneM _ _ _ _ _) ?_; intro w6 hg6 hb6 hz6; have H6 := hid hb6; have HB6 := hid (HB.out.grown hg6 HB.out.size (fun k hk => by cases hk; exact Nat.le_refl _)); clear hg6 hb6 hz6)
              refine bodyPost_ret (results_cell_slot Try.results10 _ _ rfl H6.out _ Try.underlying26 rfl infoM) rfl ⟨.inl ⟨HD.out, rfl⟩, HB6.out⟩
            · rw [← HTd.out] at hp2
              replace HM := hid ((hB3.block _ hs1).trans HM.out)
              replace HB := hid (HB.out.trans (hB3.mono HB.out.size))
              replace HR := hid (HR.out.up hB3)
              have hs2 := lt_of_heap HM.out
              have hj2l : j + 1 + s2.length ≤ bs.length := by omega
              have HP2 := hid hp2
              have HTd2 := hid htd2
              have HTl2 := hid htl2
              have HWs2 := hid hw2
              clear hs1 hB3 hp2 htd2 htl2 hw2 hjl HTl
              generalize hj2 : j + 1 + s2.length = j2 at *
              clear hj2
              by_cases hge : j2 < bs.length
              · obtain ⟨b4, o4, e4, c4⟩ := HR.out.cell hge
                simp only [Option.some.injEq, Addr.mk.injEq, and_true] at e4
                obtain ⟨rfl, rfl⟩ := e4
                have hdr : t2 = bs.getD j2 0 :: bs.drop (j2 + 1) := by
                  rw [HTd2.out, List.drop_eq_getElem_cons hge, List.getD_eq_getElem?_getD, List.getElem?_eq_getElem hge]
                  rfl
                have hdl : (bs.drop (j2 + 1)).length = bs.length - (j2 + 1) := List.length_drop
                have HT3 : Hid (∀ i, i < bs.length - (j2 + 1) → (bs.drop (j2 + 1)).getD i 0 = bs.getD (j2 + 1 + i) 0) := fun i hi => by
                  rw [List.getD_eq_getElem?_getD, List.getD_eq_getElem?_getD, List.getElem?_drop]
                generalize bs.getD j2 0 = n at *
                subst hdr
                have HDL := hid (dec_layers HSg.out HP1.out HWs.out HP2.out HWs2.out)
                generalize bs.drop (j2 + 1) = t3 at *
                have n0 := V_nonneg n
                have n1 := V_lt n
                have HVn : Hid (V n = ((n.toNat : Nat) : Int)) := rfl
                have p1 : ¬ ((j2 : Int) ≥ (bs.length : Int)) := by omega
                have p2 : (0 : Int) ≤ (j2 : Int) := by omega
                have p3 : (j2 : Int) < (bs.length : Int) := by omega
                clear HP1 HP2 HSg HWs HWs2
                by_cases hn8 : n.toNat ≤ 8
                · have r1 : ¬ (V n > 8) := by rw [HVn.out]; omega
                  by_cases hl : t3.length = 32 * n.toNat
                  · have HD := hid (HDL.out.1 ⟨hn8, hl⟩)
                    have r2 : ((bs.length : Int) != (j2 : Int) + 1 + 32 * V n) = false := by rw [bne_eq_false_iff_eq, HVn.out]; omega
                    clear HDL
                    have hd1 : decide (bs.length ≤ j2) = false := decide_eq_false (by omega)
                    have hd2 : decide ((8 : Int) < V n) = false := decide_eq_false (by rw [HVn.out]; omega)
                    go_wp2
                    have hbM : Below w3.heap.size w3 (w3.alloc (.cells #[str s, str s2, .slice none 0 0] 26)) := (Below.refl _ _).alloc (Nat.le_refl _) _
                    have HMm : Hid ((w3.alloc (.cells #[str s, str s2, .slice none 0 0] 26)).heap[w3.heap.size]? = some (.cells #[str s, str s2, .slice none 0 0] 26 (0, 0))) := block_new w3 _
                    have HbM := hid hbM
                    clear hbM
                    generalize w3.alloc (.cells #[str s, str s2, .slice none 0 0] 26) = wA at *
                    go_loopw [9] (fun kv wr => ∃ (c : Nat) (lv : Value), c ≤ n.toNat ∧ kv = .int .i64 ((j2 : Int) + 1 + 32 * (c : Int)) ∧ Hid (wr.heap[w3.heap.size]? = some (.cells #[str s, str s2, lv] 26 (0, 0))) ∧ Hid (wr.ownsRow (w3.heap.size + 1) 40 32 lv c ((t3.take (32 * c)).map B)) ∧ Hid (Below w3.heap.size w3 wr)) (fun kv _ => bs.length - (intOf kv).toNat)
                    case atStart => exact ⟨0, _, by omega, by go_num, HMm, World.ownsRow_nil _ _ _ _, HbM⟩
                    case round =>
                      clear HMm HbM
                      obtain ⟨c, lv, hc, rfl, HMw, HO, HBw⟩ := hrel
                      by_cases hcn : c < n.toNat
                      · have d1 : (j2 : Int) + 1 + 32 * (c : Int) < (bs.length : Int) := by omega
                        have d2 : (c : Int) < 8 := by omega
                        have d3 : (0 : Int) ≤ (c : Int) := by omega
                        have hsw := lt_of_heap HMw.out
                        have HRw := hid (HR.out.up HBw.out)
                        obtain ⟨wk, hwk⟩ : ∃ wk, wk = wr := ⟨_, rfl⟩
                        subst hwk
                        have hl32 : ((t3.drop (32 * c)).take 32).length = 32 := by rw [List.length_take, List.length_drop]; omega
                        have HTk : Hid (t3.take (32 * (c + 1)) = t3.take (32 * c) ++ (t3.drop (32 * c)).take 32) := by
                          unfold Hid
                          rw [show 32 * (c + 1) = 32 * c + 32 by omega, List.take_add]
                        have HG : Hid (∀ i, i < 32 → ((t3.drop (32 * c)).take 32).getD i 0 = bs.getD (j2 + 1 + 32 * c + i) 0) := fun i hi => by
                          rw [List.getD_eq_getElem?_getD, List.getElem?_take_of_lt hi, List.getElem?_drop, ← List.getD_eq_getElem?_getD, HT3.out _ (by omega), Nat.add_assoc (j2 + 1)]
                        generalize (t3.drop (32 * c)).take 32 = l at *
                        have Hl32 := hid hl32
                        clear hl32
                        go_wp2
                        go_loopw [11] (fun iv wi => ∃ i : Nat, i ≤ 32 ∧ iv = .int .i64 i ∧ Hid (wi.heap[wk.heap.size]? = some (.cells ((fillTo l i).map B).toArray 40 (0, 0))) ∧ Hid (Below wk.heap.size wk wi)) (fun iv _ => 32 - (intOf iv).toNat)
                        case atStart => exact ⟨0, by omega, rfl, block_new wk _, (Below.refl _ _).alloc (Nat.le_refl _) _⟩
                        case round =>
                          obtain ⟨i, hi, rfl, HF, HBi⟩ := hrel
                          by_cases hi32 : i < 32
                          · have k1 : (j2 : Int) + 1 + 32 * (c : Int) + (i : Int) < (bs.length : Int) := by omega
                            have k2 : (0 : Int) ≤ (j2 : Int) + 1 + 32 * (c : Int) + (i : Int) := by omega
                            have k3 : ((j2 : Int) + 1 + 32 * (c : Int) + (i : Int)).toNat = j2 + 1 + 32 * c + i := by omega
                            obtain ⟨b5, o5, e5, c5⟩ := (HRw.out.up HBi.out).cell (j := j2 + 1 + 32 * c + i) (by omega)
                            simp only [Option.some.injEq, Addr.mk.injEq, and_true] at e5
                            obtain ⟨rfl, rfl⟩ := e5
                            rw [← HG.out i hi32] at c5
                            have HFs := hid (fillTo_set l Hl32.out i hi32)
                            have c6 : wr.cell? ⟨wk.heap.size, i, none⟩ = some (B ((fillTo l i).getD i 0)) := by rw [cell_of_block HF.out, List.getElem?_toArray, List.getElem?_map, get_some (d := 0) (by rw [fillTo_len l Hl32.out i hi]; exact hi32)]; rfl
                            have f6 : wr.frozen? ⟨wk.heap.size, i, none⟩ = false := frozen_of_block HF.out _
                            have i0 : (0 : Int) ≤ (i : Int) := by omega
                            have i1 : (i : Int) < 32 := by omega
                            generalize l.getD i 0 = x at *
                            generalize (fillTo l i).getD i 0 = y at *
                            go_wp2
                            exact ⟨⟨i + 1, by omega, by go_num, by rw [← HFs.out, ← set_mapB]; exact block_setCell HF.out _ _, HBi.out.setCell (p := ⟨wk.heap.size, i, none⟩) (Nat.le_refl _) _⟩, by simp [intOf]; omega⟩
                          · have hi2 : i = 32 := by omega
                            subst hi2
                            rw [fillTo_all l Hl32.out] at HF
                            have g1 : ¬ ((32 : Int) < 32) := by omega
                            have hswr : wk.heap.size ≤ wr.heap.size := HBi.out.size
                            have HMr := hid ((HBi.out.block _ hsw).trans HMw.out)
                            have cM : wr.cell? ⟨w3.heap.size, 2, none⟩ = some lv := cell_of_block HMr.out 2
                            have Hsl : Hid ((l.map B).toArray.size = 32) := by simp [Hid, Hl32.out]
                            obtain ⟨i0, hi0, hz0, hz1, hz2⟩ := info_parts infoH2
                            have HI := hid hi0
                            have HOr := hid (row_below HO.out HBi.out)
                            have HBr := hid (HBw.out.trans (HBi.out.mono HBw.out.size))
                            have HX : Hid (∀ (wB : World) (X : Array Value), wB = wr.alloc (.cells X 40) → ∀ W, wB.grownBy W lv.ownBlock → W.heap[w3.heap.size]? = some (.cells #[str s, str s2, lv] 26 (0, 0)) ∧ Below w3.heap.size w3 W) := fun wB X e W hW => by
                              subst e
                              have hne : ∀ b, b < w3.heap.size + 1 → lv.ownBlock ≠ some b := fun b hb e => by have := HOr.out.lt b e; omega
                              refine ⟨(hW.block _ (by simp; omega) (hne _ (by omega)).symm).trans ((Below.heap_alloc _ _ _ (by omega)).trans HMr.out), ?_⟩
                              exact (HBr.out.alloc HBr.out.size _).grown hW (by have := HBr.out.size; simp; omega) (fun k hk => by by_cases hk2 : k < w3.heap.size; exact absurd hk (hne k (by omega)); omega)
                            clear hi0 HMw HO
                            have hl32 := Hl32.out
                            go_wp2_with (first
                              | (refine wpList_load_block rfl 40 (.tmp 10) rfl wk.heap.size rfl (l.map B).toArray 40 (0, 0) HF.out _ Try.underlying40 rfl (infoH.trans (congrArg some Hsl.out.symm)) ?_)
                              | (refine wpList_append_own _ rfl (.tmp 104) (.tmp 106) 24 rfl (w3.heap.size + 1) 40 i0 (.agg (Array.replicate 32 (.int .u8 0))) 32 32 Try.underlying24 HI.out hz0 hz1 hz2 (by rfl) (by omega) lv c ((t3.take (32 * c)).map B) rfl (HOr.out.alloc _) ⟨wr.heap.size, 0, none⟩ 1 1 (l.map B) rfl (by simp [Hl32.out]) (by rw [fold32 l Hl32.out _ rfl]; exact World.news_of_block (cs := (l.map B).toArray) (block_new wr _)) (B_one l) (by unfold maxLen; omega) (by omega) (by simp; omega) ?_; intro lv2 w11 hown hgr _; obtain ⟨g11, cp11, rfl, -⟩ := hown.form (by omega); have HO2 := hid hown; obtain ⟨x1, x3⟩ := HX.out _ _ rfl w11 hgr; have HM11 := hid x1; have HB11 := hid x3; have c11 : w11.cell? ⟨w3.heap.size, 2, none⟩ = some lv := cell_of_block x1 2; have f11 := frozen_of_block x1 2; clear hown hgr x1 x3))
                            have HO12 := hid (row_same HO2.out (fun b hb => block_setCell_other (w := w11) 2 (.slice (some ⟨g11, 0, none⟩) (c + 1) cp11) (show b ≠ w3.heap.size by omega)))
                            rw [← List.map_append, ← HTk.out] at HO12
                            have hmc : (j2 : Int) + 1 + 32 * (c : Int) + 32 = (j2 : Int) + 1 + 32 * ((c + 1 : Nat) : Int) := by push_cast; omega
                            refine ⟨⟨c + 1, _, by omega, congrArg (Value.int .i64) hmc, set_M2 HM11.out _, HO12, HB11.out.setCell (p := ⟨w3.heap.size, 2, none⟩) (Nat.le_refl _) _⟩, ?_⟩
                            show bs.length - ((j2 : Int) + 1 + 32 * (c : Int) + 32).toNat < bs.length - ((j2 : Int) + 1 + 32 * (c : Int)).toNat
                            omega
                      · have hcn2 : c = n.toNat := by omega
                        subst hcn2
                        have d1 : ¬ ((j2 : Int) + 1 + 32 * (n.toNat : Int) < (bs.length : Int)) := by omega
                        obtain ⟨la, lc, rfl⟩ : ∃ la lc, lv = .slice la n.toNat lc := by
                          rcases HO.out.2 with ⟨e, e2⟩ | ⟨g, cp, cur, e, _⟩
                          · exact ⟨none, 0, by rw [e, e2]⟩
                          · exact ⟨_, _, e⟩
                        have c0 : wr.cell? ⟨w3.heap.size, 0, none⟩ = some (str s) := cell_of_block HMw.out 0
                        have c1 : wr.cell? ⟨w3.heap.size, 1, none⟩ = some (str s2) := cell_of_block HMw.out 1
                        have c2 : wr.cell? ⟨w3.heap.size, 2, none⟩ = some (.slice la n.toNat lc) := cell_of_block HMw.out 2
                        have HMr := hid ((HBw.out.block _ hs2).trans HM.out)
                        have HBr := hid (HB.out.trans (HBw.out.mono HB.out.size))
                        have HLt : Hid (∀ b o, la = some ⟨b, o, none⟩ → w.heap.size ≤ b) := fun b o e => by
                          subst e
                          have := HO.out.lt b rfl
                          omega
                        go_wp2_with (refine wpList_store_block rfl 26 (.tmp 2) (.tmp 109) rfl w.heap.size #[str s, str s2, .slice la n.toNat lc] rfl rfl _ 26 HMr.out rfl infoM (oneM _ _ _ _ _) ?_; intro w6 hg6 hb6 hz6; have H6 := hid hb6; have HG6 := hid hg6; have HZ6 := hid hz6; have HB6 := hid (HBr.out.grown hg6 HBr.out.size (fun k hk => by cases hk; exact Nat.le_refl _)); clear hg6 hb6 hz6)
                        have HF := hid (flatten_chunks n.toNat t3 hl).2.1
                        refine bodyPost_ret (results_cell_slot Try.results10 _ _ rfl H6.out _ Try.underlying26 rfl infoM) rfl ⟨.inr ⟨⟨s, s2, chunks n.toNat t3⟩, la, lc, HD.out, ?_, ?_, HLt.out⟩, HB6.out⟩
                        · rw [HF.out]; rfl
                        · refine layers_of_row HO.out hl (fun b hb => ?_)
                          by_cases hbs : b < wr.heap.size
                          · exact HG6.out.block b hbs (fun e => by simp at e; omega)
                          · rw [Array.getElem?_eq_none (by rw [HZ6.out]; omega), Array.getElem?_eq_none (by omega)]
                  · have HD := hid (HDL.out.2 (fun h => hl h.2))
                    have r2 : ((bs.length : Int) != (j2 : Int) + 1 + 32 * V n) = true := by rw [bne_iff_ne, HVn.out]; omega
                    clear HDL
                    go_wp2_with (refine wpList_store_block rfl 26 (.tmp 2) (.tmp 79) rfl w.heap.size #[str [], str [], .slice none 0 0] rfl rfl _ 26 HM.out rfl infoM (oneM _ _ _ _ _) ?_; intro w6 hg6 hb6 hz6; have H6 := hid hb6; have HB6 := hid (HB.out.grown hg6 HB.out.size (fun k hk => by cases hk; exact Nat.le_refl _)); clear hg6 hb6 hz6)
                    refine bodyPost_ret (results_cell_slot Try.results10 _ _ rfl H6.out _ Try.underlying26 rfl infoM) rfl ⟨.inl ⟨HD.out, rfl⟩, HB6.out⟩
                · have HD := hid (HDL.out.2 (fun h => hn8 h.1))
                  have r1 : V n > 8 := by rw [HVn.out]; omega
                  clear HDL
                  go_wp2_with (refine wpList_store_block rfl 26 (.tmp 2) (.tmp 79) rfl w.heap.size #[str [], str [], .slice none 0 0] rfl rfl _ 26 HM.out rfl infoM (oneM _ _ _ _ _) ?_; intro w6 hg6 hb6 hz6; have H6 := hid hb6; have HB6 := hid (HB.out.grown hg6 HB.out.size (fun k hk => by cases hk; exact Nat.le_refl _)); clear hg6 hb6 hz6)
                  refine bodyPost_ret (results_cell_slot Try.results10 _ _ rfl H6.out _ Try.underlying26 rfl infoM) rfl ⟨.inl ⟨HD.out, rfl⟩, HB6.out⟩
              · have ht2 : t2 = [] := List.length_eq_zero_iff.1 (by have := HTl2.out; omega)
                subst ht2
                have HD := hid (dec_short HSg.out HP1.out HWs.out HP2.out HWs2.out)
                have p1 : (j2 : Int) ≥ (bs.length : Int) := by omega
                clear HSg HP1 HWs HP2 HWs2
                go_wp2_with (refine wpList_store_block rfl 26 (.tmp 2) (.tmp 79) rfl w.heap.size #[str [], str [], .slice none 0 0] rfl rfl _ 26 HM.out rfl infoM (oneM _ _ _ _ _) ?_; intro w6 hg6 hb6 hz6; have H6 := hid hb6; have HB6 := hid (HB.out.grown hg6 HB.out.size (fun k hk => by cases hk; exact Nat.le_refl _)); clear hg6 hb6 hz6)
                refine bodyPost_ret (results_cell_slot Try.results10 _ _ rfl H6.out _ Try.underlying26 rfl infoM) rfl ⟨.inl ⟨HD.out, rfl⟩, HB6.out⟩
        · have HD : Hid (dec bs = none) := dec_sig (fun h => g2 (by rw [HT.out] at h; simp only [List.cons.injEq, and_true] at h; rw [h.2.2]; rfl))
          have e0 : (V x0 != 68) = false := by rw [bne_eq_false_iff_eq]; exact g0
          have e1 : (V x1 != 77) = false := by rw [bne_eq_false_iff_eq]; exact g1
          have e2 : (V x2 != 1) = true := bne_iff_ne.2 g2
          clear g0 g1 g2
          go_enter Try.func10, Try.ntmps10
          go_wp2_with (refine wpList_store_block rfl 26 (.tmp 2) (.tmp 33) rfl w.heap.size #[str [], str [], .slice none 0 0] rfl rfl _ 26 HM.out rfl infoM (oneM _ _ _ _ _) ?_; intro w6 hg6 hb6 hz6; have H6 := hid hb6; have HB6 := hid (HB.out.grown hg6 HB.out.size (fun k hk => by cases hk; exact Nat.le_refl _)); clear hg6 hb6 hz6)
          refine bodyPost_ret (results_cell_slot Try.results10 _ _ rfl H6.out _ Try.underlying26 rfl infoM) rfl ⟨.inl ⟨HD.out, rfl⟩, HB6.out⟩
      · have HD : Hid (dec bs = none) := dec_sig (fun h => g1 (by rw [HT.out] at h; simp only [List.cons.injEq, and_true] at h; rw [h.2.1]; rfl))
        have e0 : (V x0 != 68) = false := by rw [bne_eq_false_iff_eq]; exact g0
        have e1 : (V x1 != 77) = true := bne_iff_ne.2 g1
        clear g0 g1
        go_enter Try.func10, Try.ntmps10
        go_wp2_with (refine wpList_store_block rfl 26 (.tmp 2) (.tmp 33) rfl w.heap.size #[str [], str [], .slice none 0 0] rfl rfl _ 26 HM.out rfl infoM (oneM _ _ _ _ _) ?_; intro w6 hg6 hb6 hz6; have H6 := hid hb6; have HB6 := hid (HB.out.grown hg6 HB.out.size (fun k hk => by cases hk; exact Nat.le_refl _)); clear hg6 hb6 hz6)
        refine bodyPost_ret (results_cell_slot Try.results10 _ _ rfl H6.out _ Try.underlying26 rfl infoM) rfl ⟨.inl ⟨HD.out, rfl⟩, HB6.out⟩
    · have HD : Hid (dec bs = none) := dec_sig (fun h => g0 (by rw [HT.out] at h; simp only [List.cons.injEq, and_true] at h; rw [h.1]; rfl))
      have e0 : (V x0 != 68) = true := bne_iff_ne.2 g0
      clear g0
      go_enter Try.func10, Try.ntmps10
      go_wp2_with (refine wpList_store_block rfl 26 (.tmp 2) (.tmp 33) rfl w.heap.size #[str [], str [], .slice none 0 0] rfl rfl _ 26 HM.out rfl infoM (oneM _ _ _ _ _) ?_; intro w6 hg6 hb6 hz6; have H6 := hid hb6; have HB6 := hid (HB.out.grown hg6 HB.out.size (fun k hk => by cases hk; exact Nat.le_refl _)); clear hg6 hb6 hz6)
      refine bodyPost_ret (results_cell_slot Try.results10 _ _ rfl H6.out _ Try.underlying26 rfl infoM) rfl ⟨.inl ⟨HD.out, rfl⟩, HB6.out⟩
end Go.Proofs.Ytkmmeokccmppbaa
