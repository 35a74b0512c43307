/- The manifest's read: what bytes tell, be it right or not. -/
import Derived.Test.YtkmmeokccmppbaaMNext
import Derived.RegionTactic
import Derived.ChangeAlike
namespace Go.Proofs.Ytkmmeokccmppbaa
open Go.RowKit
theorem results_cell_slot {P : Program} {fn : Func} {p q : Tmp} {ty : TypeId} (h : fn.results = #[.cell p ty, .tmp q]) (tmps : Array Value) (w : World) {b : Nat} {C : Array Value} {t : TypeId} {fr : Nat × Nat}
    (hp : tmps.getD p undef = .pointer (some ⟨b, 0, none⟩)) (hb : w.heap[b]? = some (.cells C t fr)) (d : TypeDesc) (hu : P.underlying ty = some d) (hd : d.isRow = true) (hi : (P.info? ty).map (·.size) = some C.size) :
    (results fn tmps).run P w = .ok (.tuple #[.agg C, tmps.getD q undef]) w := by
  have hp' : tmps[p]?.getD undef = .pointer (some ⟨b, 0, none⟩) := by simpa using hp
  simp only [results, h]
  simp [hp', asAddr, run_load_block hb d hu hd hi]
theorem infoM : (Try.prog.info? 26).map (·.size) = some 3 := by kernel_rfl
theorem oneM (s1 s2 : List UInt8) (a : Option Addr) (n c : Nat) : (#[str s1, str s2, .slice a n c] : Array Value).all (·.oneCell') = true := by
  simp [Value.oneCell']
theorem set_M0 {w : World} {g : Nat} {x y z : Value} {t : TypeId} (hg : w.heap[g]? = some (.cells #[x, y, z] t (0, 0))) (u : Value) : (w.setCell ⟨g, 0, none⟩ u).heap[g]? = some (.cells #[u, y, z] t (0, 0)) := by
  rw [block_setCell hg]; rfl
theorem set_M1 {w : World} {g : Nat} {x y z : Value} {t : TypeId} (hg : w.heap[g]? = some (.cells #[x, y, z] t (0, 0))) (u : Value) : (w.setCell ⟨g, 1, none⟩ u).heap[g]? = some (.cells #[x, u, z] t (0, 0)) := by
  rw [block_setCell hg]; rfl
theorem set_M2 {w : World} {g : Nat} {x y z : Value} {t : TypeId} (hg : w.heap[g]? = some (.cells #[x, y, z] t (0, 0))) (u : Value) : (w.setCell ⟨g, 2, none⟩ u).heap[g]? = some (.cells #[x, y, u] t (0, 0)) := by
  rw [block_setCell hg]; rfl
theorem chunks_get : ∀ (k : Nat) (t : List UInt8) (i : Nat) (hi : i < (chunks k t).length), (chunks k t)[i] = (t.drop (32 * i)).take 32
  | 0, t, i, hi => by simp [chunks] at hi
  | k + 1, t, 0, hi => by simp [chunks]
  | k + 1, t, i + 1, hi => by
    have := chunks_get k (t.drop 32) i (by simpa [chunks] using hi)
    simp only [chunks, List.getElem_cons_succ]
    rw [this, List.drop_drop, show 32 + 32 * i = 32 * (i + 1) by omega]
theorem row_same {w w' : World} {K size n : Nat} {e : TypeId} {v : Value} {xs : List Value} (h : w.ownsRow K e size v n xs) (hb : ∀ b, K ≤ b → w'.heap[b]? = w.heap[b]?) : w'.ownsRow K e size v n xs := by
  refine ⟨h.1, ?_⟩
  rcases h.2 with h | ⟨g, cap, cur, e, hg, hh, r⟩
  · exact .inl h
  · exact .inr ⟨g, cap, cur, e, hg, (hb g hg).trans hh, r⟩
theorem layers_of_row {w w' : World} {K n lc : Nat} {la : Option Addr} {t : List UInt8} (h : w.ownsRow K 40 32 (.slice la n lc) n ((t.take (32 * n)).map B)) (hl : t.length = 32 * n) (hb : ∀ b, K ≤ b → w'.heap[b]? = w.heap[b]?) : layersAt w' la (chunks n t) := by
  obtain ⟨f1, f2, f3⟩ := flatten_chunks n t hl
  refine ⟨f3, fun i hi => ?_⟩
  rcases h.2 with ⟨e, e2⟩ | ⟨g, cap, cur, e, hg, hh, _, _, _, hx⟩
  · omega
  · simp only [Value.slice.injEq, true_and] at e
    obtain ⟨rfl, rfl⟩ := e
    have hh' := (hb g hg).trans hh
    refine ⟨g, 0, rfl, lt_of_heap hh', fun j v hj => ?_⟩
    rw [List.getElem?_map, chunks_get] at hj
    obtain ⟨x, hx1, rfl⟩ := Option.map_eq_some_iff.1 hj
    have hj32 : j < 32 := by
      have := (List.getElem?_eq_some_iff.1 hx1).1
      rw [List.length_take] at this
      omega
    rw [List.getElem?_take_of_lt hj32, List.getElem?_drop] at hx1
    have hlt := (List.getElem?_eq_some_iff.1 hx1).1
    have h2 : cur.toList[32 * i + j]? = some (B x) := by
      have : (cur.toList.take (n * 32))[32 * i + j]? = some (B x) := by
        rw [hx, List.getElem?_map, List.getElem?_take_of_lt (by omega), hx1]; rfl
      rwa [List.getElem?_take_of_lt (by omega)] at this
    rw [cell_of_block hh', show 0 + i * 32 + j = 32 * i + j by omega]
    simpa using h2
theorem exit_jump_ret {l : Nat} {J : Act → World → Prop} {Q : Exit → Act → World → Prop} {a : Act} {w : World} : Exit.jump l J Q .ret a w = Q .ret a w := rfl
theorem foldl_get : ∀ (xs : List Value) (k : Nat) (C : Array Value) (i : Nat), k + xs.length ≤ C.size → ((xs.zipIdx k).foldl (fun (cs : Array Value) x => cs.setIfInBounds x.snd x.fst) C)[i]? = if k ≤ i ∧ i < k + xs.length then xs[i - k]? else C[i]?
  | [], k, C, i, _ => by rw [if_neg (by simp)]; rfl
  | x :: xs, k, C, i, h => by
    simp only [List.length_cons] at h
    simp only [List.zipIdx_cons, List.foldl_cons]
    rw [foldl_get xs (k + 1) _ i (by simp; omega)]
    by_cases h1 : k + 1 ≤ i ∧ i < k + 1 + xs.length
    · rw [if_pos h1, if_pos (by simp only [List.length_cons]; omega), show i - k = (i - (k + 1)) + 1 by omega, List.getElem?_cons_succ]
    · rw [if_neg h1]
      by_cases h2 : i = k
      · subst h2
        rw [if_pos (by simp only [List.length_cons]; omega), Nat.sub_self, List.getElem?_cons_zero, Array.getElem?_setIfInBounds_self_of_lt (by omega)]
      · rw [if_neg (by simp only [List.length_cons]; omega), Array.getElem?_setIfInBounds_ne (by omega)]
theorem fold32 (l : List UInt8) (h : l.length = 32) (C : Array Value) (hC : C.size = 32) : (l.map B).zipIdx.foldl (fun (cs : Array Value) x => cs.setIfInBounds x.snd x.fst) C = (l.map B).toArray := by
  apply Array.ext_getElem?
  intro i
  rw [foldl_get _ 0 C i (by simp; omega)]
  by_cases hi : i < 32
  · rw [if_pos (by simp; omega)]
    simp
  · rw [if_neg (by simp; omega), Array.getElem?_eq_none (by omega), Array.getElem?_eq_none (by simp; omega)]
theorem infoH2 : (Try.prog.info? 40).map (fun i => (i.zero, i.size, i.bytes)) = some (some (.agg (Array.replicate 32 (.int .u8 0))), 32, 32) := by kernel_rfl
/-- What read answers. -/
def ReadTo (w w' : World) (bs : List UInt8) (e : Ending) : Prop :=
  ((pRead bs = none ∧ ∃ s1 s2 a n c, e = .returned (.tuple #[.agg #[str s1, str s2, .slice a n c], .bool false])) ∨
   ∃ m la lc, pRead bs = some m ∧ e = .returned (.tuple #[.agg #[str m.os, str m.arch, .slice la m.ls.length lc], .bool true]) ∧ layersAt w' la m.ls ∧ m.ls.length ≤ 255 ∧ ∀ b o, la = some ⟨b, o, none⟩ → w.heap.size ≤ b) ∧ Below w.heap.size w w'
set_option maxHeartbeats 1000000 in
set_option maxRecDepth 100000 in
theorem read_any (w : World) (v : Value) (bs : List UInt8) (hr : Rd w v bs) : Calls Try.prog 16 #[v] w fun e w' => ReadTo w w' bs e := by
  have HR := hid hr
  obtain ⟨ao, cap, rfl, -, -, -, -⟩ := hr
  obtain ⟨n1, n2, n3, n4⟩ := new2 w (.cells #[str [], str [], .slice none 0 0] 26) (.cells #[.slice ao bs.length cap] 50)
  have HM := hid n1
  have HG := hid n2
  have HB := hid n3
  have HN := hid (next_any w _ (w.heap.size + 1) (.slice ao bs.length cap) bs 3 (by omega) HR.out n2)
  clear n1 n2 n3 n4
  go_enter Try.func16, Try.ntmps16
  go_wp2_with fail
  refine wp_scope_once 0 rfl ?_
  go_wp2_with fail
  refine HN.out.mono ?_
  clear HN
  generalize (w.alloc (.cells #[str [], str [], .slice none 0 0] 26)).alloc (.cells #[.slice ao bs.length cap] 50) = w1 at *
  rintro e w2 (⟨hle, v1, v2, rfl, r1, r2, rfl⟩ | ⟨hlt, rfl, rfl⟩)
  · replace HM := hid ((block_setCell_other (k := w.heap.size) 0 v2 (show w.heap.size ≠ w.heap.size + 1 by omega)).trans HM.out)
    replace HG := hid (set_reader (v2 := v2) HG.out)
    replace HB := hid (HB.out.setCell (p := ⟨w.heap.size + 1, 0, none⟩) (by simp) v2)
    generalize w1.setCell ⟨w.heap.size + 1, 0, none⟩ v2 = w2 at *
    have hcv := run_str (r1.up HB.out)
    have HR2 := hid r2
    clear r1 r2 HR hle
    by_cases h3 : bs.take 3 = [68, 77, 1]
    · rw [h3] at hcv
      have H3 : Hid (pRead bs = match pWord (bs.drop 3) with
        | none => none
        | some (os, b1) =>
          match pWord b1 with
          | none => none
          | some (ar, b2) =>
            match pLayers b2 with
            | none => none
            | some ls => some ⟨os, ar, ls⟩) := if_pos h3
      clear h3
      generalize bs.drop 3 = b0 at *
      have HW := hid (word_any w w2 (w.heap.size + 1) v2 b0 HR2.out HG.out HB.out (by omega))
      go_wp2_with fail
      refine HW.out.mono ?_
      clear HW HR2 HG
      rintro e w3 ⟨⟨hp, rfl⟩ | ⟨s, t, hp, rfl, v3, hr3, hg3⟩, hB3⟩
      · have HP : Hid (pRead bs = none) := by
          have := H3.out
          rw [hp] at this
          exact this
        replace HM := hid ((hB3.block w.heap.size (by omega)).trans HM.out)
        replace HB := hid (HB.out.trans (hB3.mono (by omega)))
        clear hp hB3 H3
        have c0 : w3.cell? ⟨w.heap.size, 0, none⟩ = some (str []) := cell_of_block HM.out 0
        have f0 := frozen_of_block HM.out 0
        go_wp2
        clear c0 f0
        replace HM := hid (set_M0 HM.out (str []))
        replace HB := hid (HB.out.setCell (p := ⟨w.heap.size, 0, none⟩) (by simp) (str []))
        generalize w3.setCell ⟨w.heap.size, 0, none⟩ (str []) = w4 at *
        go_step3
        refine ⟨rfl, ?_⟩
        go_wp2_with (refine wpList_store_block rfl 26 (.tmp 2) (.tmp 64) rfl w.heap.size #[str [], str [], .slice none 0 0] rfl rfl _ 26 HM.out rfl infoM (oneM _ _ _ _ _) ?_; intro w6 hg6 hb6 hz6; have H6 := hid hb6; have HB6 := hid (HB.out.grown hg6 HB.out.size (fun k hk => by cases hk; exact Nat.le_refl _)); clear hg6 hb6 hz6)
        rw [Exit.noGoto_ret]
        go_wp2
        refine bodyPost_ret (results_cell_slot Try.results16 _ _ rfl H6.out _ Try.underlying26 rfl infoM) rfl ⟨.inl ⟨HP.out, _, _, _, _, _, rfl⟩, HB6.out⟩
      · have H4 : Hid (pRead bs = match pWord t with
          | none => none
          | some (ar, b2) =>
            match pLayers b2 with
            | none => none
            | some ls => some ⟨s, ar, ls⟩) := by
          have := H3.out
          rw [hp] at this
          exact this
        replace HM := hid ((hB3.block w.heap.size (by omega)).trans HM.out)
        replace HB := hid (HB.out.trans (hB3.mono (by omega)))
        have c0 : w3.cell? ⟨w.heap.size, 0, none⟩ = some (str []) := cell_of_block HM.out 0
        have f0 := frozen_of_block HM.out 0
        replace HM := hid (set_M0 HM.out (str s))
        replace HB := hid (HB.out.setCell (p := ⟨w.heap.size, 0, none⟩) (by simp) (str s))
        have HG := hid ((block_setCell_other (k := w.heap.size + 1) 0 (str s) (show w.heap.size + 1 ≠ w.heap.size by omega)).trans hg3)
        have HW := hid (word_any w _ (w.heap.size + 1) v3 t hr3 HG.out HB.out (by omega))
        clear hp hB3 H3 hg3 hr3
        go_wp2_with fail
        refine HW.out.mono ?_
        clear HW HG c0 f0
        generalize w3.setCell ⟨w.heap.size, 0, none⟩ (str s) = w4 at *
        rintro e w5 ⟨⟨hp, rfl⟩ | ⟨s2, t2, hp, rfl, v5, hr5, hg5⟩, hB5⟩
        · have HP : Hid (pRead bs = none) := by
            have := H4.out
            rw [hp] at this
            exact this
          replace HM := hid ((hB5.block w.heap.size (by omega)).trans HM.out)
          replace HB := hid (HB.out.trans (hB5.mono (by omega)))
          clear hp hB5 H4
          have c0 : w5.cell? ⟨w.heap.size, 1, none⟩ = some (str []) := cell_of_block HM.out 1
          have f0 := frozen_of_block HM.out 1
          go_wp2
          clear c0 f0
          replace HM := hid (set_M1 HM.out (str []))
          replace HB := hid (HB.out.setCell (p := ⟨w.heap.size, 1, none⟩) (by simp) (str []))
          generalize w5.setCell ⟨w.heap.size, 1, none⟩ (str []) = w6 at *
          go_step3
          refine ⟨rfl, ?_⟩
          go_wp2_with (refine wpList_store_block rfl 26 (.tmp 2) (.tmp 64) rfl w.heap.size #[str [], str [], .slice none 0 0] rfl rfl _ 26 HM.out rfl infoM (oneM _ _ _ _ _) ?_; intro w6 hg6 hb6 hz6; have H6 := hid hb6; have HB6 := hid (HB.out.grown hg6 HB.out.size (fun k hk => by cases hk; exact Nat.le_refl _)); clear hg6 hb6 hz6)
          rw [Exit.noGoto_ret]
          go_wp2
          refine bodyPost_ret (results_cell_slot Try.results16 _ _ rfl H6.out _ Try.underlying26 rfl infoM) rfl ⟨.inl ⟨HP.out, _, _, _, _, _, rfl⟩, HB6.out⟩
        · have H5 : Hid (pRead bs = match pLayers t2 with
            | none => none
            | some ls => some ⟨s, s2, ls⟩) := by
            have := H4.out
            rw [hp] at this
            exact this
          replace HM := hid ((hB5.block w.heap.size (by omega)).trans HM.out)
          replace HB := hid (HB.out.trans (hB5.mono (by omega)))
          have c0 : w5.cell? ⟨w.heap.size, 1, none⟩ = some (str []) := cell_of_block HM.out 1
          have f0 := frozen_of_block HM.out 1
          replace HM := hid (set_M1 HM.out (str s2))
          replace HB := hid (HB.out.setCell (p := ⟨w.heap.size, 1, none⟩) (by simp) (str s2))
          have HG := hid ((block_setCell_other (k := w.heap.size + 1) 1 (str s2) (show w.heap.size + 1 ≠ w.heap.size by omega)).trans hg5)
          have HN := hid (next_any w _ (w.heap.size + 1) v5 t2 1 (by omega) hr5 HG.out)
          clear hp hB5 H4 hg5 hr5
          go_wp2_with fail
          refine HN.out.mono ?_
          clear HN c0 f0
          generalize w5.setCell ⟨w.heap.size, 1, none⟩ (str s2) = w6 at *
          rintro e w7 (⟨hle, v7, v8, rfl, r7, r8, rfl⟩ | ⟨hlt, rfl, rfl⟩)
          · replace HM := hid ((block_setCell_other (k := w.heap.size) 0 v8 (show w.heap.size ≠ w.heap.size + 1 by omega)).trans HM.out)
            replace HG := hid (set_reader (v2 := v8) HG.out)
            replace HB := hid (HB.out.setCell (p := ⟨w.heap.size + 1, 0, none⟩) (by simp) v8)
            generalize w6.setCell ⟨w.heap.size + 1, 0, none⟩ v8 = w7 at *
            cases t2 with
            | nil => simp at hle
            | cons n t =>
              simp only [List.take_succ_cons, List.take_zero, List.drop_succ_cons, List.drop_zero] at r7 r8
              have HR8 := hid r8
              obtain ⟨ao7, cap7, hv7, q1, q2, q3, q4⟩ := r7.up HB.out
              have hv7' : v7 = .slice ao7 1 cap7 := hv7
              clear hv7
              subst hv7'
              cases ao7 with
              | none => simp at q1; have := q3 rfl; omega
              | some ad =>
                obtain ⟨b, o, rfl, _, c0⟩ := q4 ad rfl 0 n rfl
                rw [Nat.add_zero] at c0
                clear q1 q2 q3 q4 r7 r8 hle
                have H6 : Hid (pRead bs = if t.length = 32 * n.toNat then some ⟨s, s2, chunks n.toNat t⟩ else none) := by
                  have := H5.out
                  unfold Hid
                  rw [this]
                  simp only [pLayers]
                  by_cases hl : t.length = 32 * n.toNat
                  · rw [if_pos hl, if_pos hl]
                  · rw [if_neg hl, if_neg hl]
                clear H5
                have hn255 : n.toNat ≤ 255 := by have := n.toNat_lt; omega
                have HVn : Hid (V n = ((n.toNat : Nat) : Int)) := rfl
                have hsz : w.heap.size + 2 ≤ w7.heap.size := by have := lt_of_heap HG.out; omega
                go_wp2
                go_loopw [42] (fun i wr => ∃ (k : Nat) (lv v2 : Value), k ≤ n.toNat ∧ i = .int .u8 k ∧ Hid (wr.heap[w.heap.size]? = some (.cells #[str s, str s2, lv] 26 (0, 0))) ∧ Hid (wr.ownsRow (w.heap.size + 2) 40 32 lv k ((t.take (32 * k)).map B)) ∧ Hid (wr.heap[w.heap.size + 1]? = some (.cells #[v2] 50 (0, 0))) ∧ Hid (Rd w v2 (t.drop (32 * k))) ∧ 32 * k ≤ t.length ∧ Hid (Below w.heap.size w wr) ∧ w.heap.size + 2 ≤ wr.heap.size) (fun i _ => n.toNat - (intOf i).toNat)
                case atStart => exact ⟨0, _, v8, by omega, rfl, HM, World.ownsRow_nil _ _ _ _, HG, HR8, by omega, HB, hsz⟩
                case round =>
                  clear HM HG HB HR8 hsz c0
                  obtain ⟨k, lv, v2', hk, rfl, HM, HO, HG, HR, hkl, HB, hsz⟩ := hrel
                  by_cases hlt : k < n.toNat
                  · have hd2 : (k : Int) < V n := by rw [HVn.out]; omega
                    have hk255 : (k : Int) < 255 := by omega
                    have HN := hid (next_any w wr (w.heap.size + 1) v2' (t.drop (32 * k)) 32 (by omega) HR.out HG.out)
                    go_wp2_with fail
                    refine HN.out.mono ?_
                    clear HN HR
                    rintro e w9 (⟨hle, v9, v10, rfl, r9, r10, rfl⟩ | ⟨hlt9, rfl, rfl⟩)
                    · replace HM := hid ((block_setCell_other (k := w.heap.size) 0 v10 (show w.heap.size ≠ w.heap.size + 1 by omega)).trans HM.out)
                      replace HG := hid (set_reader (v2 := v10) HG.out)
                      replace HB := hid (HB.out.setCell (p := ⟨w.heap.size + 1, 0, none⟩) (by simp) v10)
                      replace HO := hid (row_same HO.out (fun b hb => block_setCell_other (w := wr) 0 v10 (show b ≠ w.heap.size + 1 by omega)))
                      have hsz9 : w.heap.size + 2 ≤ (wr.setCell ⟨w.heap.size + 1, 0, none⟩ v10).heap.size := by have := lt_of_heap HG.out; omega
                      generalize wr.setCell ⟨w.heap.size + 1, 0, none⟩ v10 = w9 at *
                      have hlen : (t.drop (32 * k)).length = t.length - 32 * k := List.length_drop
                      have hl32 : ((t.drop (32 * k)).take 32).length = 32 := by rw [List.length_take]; omega
                      have HT : Hid (t.take (32 * (k + 1)) = t.take (32 * k) ++ (t.drop (32 * k)).take 32) := by
                        unfold Hid
                        rw [show 32 * (k + 1) = 32 * k + 32 by omega, List.take_add]
                      have HR10 : Hid (Rd w v10 (t.drop (32 * (k + 1)))) := by
                        rw [List.drop_drop, show 32 * k + 32 = 32 * (k + 1) by omega] at r10
                        exact r10
                      have hk1 : 32 * (k + 1) ≤ t.length := by omega
                      generalize (t.drop (32 * k)).take 32 = l at *
                      obtain ⟨ao9, cap9, hv9, q1, q2, q3, q4⟩ := r9
                      have q5 : ∀ ad, ao9 = some ad → ∀ j x, l[j]? = some x → ∃ b o, ad = ⟨b, o, none⟩ ∧ b < w.heap.size ∧ w9.cell? ⟨b, o + j, none⟩ = some (B x) := fun ad ha j x hj => by
                        obtain ⟨b, o, e, hb, hc⟩ := q4 ad ha j x hj
                        exact ⟨b, o, e, hb, (World.cell?_of_block (w := w) (HB.out.block b hb)).trans hc⟩
                      rw [hl32] at hv9 q1
                      subst hv9
                      cases ao9 with
                      | none => have := q3 rfl; omega
                      | some ad9 =>
                        obtain ⟨b9, o9, rfl, hb9, _⟩ := q5 ad9 rfl 0 l[0] (by rw [List.getElem?_eq_getElem])
                        have hrg : w9.rangeAt b9 o9 (l.map B) := fun j v hj => by
                          rw [List.getElem?_map] at hj
                          obtain ⟨x, hx, rfl⟩ := Option.map_eq_some_iff.1 hj
                          obtain ⟨b', o', e, _, hc⟩ := q5 _ rfl j x hx
                          simp only [Addr.mk.injEq, and_true] at e
                          obtain ⟨rfl, rfl⟩ := e
                          exact hc
                        clear q3 q4 q5 r10 hle hlen
                        have c2 : w9.cell? ⟨w.heap.size, 2, none⟩ = some lv := cell_of_block HM.out 2
                        have f2 := frozen_of_block HM.out 2
                        have Hl32 := hid hl32
                        obtain ⟨i0, hi, hz0, hz1, hz2⟩ := info_parts infoH2
                        have HI := hid hi
                        have hba : b9 < w9.heap.size := lt_of_cell (hrg 0 (B l[0]) (by rw [List.getElem?_map, List.getElem?_eq_getElem]; rfl))
                        have HSa : Hid (((w9.alloc (.cells (l.map B).toArray 40)).drew).rangeAt b9 o9 (l.map B)) := fun j v hj => (World.cell?_of_block (w := w9) (Below.heap_alloc _ _ _ hba)).trans (hrg j v hj)
                        have HOa : Hid (((w9.alloc (.cells (l.map B).toArray 40)).drew).ownsRow (w.heap.size + 2) 40 32 lv k ((t.take (32 * k)).map B)) := HO.out.alloc _
                        have HNa : Hid (∀ j u, (l.map B)[j]? = some u → ((w9.alloc (.cells (l.map B).toArray 40)).drew).cell? ((⟨w9.heap.size, 0, none⟩ : Addr).add j) = some u) := World.news_of_block (cs := (l.map B).toArray) (block_new w9 _)
                        have hsza : w.heap.size + 2 ≤ ((w9.alloc (.cells (l.map B).toArray 40)).drew).heap.size := by simp; omega
                        have HSb : Hid (∀ W, ((w9.alloc (.cells (l.map B).toArray 40)).drew).grownBy W lv.ownBlock → W.rangeAt b9 o9 (l.map B)) := fun W hW j v hj => by
                          have hne : lv.ownBlock ≠ some b9 := fun e => by have := HO.out.lt b9 e; omega
                          exact (World.cell?_of_block (hW.block b9 (by simp; omega) hne.symm)).trans (HSa.out j v hj)
                        have HX : Hid (∀ W, ((w9.alloc (.cells (l.map B).toArray 40)).drew).grownBy W lv.ownBlock → W.heap[w.heap.size]? = some (.cells #[str s, str s2, lv] 26 (0, 0)) ∧ W.heap[w.heap.size + 1]? = some (.cells #[v10] 50 (0, 0)) ∧ Below w.heap.size w W ∧ w.heap.size + 2 ≤ W.heap.size) := fun W hW => by
                          have hne : ∀ b, b < w.heap.size + 2 → lv.ownBlock ≠ some b := fun b hb e => by have := HO.out.lt b e; omega
                          refine ⟨?_, ?_, ?_, Nat.le_trans hsza hW.size⟩
                          · exact (hW.block _ (by simp; omega) (hne _ (by omega)).symm).trans ((Below.heap_alloc _ _ _ (by omega)).trans HM.out)
                          · exact (hW.block _ (by simp; omega) (hne _ (by omega)).symm).trans ((Below.heap_alloc _ _ _ (by omega)).trans HG.out)
                          · exact ((HB.out.alloc (by omega) _).drew).grown hW (by simp; omega) (fun k hk => by have := hne k; by_cases hk2 : k < w.heap.size; exact absurd hk (hne k (by omega)); omega)
                        have c2a : ((w9.alloc (.cells (l.map B).toArray 40)).drew).cell? ⟨w.heap.size, 2, none⟩ = some lv := (World.cell?_of_block (w := w9) (Below.heap_alloc _ _ _ (lt_of_cell c2))).trans c2
                        clear hi
                        go_wp2
                        refine wp_region_noPanic ?_
                        refine wp_region_held_drew (S := fun W => W.rangeAt b9 o9 (l.map B)) (by kernel_rfl) hrg (fun hHeld => ?_)
                        refine wpAnyH_take (i := 0) (v := ?_) rfl (by kernel_rfl) (by kernel_rfl) (by kernel_rfl) (fun _ _ _ h => h) (Or.inl ⟨by rfl, ?_⟩) (by assumption) ?_
                        rotate_left
                        · (intro W hSw; (try dsimp only at hSw); obtain s1 := hSw; go_simp; try with_reducible rfl)
                        try simp only [List.getElem_toArray, List.getElem_cons_zero, Act.put, List.setIfInBounds_toArray, List.set_cons_zero, List.set_cons_succ]
                        refine wpAnyH_take (i := 2) (v := ?_) rfl (by kernel_rfl) (by kernel_rfl) (by kernel_rfl) (fun _ _ _ h => h) (Or.inl ⟨by rfl, ?_⟩) (by assumption) ?_
                        rotate_left
                        · (intro W hSw; (try dsimp only at hSw); obtain s1 := hSw; go_simp; try with_reducible rfl)
                        try simp only [List.getElem_toArray, List.getElem_cons_succ, List.getElem_cons_zero, Act.put, List.setIfInBounds_toArray, List.set_cons_zero, List.set_cons_succ]
                        refine wpAnyH_take (i := 3) (v := .pointer (some ⟨b9, o9, none⟩)) rfl (by kernel_rfl) (by kernel_rfl) (by kernel_rfl) (fun _ _ _ h => h) (Or.inl ⟨by rfl, ?_⟩) (by assumption) ?_
                        · (intro W hSw; (try dsimp only at hSw); obtain s1 := hSw; go_simp; try first | with_reducible rfl | go_num | (rw [if_pos (by assumption)]; simp only [*]) | simp only [*])
                        try simp only [List.getElem_toArray, List.getElem_cons_succ, List.getElem_cons_zero, Act.put, List.setIfInBounds_toArray, List.set_cons_zero, List.set_cons_succ]
                        refine wpAnyH_take (i := 4) (v := .agg (l.map B).toArray) rfl (by kernel_rfl) (by kernel_rfl) (by kernel_rfl) (fun _ _ _ h => h) (yieldsIf_load_mid (by rfl) 40 (.tmp 53) rfl b9 o9 rfl (l.map B) _ (fun _ h => h) Try.underlying40 rfl (infoH.trans (by rw [List.length_map, Hl32.out]))) (by assumption) ?_
                        try simp only [List.getElem_toArray, List.getElem_cons_succ, List.getElem_cons_zero, Act.put, List.setIfInBounds_toArray, List.set_cons_zero, List.set_cons_succ]
                        refine wpAnyH_ready (rs := [1, 5]) (by kernel_rfl) (by simp) (AllReadyH.cons rfl (fun K hK => ?_) (AllReadyH.cons rfl (fun K hK => ?_) AllReadyH.nil))
                        · rw [if_pos (by rfl)]
                          go_simp
                          refine hK.out _ _ hrg (fun hHeld => ?_)
                          clear hK K
                          try simp only [List.getElem_toArray, List.getElem_cons_succ, List.getElem_cons_zero, Act.put, List.setIfInBounds_toArray, List.set_cons_zero, List.set_cons_succ]
                          refine wpAnyH_ready (rs := [5]) (by kernel_rfl) (by simp) (AllReadyH.cons rfl (fun K hK => ?_) AllReadyH.nil)
                          rw [if_pos (by rfl)]
                          go_simp
                          rw [fold32 l Hl32.out _ rfl]
                          refine hK.out _ _ HSa.out (fun hHeld => ?_)
                          clear hK K
                          try simp only [List.getElem_toArray, List.getElem_cons_succ, List.getElem_cons_zero, Act.put, List.setIfInBounds_toArray, List.set_cons_zero, List.set_cons_succ]
                          refine wpAnyH_ready (rs := [6]) (by kernel_rfl) (by simp) (AllReadyH.cons rfl (fun K hK => ?_) AllReadyH.nil)
                          rw [if_pos (by rfl)]
                          refine wp_append_own _ (.tmp 51) (.tmp 55) 24 rfl (w.heap.size + 2) 40 i0 (.agg (Array.replicate 32 (.int .u8 0))) 32 32 Try.underlying24 HI.out hz0 hz1 hz2 (by rfl) (by omega) lv k ((t.take (32 * k)).map B) rfl HOa.out ⟨w9.heap.size, 0, none⟩ 1 1 (l.map B) rfl (by simp [Hl32.out]) HNa.out (B_one l) (by unfold maxLen; omega) (by omega) hsza ?_
                          intro lv2 w11 hown hgr _
                          obtain ⟨g11, cp11, rfl, -⟩ := hown.form (by omega)
                          have HO2 := hid hown
                          obtain ⟨x1, x2, x3, x4⟩ := HX.out w11 hgr
                          have HM11 := hid x1
                          have HG11 := hid x2
                          have HB11 := hid x3
                          have c11 : w11.cell? ⟨w.heap.size, 2, none⟩ = some lv := cell_of_block x1 2
                          have f11 := frozen_of_block x1 2
                          have s11 := HSb.out w11 hgr
                          clear hown hgr x1 x2 x3
                          refine hK.out _ _ s11 (fun hHeld => ?_)
                          clear hK K
                          try simp only [List.getElem_toArray, List.getElem_cons_succ, List.getElem_cons_zero, Act.put, List.setIfInBounds_toArray, List.set_cons_zero, List.set_cons_succ]
                          refine wpAnyH_take (i := 7) (v := ?_) rfl (by kernel_rfl) (by kernel_rfl) (by kernel_rfl) (fun _ _ _ h => h) (Or.inl ⟨by rfl, ?_⟩) (by assumption) ?_
                          rotate_left
                          · (intro W hSw; (try dsimp only at hSw); obtain s1 := hSw; go_simp; try with_reducible rfl)
                          try simp only [List.getElem_toArray, List.getElem_cons_succ, List.getElem_cons_zero, Act.put, List.setIfInBounds_toArray, List.set_cons_zero, List.set_cons_succ]
                          refine wpAnyH_ready (rs := [8]) (by kernel_rfl) (by simp) (AllReadyH.cons rfl (fun K hK => ?_) AllReadyH.nil)
                          rw [if_pos (by rfl)]
                          go_simp
                          refine hK.out _ _ (fun j v hj => (World.cell?_of_block (w := w11) (block_setCell_other 2 _ (show b9 ≠ w.heap.size by omega))).trans (s11 j v hj)) (fun hHeld => ?_)
                          clear hK K
                          try simp only [List.getElem_toArray, List.getElem_cons_succ, List.getElem_cons_zero, Act.put, List.setIfInBounds_toArray, List.set_cons_zero, List.set_cons_succ]
                          refine wpAnyH_done (by kernel_rfl) ?_ _
                          refine NoPanic.normal ?_
                          clear hHeld c11 f11
                          have HM12 := hid (set_M2 HM11.out (.slice (some ⟨g11, 0, none⟩) (k + 1) cp11))
                          have HG12 := hid ((block_setCell_other (k := w.heap.size + 1) 2 (.slice (some ⟨g11, 0, none⟩) (k + 1) cp11) (show w.heap.size + 1 ≠ w.heap.size by omega)).trans HG11.out)
                          have HB12 := hid (HB11.out.setCell (p := ⟨w.heap.size, 2, none⟩) (by simp) (.slice (some ⟨g11, 0, none⟩) (k + 1) cp11))
                          have HO12 := hid (row_same HO2.out (fun b hb => block_setCell_other (w := w11) 2 (.slice (some ⟨g11, 0, none⟩) (k + 1) cp11) (show b ≠ w.heap.size by omega)))
                          rw [← List.map_append, ← HT.out] at HO12
                          have hs12 : w.heap.size + 2 ≤ (w11.setCell ⟨w.heap.size, 2, none⟩ (.slice (some ⟨g11, 0, none⟩) (k + 1) cp11)).heap.size := by have := lt_of_heap HG12.out; omega
                          clear HM11 HG11 HB11 HO2 s11 x4
                          generalize w11.setCell ⟨w.heap.size, 2, none⟩ (.slice (some ⟨g11, 0, none⟩) (k + 1) cp11) = w12 at *
                          go_wp2
                          exact ⟨⟨k + 1, _, v10, by omega, by go_num, HM12, HO12, HG12, HR10, hk1, HB12, hs12⟩, by simp [intOf]; omega⟩
                        · rw [if_pos (by rfl)]
                          go_simp
                          rw [fold32 l Hl32.out _ rfl]
                          refine hK.out _ _ HSa.out (fun hHeld => ?_)
                          clear hK K
                          try simp only [List.getElem_toArray, List.getElem_cons_succ, List.getElem_cons_zero, Act.put, List.setIfInBounds_toArray, List.set_cons_zero, List.set_cons_succ]
                          refine wpAnyH_ready (rs := [1]) (by kernel_rfl) (by simp) (AllReadyH.cons rfl (fun K hK => ?_) AllReadyH.nil)
                          rw [if_pos (by rfl)]
                          go_simp
                          refine hK.out _ _ HSa.out (fun hHeld => ?_)
                          clear hK K
                          try simp only [List.getElem_toArray, List.getElem_cons_succ, List.getElem_cons_zero, Act.put, List.setIfInBounds_toArray, List.set_cons_zero, List.set_cons_succ]
                          refine wpAnyH_ready (rs := [6]) (by kernel_rfl) (by simp) (AllReadyH.cons rfl (fun K hK => ?_) AllReadyH.nil)
                          rw [if_pos (by rfl)]
                          refine wp_append_own _ (.tmp 51) (.tmp 55) 24 rfl (w.heap.size + 2) 40 i0 (.agg (Array.replicate 32 (.int .u8 0))) 32 32 Try.underlying24 HI.out hz0 hz1 hz2 (by rfl) (by omega) lv k ((t.take (32 * k)).map B) rfl HOa.out ⟨w9.heap.size, 0, none⟩ 1 1 (l.map B) rfl (by simp [Hl32.out]) HNa.out (B_one l) (by unfold maxLen; omega) (by omega) hsza ?_
                          intro lv2 w11 hown hgr _
                          obtain ⟨g11, cp11, rfl, -⟩ := hown.form (by omega)
                          have HO2 := hid hown
                          obtain ⟨x1, x2, x3, x4⟩ := HX.out w11 hgr
                          have HM11 := hid x1
                          have HG11 := hid x2
                          have HB11 := hid x3
                          have c11 : w11.cell? ⟨w.heap.size, 2, none⟩ = some lv := cell_of_block x1 2
                          have f11 := frozen_of_block x1 2
                          have s11 := HSb.out w11 hgr
                          clear hown hgr x1 x2 x3
                          refine hK.out _ _ s11 (fun hHeld => ?_)
                          clear hK K
                          try simp only [List.getElem_toArray, List.getElem_cons_succ, List.getElem_cons_zero, Act.put, List.setIfInBounds_toArray, List.set_cons_zero, List.set_cons_succ]
                          refine wpAnyH_take (i := 7) (v := ?_) rfl (by kernel_rfl) (by kernel_rfl) (by kernel_rfl) (fun _ _ _ h => h) (Or.inl ⟨by rfl, ?_⟩) (by assumption) ?_
                          rotate_left
                          · (intro W hSw; (try dsimp only at hSw); obtain s1 := hSw; go_simp; try with_reducible rfl)
                          try simp only [List.getElem_toArray, List.getElem_cons_succ, List.getElem_cons_zero, Act.put, List.setIfInBounds_toArray, List.set_cons_zero, List.set_cons_succ]
                          refine wpAnyH_ready (rs := [8]) (by kernel_rfl) (by simp) (AllReadyH.cons rfl (fun K hK => ?_) AllReadyH.nil)
                          rw [if_pos (by rfl)]
                          go_simp
                          refine hK.out _ _ (fun j v hj => (World.cell?_of_block (w := w11) (block_setCell_other 2 _ (show b9 ≠ w.heap.size by omega))).trans (s11 j v hj)) (fun hHeld => ?_)
                          clear hK K
                          try simp only [List.getElem_toArray, List.getElem_cons_succ, List.getElem_cons_zero, Act.put, List.setIfInBounds_toArray, List.set_cons_zero, List.set_cons_succ]
                          refine wpAnyH_done (by kernel_rfl) ?_ _
                          refine NoPanic.normal ?_
                          clear hHeld c11 f11
                          have HM12 := hid (set_M2 HM11.out (.slice (some ⟨g11, 0, none⟩) (k + 1) cp11))
                          have HG12 := hid ((block_setCell_other (k := w.heap.size + 1) 2 (.slice (some ⟨g11, 0, none⟩) (k + 1) cp11) (show w.heap.size + 1 ≠ w.heap.size by omega)).trans HG11.out)
                          have HB12 := hid (HB11.out.setCell (p := ⟨w.heap.size, 2, none⟩) (by simp) (.slice (some ⟨g11, 0, none⟩) (k + 1) cp11))
                          have HO12 := hid (row_same HO2.out (fun b hb => block_setCell_other (w := w11) 2 (.slice (some ⟨g11, 0, none⟩) (k + 1) cp11) (show b ≠ w.heap.size by omega)))
                          rw [← List.map_append, ← HT.out] at HO12
                          have hs12 : w.heap.size + 2 ≤ (w11.setCell ⟨w.heap.size, 2, none⟩ (.slice (some ⟨g11, 0, none⟩) (k + 1) cp11)).heap.size := by have := lt_of_heap HG12.out; omega
                          clear HM11 HG11 HB11 HO2 s11 x4
                          generalize w11.setCell ⟨w.heap.size, 2, none⟩ (.slice (some ⟨g11, 0, none⟩) (k + 1) cp11) = w12 at *
                          go_wp2
                          exact ⟨⟨k + 1, _, v10, by omega, by go_num, HM12, HO12, HG12, HR10, hk1, HB12, hs12⟩, by simp [intOf]; omega⟩
                    · have HP : Hid (pRead bs = none) := by
                        unfold Hid
                        rw [H6.out, if_neg]
                        rw [List.length_drop] at hlt9
                        omega
                      clear HO HG hlt9 H6 HVn
                      go_wp2
                      go_step3
                      refine ⟨rfl, ?_⟩
                      go_wp2_with (refine wpList_store_block rfl 26 (.tmp 2) (.tmp 64) rfl w.heap.size #[str [], str [], .slice none 0 0] rfl rfl _ 26 HM.out rfl infoM (oneM _ _ _ _ _) ?_; intro w6 hg6 hb6 hz6; have H6 := hid hb6; have HB6 := hid (HB.out.grown hg6 HB.out.size (fun k hk => by cases hk; exact Nat.le_refl _)); clear hg6 hb6 hz6)
                      rw [Exit.noGoto_ret]
                      go_wp2
                      refine bodyPost_ret (results_cell_slot Try.results16 _ _ rfl H6.out _ Try.underlying26 rfl infoM) rfl ⟨.inl ⟨HP.out, _, _, _, _, _, rfl⟩, HB6.out⟩
                  · have hd2 : ¬ ((k : Int) < V n) := by rw [HVn.out]; omega
                    have hkn : k = n.toNat := by omega
                    obtain ⟨la, lc, rfl⟩ : ∃ la lc, lv = .slice la k lc := by
                      rcases HO.out.2 with ⟨e, e2⟩ | ⟨g, c, cur, e, _⟩
                      · exact ⟨none, 0, by rw [e, e2]⟩
                      · exact ⟨_, _, e⟩
                    have c0 : wr.cell? ⟨w.heap.size, 0, none⟩ = some (str s) := cell_of_block HM.out 0
                    have c1 : wr.cell? ⟨w.heap.size, 1, none⟩ = some (str s2) := cell_of_block HM.out 1
                    have c2 : wr.cell? ⟨w.heap.size, 2, none⟩ = some (.slice la k lc) := cell_of_block HM.out 2
                    have f0 := frozen_of_block HM.out 0
                    have f1 := frozen_of_block HM.out 1
                    have f2 := frozen_of_block HM.out 2
                    obtain ⟨ra, rc, rfl, -, -, -, -⟩ := HR.out
                    have cr : wr.cell? ⟨w.heap.size + 1, 0, none⟩ = some (.slice ra (t.drop (32 * k)).length rc) := cell_of_block HG.out 0
                    go_wp2
                    go_region
                    subst hkn
                    have HM6 : Hid ((((wr.setCell ⟨w.heap.size, 0, none⟩ (str s)).setCell ⟨w.heap.size, 1, none⟩ (str s2)).setCell ⟨w.heap.size, 2, none⟩ (.slice la n.toNat lc)).drew.heap[w.heap.size]? = some (.cells #[str s, str s2, .slice la n.toNat lc] 26 (0, 0))) := set_M2 (set_M1 (set_M0 HM.out (str s)) (str s2)) (.slice la n.toNat lc)
                    have HB6 := hid ((((HB.out.setCell (p := ⟨w.heap.size, 0, none⟩) (by simp) (str s)).setCell (p := ⟨w.heap.size, 1, none⟩) (by simp) (str s2)).setCell (p := ⟨w.heap.size, 2, none⟩) (by simp) (.slice la n.toNat lc)).drew)
                    have HX : Hid (∀ b, w.heap.size + 2 ≤ b → (((wr.setCell ⟨w.heap.size, 0, none⟩ (str s)).setCell ⟨w.heap.size, 1, none⟩ (str s2)).setCell ⟨w.heap.size, 2, none⟩ (.slice la n.toNat lc)).drew.heap[b]? = wr.heap[b]?) := fun b hb => by
                      have hne : b ≠ w.heap.size := by omega
                      exact (block_setCell_other 2 _ hne).trans ((block_setCell_other 1 _ hne).trans (block_setCell_other 0 _ hne))
                    by_cases hl : t.length = 32 * n.toNat
                    · have HL := hid (layers_of_row HO.out hl HX.out)
                      have HLt : Hid (∀ b o, la = some ⟨b, o, none⟩ → w.heap.size ≤ b) := fun b o e => by
                        subst e
                        have := HO.out.lt b rfl
                        omega
                      have HP : Hid (pRead bs = some ⟨s, s2, chunks n.toNat t⟩) := by unfold Hid; rw [H6.out, if_pos hl]
                      have HF := hid (flatten_chunks n.toNat t hl).2.1
                      have hz : (((t.length - 32 * n.toNat : Nat) : Int) == 0) = true := by rw [beq_iff_eq]; omega
                      clear HM HB HX c0 c1 c2 f0 f1 f2 cr HG HR HO
                      generalize (((wr.setCell ⟨w.heap.size, 0, none⟩ (str s)).setCell ⟨w.heap.size, 1, none⟩ (str s2)).setCell ⟨w.heap.size, 2, none⟩ (.slice la n.toNat lc)).drew = w9 at *
                      go_wp2
                      rw [exit_jump_ret]
                      go_wp2
                      refine bodyPost_ret (results_cell_slot Try.results16 _ _ rfl HM6.out _ Try.underlying26 rfl infoM) rfl ⟨.inr ⟨⟨s, s2, chunks n.toNat t⟩, la, lc, HP.out, ?_, HL.out, by rw [HF.out]; exact hn255, HLt.out⟩, HB6.out⟩
                      rw [HF.out]
                      show Ending.returned (.tuple #[.agg #[str s, str s2, .slice la n.toNat lc], .bool (((t.length - 32 * n.toNat : Nat) : Int) == 0)]) = _
                      rw [hz]
                    · have HP : Hid (pRead bs = none) := by unfold Hid; rw [H6.out, if_neg hl]
                      have hz : (((t.length - 32 * n.toNat : Nat) : Int) == 0) = false := by rw [beq_eq_false_iff_ne]; omega
                      clear HM HB HX c0 c1 c2 f0 f1 f2 cr HG HR HO
                      generalize (((wr.setCell ⟨w.heap.size, 0, none⟩ (str s)).setCell ⟨w.heap.size, 1, none⟩ (str s2)).setCell ⟨w.heap.size, 2, none⟩ (.slice la n.toNat lc)).drew = w9 at *
                      go_wp2
                      rw [exit_jump_ret]
                      go_wp2
                      refine bodyPost_ret (results_cell_slot Try.results16 _ _ rfl HM6.out _ Try.underlying26 rfl infoM) rfl ⟨.inl ⟨HP.out, s, s2, la, n.toNat, lc, ?_⟩, HB6.out⟩
                      show Ending.returned (.tuple #[.agg #[str s, str s2, .slice la n.toNat lc], .bool (((t.length - 32 * n.toNat : Nat) : Int) == 0)]) = _
                      rw [hz]
          · have HP : Hid (pRead bs = none) := by
              have := H5.out
              rw [List.length_eq_zero_iff.1 (show t2.length = 0 by omega)] at this
              exact this
            clear H5 HG hlt
            go_wp2
            go_step3
            refine ⟨rfl, ?_⟩
            go_wp2_with (refine wpList_store_block rfl 26 (.tmp 2) (.tmp 64) rfl w.heap.size #[str [], str [], .slice none 0 0] rfl rfl _ 26 HM.out rfl infoM (oneM _ _ _ _ _) ?_; intro w6 hg6 hb6 hz6; have H6 := hid hb6; have HB6 := hid (HB.out.grown hg6 HB.out.size (fun k hk => by cases hk; exact Nat.le_refl _)); clear hg6 hb6 hz6)
            rw [Exit.noGoto_ret]
            go_wp2
            refine bodyPost_ret (results_cell_slot Try.results16 _ _ rfl H6.out _ Try.underlying26 rfl infoM) rfl ⟨.inl ⟨HP.out, _, _, _, _, _, rfl⟩, HB6.out⟩
    · have HP : Hid (pRead bs = none) := if_neg h3
      have hne : (bs.take 3 == [68, 77, 1]) = false := beq_eq_false_iff_ne.2 h3
      clear h3
      generalize bs.take 3 = b3 at *
      go_wp2
      go_step3
      refine ⟨rfl, ?_⟩
      go_wp2_with (refine wpList_store_block rfl 26 (.tmp 2) (.tmp 64) rfl w.heap.size #[str [], str [], .slice none 0 0] rfl rfl _ 26 HM.out rfl infoM (oneM _ _ _ _ _) ?_; intro w6 hg6 hb6 hz6; have H6 := hid hb6; have HB6 := hid (HB.out.grown hg6 HB.out.size (fun k hk => by cases hk; exact Nat.le_refl _)); clear hg6 hb6 hz6)
      rw [Exit.noGoto_ret]
      go_wp2
      refine bodyPost_ret (results_cell_slot Try.results16 _ _ rfl H6.out _ Try.underlying26 rfl infoM) rfl ⟨.inl ⟨HP.out, _, _, _, _, _, rfl⟩, HB6.out⟩
  · have HP : Hid (pRead bs = none) := by
      unfold Hid pRead
      rw [if_neg (fun h => by have := congrArg List.length h; simp at this; omega)]
    go_wp2
    go_step3
    refine ⟨rfl, ?_⟩
    go_wp2_with (refine wpList_store_block rfl 26 (.tmp 2) (.tmp 64) rfl w.heap.size #[str [], str [], .slice none 0 0] rfl rfl _ 26 HM.out rfl infoM (oneM _ _ _ _ _) ?_; intro w6 hg6 hb6 hz6; have H6 := hid hb6; have HB6 := hid (HB.out.grown hg6 HB.out.size (fun k hk => by cases hk; exact Nat.le_refl _)); clear hg6 hb6 hz6)
    rw [Exit.noGoto_ret]
    go_wp2
    refine bodyPost_ret (results_cell_slot Try.results16 _ _ rfl H6.out _ Try.underlying26 rfl infoM) rfl ⟨.inl ⟨HP.out, _, _, _, _, _, rfl⟩, HB6.out⟩
end Go.Proofs.Ytkmmeokccmppbaa
