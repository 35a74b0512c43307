/- slices.Repeat at a slice of one sector: so many sectors, each that one, in a new slice. -/
import Derived.Test.YtabpfneihihmaaaDoorKit
import Derived.Test.YtabpfneihihmaaaDoorRows
import Derived.Test.YtabpfneihihmaaaDoorShelf
import Derived.Laws.CopyOwn
import Derived.ArgAppend
import Derived.Deep.RegionHeld3
namespace Go.Proofs.YtabpfneihihmaaaDoor
open Go.RowKit
theorem hid {p : Prop} (h : p) : Hid p := h
theorem hmix : Tryd.prog.follows .mixedOrders = true := by kernel_rfl
theorem mul_one_u (n : Nat) (hn : n ≤ 4096) (w : World) : Calls Tryd.prog 23 #[.int .u64 1, .int .u64 n] w fun e w' => e = .returned (.tuple #[.int .u64 0, .int .u64 n]) ∧ w' = w := by
  have h := Tryd.bits_Mul 1 n (by omega) (by omega) w
  rw [show 1 * n / 18446744073709551616 = 0 by omega, show 1 * n % 18446744073709551616 = n by omega] at h
  exact h
theorem infoS : (Tryd.prog.info? 39).map (fun i => (i.zero, i.size, i.bytes)) = some (some (.string ⟨#[]⟩), 1, 16) := by kernel_rfl
theorem sizeS : (Tryd.prog.info? 39).map (·.size) = some 1 := by kernel_rfl
theorem madeS (n : Nat) : madeCells (Value.string ⟨#[]⟩).cells (n * 1) = (List.replicate n (Value.string ⟨#[]⟩)).toArray := by
  apply Array.ext
  · simp [madeCells]
  · intro i h1 h2
    simp [madeCells, Value.cells, Nat.mod_one]
theorem wpList_make_secs {w : World} {ops : Array Oper} {rest : List Oper} {o : Oper} {a : Act} {Q : Exit → Act → World → Prop} (hg : o.guard = none) (l c : Operand) (hop : o.op = Op.makeSlice 42 l c)
    (n : Nat) (hl : a.eval l = .int .i64 n) (hc : a.eval c = .int .i64 n) (hm : n ≤ 4096)
    (h : ∀ w1 : World, Below w.heap.size w w1 → w1.heap[w.heap.size]? = some (.cells (List.replicate n (Value.string ⟨#[]⟩)).toArray 39 (0, 0)) → w1.heap.size = w.heap.size + 1 →
      wpList Tryd.prog ops Q rest (a.put o.dst (.slice (some ⟨w.heap.size, 0, none⟩) n n)) w1) : wpList Tryd.prog ops Q (o :: rest) a w := by
  obtain ⟨i, hi, hz, hs, hb⟩ := info_parts infoS
  refine wpList_plain hg fun K hK' => ?_
  have hrun := run_make (P := Tryd.prog) w 42 39 i (.string ⟨#[]⟩) Tryd.underlying42 hi hz .i64 .i64 n n (by omega) (by omega) (by rw [hb]; omega) (by omega)
  unfold Oper.wp
  simp only [Int.toNat_natCast, hs, madeS] at hrun
  generalize (List.replicate n (Value.string ⟨#[]⟩)).toArray = Z at *
  simp [execOp, hop, hl, hc, hrun, Result.andThen]
  exact hK' _ _ (h _ ((Below.refl _ _).alloc (Nat.le_refl _) _) (block_new _ _) (by simp))
theorem wpList_copy_block {P : Program} {w : World} {ops : Array Oper} {rest : List Oper} {o : Oper} {a : Act} {Q : Exit → Act → World → Prop} (hgd : o.guard = none) (d s : Operand) (dT sT : TypeId)
    (ho : o.op = .call { callee := .builtin .copy, args := #[d, s], argTypes := #[dT, sT] }) (elem : TypeId) (hu : P.underlying dT = some (.slice elem)) (hsz : (P.info? elem).map (·.size) = some 1)
    (g off dLen dCap : Nat) (ad : Addr) (sLen sCap : Nat) (hd : a.eval d = .slice (some ⟨g, off, none⟩) dLen dCap) (hs : a.eval s = .slice (some ad) sLen sCap)
    (C : Array Value) (t : TypeId) (hg : w.heap[g]? = some (.cells C t (0, 0))) (cs : List Value) (hn : cs.length = Nat.min sLen dLen) (hsrc : ∀ j v, cs[j]? = some v → w.cell? (ad.add j) = some v)
    (hfit : off + cs.length ≤ C.size) (h1 : ∀ v ∈ cs, v.oneCell' = true)
    (h : ∀ w1 : World, w.grownBy w1 (some g) → w1.heap[g]? = some (.cells (C.toList.take off ++ (cs ++ C.toList.drop (off + cs.length))).toArray t (0, 0)) → w1.heap.size = w.heap.size →
      wpList P ops Q rest (a.put o.dst (goInt cs.length)) w1) : wpList P ops Q (o :: rest) a w :=
  wpList_copy_own hgd d s dT sT ho elem hu hsz g off dLen dCap ad sLen sCap hd hs C t hg cs hn hsrc hfit h1
    (h _ ⟨rfl, rfl, rfl, by simp [World.setRow], fun k _ hk => setRow_other w g k _ (fun e => hk (by rw [e]))⟩ (setRow_heap w g C _ t (0, 0) hg) (by simp [World.setRow]))
theorem wp_copy_block {P : Program} {w : World} {o : Oper} {a : Act} {K : Act → World → Prop} {Q : Exit → Act → World → Prop} (d s : Operand) (dT sT : TypeId)
    (ho : o.op = .call { callee := .builtin .copy, args := #[d, s], argTypes := #[dT, sT] }) (elem : TypeId) (hu : P.underlying dT = some (.slice elem)) (hsz : (P.info? elem).map (·.size) = some 1)
    (g off dLen dCap : Nat) (ad : Addr) (sLen sCap : Nat) (hd : a.eval d = .slice (some ⟨g, off, none⟩) dLen dCap) (hs : a.eval s = .slice (some ad) sLen sCap)
    (C : Array Value) (t : TypeId) (hg : w.heap[g]? = some (.cells C t (0, 0))) (cs : List Value) (hn : cs.length = Nat.min sLen dLen) (hsrc : ∀ j v, cs[j]? = some v → w.cell? (ad.add j) = some v)
    (hfit : off + cs.length ≤ C.size) (h1 : ∀ v ∈ cs, v.oneCell' = true)
    (h : ∀ w1 : World, w.grownBy w1 (some g) → w1.heap[g]? = some (.cells (C.toList.take off ++ (cs ++ C.toList.drop (off + cs.length))).toArray t (0, 0)) → w1.heap.size = w.heap.size →
      K (a.put o.dst (goInt cs.length)) w1) : o.wp P a w K Q := by
  have hrun := run_copy_row (P := P) w dT sT o.type elem g off dLen dCap ad sLen sCap C t cs hu hsz hg hn hsrc hfit h1
  rw [List.append_assoc] at hrun
  unfold Oper.wp
  simp only [execOp, ho, resolve, invoke, builtin, hd, hs, hrun, Sem.run_bind, Sem.run_pure, Result.andThen_ok, List.map_toArray, List.map_cons, List.map_nil]
  exact h _ ⟨rfl, rfl, rfl, by simp [World.setRow], fun k _ hk => setRow_other w g k _ (fun e => hk (by rw [e]))⟩ (setRow_heap w g C _ t (0, 0) hg) (by simp [World.setRow])
/-- The first k cells hold x, the others y. -/
def filled (x y : Value) (n k : Nat) : List Value := List.replicate k x ++ List.replicate (n - k) y
theorem length_filled (x y : Value) (n k : Nat) (h : k ≤ n) : (filled x y n k).length = n := by simp [filled]; omega
theorem filled_more (x y : Value) (n k m : Nat) : (filled x y n k).take k ++ (List.replicate m x ++ (filled x y n k).drop (k + m)) = filled x y n (k + m) := by
  unfold filled
  rw [List.take_append_of_le_length (by simp), List.take_of_length_le (by simp), List.drop_append, List.drop_of_length_le (by simp), List.nil_append, List.drop_replicate, ← List.append_assoc, List.replicate_append_replicate]
  congr 2
  simp; omega
theorem one_src {w w1 : World} {b : Nat} {v : Value} (hb : w1.heap[b]? = w.heap[b]?) (hc : w.cell? ⟨b, 0, none⟩ = some v) : ∀ j u, [v][j]? = some u → w1.cell? ((⟨b, 0, none⟩ : Addr).add j) = some u := by
  intro j u hu
  cases j with
  | zero =>
    rw [Addr.add_mid, ← Option.some.inj hu]
    exact (World.cell?_of_block (w := w) hb).trans hc
  | succ j => simp at hu
theorem fill_one (n : Nat) (x y : Value) : ((List.replicate n y).toArray.toList.take 0 ++ ([x] ++ (List.replicate n y).toArray.toList.drop (0 + [x].length))) = filled x y n 1 := by
  simp [filled]
theorem fill_src {w : World} {g n k m : Nat} {x y : Value} {t : TypeId} {fr : Nat × Nat} (h : w.heap[g]? = some (.cells (filled x y n k).toArray t fr)) (hm : m ≤ k) : ∀ j u, (List.replicate m x)[j]? = some u → w.cell? ((⟨g, 0, none⟩ : Addr).add j) = some u := by
  intro j u hu
  have hj : j < m := by have := (List.getElem?_eq_some_iff.1 hu).1; simpa using this
  rw [Addr.add_mid, Nat.zero_add, cell_of_block h, List.getElem?_toArray, filled, List.getElem?_append_left (by simp; omega), List.getElem?_replicate, if_pos (by omega)]
  rw [List.getElem?_replicate, if_pos hj] at hu
  exact hu
set_option maxRecDepth 100000 in
set_option maxHeartbeats 1000000 in
theorem repeat_one (s : ByteArray) (b n : Nat) (h1 : 1 ≤ n) (hn : n ≤ 4096) (w : World) (hb : w.cell? ⟨b, 0, none⟩ = some (.string s)) :
    Calls Tryd.prog 14 #[.slice (some ⟨b, 0, none⟩) 1 1, .int .i64 n] w fun e w' => e = .returned (.slice (some ⟨w.heap.size, 0, none⟩) n n) ∧ w'.heap[w.heap.size]? = some (.cells (List.replicate n (Value.string s)).toArray 39 (0, 0)) ∧ Below w.heap.size w w' := by
  have HB := hid hb
  have hbl := World.block_lt_of_cell? w _ hb
  go_enter Tryd.func14, Tryd.ntmps14
  go_wp2_with (first
    | (go_at_call 23; refine (mul_one_u n hn _).mono ?_; rintro e w9 ⟨rfl, h9⟩; obtain rfl := h9.symm)
    | (refine wpList_make_secs rfl (.tmp 29) (.tmp 29) rfl n rfl rfl hn ?_; intro w1 hB1 hb1 hz1; have HB1 := hid hB1; have Hb1 := hid hb1; clear hB1 hb1 hz1)
    | (refine wpList_copy_block rfl (.tmp 31) (.tmp 32) 42 42 rfl 39 Tryd.underlying42 sizeS w.heap.size 0 n n ⟨b, 0, none⟩ 1 1 rfl rfl _ 39 Hb1.out [.string s] (Nat.min_eq_left h1).symm (one_src (HB1.out.block b hbl) HB.out) (by simpa using h1) (by simp [Value.oneCell']) ?_; intro w2 hg2 hb2 hz2; rw [fill_one] at hb2; have H2 := hid hb2; have HB2 := hid (HB1.out.trans (below_of_grown hg2 (Nat.le_refl _) HB1.out.size)); clear hb2 hg2 hz2 Hb1 HB1))
  clear hb
  go_loopw [8] (fun i wr => ∃ k : Nat, 1 ≤ k ∧ k ≤ n ∧ i = .int .i64 k ∧ Hid (wr.heap[w.heap.size]? = some (.cells (filled (.string s) (.string ⟨#[]⟩) n k).toArray 39 (0, 0))) ∧ Hid (Below w.heap.size w wr)) (fun i _ => n - (intOf i).toNat)
  case atStart => exact ⟨1, by omega, h1, rfl, H2, HB2⟩
  case round =>
    obtain ⟨k, hk1, hkn, rfl, hF, hBr⟩ := hrel
    clear H2 HB2
    by_cases hlt : k < n
    · have hk0 : (0 : Int) ≤ (k : Int) := by omega
      have hk2 : (k : Int) ≤ (n : Int) := by omega
      have hk3 : (k : Int) < (n : Int) := by omega
      go_wp2
      refine wp_region_noPanic ?_
      refine wp_region_held_drew (S := fun w' => Below w.heap.size w w') (by kernel_rfl) hBr.out.drew (fun hHeld => ?_)
      refine wpAnyH_take (i := 0) (v := ?_) rfl (by kernel_rfl) (by kernel_rfl) (by kernel_rfl) (fun _ _ _ h => h) (Or.inl ⟨by rfl, ?_⟩) (by assumption) ?_
      rotate_left
      · (intro W hSw; (try dsimp only at hSw); go_simp; try with_reducible rfl)
      try simp only [List.getElem_toArray, List.getElem_cons_zero, Act.put, List.setIfInBounds_toArray, List.set_cons_zero, List.set_cons_succ]
      refine wpAnyH_take (i := 1) (v := ?_) rfl (by kernel_rfl) (by kernel_rfl) (by kernel_rfl) (fun _ _ _ h => h) (Or.inl ⟨by rfl, ?_⟩) (by assumption) ?_
      rotate_left
      · (intro W hSw; (try dsimp only at hSw); go_simp; try with_reducible rfl)
      try simp only [List.getElem_toArray, List.getElem_cons_succ, List.getElem_cons_zero, Act.put, List.setIfInBounds_toArray, List.set_cons_zero, List.set_cons_succ]
      refine wpAnyH_take (i := 2) (v := ?_) rfl (by kernel_rfl) (by kernel_rfl) (by kernel_rfl) (fun _ _ _ h => h) (Or.inl ⟨by rfl, ?_⟩) (by assumption) ?_
      rotate_left
      · (intro W hSw; (try dsimp only at hSw); go_simp; try with_reducible rfl)
      try simp only [List.getElem_toArray, List.getElem_cons_succ, List.getElem_cons_zero, Act.put, List.setIfInBounds_toArray, List.set_cons_zero, List.set_cons_succ]
      refine wpAnyH_take (i := 3) (v := ?_) rfl (by kernel_rfl) (by kernel_rfl) (by kernel_rfl) (fun _ _ _ h => h) (Or.inl ⟨by rfl, ?_⟩) (by assumption) ?_
      rotate_left
      · (intro W hSw; (try dsimp only at hSw); go_simp; try with_reducible rfl)
      try simp only [List.getElem_toArray, List.getElem_cons_succ, List.getElem_cons_zero, Act.put, List.setIfInBounds_toArray, List.set_cons_zero, List.set_cons_succ]
      refine wpAnyH_take (i := 4) (v := ?_) rfl (by kernel_rfl) (by kernel_rfl) (by kernel_rfl) (fun _ _ _ h => h) (Or.inl ⟨by rfl, ?_⟩) (by assumption) ?_
      rotate_left
      · (intro W hSw; (try dsimp only at hSw); go_simp; try with_reducible rfl)
      try simp only [List.getElem_toArray, List.getElem_cons_succ, List.getElem_cons_zero, Act.put, List.setIfInBounds_toArray, List.set_cons_zero, List.set_cons_succ]
      refine wpAnyH_take (i := 5) (v := ?_) rfl (by kernel_rfl) (by kernel_rfl) (by kernel_rfl) (fun _ _ _ h => h) (Or.inl ⟨by rfl, ?_⟩) (by assumption) ?_
      rotate_left
      · (intro W hSw; (try dsimp only at hSw); go_simp; try with_reducible rfl)
      try simp only [List.getElem_toArray, List.getElem_cons_succ, List.getElem_cons_zero, Act.put, List.setIfInBounds_toArray, List.set_cons_zero, List.set_cons_succ]
      refine wpAnyH_take (i := 6) (v := ?_) rfl (by kernel_rfl) (by kernel_rfl) (by kernel_rfl) (fun _ _ _ h => h) (Or.inl ⟨by rfl, ?_⟩) (by assumption) ?_
      rotate_left
      · (intro W hSw; (try dsimp only at hSw); go_simp; try with_reducible rfl)
      try simp only [List.getElem_toArray, List.getElem_cons_succ, List.getElem_cons_zero, Act.put, List.setIfInBounds_toArray, List.set_cons_zero, List.set_cons_succ]
      refine wpAnyH_ready (rs := [7]) (by kernel_rfl) (by simp) (AllReadyH.cons rfl (fun K hK => ?_) AllReadyH.nil)
      rw [if_pos (by rfl)]
      rw [if_neg (show ¬ (n = k) by omega)]
      generalize hm : Nat.min k (n - k) = m
      have hm1 : 1 ≤ m := by rw [← hm]; exact Nat.le_min.2 ⟨hk1, by omega⟩
      have hmk : m ≤ k := by rw [← hm]; exact Nat.min_le_left _ _
      have hmn : k + m ≤ n := by have : m ≤ n - k := by rw [← hm]; exact Nat.min_le_right _ _
                                 omega
      refine wp_copy_block (.tmp 41) (.tmp 44) 42 42 rfl 39 Tryd.underlying42 sizeS w.heap.size k (n - k) (n - k) ⟨w.heap.size, 0, none⟩ k n rfl rfl _ 39 (w := wr.drew) hF.out (List.replicate m (.string s)) (by rw [List.length_replicate, hm]) (fill_src hF.out hmk) (by simp [length_filled _ _ _ _ hkn]; omega) (by intro v hv; rw [List.eq_of_mem_replicate hv]; rfl) ?_
      intro w2 hg2 hb2 hz2
      simp only [List.length_replicate] at hb2
      rw [filled_more] at hb2
      have H2 := hid hb2
      have HB2 := hid (hBr.out.drew.trans (below_of_grown hg2 (Nat.le_refl _) hBr.out.drew.size))
      clear hb2 hg2 hz2 hHeld
      refine hK.out _ _ HB2.out (fun hHeld => ?_)
      clear hK K
      try simp only [List.getElem_toArray, List.getElem_cons_succ, List.getElem_cons_zero, Act.put, List.setIfInBounds_toArray, List.set_cons_zero, List.set_cons_succ]
      refine wpAnyH_take (i := 8) (v := ?_) rfl (by kernel_rfl) (by kernel_rfl) (by kernel_rfl) (fun _ _ _ h => h) (Or.inl ⟨by rfl, ?_⟩) (by assumption) ?_
      rotate_left
      · (intro W hSw; (try dsimp only at hSw); go_simp; try with_reducible rfl)
      try simp only [List.getElem_toArray, List.getElem_cons_succ, List.getElem_cons_zero, Act.put, List.setIfInBounds_toArray, List.set_cons_zero, List.set_cons_succ]
      refine wpAnyH_take (i := 9) (v := ?_) rfl (by kernel_rfl) (by kernel_rfl) (by kernel_rfl) (fun _ _ _ h => h) (Or.inl ⟨by rfl, ?_⟩) (by assumption) ?_
      rotate_left
      · (intro W hSw; (try dsimp only at hSw); go_simp; try with_reducible rfl)
      try simp only [List.getElem_toArray, List.getElem_cons_succ, List.getElem_cons_zero, Act.put, List.setIfInBounds_toArray, List.set_cons_zero, List.set_cons_succ]
      refine wpAnyH_done (by kernel_rfl) ?_ _
      refine NoPanic.normal ?_
      go_wp2
      go_roundw
      case rel =>
        have hw : IntKind.i64.wrap ((k : Int) + (m : Int)) = ((k + m : Nat) : Int) := by rw [IntWalk.i64_in _ (by omega)]; omega
        exact ⟨k + m, by omega, hmn, by rw [hw], H2, HB2⟩
      case measure =>
        have hw : IntKind.i64.wrap ((k : Int) + (m : Int)) = (k : Int) + (m : Int) := IntWalk.i64_in _ (by omega)
        simp [intOf, hw]; omega
    · have hge : ¬ ((k : Int) < (n : Int)) := by omega
      obtain rfl : k = n := by omega
      go_wp2
      go_ret
      refine ⟨rfl, ?_, hBr.out⟩
      have := hF.out
      rwa [show filled (.string s) (.string ⟨#[]⟩) k k = List.replicate k (Value.string s) by simp [filled]] at this
end Go.Proofs.YtabpfneihihmaaaDoor
