/- What TopAgain makes and finds: bools, pages, counts. -/
import Derived.Test.YtclmachgpmfjfaaWAgainP
import Derived.Test.YtclmachgpmfjfaaWMid
import Derived.Test.YtclmachgpmfjfaaKeepB
namespace Go.Proofs.Ytclmachgpmfjfaa
open Go.RowKit
/-- A block of bools of one's own. -/
def ownBo (w : World) (b : Nat) (L : List Bool) : Prop := w.heap[b]? = some (.cells (L.map Value.bool).toArray 4 (0, 0))
theorem ownBo.lt {w : World} {b : Nat} {L : List Bool} (h : ownBo w b L) : b < w.heap.size := lt_of_heap h
theorem ownBo.below {w w' : World} {b : Nat} {L : List Bool} (h : ownBo w b L) (k : Below w.heap.size w w') : ownBo w' b L := below_block k h (lt_of_heap h)
theorem ownBo.keep {w w' : World} {b : Nat} {L : List Bool} {F : Nat → Prop} (h : ownBo w b L) (k : Keeps F w w') (hF : ¬ F b) : ownBo w' b L := k.heap h hF
theorem ownBo.cell {w : World} {b : Nat} {L : List Bool} (h : ownBo w b L) (j : Nat) (hj : j < L.length) : w.cell? ⟨b, j, none⟩ = some (.bool L[j]) := by
  rw [cell_of_block h]; simp [hj]
theorem ownBo.frozen {w : World} {b : Nat} {L : List Bool} (h : ownBo w b L) (j : Nat) : w.frozen? ⟨b, j, none⟩ = false := frozen_of_block h _
theorem ownBo.set {w : World} {b : Nat} {L : List Bool} (h : ownBo w b L) (j : Nat) (x : Bool) : ownBo (w.setCell ⟨b, j, none⟩ (.bool x)) b (L.set j x) := by
  have h1 := block_setCell h j (.bool x)
  rw [List.setIfInBounds_toArray] at h1
  unfold ownBo
  rw [h1, List.map_set]
theorem infoBool : (Try.prog.info? 4).map (fun i => (i.zero, i.size, i.bytes)) = some (some (.bool false), 1, 1) := by kernel_rfl
theorem madeBool (n : Nat) : madeCells (Value.bool false).cells (n * 1) = (List.replicate n (Value.bool false)).toArray := by
  apply Array.ext
  · simp [madeCells]
  · intro i h1 h2
    simp [madeCells, Value.cells, Nat.mod_one]
theorem wpList_make_bools {w : World} {ops : Array Oper} {rest : List Oper} {o : Oper} {a : Act} {Q : Exit → Act → World → Prop} (hg : o.guard = none) (l c : Operand) (hop : o.op = Op.makeSlice 32 l c)
    (n : Nat) (hl : a.eval l = .int .i64 n) (hc : a.eval c = .int .i64 n) (hm : n ≤ 4096)
    (h : ∀ w1 : World, Below w.heap.size w w1 → ownBo w1 w.heap.size (List.replicate n false) → w1.heap.size = w.heap.size + 1 →
      wpList Try.prog ops Q rest (a.put o.dst (.slice (some ⟨w.heap.size, 0, none⟩) n n)) w1) : wpList Try.prog ops Q (o :: rest) a w := by
  obtain ⟨i, hi, hz, hs, hb⟩ := info_parts infoBool
  refine wpList_plain hg fun K hK' => ?_
  have hrun := run_make (P := Try.prog) w 32 4 i (.bool false) Try.underlying32 hi hz .i64 .i64 n n (by omega) (by omega) (by rw [hb]; omega) (by omega)
  unfold Oper.wp
  have hown : ownBo (w.alloc (.cells (List.replicate n (Value.bool false)).toArray 4)) w.heap.size (List.replicate n false) := by
    unfold ownBo
    rw [List.map_replicate]; exact block_new _ _
  simp only [Int.toNat_natCast, hs, madeBool] at hrun
  generalize (List.replicate n (Value.bool false)).toArray = Z at *
  simp [execOp, hop, hl, hc, hrun, Result.andThen]
  exact hK' _ _ (h _ ((Below.refl _ _).alloc (Nat.le_refl _) _) hown (by simp))
/-- Which numbers there are. -/
def seenOf (nums : List Nat) : List Bool := (List.range 27).map (fun n => decide (n ∈ nums))
theorem length_seenOf (nums : List Nat) : (seenOf nums).length = 27 := by simp [seenOf]
theorem seenOf_nil : seenOf [] = List.replicate 27 false := by decide
theorem seenOf_at (nums : List Nat) (n : Nat) (h : n < (seenOf nums).length) : (seenOf nums)[n] = decide (n ∈ nums) := by simp [seenOf]
theorem seenOf_set (nums : List Nat) (n : Nat) (_hn : n < 27) : (seenOf nums).set n true = seenOf (nums ++ [n]) := by
  refine List.ext_getElem (by simp [length_seenOf]) (fun i h1 h2 => ?_)
  rw [seenOf_at, List.getElem_set]
  split
  · rename_i e; subst e; simp
  · rename_i e
    rw [seenOf_at]
    have : i ∈ nums ++ [n] ↔ i ∈ nums := by simp; omega
    simp only [this]
/-- The bytes of a page of the group. -/
def gbL (y : UInt8) : List UInt8 := (zN 512).set 3 y
theorem length_gbL (y : UInt8) : (gbL y).length = 512 := by rw [gbL, List.length_set, length_zN]
theorem gbL_at (y : UInt8) : (gbL y)[3]'(by rw [length_gbL]; decide) = y := by simp [gbL]
/-- The pages of the group. -/
def numPs (nums : List Nat) (bs : Nat → Nat) : List PageS := deedPs false (natsZ nums) bs nums.length
theorem length_numPs (nums : List Nat) (bs : Nat → Nat) : (numPs nums bs).length = nums.length := length_deedPs _ _ _ _
theorem numPs_at (nums : List Nat) (bs : Nat → Nat) (j : Nat) (h : j < (numPs nums bs).length) (h' : j < nums.length) : (numPs nums bs)[j] = ⟨(nums[j] : Nat), some ⟨bs j, 0, none⟩, 512, 512⟩ := by
  refine (deedPs_at false (natsZ nums) bs nums.length j h).trans ?_
  have : (natsZ nums).getD j 0 = (nums[j] : Nat) := by simp [h']
  rw [this]; rfl
theorem numPs_err (nums : List Nat) (bs : Nat → Nat) (hd : nums.Nodup) (hl : nums.length ≤ 12) (hn : ∀ n ∈ nums, n < 27) : comErr 27 12 (numPs nums bs) = 0 := by
  unfold comErr
  by_cases h0 : (numPs nums bs).length = 0
  · rw [if_pos h0]
  · rw [if_neg h0, if_neg (by rw [length_numPs]; omega)]
    have hi : inPages 27 (numPs nums bs) = true := inPages_iff.2 (fun j hj => by
      have hj' : j < nums.length := by rw [length_numPs] at hj; exact hj
      rw [numPs_at nums bs j hj hj']
      have := hn _ (List.getElem_mem hj')
      exact ⟨by show (0 : Int) ≤ (nums[j] : Nat); omega, by show ((nums[j] : Nat) : Int) < (27 : Nat); omega⟩)
    rw [if_pos hi]
    refine grpErr_zero _ (fun j hj => ?_) (fun i j hi hj hij => ?_) _ (Nat.le_refl _)
    · rw [numPs_at nums bs j hj (by rw [length_numPs] at hj; exact hj)]
    · have hi' : i < nums.length := by rw [length_numPs] at hi; exact hi
      have hj' : j < nums.length := by rw [length_numPs] at hj; exact hj
      rw [numPs_at nums bs i hi hi', numPs_at nums bs j hj hj']
      show ((nums[i] : Nat) : Int) ≠ (nums[j] : Nat)
      have := List.pairwise_iff_getElem.1 hd i j hi' hj' hij
      omega
theorem numPs_val (nums : List Nat) (bs : Nat → Nat) (y : UInt8) (n : Nat) : (n ∈ nums → (grpVal (numPs nums bs) (numPs nums bs).length (n : Int)).isSome = true ∧ grpL (numPs nums bs) (fun _ => gbL y) (numPs nums bs).length (n : Int) = gbL y) ∧ (n ∉ nums → (grpVal (numPs nums bs) (numPs nums bs).length (n : Int)).isSome = false) := by
  refine ⟨fun h => ?_, fun h => ?_⟩
  · have hs : ∀ k, k ≤ (numPs nums bs).length → (∃ j, j < k ∧ ∃ hj : j < (numPs nums bs).length, (numPs nums bs)[j].n = (n : Int)) → (grpVal (numPs nums bs) k (n : Int)).isSome = true := by
      intro k
      induction k with
      | zero => rintro _ ⟨j, h1, _⟩; omega
      | succ k ih =>
        rintro hk ⟨j, h1, hj, h2⟩
        have hv : grpVal (numPs nums bs) (k + 1) = updV (grpVal (numPs nums bs) k) (numPs nums bs)[k].n (numPs nums bs)[k].val := by rw [grpVal, List.getElem?_eq_getElem (by omega)]
        rw [hv]
        unfold updV
        by_cases e : (n : Int) = (numPs nums bs)[k].n
        · rw [if_pos e]; rfl
        · rw [if_neg e]
          refine ih (by omega) ⟨j, ?_, hj, h2⟩
          by_cases e2 : j = k
          · subst e2; exact absurd h2.symm e
          · omega
    obtain ⟨j, hj, e⟩ := List.mem_iff_getElem.1 h
    have hj' : j < (numPs nums bs).length := by rw [length_numPs]; exact hj
    have h1 := hs _ (Nat.le_refl _) ⟨j, hj', hj', by rw [numPs_at nums bs j hj' hj, ← e]⟩
    refine ⟨h1, ?_⟩
    obtain ⟨v, hv⟩ := Option.isSome_iff_exists.1 h1
    obtain ⟨_, _, _, _, _, h5⟩ := grpVal_some (numPs nums bs) (fun _ => gbL y) (n : Int) v _ hv
    exact h5
  · cases hq : grpVal (numPs nums bs) (numPs nums bs).length (n : Int) with
    | none => rfl
    | some v =>
      obtain ⟨j, _, h2, h3, _, _⟩ := grpVal_some (numPs nums bs) (fun _ => gbL y) (n : Int) v _ hq
      have hj : j < nums.length := by rw [length_numPs] at h2; exact h2
      rw [numPs_at nums bs j h2 hj] at h3
      have e : nums[j] = n := by
        have h4 : ((nums[j] : Nat) : Int) = (n : Int) := h3
        omega
      exact absurd (e ▸ List.getElem_mem hj) h
/-- The byte at 3 of page n, in a log that has the group (g), or not. -/
def beta (g : Bool) (nums : List Nat) (y : UInt8) (n : Nat) : UInt8 := if g = true ∧ n ∈ nums then y else 0
theorem page_fresh (n : Nat) (h : n < 27) : secL (freshN 40) (1 + 12 + n) = zN 512 := by
  show (seenS _ _ _).data.toList = _
  rw [freshN_seen 40 (1 + 12 + n) (by omega)]; exact blank_zeros
theorem page_com (nums : List Nat) (bs : Nat → Nat) (y : UInt8) (hd : nums.Nodup) (hl : nums.length ≤ 12) (hn : ∀ n ∈ nums, n < 27) (n : Nat) (h : n < 27) : secL (comS (freshN 40) 12 (numPs nums bs) (fun _ => gbL y)) (1 + 12 + n) = if n ∈ nums then gbL y else zN 512 := by
  have hh := comS_home (freshN 40) 12 (numPs nums bs) (fun _ => gbL y) n (by rw [freshN_len]; omega)
  have hp : pagesS (freshN 40) 12 = 27 := by unfold pagesS; rw [freshN_len]
  rw [hp] at hh
  show (seenAt _ (1 + 12 + n)).data.toList = _
  rw [hh]
  obtain ⟨h1, h2⟩ := numPs_val nums bs y n
  by_cases hm : n ∈ nums
  · obtain ⟨h3, h4⟩ := h1 hm
    have h0 : (numPs nums bs).length ≠ 0 := by
      rw [length_numPs]
      exact fun e => by rw [List.length_eq_zero_iff.1 e] at hm; cases hm
    rw [if_pos ⟨⟨numPs_err nums bs hd hl hn, h0⟩, h3⟩, if_pos hm, h4]
  · rw [if_neg (fun h => by rw [h2 hm] at h; exact Bool.noConfusion h.2), if_neg hm]
    exact page_fresh n h
/-- How many of the first n pages have a byte. -/
def cntTo (f : Nat → UInt8) (n : Nat) : Nat := ((List.range n).filter (fun k => decide (f k ≠ 0))).length
theorem cntTo_succ (f : Nat → UInt8) (n : Nat) : cntTo f (n + 1) = cntTo f n + if f n ≠ 0 then 1 else 0 := by
  unfold cntTo
  rw [List.range_succ, List.filter_append, List.length_append]
  congr 1
  by_cases h : f n = 0
  · simp [h]
  · simp [h]
theorem cntTo_le (f : Nat → UInt8) (n : Nat) : cntTo f n ≤ n := by
  have := List.length_filter_le (fun k => decide (f k ≠ 0)) (List.range n)
  simpa [cntTo] using this
theorem cnt_none (nums : List Nat) (y : UInt8) : cntTo (beta false nums y) 27 = 0 := by
  unfold cntTo
  rw [List.length_eq_zero_iff, List.filter_eq_nil_iff]
  intro k _
  simp [beta]
theorem cnt_all (nums : List Nat) (y : UInt8) (hy : y ≠ 0) (hd : nums.Nodup) (hn : ∀ n ∈ nums, n < 27) : cntTo (beta true nums y) 27 = nums.length := by
  unfold cntTo
  have hp : ((List.range 27).filter (fun k => decide (beta true nums y k ≠ 0))).Perm nums := by
    refine (List.perm_ext_iff_of_nodup (List.nodup_range.filter _) hd).2 (fun k => ?_)
    rw [List.mem_filter, List.mem_range]
    constructor
    · rintro ⟨_, h2⟩
      have h3 : beta true nums y k ≠ 0 := of_decide_eq_true h2
      unfold beta at h3
      by_cases hk : k ∈ nums
      · exact hk
      · rw [if_neg (fun h => hk h.2)] at h3; exact absurd rfl h3
    · intro hk
      refine ⟨hn k hk, decide_eq_true ?_⟩
      unfold beta
      rw [if_pos ⟨rfl, hk⟩]; exact hy
  exact hp.length_eq
theorem row_pages {w : World} {K m : Nat} {v : Value} {s : Bool} {ns : List Int} {bs : Nat → Nat} (hrow : w.ownsRow K 34 2 v m (pageCellsS s ns bs m)) : ∃ pa cap, v = .slice pa m cap ∧ pagesAt w pa (deedPs s ns bs m) := by
  by_cases h0 : 0 < m
  · obtain ⟨g, cap, rfl, h1, h2⟩ := hrow.form h0
    refine ⟨some ⟨g, 0, none⟩, cap, rfl, fun j hj => ⟨g, 0, rfl, fun i hi => ?_⟩⟩
    rw [length_deedPs] at hi
    obtain ⟨a, b⟩ := pageCellsS_at s ns bs m i hi
    have c0 := hrow.cellAt (i * 2) (by omega)
    have c1 := hrow.cellAt (i * 2 + 1) (by omega)
    rw [deedPs_at]
    rw [a] at c0
    rw [b] at c1
    refine ⟨?_, ?_⟩
    · rw [Nat.zero_add]; exact c0
    · rw [Nat.zero_add]; exact c1
  · obtain rfl : m = 0 := by omega
    rcases Joins.ownsRow_forms hrow with ⟨rfl, -⟩ | ⟨g, cap, rfl⟩
    · exact ⟨none, 0, rfl, fun j hj => by simp [deedPs] at hj⟩
    · exact ⟨some ⟨g, 0, none⟩, cap, rfl, fun j hj => by simp [deedPs] at hj⟩
theorem pageCellsS_snoc (nums : List Nat) (n : Nat) (bs : Nat → Nat) (b : Nat) : pageCellsS false (natsZ (nums ++ [n])) (fun j => if j = nums.length then b else bs j) (nums ++ [n]).length = pageCellsS false (natsZ nums) bs nums.length ++ [.int .i64 (n : Nat), .slice (some ⟨b, 0, none⟩) 512 512] := by
  have e0 : (nums ++ [n]).length = nums.length + 1 := by simp
  rw [e0, pageCellsS_succ, if_pos rfl]
  have e1 : (natsZ (nums ++ [n])).getD nums.length 0 = (n : Nat) := by simp
  rw [e1, pageCellsS_congr false _ (fun j => if j = nums.length then b else bs j) bs nums.length (fun j hj => by simp; omega)]
  have e2 : ∀ k, k ≤ nums.length → pageCellsS false (natsZ (nums ++ [n])) bs k = pageCellsS false (natsZ nums) bs k := by
    intro k
    induction k with
    | zero => intro _; rfl
    | succ k ih =>
      intro hk
      rw [pageCellsS_succ, pageCellsS_succ, ih (by omega)]
      have : (natsZ (nums ++ [n])).getD k 0 = (natsZ nums).getD k 0 := by
        rw [List.getD_eq_getElem?_getD, List.getD_eq_getElem?_getD, List.getElem?_map, List.getElem?_map, List.getElem?_append_left (by omega)]
      rw [this]
  rw [e2 nums.length (Nat.le_refl _)]; rfl
theorem ownBo.not {w : World} {b : Nat} {L : List Bool} {ad : Addr} {v : Value} (h : ownBo w b L) (hc : w.cell? ad = some v) (hv : ∀ n, v ≠ .bool n) : ad.block ≠ b := fun e => by
  have hp := plain_addr hc
  rw [hp, e, cell_of_block h] at hc
  simp only [List.getElem?_toArray, List.getElem?_map] at hc
  cases hq : L[ad.off]? with
  | none => rw [hq] at hc; cases hc
  | some x =>
    rw [hq] at hc
    exact hv _ (Option.some.inj hc).symm
theorem encOp_notb (o : OpS) (n : Bool) : encOp o ≠ .bool n := by cases o <;> simp [encOp]
theorem AnyAt.keepBo {w w' : World} {d : DL} {S : DiskS} {F : Nat → Prop} {b : Nat} {L : List Bool} (h : AnyAt w d S F) (hb : ownBo w b L) (hF : ¬ F b) (k : Keeps (fun i => i = b) w w') : AnyAt w' d S F := by
  rcases h with ⟨h, hf⟩ | ⟨h, hf⟩
  · refine .inl ⟨?_, hf⟩
    have hne : ∀ i, d.cutFoot S.waits i → ¬ i = b := fun i hi e => hF (e ▸ hf i hi)
    obtain ⟨h1, ⟨a, e1, e2, e3⟩, ⟨ad, c, e4, e5, e6⟩, h4⟩ := h
    refine ⟨h1.keep k (hne _ (.inl rfl)) (fun i hi => hne i (.inr hi)), ⟨a, e1, e2, fun q hq => ⟨fun j u hu => ?_, Nat.lt_of_lt_of_le (e3 q hq).2 k.size⟩⟩, ⟨ad, c, e4, fun j s hj => ?_, e6⟩, h4⟩
    · refine k.cell ((e3 q hq).1 j u hu) (hb.not ((e3 q hq).1 j u hu) ?_)
      rw [List.getElem?_map] at hu
      cases ho : S.ops[j]? with
      | none => rw [ho] at hu; cases hu
      | some o => rw [ho] at hu; obtain rfl := Option.some.inj hu; exact encOp_notb o
    · exact k.cell (e5 j s hj) (hb.not (e5 j s hj) (fun n => by simp))
  · refine .inr ⟨?_, hf⟩
    have hne : ∀ i, d.foot S.waits i → ¬ i = b := fun i hi e => hF (e ▸ hf i hi)
    refine h.keep k hne (fun i hi e => ?_)
    obtain ⟨ad, c, e4, e5, e6⟩ := h.first
    have hpos : 0 < S.first.length := by rw [h.flen]; exact h.plates.pos
    have hc := e5 0 S.first[0] (List.getElem?_eq_getElem hpos)
    have h1 := hb.not hc (fun n => by simp)
    rw [add_block] at h1
    rw [e4] at hi
    exact h1 ((Option.some.inj hi).trans e)
theorem LogIn.keepBo {w w' : World} {p : Nat} {d : DL} {S : DiskS} {size rec : Nat} {F : Nat → Prop} {b : Nat} {L : List Bool} (h : LogIn w p d S size rec F) (hb : ownBo w b L) (hF : ¬ F b) (k : Keeps (fun i => i = b) w w') : LogIn w' p d S size rec F := by
  refine ⟨k.heap h.heap (fun e => ?_), h.disk.keepBo hb hF k, h.off⟩
  have e2 : p = b := e
  have h1 := h.heap
  rw [e2, hb] at h1
  simp only [Option.some.injEq, Obj.cells.injEq] at h1
  exact absurd h1.2.1 (by decide)
end Go.Proofs.Ytclmachgpmfjfaa
