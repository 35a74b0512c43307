/- write: an entry on noughts. -/
import Derived.Test.YtdfnhgkabaikaaaTFill
import Derived.Test.YtdfnhgkabaikaaaTSum
import Derived.Laws.IdiomCopy
import Derived.Laws.CopyRow
import Derived.Test.YtdfnhgkabaikaaaTApp
namespace Go.Proofs.Ytdfnhgkabaikaaa
open Go.RowKit
theorem wp_copy_bytes {w : World} {op : Oper} {a : Act} {K : Act → World → Prop} {Q : Exit → Act → World → Prop} (d s : Operand)
    (hop : op.op = .call { callee := .builtin .copy, args := #[d, s], argTypes := #[23, 23] }) (g o n cap : Nat) (L t : List UInt8) (sv : Value)
    (hd : a.eval d = .slice (some ⟨g, o, none⟩) n cap) (hs : a.eval s = sv) (hr : Rd w sv t) (hb : blkB w g L) (hle : t.length ≤ n) (ho : o + n ≤ L.length)
    (h : ∀ r w', blkB w' g (wrt L o t) → w.grownBy w' (some g) → K (a.put op.dst r) w') : op.wp Try.prog a w K Q := by
  have hsz : (Try.prog.info? 5).map (·.size) = some 1 := by kernel_rfl
  obtain ⟨ao, sc, rfl, r1, r2, r3, r4⟩ := hr
  by_cases h0 : t = []
  · subst h0
    have hrun := run_copy_none (P := Try.prog) w 23 23 op.type 5 (some ⟨g, o, none⟩) ao n cap 0 sc Try.underlying23 hsz (by simp)
    unfold Oper.wp
    simp [execOp, hop, resolve, invoke, builtin, hd, hs, hrun, Result.andThen]
    refine h _ w ?_ (grown_refl _ _)
    unfold wrt
    simpa using hb
  · have hpos : 0 < t.length := List.length_pos_iff.2 h0
    cases ao with
    | none => have := r3 rfl; omega
    | some ad =>
      have hcell : ∀ (j : Nat) (u : Value), (t.map B)[j]? = some u → w.cell? (ad.add j) = some u := by
        intro j u hu
        rw [List.getElem?_map] at hu
        obtain ⟨y, hy, rfl⟩ := Option.map_eq_some_iff.1 hu
        obtain ⟨b, off, rfl, _, hc⟩ := r4 _ rfl j y hy
        rw [Addr.add_mid]; exact hc
      have hrun := run_copy_row (P := Try.prog) w 23 23 op.type 5 g o n cap ad t.length sc (L.map B).toArray 5 (t.map B) Try.underlying23 hsz hb (by rw [List.length_map]; exact (Nat.min_eq_left hle).symm) hcell (by simp; omega) (B_one _)
      obtain ⟨cs, hcs⟩ : ∃ cs, ((L.map B).toArray.toList.take o ++ t.map B ++ (L.map B).toArray.toList.drop (o + (t.map B).length)) = cs := ⟨_, rfl⟩
      rw [hcs] at hrun
      have hce : cs = (wrt L o t).map B := by
        rw [← hcs]; unfold wrt; rw [List.map_append, List.map_append, List.map_take, List.map_drop, List.length_map]
      have hblk := setRow_heap w g (L.map B).toArray cs.toArray 5 (0, 0) hb
      unfold Oper.wp
      simp only [execOp, hop, resolve, invoke, builtin, hd, hs, hrun, Sem.run_bind, Sem.run_pure, Result.andThen_ok, List.map_toArray, List.map_cons, List.map_nil]
      refine h _ _ ?_ ⟨rfl, rfl, rfl, by simp [World.setRow], fun i _ hi => setRow_other w g i _ (fun e => hi (by rw [e]))⟩
      unfold blkB
      rw [hblk, hce]
theorem blkB.by {w : World} {g : Nat} {L : List UInt8} (h : blkB w g L) (o n : Nat) (hn : o + n ≤ L.length) : byAt w g o (fld L o n) := fun j hj => by
  rw [length_fld L o n hn] at hj
  rw [h.cell (o + j) (by omega)]
  congr 2
  unfold fld
  rw [List.getD_eq_getElem?_getD, List.getD_eq_getElem?_getD, List.getElem?_take_of_lt hj, List.getElem?_drop]
/-- Entry, header, and the tar's block. -/
structure WS (w0 w : World) (g o hb : Nat) (E : Array Value) (L : List UInt8) : Prop where
  blk : blkB w g L
  ent : w.heap[w0.heap.size]? = some (.cells E 31 (0, 0))
  hdr : w.heap[hb]? = some (.cells (hdA g o) 53 (0, 0))
  gro : w0.grownBy w (some g)
  lt : g < w0.heap.size
  hlt : w0.heap.size ≤ hb
theorem WS.up {w0 w w' : World} {g o hb : Nat} {E : Array Value} {L : List UInt8} (h : WS w0 w g o hb E L) (hB : Below w.heap.size w w') : WS w0 w' g o hb E L :=
  ⟨below_block hB h.blk (lt_of_heap h.blk), below_block hB h.ent (lt_of_heap h.ent), below_block hB h.hdr (lt_of_heap h.hdr), grown_trans h.gro (grown_of_below hB _), h.lt, h.hlt⟩
theorem WS.put {w0 w w' : World} {g o hb : Nat} {E : Array Value} {L L' : List UInt8} (h : WS w0 w g o hb E L) (hg : w.grownBy w' (some g)) (hb' : blkB w' g L') : WS w0 w' g o hb E L' :=
  ⟨hb', grown_block hg h.ent (fun e => by have := h.lt; injection e with e; omega), grown_block hg h.hdr (fun e => by have := h.lt; have := h.hlt; injection e with e; omega), grown_trans h.gro hg, h.lt, h.hlt⟩
/-- An entry's bytes over noughts. -/
def writeL (L : List UInt8) (o : Nat) (kd : Int) (md : Nat) (lk da p r : List UInt8) : List UInt8 :=
  wrt (wrt (fillL L o kd md lk da.length p r) (o + 148) (oct (sumH (fld (fillL L o kd md lk da.length p r) o 512)).toNat 7 ++ [0])) (o + 512) da
theorem total_from : ∀ (bs : List UInt8) (n : Nat), bs.foldl (fun n d => n + d.toNat) n = n + total bs
  | [], n => by simp [total]
  | d :: bs, n => by
    unfold total
    rw [List.foldl_cons, List.foldl_cons, total_from bs, total_from bs (0 + d.toNat)]
    omega
theorem total_append (a b : List UInt8) : total (a ++ b) = total a + total b := by
  conv => lhs; unfold total
  rw [List.foldl_append, total_from b]
  rfl
theorem total_fld (h : List UInt8) (o n : Nat) : total (fld h o n) ≤ total h := by
  have h1 : h = h.take o ++ (fld h o n ++ (h.drop o).drop n) := by unfold fld; rw [List.take_append_drop, List.take_append_drop]
  conv => rhs; rw [h1]
  rw [total_append, total_append]; omega
theorem sumH_bounds {h : List UInt8} (hl : h.length = 512) : 0 ≤ sumH h ∧ sumH h ≤ 130816 := by
  have h1 := total_fld h 148 8
  have h2 := total_le h
  unfold sumH
  omega
theorem wrtN {L s : List UInt8} {o N : Nat} (hL : L.length = N) (h : o + s.length ≤ N) : (wrt L o s).length = N := by rw [length_wrt (by omega), hL]
theorem octN (n k : Nat) : (oct n k ++ [0]).length = k + 1 := by rw [List.length_append, length_oct]; rfl
theorem length_fillL {L lk p r : List UInt8} {o md n : Nat} {kd : Int} (ho : o + 512 ≤ L.length) (hr : r.length ≤ 100) (hpl : p.length ≤ 155) (hlk : lk.length ≤ 100) : (fillL L o kd md lk n p r).length = L.length := by
  have hs : signB.length = 8 := rfl
  have h1 := octN md 7
  have h2 := octN n 11
  exact wrtN (wrtN (wrtN (wrtN (wrtN (wrtN (wrtN (length_numsL ho 7) (by omega)) (by omega)) (by omega)) (by omega)) (by omega)) (by omega)) (by show o + 156 + 1 ≤ _; omega)
set_option maxHeartbeats 8000000 in
set_option maxRecDepth 100000 in
theorem write_any (g o len : Nat) (L nm lk da p r : List UInt8) (kd : Int) (md cap : Nat) (ao : Option Addr) (w : World) (hb : blkB w g L) (hlen : o + len = L.length) (hroom : 512 + filledN da.length < len) (hmax : L.length ≤ 60000)
    (hp : partP nm = some (p, r)) (hnm : nm.length ≤ 255) (hr : r.length ≤ 100) (hpl : p.length ≤ 155) (hlk : lk.length ≤ 100) (hk1 : 1 ≤ kd) (hk4 : kd ≤ 4) (hmd : md ≤ 4095) (hn : da.length ≤ 70656) (hD : ∀ W', w.grownBy W' (some g) → Rd W' (.slice ao da.length cap) da) :
    Calls Try.prog 21 #[.slice (some ⟨g, o, none⟩) len len, .agg #[str nm, .int .i64 kd, .int .i64 (md : Nat), str lk, .slice ao da.length cap]] w fun e w' =>
      e = .returned (.slice (some ⟨g, o + (512 + filledN da.length), none⟩) (len - (512 + filledN da.length)) (len - (512 + filledN da.length))) ∧ blkB w' g (writeL L o kd md lk da p r) ∧ w.grownBy w' (some g) := by
  obtain ⟨c, rfl⟩ : ∃ c, len = c + 512 := ⟨len - 512, by omega⟩
  have hB1 := (Below.refl w.heap.size w).alloc (Nat.le_refl _) (.cells #[str nm, .int .i64 kd, .int .i64 (md : Nat), str lk, .slice ao da.length cap] 31)
  have hent := block_new w (.cells #[str nm, .int .i64 kd, .int .i64 (md : Nat), str lk, .slice ao da.length cap] 31)
  have HB1 := hid hB1
  have HEnt := hid hent
  have HBlk := hid hb
  have HD := hid hD
  have HLen := hid hlen
  have HRoom := hid hroom
  have HF := hid (fun g' => fill_any g o L nm lk p r kd md da.length cap ao g')
  have HO : Hid (o + 512 ≤ L.length) := by unfold Hid; omega
  have HFl : Hid ((fillL L o kd md lk da.length p r).length = L.length) := length_fillL HO.out hr hpl hlk
  have HPs := hid (And.intro hp (And.intro hnm (And.intro hr (And.intro hpl (And.intro hlk (And.intro hmd hn))))))
  have q2 : (512 : Int) ≤ (c : Int) + 512 := by omega
  have q3 : (c : Int) ≤ 60000 := by omega
  clear hB1 hent hb hD hlen hroom hp hnm hr hpl hlk hmd hn hmax
  generalize hdl : da.length = n at *
  go_enter Try.func21, Try.ntmps21
  go_upto_region 1 with (fail)
  generalize w.alloc (.cells #[str nm, .int .i64 kd, .int .i64 (md : Nat), str lk, .slice ao n cap] 31) = w1 at *
  go_wp2_with fail
  refine (cut_any g o c w1).mono ?_
  rintro e w2 ⟨rfl, hB2⟩
  unfold hdV
  have hB12 : Below w.heap.size w w2 := HB1.out.trans (hB2.mono HB1.out.size)
  have hblk2 : blkB w2 g L := below_block hB12 HBlk.out (lt_of_heap HBlk.out)
  have hent2 := below_block hB2 HEnt.out (lt_of_heap HEnt.out)
  go_upto_region 2 with (refine wpList_store_block rfl 53 (.tmp 5) (.tmp 8) rfl w2.heap.size (hdA g o) rfl rfl nils 53 (block_new w2 _) rfl infoHd (hdA_one g o) ?_; intro w3 hg3 hb3 hs3)
  have HS3 : Hid (WS w w3 g o w2.heap.size #[str nm, .int .i64 kd, .int .i64 (md : Nat), str lk, .slice ao n cap] L) := by
    have l1 := lt_of_heap hblk2
    have l2 := lt_of_heap hent2
    refine ⟨grown_block hg3 (block_alloc hblk2 _) (fun e => by injection e with e; omega), grown_block hg3 (block_alloc hent2 _) (fun e => by injection e with e; omega), hb3, ?_, lt_of_heap HBlk.out, hB12.size⟩
    have a1 := grown_of_below hB12 (some g)
    have a2 := grown_alloc (grown_refl w2 (some g)) (.cells nils 53)
    have a3 : (w2.alloc (.cells nils 53)).grownBy w3 (some w2.heap.size) := hg3
    refine ⟨a3.os.trans a1.os, a3.tape.trans a1.tape, a3.output.trans a1.output, Nat.le_trans a1.size (Nat.le_trans a2.size a3.size), fun k hk hne => ?_⟩
    have l3 := hB12.size
    refine (a3.block k (Nat.lt_of_lt_of_le hk (Nat.le_trans l3 a2.size)) (fun e => by injection e with e; omega)).trans ((a2.block k (Nat.lt_of_lt_of_le hk l3) hne).trans (a1.block k hk hne))
  clear hB2 hB12 hblk2 hent2 hg3 hb3 hs3 HB1 HEnt HBlk
  generalize w2.heap.size = hbk at *
  have d0 : w3.cell? ⟨w.heap.size, 0, none⟩ = some (str nm) := cell_of_block HS3.out.ent 0
  have d1 : w3.cell? ⟨w.heap.size, 1, none⟩ = some (.int .i64 kd) := cell_of_block HS3.out.ent 1
  have d2 : w3.cell? ⟨w.heap.size, 2, none⟩ = some (.int .i64 (md : Nat)) := cell_of_block HS3.out.ent 2
  have d3 : w3.cell? ⟨w.heap.size, 3, none⟩ = some (str lk) := cell_of_block HS3.out.ent 3
  have d4 : w3.cell? ⟨w.heap.size, 4, none⟩ = some (.slice ao n cap) := cell_of_block HS3.out.ent 4
  go_wp2_with (refine wpList_load_block rfl 53 (.tmp 5) rfl hbk rfl (hdA g o) 53 _ HS3.out.hdr _ Try.underlying53 rfl infoHd ?_)
  refine (HF.out w3 HS3.out.blk HO.out HPs.out.1 HPs.out.2.1 HPs.out.2.2.1 HPs.out.2.2.2.1 HPs.out.2.2.2.2.1 hk1 hk4 HPs.out.2.2.2.2.2.1 HPs.out.2.2.2.2.2.2).mono ?_
  clear HF d0 d1 d2 d3 d4
  rintro e w4 ⟨⟨v4, rfl⟩, hb4, hg4⟩
  have HS4 := hid (HS3.out.put hg4 hb4)
  clear HS3 hb4 hg4
  obtain ⟨L1, hL1⟩ : ∃ l, l = fillL L o kd md lk n p r := ⟨_, rfl⟩
  rw [← hL1] at HS4 HFl
  have HEL1 := hid hL1
  clear hL1
  have HSB := hid (sumH_bounds (length_fld L1 o 512 (by rw [HFl.out]; exact HO.out)))
  obtain ⟨sn, hsn⟩ : ∃ sn : Nat, sn = (sumH (fld L1 o 512)).toNat := ⟨_, rfl⟩
  have hsn2 : sumH (fld L1 o 512) = (sn : Int) := by have := HSB.out; omega
  have HSn := hid hsn
  have HSnb : Hid (sn ≤ 130816) := by have := HSB.out; unfold Hid; omega
  clear hsn
  go_wp2
  have HS5 := hid (HS4.out.up (Below.refl _ _).drew)
  clear HS4
  have t6 : w4.drew.cell? ⟨hbk, 6, none⟩ = some (sl g (o + 148) 8) := cell_of_block HS5.out.hdr 6
  refine wp_region_noPanic ?_
  refine wp_region_held_drew (S := fun V => V.cell? ⟨hbk, 6, none⟩ = some (sl g (o + 148) 8)) (by kernel_rfl) t6 (fun hHeld => ?_)
  generalize w4.drew = w5 at *
  refine wpAnyH_take (i := 0) (v := ?_) rfl (by kernel_rfl) (by kernel_rfl) (by kernel_rfl) (fun _ _ _ h => h) (Or.inl ⟨by rfl, ?_⟩) (by assumption) ?_
  rotate_left
  · (intro W hSw; (try dsimp only at hSw); obtain s0 := hSw; go_simp; try with_reducible rfl)
  try simp only [List.getElem_toArray, List.getElem_cons_zero, Act.put, List.setIfInBounds_toArray, List.set_cons_zero, List.set_cons_succ]
  refine wpAnyH_take (i := 1) (v := ?_) rfl (by kernel_rfl) (by kernel_rfl) (by kernel_rfl) (fun _ _ _ h => h) (Or.inl ⟨by rfl, ?_⟩) (by assumption) ?_
  rotate_left
  · (intro W hSw; (try dsimp only at hSw); obtain s0 := hSw; go_simp; try with_reducible rfl)
  try simp only [List.getElem_toArray, List.getElem_cons_succ, List.getElem_cons_zero, Act.put, List.setIfInBounds_toArray, List.set_cons_zero, List.set_cons_succ]
  refine wpAnyH_take (i := 2) (v := ?_) rfl (by kernel_rfl) (by kernel_rfl) (by kernel_rfl) (fun _ _ _ h => h) (Or.inl ⟨by rfl, ?_⟩) (by assumption) ?_
  rotate_left
  · (intro W hSw; (try dsimp only at hSw); obtain s0 := hSw; go_simp; try with_reducible rfl)
  try simp only [List.getElem_toArray, List.getElem_cons_succ, List.getElem_cons_zero, Act.put, List.setIfInBounds_toArray, List.set_cons_zero, List.set_cons_succ]
  refine wpAnyH_take (i := 3) (v := ?_) rfl (by kernel_rfl) (by kernel_rfl) (by kernel_rfl) (fun _ _ _ h => h) (Or.inl ⟨by rfl, ?_⟩) (by assumption) ?_
  rotate_left
  · (intro W hSw; (try dsimp only at hSw); obtain s0 := hSw; go_simp; try with_reducible rfl)
  try simp only [List.getElem_toArray, List.getElem_cons_succ, List.getElem_cons_zero, Act.put, List.setIfInBounds_toArray, List.set_cons_zero, List.set_cons_succ]
  refine wpAnyH_ready (rs := [4]) (by kernel_rfl) (by simp) (AllReadyH.cons rfl (fun K hK => ?_) AllReadyH.nil)
  rw [if_pos (by rfl)]
  go_simp
  refine (sum_512 (fld L1 o 512) g o c w5 (length_fld _ _ _ (by rw [HFl.out]; exact HO.out)) (HS5.out.blk.by o 512 (by rw [HFl.out]; exact HO.out))).mono ?_
  rintro e w6 ⟨rfl, hB6⟩
  rw [hsn2]
  have HS6 := hid (HS5.out.up hB6)
  have t6b : w6.cell? ⟨hbk, 6, none⟩ = some (sl g (o + 148) 8) := cell_of_block HS6.out.hdr 6
  clear HS5 hB6 t6 hHeld
  go_wp2_with fail
  refine hK.out _ _ t6b (fun hHeld => ?_)
  clear hK K
  try simp only [List.getElem_toArray, List.getElem_cons_succ, List.getElem_cons_zero, Act.put, List.setIfInBounds_toArray, List.set_cons_zero, List.set_cons_succ]
  refine wpAnyH_ready (rs := [5]) (by kernel_rfl) (by simp) (AllReadyH.cons rfl (fun K hK => ?_) AllReadyH.nil)
  rw [if_pos (by rfl)]
  go_simp
  refine (putNumber_any g (o + 148) 7 sn L1 w6 (by omega) (by have := HSnb.out; omega) HS6.out.blk (by rw [HFl.out]; have := HO.out; omega)).mono ?_
  rintro e w7 ⟨⟨v7, rfl⟩, hb7, hg7, -⟩
  have HS7 := hid (HS6.out.put hg7 hb7)
  clear HS6 hb7 hg7 t6b hHeld
  go_wp2_with fail
  refine hK.out _ _ (cell_of_block HS7.out.hdr 6) (fun hHeld => ?_)
  clear hK K hHeld
  refine wpAnyH_done (by kernel_rfl) ?_ _
  refine NoPanic.normal ?_
  obtain ⟨L2, hL2⟩ : ∃ l, l = wrt L1 (o + 148) (oct sn 7 ++ [0]) := ⟨_, rfl⟩
  rw [← hL2] at HS7
  have HL2 : Hid (L2.length = L.length) := by unfold Hid; rw [hL2]; exact wrtN HFl.out (by rw [octN]; have := HO.out; omega)
  have HEL2 := hid hL2
  clear hL2
  have HFb : Hid (n ≤ filledN n) := by unfold Hid filledN; omega
  have hc0 : ¬ c = 0 := by have := HRoom.out; omega
  have q4 : (512 : Int) ≤ (c : Int) + 512 := by omega
  go_wp2
  have HS8 := hid (HS7.out.up (Below.refl _ _).drew)
  clear HS7
  have t4 : w7.drew.cell? ⟨w.heap.size, 4, none⟩ = some (.slice ao n cap) := cell_of_block HS8.out.ent 4
  refine wp_region_noPanic ?_
  refine wp_region_held_drew (S := fun V => V.cell? ⟨w.heap.size, 4, none⟩ = some (.slice ao n cap)) (by kernel_rfl) t4 (fun hHeld => ?_)
  generalize w7.drew = w8 at *
  refine wpAnyH_take (i := 0) (v := ?_) rfl (by kernel_rfl) (by kernel_rfl) (by kernel_rfl) (fun _ _ _ h => h) (Or.inl ⟨by rfl, ?_⟩) (by assumption) ?_
  rotate_left
  · (intro W hSw; (try dsimp only at hSw); obtain s0 := hSw; go_simp; try with_reducible rfl)
  try simp only [List.getElem_toArray, List.getElem_cons_zero, Act.put, List.setIfInBounds_toArray, List.set_cons_zero, List.set_cons_succ]
  refine wpAnyH_take (i := 1) (v := ?_) rfl (by kernel_rfl) (by kernel_rfl) (by kernel_rfl) (fun _ _ _ h => h) (Or.inl ⟨by rfl, ?_⟩) (by assumption) ?_
  rotate_left
  · (intro W hSw; (try dsimp only at hSw); obtain s0 := hSw; go_simp; try with_reducible rfl)
  try simp only [List.getElem_toArray, List.getElem_cons_succ, List.getElem_cons_zero, Act.put, List.setIfInBounds_toArray, List.set_cons_zero, List.set_cons_succ]
  refine wpAnyH_take (i := 2) (v := ?_) rfl (by kernel_rfl) (by kernel_rfl) (by kernel_rfl) (fun _ _ _ h => h) (Or.inl ⟨by rfl, ?_⟩) (by assumption) ?_
  rotate_left
  · (intro W hSw; (try dsimp only at hSw); obtain s0 := hSw; go_simp; try with_reducible rfl)
  try simp only [List.getElem_toArray, List.getElem_cons_succ, List.getElem_cons_zero, Act.put, List.setIfInBounds_toArray, List.set_cons_zero, List.set_cons_succ]
  refine wpAnyH_take (i := 3) (v := ?_) rfl (by kernel_rfl) (by kernel_rfl) (by kernel_rfl) (fun _ _ _ h => h) (Or.inl ⟨by rfl, ?_⟩) (by assumption) ?_
  rotate_left
  · (intro W hSw; (try dsimp only at hSw); obtain s0 := hSw; go_simp; try with_reducible rfl)
  try simp only [List.getElem_toArray, List.getElem_cons_succ, List.getElem_cons_zero, Act.put, List.setIfInBounds_toArray, List.set_cons_zero, List.set_cons_succ]
  refine wpAnyH_ready (rs := [4]) (by kernel_rfl) (by simp) (AllReadyH.cons rfl (fun K hK => ?_) AllReadyH.nil)
  rw [if_pos (by rfl)]
  refine wp_copy_bytes (.tmp 19) (.tmp 21) rfl g (o + 512) c c L2 da (.slice ao n cap) rfl rfl (HD.out w8 HS8.out.gro) HS8.out.blk (by rw [hdl]; have := HFb.out; have := HRoom.out; omega) (by rw [HL2.out]; have := HLen.out; omega) ?_
  intro rv w9 hb9 hg9
  have HS9 := hid (HS8.out.put hg9 hb9)
  have t4b : w9.cell? ⟨w.heap.size, 4, none⟩ = some (.slice ao n cap) := cell_of_block HS9.out.ent 4
  clear HS8 hb9 hg9 t4 hHeld
  refine hK.out _ _ t4b (fun hHeld => ?_)
  clear hK K hHeld
  refine wpAnyH_done (by kernel_rfl) ?_ _
  refine NoPanic.normal ?_
  have HFi := hid (filled_any n w9 (by have := HPs.out.2.2.2.2.2.2; omega))
  have hF2 : filledN n < c := by have := HRoom.out; omega
  obtain ⟨F, hFe⟩ : ∃ F, F = filledN n := ⟨_, rfl⟩
  rw [← hFe] at HFi hF2
  have HFe := hid hFe
  clear hFe
  go_wp2_with fail
  refine HFi.out.mono ?_
  rintro e w10 ⟨rfl, rfl⟩
  have q5 : (0 : Int) ≤ 512 + (F : Int) := by omega
  have q6 : 512 + (F : Int) ≤ (c : Int) + 512 := by omega
  have q7 : ¬ (c + 512 = 512 + F) := by omega
  clear HFi
  go_wp2
  go_ret
  refine ⟨by rw [← HFe.out]; rfl, ?_, HS9.out.gro⟩
  have := HS9.out.blk
  rw [HEL2.out, HSn.out, HEL1.out] at this
  unfold writeL
  rw [hdl]
  exact this
end Go.Proofs.Ytdfnhgkabaikaaa
