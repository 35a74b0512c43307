/- fill: the header of an entry, without its sum. -/
import Derived.Test.YtdfnhgkabaikaaaTPut
import Derived.Test.YtdfnhgkabaikaaaTForm
import Derived.Test.YtdfnhgkabaikaaaTRight
import Derived.Test.YtdfnhgkabaikaaaTLast
import Derived.Lib.BufferWrite
import Derived.Deep.Cut
namespace Go.Proofs.Ytdfnhgkabaikaaa
open Go.RowKit
theorem wpList_copy_str {w : World} {ops : Array Oper} {rest : List Oper} {op : Oper} {a : Act} {Q : Exit → Act → World → Prop} (hgd : op.guard = none) (d s : Operand)
    (hop : op.op = .call { callee := .builtin .copy, args := #[d, s], argTypes := #[23, 9] }) (g o n : Nat) (L t : List UInt8)
    (hd : a.eval d = sl g o n) (hs : a.eval s = str t) (hb : blkB w g L) (hle : t.length ≤ n) (ho : o + n ≤ L.length)
    (h : ∀ r w', blkB w' g (wrt L o t) → w.grownBy w' (some g) → wpList Try.prog ops Q rest (a.put op.dst r) w') : wpList Try.prog ops Q (op :: rest) a w := by
  have hsz : (Try.prog.info? 5).map (·.size) = some 1 := by kernel_rfl
  have hts : (⟨t.toArray⟩ : ByteArray).size = t.length := size_str t
  refine wpList_plain hgd fun K hK => ?_
  have hrun := Lib.run_copy_row_string (P := Try.prog) w 23 9 op.type 5 g o n n ⟨t.toArray⟩ (L.map B).toArray 5 Try.underlying23 hsz hb (by rw [hts]; exact hle) (by rw [hts]; simp; omega)
  rw [hts] at hrun
  obtain ⟨cs, hcs⟩ : ∃ cs, ((L.map B).toArray.toList.take o ++ Lib.byteCells t ++ (L.map B).toArray.toList.drop (o + t.length)) = cs := ⟨_, rfl⟩
  have hrun' : (Builtin.copy_ #[23, 9] op.type #[.slice (some ⟨g, o, none⟩) n n, .string ⟨t.toArray⟩]).run Try.prog w = .ok (goInt t.length) (w.setRow g cs.toArray) := by rw [← hcs]; exact hrun
  have hce : cs = (wrt L o t).map B := by
    rw [← hcs]; unfold wrt; rw [List.map_append, List.map_append, List.map_take, List.map_drop]; rfl
  have hblk := setRow_heap w g (L.map B).toArray cs.toArray 5 (0, 0) hb
  unfold Oper.wp
  simp [execOp, hop, resolve, invoke, builtin, hd, hs, hrun', Result.andThen]
  refine hK _ _ (h _ _ ?_ ⟨rfl, rfl, rfl, by simp, fun i _ hi => setRow_other w g i _ (fun e => hi (by rw [e]))⟩)
  unfold blkB
  rw [hblk, hce]
/-- The first k numbers are laid. -/
def numsL (L : List UInt8) (o : Nat) : Nat → List UInt8
  | 0 => L
  | k + 1 => wrt (numsL L o k) (o + offN k) (oct 0 (lenN k) ++ [0])
/-- A header's bytes, but for the sum. -/
def fillL (L : List UInt8) (o : Nat) (kd : Int) (md : Nat) (lk : List UInt8) (n : Nat) (p r : List UInt8) : List UInt8 :=
  wrt (wrt (wrt (wrt (wrt (wrt (wrt (numsL L o 7) o r) (o + 345) p) (o + 157) lk) (o + 257) signB) (o + 100) (oct md 7 ++ [0])) (o + 124) (oct n 11 ++ [0])) (o + 156) [typeP kd]
theorem length_numsL {L : List UInt8} {o : Nat} (ho : o + 512 ≤ L.length) : ∀ k, (numsL L o k).length = L.length
  | 0 => rfl
  | k + 1 => by
    have h1 := offN_le k
    rw [numsL, length_wrt (by rw [length_numsL ho k, List.length_append, length_oct, List.length_singleton]; omega), length_numsL ho k]
theorem set_wrt {L : List UInt8} {k : Nat} {x : UInt8} (hk : k < L.length) : L.set k x = wrt L k [x] := by
  unfold wrt
  rw [List.set_eq_take_append_cons_drop, if_pos hk]
  simp
structure FS (w0 w : World) (g o : Nat) (E : Array Value) (L : List UInt8) : Prop where
  blk : blkB w g L
  hdr : w.heap[w0.heap.size]? = some (.cells (hdA g o) 53 (0, 0))
  ent : w.heap[w0.heap.size + 1]? = some (.cells E 31 (0, 0))
  gro : w0.grownBy w (some g)
  lt : g < w0.heap.size
theorem FS.up {w0 w w' : World} {g o : Nat} {E : Array Value} {L : List UInt8} (h : FS w0 w g o E L) (hB : Below w.heap.size w w') : FS w0 w' g o E L :=
  ⟨below_block hB h.blk (lt_of_heap h.blk), below_block hB h.hdr (lt_of_heap h.hdr), below_block hB h.ent (lt_of_heap h.ent), grown_trans h.gro (grown_of_below hB _), h.lt⟩
theorem FS.put {w0 w w' : World} {g o : Nat} {E : Array Value} {L L' : List UInt8} (h : FS w0 w g o E L) (hg : w.grownBy w' (some g)) (hb : blkB w' g L') : FS w0 w' g o E L' :=
  ⟨hb, grown_block hg h.hdr (fun e => by have := h.lt; injection e with e; omega), grown_block hg h.ent (fun e => by have := h.lt; injection e with e; omega), grown_trans h.gro hg, h.lt⟩
set_option maxHeartbeats 4000000 in
set_option maxRecDepth 100000 in
theorem fill_any (g o : Nat) (L nm lk p r : List UInt8) (kd : Int) (md n cap : Nat) (ao : Option Addr) (w : World) (hb : blkB w g L) (ho : o + 512 ≤ L.length) (hp : partP nm = some (p, r)) (hnm : nm.length ≤ 255) (hr : r.length ≤ 100) (hpl : p.length ≤ 155) (hlk : lk.length ≤ 100) (hk1 : 1 ≤ kd) (hk4 : kd ≤ 4) (hmd : md ≤ 4095) (hn : n ≤ 70656) :
    Calls Try.prog 31 #[hdV g o, .agg #[str nm, .int .i64 kd, .int .i64 (md : Nat), str lk, .slice ao n cap]] w fun e w' => (∃ v, e = .returned v) ∧ blkB w' g (fillL L o kd md lk n p r) ∧ w.grownBy w' (some g) := by
  obtain ⟨n1, n2, n3, n4⟩ := new2 w (.cells (hdA g o) 53) (.cells #[str nm, .int .i64 kd, .int .i64 (md : Nat), str lk, .slice ao n cap] 31)
  have HS : Hid (FS w _ g o #[str nm, .int .i64 kd, .int .i64 (md : Nat), str lk, .slice ao n cap] L) := ⟨below_block n3 hb (lt_of_heap hb), n1, n2, grown_of_below n3 _, lt_of_heap hb⟩
  have HO := hid ho
  have HPart := hid (fun W => part_any nm W hnm)
  have HP := hid hp
  have HR := hid hr
  have HPL := hid hpl
  have HLk := hid hlk
  have HMd := hid hmd
  have HN := hid hn
  clear n1 n2 n3 n4 hb ho hp hr hpl hlk hnm hmd hn
  unfold hdV
  go_enter Try.func31, Try.ntmps31
  go_upto_region 1 with (fail)
  generalize (w.alloc (.cells (hdA g o) 53)).alloc (.cells #[str nm, .int .i64 kd, .int .i64 (md : Nat), str lk, .slice ao n cap] 31) = w1 at *
  go_wp2_with (refine wpList_load_block rfl 53 (.tmp 2) rfl w.heap.size rfl (hdA g o) 53 _ HS.out.hdr _ Try.underlying53 rfl infoHd ?_)
  refine (numbers_any g o w1).mono ?_
  rintro e w2 ⟨rfl, hn2, hB⟩
  have HS2 := hid (HS.out.up hB)
  have HNu := hid hn2
  have hgl : w.heap.size ≤ w1.heap.size := HS.out.gro.size
  have HGl := hid hgl
  clear HS hn2 hB hgl
  have HBn : Hid (w1.heap.size + 1 ≠ g) := by have := HS2.out.lt; have := HGl.out; unfold Hid; omega
  generalize w1.heap.size + 1 = b2 at *
  go_wp2
  go_loopw [12] (fun i wr => ∃ k : Nat, k ≤ 7 ∧ i = .int .i64 k ∧ Hid (FS w wr g o #[str nm, .int .i64 kd, .int .i64 (md : Nat), str lk, .slice ao n cap] (numsL L o k) ∧ wr.heap[b2]? = some (.cells (numsA g o) 23 (0, 0)))) (fun i _ => 7 - (intOf i).toNat)
  case atStart => exact ⟨0, by omega, rfl, HS2.out, HNu.out⟩
  case round =>
    obtain ⟨k, hk, rfl, hI⟩ := hrel
    by_cases hlt : k < 7
    · have hk0 : (0 : Int) ≤ (k : Int) := by omega
      have hk1' : (k : Int) < 7 := by omega
      have c1 : wr.cell? ⟨b2, k, none⟩ = some (sl g (o + offN k) (lenN k + 1)) := (cell_of_block hI.out.2 k).trans (numsA_at g o k hlt)
      have HC := hid (putNumber_any g (o + offN k) (lenN k) 0 (numsL L o k) wr (lenN_le k) (by omega) hI.out.1.blk (by rw [length_numsL HO.out]; have := offN_le k; have := HO.out; omega))
      go_wp2_with fail
      refine HC.out.mono ?_
      clear HC c1
      rintro e w3 ⟨⟨v, rfl⟩, hb3, hg3, -⟩
      have HI3 : Hid (FS w w3 g o #[str nm, .int .i64 kd, .int .i64 (md : Nat), str lk, .slice ao n cap] (numsL L o (k + 1)) ∧ w3.heap[b2]? = some (.cells (numsA g o) 23 (0, 0))) := ⟨hI.out.1.put hg3 hb3, grown_block hg3 hI.out.2 (fun e => by injection e with e; exact HBn.out e.symm)⟩
      clear hb3 hg3 hI
      go_wp2
      exact ⟨⟨k + 1, by omega, by go_num, HI3⟩, by simp [intOf]; omega⟩
    · obtain rfl : k = 7 := by omega
      have HS3 := hid hI.out.1
      have HL7 := hid (length_numsL HO.out 7)
      clear hI HS2 HNu
      obtain ⟨L1, hL1⟩ : ∃ l, l = numsL L o 7 := ⟨_, rfl⟩
      rw [← hL1] at HS3 HL7
      have HEL1 := hid hL1
      clear hL1
      have d0 : wr.cell? ⟨w.heap.size + 1, 0, none⟩ = some (str nm) := cell_of_block HS3.out.ent 0
      go_wp2_with fail
      refine (HPart.out wr).mono ?_
      clear HPart
      rintro e w4 ⟨hpt, q, rfl⟩
      unfold PartTo at hpt
      rw [HP.out] at hpt
      simp only at hpt
      subst hpt
      have HS4 := hid (HS3.out.up (below_drewN (Below.refl _ _) q))
      clear HS3 d0
      generalize wr.drewN q = w4 at *
      have hc4 : w4.cell? ⟨w.heap.size, 0, none⟩ = some (sl g (o) 100) := cell_of_block HS4.out.hdr 0
      go_upto_region 8 with (refine wpList_copy_str rfl (.tmp 27) (.tmp 28) rfl g (o) 100 L1 r rfl rfl HS4.out.blk HR.out (by rw [HL7.out]; have := HO.out; omega) ?_; intro rv4 w5 hb5 hg5; have HS5 := hid (HS4.out.put hg5 hb5); clear hb5 hg5)
      have HL8 : Hid ((wrt L1 (o) r).length = L.length) := by unfold Hid; rw [length_wrt (by rw [HL7.out]; have := HO.out; have h9 : r.length ≤ 100 := HR.out; omega), HL7.out]
      clear hc4 HS4
      obtain ⟨L2, hL2⟩ : ∃ l, l = wrt L1 (o) r := ⟨_, rfl⟩
      rw [← hL2] at HS5 HL8
      have HEL2 := hid hL2
      clear hL2
      have hc5 : w5.cell? ⟨w.heap.size, 14, none⟩ = some (sl g (o + 345) 155) := cell_of_block HS5.out.hdr 14
      go_upto_region 9 with (refine wpList_copy_str rfl (.tmp 31) (.tmp 32) rfl g (o + 345) 155 L2 p rfl rfl HS5.out.blk HPL.out (by rw [HL8.out]; have := HO.out; omega) ?_; intro rv5 w6 hb6 hg6; have HS6 := hid (HS5.out.put hg6 hb6); clear hb6 hg6)
      have HL9 : Hid ((wrt L2 (o + 345) p).length = L.length) := by unfold Hid; rw [length_wrt (by rw [HL8.out]; have := HO.out; have h9 : p.length ≤ 155 := HPL.out; omega), HL8.out]
      clear hc5 HS5
      obtain ⟨L3, hL3⟩ : ∃ l, l = wrt L2 (o + 345) p := ⟨_, rfl⟩
      rw [← hL3] at HS6 HL9
      have HEL3 := hid hL3
      clear hL3
      have hc6 : w6.cell? ⟨w.heap.size, 8, none⟩ = some (sl g (o + 157) 100) := cell_of_block HS6.out.hdr 8
      have hd6 : w6.cell? ⟨w.heap.size + 1, 3, none⟩ = some (str lk) := cell_of_block HS6.out.ent 3
      go_upto_region 10 with (refine wpList_copy_str rfl (.tmp 35) (.tmp 37) rfl g (o + 157) 100 L3 lk rfl rfl HS6.out.blk HLk.out (by rw [HL9.out]; have := HO.out; omega) ?_; intro rv6 w7 hb7 hg7; have HS7 := hid (HS6.out.put hg7 hb7); clear hb7 hg7)
      have HL10 : Hid ((wrt L3 (o + 157) lk).length = L.length) := by unfold Hid; rw [length_wrt (by rw [HL9.out]; have := HO.out; have h9 : lk.length ≤ 100 := HLk.out; omega), HL9.out]
      clear hc6 HS6 hd6
      obtain ⟨L4, hL4⟩ : ∃ l, l = wrt L3 (o + 157) lk := ⟨_, rfl⟩
      rw [← hL4] at HS7 HL10
      have HEL4 := hid hL4
      clear hL4
      have hc7 : w7.cell? ⟨w.heap.size, 9, none⟩ = some (sl g (o + 257) 8) := cell_of_block HS7.out.hdr 9
      go_upto_region 11 with (refine wpList_copy_str rfl (.tmp 40) (.const (.string ⟨#[117, 115, 116, 97, 114, 0, 48, 48]⟩)) rfl g (o + 257) 8 L4 signB rfl rfl HS7.out.blk (by decide) (by rw [HL10.out]; have := HO.out; omega) ?_; intro rv7 w8 hb8 hg8; have HS8 := hid (HS7.out.put hg8 hb8); clear hb8 hg8)
      have HL11 : Hid ((wrt L4 (o + 257) signB).length = L.length) := by unfold Hid; rw [length_wrt (by rw [HL10.out]; have := HO.out; have h9 : signB.length ≤ 8 := (by decide); omega), HL10.out]
      clear hc7 HS7
      obtain ⟨L5, hL5⟩ : ∃ l, l = wrt L4 (o + 257) signB := ⟨_, rfl⟩
      rw [← hL5] at HS8 HL11
      have HEL5 := hid hL5
      clear hL5
      have hc8 : w8.cell? ⟨w.heap.size, 1, none⟩ = some (sl g (o + 100) 8) := cell_of_block HS8.out.hdr 1
      have hd8 : w8.cell? ⟨w.heap.size + 1, 2, none⟩ = some (.int .i64 (md : Nat)) := cell_of_block HS8.out.ent 2
      have HC8 := hid (putNumber_any g (o + 100) 7 md L5 w8 (by omega) (by have := HMd.out; omega) HS8.out.blk (by rw [HL11.out]; have := HO.out; omega))
      go_wp2_with fail
      refine HC8.out.mono ?_
      rintro e w9 ⟨⟨v9, rfl⟩, hb9, hg9, -⟩
      have HS9 := hid (HS8.out.put hg9 hb9)
      have HL12 : Hid ((wrt L5 (o + 100) (oct md 7 ++ [0])).length = L.length) := by unfold Hid; rw [length_wrt (by rw [HL11.out, List.length_append, length_oct, List.length_singleton]; have := HO.out; omega), HL11.out]
      clear hc8 hd8 HC8 HS8 hb9 hg9
      obtain ⟨L6, hL6⟩ : ∃ l, l = wrt L5 (o + 100) (oct md 7 ++ [0]) := ⟨_, rfl⟩
      rw [← hL6] at HS9 HL12
      have HEL6 := hid hL6
      clear hL6
      have hc9 : w9.cell? ⟨w.heap.size, 4, none⟩ = some (sl g (o + 124) 12) := cell_of_block HS9.out.hdr 4
      have hd9 : w9.cell? ⟨w.heap.size + 1, 4, none⟩ = some (.slice ao n cap) := cell_of_block HS9.out.ent 4
      have HC9 := hid (putNumber_any g (o + 124) 11 n L6 w9 (by omega) (by have := HN.out; omega) HS9.out.blk (by rw [HL12.out]; have := HO.out; omega))
      go_wp2_with fail
      refine HC9.out.mono ?_
      rintro e w10 ⟨⟨v10, rfl⟩, hb10, hg10, -⟩
      have HS10 := hid (HS9.out.put hg10 hb10)
      have HL13 : Hid ((wrt L6 (o + 124) (oct n 11 ++ [0])).length = L.length) := by unfold Hid; rw [length_wrt (by rw [HL12.out, List.length_append, length_oct, List.length_singleton]; have := HO.out; omega), HL12.out]
      clear hc9 hd9 HC9 HS9 hb10 hg10
      obtain ⟨L7, hL7⟩ : ∃ l, l = wrt L6 (o + 124) (oct n 11 ++ [0]) := ⟨_, rfl⟩
      rw [← hL7] at HS10 HL13
      have HEL7 := hid hL7
      clear hL7
      go_wp2
      have HS11 := hid (HS10.out.up (Below.refl _ _).drew)
      clear HS10
      have t7 : w10.drew.cell? ⟨w.heap.size, 7, none⟩ = some (sl g (o + 156) 1) := cell_of_block HS11.out.hdr 7
      have t1 : w10.drew.cell? ⟨w.heap.size + 1, 1, none⟩ = some (.int .i64 kd) := cell_of_block HS11.out.ent 1
      refine wp_region_noPanic ?_
      refine wp_region_held_drew (S := fun V => V.cell? ⟨w.heap.size, 7, none⟩ = some (sl g (o + 156) 1) ∧ V.cell? ⟨w.heap.size + 1, 1, none⟩ = some (.int .i64 kd)) (by kernel_rfl) ⟨t7, t1⟩ (fun hHeld => ?_)
      generalize w10.drew = w11 at *
      refine wpAnyH_take (i := 0) (v := ?_) rfl (by kernel_rfl) (by kernel_rfl) (by kernel_rfl) (fun _ _ _ h => h) (Or.inl ⟨by rfl, ?_⟩) (by assumption) ?_
      rotate_left
      · (intro W hSw; (try dsimp only at hSw); obtain ⟨s0, s1⟩ := hSw; go_simp; try with_reducible rfl)
      try simp only [List.getElem_toArray, List.getElem_cons_zero, Act.put, List.setIfInBounds_toArray, List.set_cons_zero, List.set_cons_succ]
      refine wpAnyH_take (i := 1) (v := ?_) rfl (by kernel_rfl) (by kernel_rfl) (by kernel_rfl) (fun _ _ _ h => h) (Or.inl ⟨by rfl, ?_⟩) (by assumption) ?_
      rotate_left
      · (intro W hSw; (try dsimp only at hSw); obtain ⟨s0, s1⟩ := hSw; go_simp; try with_reducible rfl)
      try simp only [List.getElem_toArray, List.getElem_cons_succ, List.getElem_cons_zero, Act.put, List.setIfInBounds_toArray, List.set_cons_zero, List.set_cons_succ]
      refine wpAnyH_take (i := 2) (v := ?_) rfl (by kernel_rfl) (by kernel_rfl) (by kernel_rfl) (fun _ _ _ h => h) (Or.inl ⟨by rfl, ?_⟩) (by assumption) ?_
      rotate_left
      · (intro W hSw; (try dsimp only at hSw); obtain ⟨s0, s1⟩ := hSw; go_simp; try with_reducible rfl)
      try simp only [List.getElem_toArray, List.getElem_cons_succ, List.getElem_cons_zero, Act.put, List.setIfInBounds_toArray, List.set_cons_zero, List.set_cons_succ]
      refine wpAnyH_take (i := 3) (v := ?_) rfl (by kernel_rfl) (by kernel_rfl) (by kernel_rfl) (fun _ _ _ h => h) (Or.inl ⟨by rfl, ?_⟩) (by assumption) ?_
      rotate_left
      · (intro W hSw; (try dsimp only at hSw); obtain ⟨s0, s1⟩ := hSw; go_simp; try with_reducible rfl)
      try simp only [List.getElem_toArray, List.getElem_cons_succ, List.getElem_cons_zero, Act.put, List.setIfInBounds_toArray, List.set_cons_zero, List.set_cons_succ]
      refine wpAnyH_ready (rs := [4]) (by kernel_rfl) (by simp) (AllReadyH.cons rfl (fun K hK => ?_) AllReadyH.nil)
      rw [if_pos (by rfl)]
      go_simp
      refine (typeOf_any kd w11 hk1 hk4).mono ?_
      rintro e w12 ⟨rfl, h12⟩
      obtain rfl := h12.symm
      go_wp2_with fail
      refine hK.out _ _ hHeld (fun hHeld => ?_)
      clear hK K
      try simp only [List.getElem_toArray, List.getElem_cons_succ, List.getElem_cons_zero, Act.put, List.setIfInBounds_toArray, List.set_cons_zero, List.set_cons_succ]
      refine wpAnyH_take (i := 5) (v := ?_) rfl (by kernel_rfl) (by kernel_rfl) (by kernel_rfl) (fun _ _ _ h => h) (Or.inl ⟨by rfl, ?_⟩) (by assumption) ?_
      rotate_left
      · (intro W hSw; (try dsimp only at hSw); obtain ⟨s0, s1⟩ := hSw; go_simp; try with_reducible rfl)
      try simp only [List.getElem_toArray, List.getElem_cons_succ, List.getElem_cons_zero, Act.put, List.setIfInBounds_toArray, List.set_cons_zero, List.set_cons_succ]
      refine wpAnyH_ready (rs := [6]) (by kernel_rfl) (by simp) (AllReadyH.cons rfl (fun K hK => ?_) AllReadyH.nil)
      rw [if_pos (by rfl)]
      have f1 := frozen_of_block HS11.out.blk (o + 156)
      have c1 := HS11.out.blk.cell (o + 156) (by rw [HL13.out]; have := HO.out; omega)
      obtain ⟨ty, hty⟩ : ∃ ty, ty = typeP kd := ⟨_, rfl⟩
      rw [← hty]
      have HTy := hid hty
      clear hty
      generalize L7.getD (o + 156) 0 = z at *
      go_simp
      have HS12 : Hid (FS w (w11.setCell ⟨g, o + 156, none⟩ (B ty)) g o #[str nm, .int .i64 kd, .int .i64 (md : Nat), str lk, .slice ao n cap] (wrt L7 (o + 156) [ty])) := HS11.out.put (grown_setCell (grown_refl _ _) _ _) (by have := HS11.out.blk.set (o + 156) ty; rw [set_wrt (by rw [HL13.out]; have := HO.out; omega)] at this; exact this)
      refine hK.out _ _ ⟨cell_of_block HS12.out.hdr 7, cell_of_block HS12.out.ent 1⟩ (fun hHeld => ?_)
      clear hK K hHeld
      generalize w11.setCell ⟨g, o + 156, none⟩ (B ty) = w13 at *
      refine wpAnyH_done (by kernel_rfl) ?_ _
      refine NoPanic.normal ?_
      go_wp2
      go_end0
      refine ⟨⟨_, rfl⟩, ?_, HS12.out.gro⟩
      have := HS12.out.blk
      rw [HTy.out, HEL7.out, HEL6.out, HEL5.out, HEL4.out, HEL3.out, HEL2.out, HEL1.out] at this
      exact this
end Go.Proofs.Ytdfnhgkabaikaaa
