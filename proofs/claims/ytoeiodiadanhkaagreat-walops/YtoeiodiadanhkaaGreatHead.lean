/- wal.headOf: the head of a log that has the pages of these numbers. -/
import Derived.Test.YtoeiodiadanhkaaGreatOctets
import Derived.Lib.BufferWrite
namespace Go.Proofs.YtoeiodiadanhkaaGreat
open Go.RowKit
/-- n noughts. -/
def zN (n : Nat) : List UInt8 := List.replicate n 0
theorem length_zN (n : Nat) : (zN n).length = n := List.length_replicate
theorem drop_zN (n k : Nat) : (zN n).drop k = zN (n - k) := List.drop_replicate
theorem rep_U8 (n : Nat) : (List.replicate n (Value.int .u8 0)).toArray = ((zN n).map U8).toArray := by rw [zN, List.map_replicate]; rfl
/-- What stands ahead of the noughts, when i of the numbers are laid. -/
def headP (ns : List Nat) (i : Nat) : List UInt8 := [68, 78] ++ beS 2 ns.length ++ (ns.take i).flatMap (beS 2)
def headTo (ns : List Nat) (i : Nat) : List UInt8 := headP ns i ++ zN (508 - 2 * i)
/-- The head of these numbers. -/
def headS (ns : List Nat) : List UInt8 := headTo ns ns.length
theorem length_flat (l : List Nat) : (l.flatMap (beS 2)).length = 2 * l.length := by
  induction l with
  | nil => rfl
  | cons x l ih => rw [List.flatMap_cons, List.length_append, length_beS, ih, List.length_cons]; omega
theorem length_headP (ns : List Nat) (i : Nat) (h : i ≤ ns.length) : (headP ns i).length = 4 + 2 * i := by
  rw [headP, List.length_append, List.length_append, length_beS, length_flat, List.length_take, Nat.min_eq_left h]; rfl
theorem length_headTo (ns : List Nat) (i : Nat) (h : i ≤ ns.length) (h2 : ns.length ≤ 254) : (headTo ns i).length = 512 := by
  rw [headTo, List.length_append, length_headP ns i h, length_zN]; omega
theorem headP_succ (ns : List Nat) (i : Nat) (h : i < ns.length) : headP ns (i + 1) = headP ns i ++ beS 2 ns[i] := by
  rw [headP, headP, List.take_succ_eq_append_getElem h, List.flatMap_append]
  simp
theorem headTo_succ (ns : List Nat) (i : Nat) (h : i < ns.length) : (headTo ns i).take (4 + 2 * i) ++ beS 2 ns[i] ++ (headTo ns i).drop (4 + 2 * i + 2) = headTo ns (i + 1) := by
  have hl := length_headP ns i (by omega)
  have e1 : (headTo ns i).take (4 + 2 * i) = headP ns i := by rw [headTo, ← hl, List.take_left']; rfl
  have e2 : (headTo ns i).drop (4 + 2 * i + 2) = zN (508 - 2 * (i + 1)) := by
    rw [headTo, List.drop_append, hl, List.drop_eq_nil_of_le (by omega), List.nil_append, drop_zN]
    congr 1; omega
  rw [e1, e2, headTo, headP_succ ns i h]
theorem head_start (ns : List Nat) : ([68, 78] ++ (zN 512).drop 2).take 2 ++ beS 2 ns.length ++ ([68, 78] ++ (zN 512).drop 2).drop (2 + 2) = headTo ns 0 := by
  rw [drop_zN, headTo, headP, List.take_left' (by rfl), List.drop_append, List.drop_eq_nil_of_le (by decide), List.nil_append, drop_zN]
  simp
theorem wpList_copy_str {w : World} {ops : Array Oper} {rest : List Oper} {o : Oper} {a : Act} {Q : Exit → Act → World → Prop} (hgd : o.guard = none) (d s : Operand)
    (ho : o.op = .call { callee := .builtin .copy, args := #[d, s], argTypes := #[37, 9] }) (b m : Nat) (L : List UInt8) (st : ByteArray)
    (hd : a.eval d = .slice (some ⟨b, 0, none⟩) m m) (hs : a.eval s = .string st) (hr : ownB w b L) (hm : L.length = m) (hle : st.size ≤ m)
    (h : ∀ r w', ownB w' b (st.data.toList ++ L.drop st.size) → Keeps (fun i => i = b) w w' → wpList Tryz.prog ops Q rest (a.put o.dst r) w') : wpList Tryz.prog ops Q (o :: rest) a w := by
  have hsz : (Tryz.prog.info? 5).map (·.size) = some 1 := by kernel_rfl
  refine wpList_plain hgd fun K hK => ?_
  have hrun := Lib.run_copy_row_string (P := Tryz.prog) w 37 9 o.type 5 b 0 m m st (L.map U8).toArray 5 Tryz.underlying37 hsz hr hle (by simp; omega)
  obtain ⟨cs, hcs⟩ : ∃ cs, ((L.map U8).toArray.toList.take 0 ++ Lib.byteCells st.data.toList ++ (L.map U8).toArray.toList.drop (0 + st.size)) = cs := ⟨_, rfl⟩
  rw [hcs] at hrun
  have hce : cs = (st.data.toList ++ L.drop st.size).map U8 := by
    rw [← hcs, List.take_zero, List.nil_append, Nat.zero_add, List.map_append, List.map_drop]; rfl
  have hblk := setRow_heap w b (L.map U8).toArray cs.toArray 5 (0, 0) hr
  unfold Oper.wp
  simp [execOp, ho, resolve, invoke, builtin, hd, hs, hrun, Result.andThen]
  refine hK _ _ (h _ _ ?_ ⟨rfl, rfl, rfl, by simp, fun i _ hi => setRow_other w b i _ hi⟩)
  unfold ownB
  rw [hblk, hce]
set_option maxRecDepth 100000 in
theorem number_in (b i : Nat) (w : World) (hi : 4 + 2 * i + 2 ≤ 512) :
    Calls Tryz.prog 90 #[.slice (some ⟨b, 0, none⟩) 512 512, .int .i64 i] w fun e w' => e = .returned (.slice (some ⟨b, 4 + 2 * i, none⟩) 2 (512 - (4 + 2 * i))) ∧ w' = w := by
  have h0 : (0 : Int) ≤ (i : Int) := by omega
  have h1 : (i : Int) ≤ 253 := by omega
  go_enter Tryz.func90, Tryz.ntmps90
  go_wp2
  go_ret
  exact ⟨rfl, rfl⟩
/-- Numbers as the program has them. -/
abbrev natsZ (ns : List Nat) : List Int := ns.map (fun n : Nat => (n : Int))
set_option maxRecDepth 100000 in
set_option maxHeartbeats 2000000 in
theorem head_of (ns : List Nat) (a : Option Addr) (c : Nat) (w : World) (hns : intsAt w a (natsZ ns)) (hl : ns.length ≤ 100) (hm : ∀ n ∈ ns, n < 65536) :
    Calls Tryz.prog 78 #[.slice a ns.length c] w fun e w' => ∃ b, e = .returned (.slice (some ⟨b, 0, none⟩) 512 512) ∧ w.heap.size ≤ b ∧ ownB w' b (headS ns) ∧ Below w.heap.size w w' := by
  have HN := hid hns
  have HM := hid hm
  clear hns hm
  go_enter Tryz.func78, Tryz.ntmps78
  go_wp2_with (first
    | (refine wpList_make_u8 rfl (.const (.int .i64 512)) (.const (.int .i64 512)) rfl 512 512 rfl rfl rfl (by omega) ?_; intro w1 hb1 hr1 hz1; have HB1 := hid hb1; have HR1 : Hid (ownB w1 w.heap.size (zN 512)) := (by unfold Hid ownB; rw [hr1, rep_U8]); clear hb1 hr1 hz1)
    | (refine wpList_copy_str rfl (.tmp 7) (.const (.string ⟨#[68, 78]⟩)) rfl w.heap.size 512 (zN 512) ⟨#[68, 78]⟩ rfl rfl HR1.out (length_zN 512) (by decide) ?_; intro r2 w2 hr2 hk2; have HB2 := hid (HB1.out.trans (hk2.below HB1.out.size (fun i e => by omega))); have HR2 : Hid (ownB w2 w.heap.size ([68, 78] ++ (zN 512).drop 2)) := hr2; clear hr2 hk2 HR1 HB1))
  have hl0 : ([68, 78] ++ (zN 512).drop 2).length = 512 := by rw [List.length_append, drop_zN, length_zN]; rfl
  have hp := put_any w.heap.size 2 2 (512 - 2) ns.length ([68, 78] ++ (zN 512).drop 2) w2 HR2.out (by rw [hl0]; decide) (by rw [hl0]; decide) (by omega)
  rw [head_start] at hp
  have HP := hid hp
  clear hp hl0 HR2
  refine HP.out.mono ?_
  clear HP
  rintro e w3 ⟨rfl, hr3, hk3⟩
  have HR3 := hid hr3
  have HB3 := hid (HB2.out.trans (hk3.below HB2.out.size (fun i e => by omega)))
  clear hr3 hk3 HB2
  go_wp2
  go_loopw [16] (fun i wr => ∃ j : Nat, j ≤ ns.length ∧ i = .int .i64 j ∧ Hid (ownB wr w.heap.size (headTo ns j)) ∧ Hid (Below w.heap.size w wr)) (fun i _ => ns.length - (intOf i).toNat)
  case atStart => exact ⟨0, by omega, rfl, HR3, HB3⟩
  case round =>
    obtain ⟨j, hj, rfl, hR, hB⟩ := hrel
    by_cases hlt : j < ns.length
    · have hj0 : (0 : Int) ≤ (j : Int) := by omega
      have hj1 : (j : Int) < (ns.length : Int) := by omega
      have hjl : j < (natsZ ns).length := by simpa using hlt
      obtain ⟨b, o, rfl, hc⟩ := HN.out j hjl
      have hcj := hc j hjl
      have hcell : wr.cell? ⟨b, o + j, none⟩ = some (.int .i64 (ns[j] : Nat)) := by
        rw [hB.out.cell (p := ⟨b, o + j, none⟩) (World.block_lt_of_cell? w _ hcj), hcj]; simp
      have hnm := HM.out ns[j] (List.getElem_mem hlt)
      have hll := length_headTo ns j hj (by omega)
      have hp := put_any w.heap.size (4 + 2 * j) 2 (512 - (4 + 2 * j)) ns[j] (headTo ns j) wr hR.out (by rw [hll]; omega) (by rw [hll]; decide) (by omega)
      rw [headTo_succ ns j hlt] at hp
      have HP := hid hp
      have HNi := hid (number_in w.heap.size j wr (by omega))
      clear hp hll hc hcj hjl
      generalize ns[j] = x at *
      go_wp2_with fail
      refine HNi.out.mono ?_
      rintro e w4 ⟨rfl, h4⟩
      obtain rfl := h4.symm
      go_wp2_with fail
      refine HP.out.mono ?_
      clear HP
      rintro e w5 ⟨rfl, hr5, hk5⟩
      have HR5 := hid hr5
      have HB5 := hid (hB.out.trans (hk5.below hB.out.size (fun i e => by omega)))
      clear hr5 hk5
      go_wp2
      exact ⟨⟨j + 1, by omega, by go_num, HR5, HB5⟩, by simp [intOf]; omega⟩
    · obtain rfl : j = ns.length := by omega
      have hge : ¬ ((ns.length : Int) < (ns.length : Int)) := by omega
      go_wp2
      go_ret
      exact ⟨w.heap.size, rfl, Nat.le_refl _, hR.out, hB.out⟩
end Go.Proofs.YtoeiodiadanhkaaGreat
