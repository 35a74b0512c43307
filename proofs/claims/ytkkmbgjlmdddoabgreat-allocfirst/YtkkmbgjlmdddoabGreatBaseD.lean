/- Several of my texts in one: WKit, Octets, Head, Open0, Grp, Grouped, Bring, WriteG, LogM, Commit, DeedP, LiveP, Live3. -/
import Derived.Test.YtkkmbgjlmdddoabGreatBaseA
import Derived.Lib.BufferWrite
import Derived.Test.YtkkmbgjlmdddoabGreatBaseC
import Derived.Test.YtkkmbgjlmdddoabGreatBaseB
/- Bytes of one's own in a block, and numbers as bytes, the highest first. -/
namespace Go.Proofs.YtkkmbgjlmdddoabGreat
open Go.RowKit
/-- A byte as the program's value. -/
def U8 (x : UInt8) : Value := .int .u8 (x.toNat : Int)
/-- A block of bytes that may be written. -/
def ownB (w : World) (b : Nat) (L : List UInt8) : Prop := w.heap[b]? = some (.cells (L.map U8).toArray 5 (0, 0))
theorem ownB.lt {w : World} {b : Nat} {L : List UInt8} (h : ownB w b L) : b < w.heap.size := lt_of_heap h
theorem ownB.keep {w w' : World} {b : Nat} {L : List UInt8} {F : Nat → Prop} (h : ownB w b L) (k : Keeps F w w') (hF : ¬ F b) : ownB w' b L := k.heap h hF
theorem ownB.below {w w' : World} {b : Nat} {L : List UInt8} (h : ownB w b L) (k : Below w.heap.size w w') : ownB w' b L := below_block k h (lt_of_heap h)
theorem ownB.cell {w : World} {b : Nat} {L : List UInt8} (h : ownB w b L) (j : Nat) (hj : j < L.length) : w.cell? ⟨b, j, none⟩ = some (.int .u8 (L[j].toNat : Int)) := by
  rw [cell_of_block h, List.getElem?_toArray, List.getElem?_map, List.getElem?_eq_getElem hj]; rfl
theorem ownB.set {w : World} {b : Nat} {L : List UInt8} (h : ownB w b L) (j : Nat) (x : UInt8) : ownB (w.setCell ⟨b, j, none⟩ (.int .u8 (x.toNat : Int))) b (L.set j x) := by
  have h1 := block_setCell h j (.int .u8 (x.toNat : Int))
  rw [List.setIfInBounds_toArray] at h1
  unfold ownB
  rw [h1, List.map_set]; rfl
theorem ownB.frozen {w : World} {b : Nat} {L : List UInt8} (h : ownB w b L) (j : Nat) : w.frozen? ⟨b, j, none⟩ = false := frozen_of_block h _
theorem ownB.at {w : World} {b : Nat} {L : List UInt8} (h : ownB w b L) : bytesAt w ⟨b, 0, none⟩ L := fun j hj => by rw [Addr.add_mid, Nat.zero_add]; exact h.cell j hj
/-- A number in k bytes, the highest first. -/
def beS : Nat → Nat → List UInt8
  | 0, _ => []
  | k + 1, x => beS k (x / 256) ++ [UInt8.ofNat (x % 256)]
theorem length_beS : ∀ k x, (beS k x).length = k
  | 0, _ => rfl
  | k + 1, x => by rw [beS, List.length_append, length_beS k]; rfl
/-- The number that bytes are. -/
def numS (l : List UInt8) : Nat := l.foldl (fun x o => x * 256 + o.toNat) 0
theorem numS_snoc (l : List UInt8) (o : UInt8) : numS (l ++ [o]) = numS l * 256 + o.toNat := by simp [numS]
theorem numS_be : ∀ k x, numS (beS k x) = x % 256 ^ k
  | 0, x => by simp [beS, numS, Nat.mod_one]
  | k + 1, x => by
    rw [beS, numS_snoc, numS_be k, UInt8.toNat_ofNat']
    have h1 : x % 256 ^ (k + 1) = x % 256 + 256 * (x / 256 % 256 ^ k) := by rw [Nat.pow_succ, Nat.mul_comm, Nat.mod_mul]
    have h2 : x % 256 % 2 ^ 8 = x % 256 := Nat.mod_eq_of_lt (Nat.mod_lt _ (by decide))
    omega
theorem numS_lt_aux : ∀ (l : List UInt8) (x : Nat), l.foldl (fun x o => x * 256 + o.toNat) x < (x + 1) * 256 ^ l.length
  | [], x => by simp
  | o :: l, x => by
    have ih := numS_lt_aux l (x * 256 + o.toNat)
    have ho := o.toNat_lt
    have h1 : (x * 256 + o.toNat + 1) * 256 ^ l.length ≤ ((x + 1) * 256) * 256 ^ l.length := Nat.mul_le_mul_right _ (by omega)
    rw [List.foldl_cons, List.length_cons, Nat.pow_succ, Nat.mul_comm (256 ^ l.length) 256, ← Nat.mul_assoc]
    omega
theorem numS_lt (l : List UInt8) : numS l < 256 ^ l.length := by
  have := numS_lt_aux l 0
  simpa [numS] using this
end Go.Proofs.YtkkmbgjlmdddoabGreat
/- octets: a number is laid in bytes, and read again. -/
namespace Go.Proofs.YtkkmbgjlmdddoabGreat
open Go.RowKit
theorem beS_at : ∀ (k X r : Nat), r < k → (beS k X)[r]? = some (UInt8.ofNat (X / 256 ^ (k - 1 - r) % 256))
  | 0, _, _, h => by omega
  | k + 1, X, r, h => by
    rw [beS]
    by_cases hr : r < k
    · rw [List.getElem?_append_left (by rw [length_beS]; exact hr), beS_at k (X / 256) r hr, Nat.div_div_eq_div_mul, ← Nat.pow_succ', show (k - 1 - r).succ = k + 1 - 1 - r by omega]
    · obtain rfl : r = k := by omega
      rw [List.getElem?_append_right (by rw [length_beS]; exact Nat.le_refl _), length_beS]
      simp
theorem i64_or_nat (a b : Nat) (ha : a < 2 ^ 62) (hb : b < 2 ^ 62) : bits .or .i64 (a : Int) (b : Int) = ((a ||| b : Nat) : Int) := by
  have hx : a ||| b < 2 ^ 62 := Nat.or_lt_two_pow ha hb
  show IntKind.i64.wrap ((BitVec.ofInt 64 (a : Int) ||| BitVec.ofInt 64 (b : Int)).toNat : Int) = _
  rw [BitVec.toNat_or, BitVec.ofInt_natCast, BitVec.ofInt_natCast, BitVec.toNat_ofNat, BitVec.toNat_ofNat, Nat.mod_eq_of_lt (by omega), Nat.mod_eq_of_lt (by omega)]
  simp [IntKind.wrap, IntKind.bits, IntKind.signed]
  omega
/-- One byte more is laid. -/
theorem put_step (L B : List UInt8) (o k r : Nat) (hr : r < k) (hB : B.length = k) (hk : o + k ≤ L.length) (v : UInt8) (hv : B[r]? = some v) :
    (L.take (o + (r + 1)) ++ B.drop (r + 1) ++ L.drop (o + k)).set (o + r) v = L.take (o + r) ++ B.drop r ++ L.drop (o + k) := by
  have h1 : L.take (o + (r + 1)) = L.take (o + r) ++ [L[o + r]'(by omega)] := by rw [show o + (r + 1) = o + r + 1 by omega, List.take_succ_eq_append_getElem (by omega)]
  have h2 : B.drop r = v :: B.drop (r + 1) := by
    obtain ⟨hl, e⟩ := List.getElem?_eq_some_iff.1 hv
    rw [List.drop_eq_getElem_cons hl, e]
  have hl : (L.take (o + r)).length = o + r := by rw [List.length_take]; omega
  rw [h1, h2, List.append_assoc, List.append_assoc, List.set_append_right _ _ (by rw [hl]; exact Nat.le_refl _), hl, Nat.sub_self]
  simp
set_option maxRecDepth 100000 in
set_option maxHeartbeats 2000000 in
theorem put_any (b o k c X : Nat) (L : List UInt8) (w : World) (h : ownB w b L) (hk : o + k ≤ L.length) (hL : L.length ≤ 4096) (_hX : X < 4611686018427387904) :
    Calls Tryz.prog 88 #[.slice (some ⟨b, o, none⟩) k c, .int .i64 X] w fun e w' => e = .returned (.tuple #[]) ∧ ownB w' b (L.take o ++ beS k X ++ L.drop (o + k)) ∧ Keeps (fun i => i = b) w w' := by
  have H := hid h
  clear h
  go_enter Tryz.func88, Tryz.ntmps88
  go_wp2
  go_loopw [1, 4] (fun x i wr => ∃ r : Nat, r ≤ k ∧ x = .int .i64 ((X / 256 ^ (k - r) : Nat) : Int) ∧ i = .int .i64 ((r : Int) - 1) ∧ Hid (ownB wr b (L.take (o + r) ++ (beS k X).drop r ++ L.drop (o + k))) ∧ Hid (Keeps (fun i => i = b) w wr)) (fun _ i _ => (intOf i + 1).toNat)
  case atStart =>
    refine ⟨k, Nat.le_refl _, by simp, rfl, ?_, Keeps.refl _ _⟩
    have := H.out
    have e : (beS k X).drop k = [] := List.drop_eq_nil_of_le (by rw [length_beS]; exact Nat.le_refl _)
    unfold Hid
    rw [e, List.append_nil, List.take_append_drop]
    exact this
  case round =>
    obtain ⟨r, hr, rfl, rfl, hO, hKp⟩ := hrel
    rcases Nat.eq_zero_or_pos r with rfl | hpos
    · go_wp2
      go_returns
      exact ⟨rfl, by simpa using hO.out, hKp.out⟩
    · obtain ⟨r, rfl⟩ : ∃ s, r = s + 1 := ⟨r - 1, by omega⟩
      have hle : X / 256 ^ (k - (r + 1)) ≤ X := Nat.div_le_self _ _
      have hnext : X / 256 ^ (k - (r + 1)) / 256 = X / 256 ^ (k - r) := by rw [Nat.div_div_eq_div_mul, ← Nat.pow_succ, show (k - (r + 1)).succ = k - r by omega]
      have hb := beS_at k X r (by omega)
      rw [show k - 1 - r = k - (r + 1) by omega] at hb
      have hset := fun v hv => put_step L (beS k X) o k r (by omega) (length_beS k X) hk v hv
      have HSet := hid hset
      have HB := hid hb
      have HNext := hid hnext
      have hlen : o + r < (L.take (o + (r + 1)) ++ (beS k X).drop (r + 1) ++ L.drop (o + k)).length := by simp [length_beS]; omega
      obtain ⟨old, cl⟩ : ∃ v, wr.cell? ⟨b, o + r, none⟩ = some v := ⟨_, hO.out.cell (o + r) hlen⟩
      have fl := hO.out.frozen (o + r)
      clear hset hb hnext hlen
      generalize X / 256 ^ (k - (r + 1)) = x at *
      have hr0 : (0 : Int) ≤ (r : Int) := by omega
      have hrk : (r : Int) < (k : Int) := by omega
      have e1 : ((r + 1 : Nat) : Int) - 1 = (r : Int) := by omega
      rw [e1]
      go_wp2
      have hv : ((UInt8.ofNat (x % 256)).toNat : Int) = (x : Int) % 256 := by
        rw [UInt8.toNat_ofNat', Nat.mod_eq_of_lt (show x % 256 < 2 ^ 8 from Nat.mod_lt _ (by decide))]; omega
      have hs := hO.out.set (o + r) (UInt8.ofNat (x % 256))
      rw [HSet.out _ HB.out, hv] at hs
      refine ⟨⟨r, by omega, by rw [← HNext.out]; rfl, rfl, hs, ?_⟩, by simp [intOf]⟩
      exact hKp.out.grown (grown_setCell (grown_refl _ _) _ _) (fun i e => .inl (Option.some.inj e).symm)
set_option maxRecDepth 100000 in
set_option maxHeartbeats 2000000 in
theorem number_any (l : List UInt8) (a : Option Addr) (c : Nat) (w : World) (hb : bytesIn w a l) (hl : l.length ≤ 7) :
    Calls Tryz.prog 61 #[.slice a l.length c] w fun e w' => e = .returned (.int .i64 (numS l : Nat)) ∧ w' = w := by
  have HB := hid hb
  clear hb
  go_enter Tryz.func61, Tryz.ntmps61
  go_wp2
  go_loopw [3, 8] (fun x i wr => ∃ j : Nat, j ≤ l.length ∧ x = .int .i64 ((numS (l.take j) : Nat) : Int) ∧ i = .int .i64 j ∧ wr = w) (fun _ i _ => l.length - (intOf i).toNat)
  case atStart => exact ⟨0, by omega, rfl, rfl, rfl⟩
  case round =>
    obtain ⟨j, hj, rfl, rfl, rfl⟩ := hrel
    by_cases hlt : j < l.length
    · have hj0 : (0 : Int) ≤ (j : Int) := by omega
      have hj1 : (j : Int) < (l.length : Int) := by omega
      obtain ⟨b, o, rfl, hc⟩ := HB.out j hlt
      have hcell := hc j hlt
      have HT : Hid (numS (l.take (j + 1)) = numS (l.take j) * 256 + l[j].toNat) := by
        unfold Hid
        rw [List.take_succ_eq_append_getElem hlt, numS_snoc]
      have hb := numS_lt (l.take j)
      have hlj : (l.take j).length = j := by rw [List.length_take]; omega
      rw [hlj] at hb
      have hp : 256 ^ j ≤ 256 ^ 6 := Nat.pow_le_pow_right (by decide) (by omega)
      have hx : numS (l.take j) < 281474976710656 := Nat.lt_of_lt_of_le hb (Nat.le_trans hp (by decide))
      have ho := l[j].toNat_lt
      have ho' : l[j].toNat < 256 := ho
      clear hc hb hlj hp ho
      generalize numS (l.take j) = x at *
      generalize l[j].toNat = y at *
      go_wp2
      have hor : bits .or .i64 ((x : Int) * 256) (y : Int) = ((x * 256 + y : Nat) : Int) := by
        rw [show (x : Int) * 256 = ((x * 256 : Nat) : Int) by omega, i64_or_nat (x * 256) y (by omega) (by omega)]
        congr 1
        rw [show x * 256 = x <<< 8 by rw [Nat.shiftLeft_eq], ← Nat.shiftLeft_add_eq_or_of_lt (show y < 2 ^ 8 by omega)]
      rw [hor, ← HT.out]
      exact ⟨⟨j + 1, by omega, rfl, by go_num, trivial⟩, by simp [intOf]; omega⟩
    · obtain rfl : j = l.length := by omega
      have hge : ¬ ((l.length : Int) < (l.length : Int)) := by omega
      go_wp2
      go_ret
      exact ⟨rfl, rfl⟩
end Go.Proofs.YtkkmbgjlmdddoabGreat
/- wal.headOf: the head of a log that has the pages of these numbers. -/
namespace Go.Proofs.YtkkmbgjlmdddoabGreat
open Go.RowKit
/-- n noughts. -/
def zN (n : Nat) : List UInt8 := List.replicate n 0
theorem length_zN (n : Nat) : (zN n).length = n := List.length_replicate
theorem drop_zN (n k : Nat) : (zN n).drop k = zN (n - k) := List.drop_replicate
theorem rep_U8 (n : Nat) : (List.replicate n (Value.int .u8 0)).toArray = ((zN n).map U8).toArray := by rw [zN, List.map_replicate]; rfl
/-- What stands ahead of the noughts, when i of the numbers are laid. -/
def headP (ns : List Nat) (i : Nat) : List UInt8 := [68, 78] ++ beS 2 ns.length ++ (ns.take i).flatMap (beS 2)
def headTo (ns : List Nat) (i : Nat) : List UInt8 := headP ns i ++ zN (508 - 2 * i)
/-- The head of these numbers. -/
def headS (ns : List Nat) : List UInt8 := headTo ns ns.length
theorem length_flat (l : List Nat) : (l.flatMap (beS 2)).length = 2 * l.length := by
  induction l with
  | nil => rfl
  | cons x l ih => rw [List.flatMap_cons, List.length_append, length_beS, ih, List.length_cons]; omega
theorem length_headP (ns : List Nat) (i : Nat) (h : i ≤ ns.length) : (headP ns i).length = 4 + 2 * i := by
  rw [headP, List.length_append, List.length_append, length_beS, length_flat, List.length_take, Nat.min_eq_left h]; rfl
theorem length_headTo (ns : List Nat) (i : Nat) (h : i ≤ ns.length) (h2 : ns.length ≤ 254) : (headTo ns i).length = 512 := by
  rw [headTo, List.length_append, length_headP ns i h, length_zN]; omega
theorem headP_succ (ns : List Nat) (i : Nat) (h : i < ns.length) : headP ns (i + 1) = headP ns i ++ beS 2 ns[i] := by
  rw [headP, headP, List.take_succ_eq_append_getElem h, List.flatMap_append]
  simp
theorem headTo_succ (ns : List Nat) (i : Nat) (h : i < ns.length) : (headTo ns i).take (4 + 2 * i) ++ beS 2 ns[i] ++ (headTo ns i).drop (4 + 2 * i + 2) = headTo ns (i + 1) := by
  have hl := length_headP ns i (by omega)
  have e1 : (headTo ns i).take (4 + 2 * i) = headP ns i := by rw [headTo, ← hl, List.take_left']; rfl
  have e2 : (headTo ns i).drop (4 + 2 * i + 2) = zN (508 - 2 * (i + 1)) := by
    rw [headTo, List.drop_append, hl, List.drop_eq_nil_of_le (by omega), List.nil_append, drop_zN]
    congr 1; omega
  rw [e1, e2, headTo, headP_succ ns i h]
theorem head_start (ns : List Nat) : ([68, 78] ++ (zN 512).drop 2).take 2 ++ beS 2 ns.length ++ ([68, 78] ++ (zN 512).drop 2).drop (2 + 2) = headTo ns 0 := by
  rw [drop_zN, headTo, headP, List.take_left' (by rfl), List.drop_append, List.drop_eq_nil_of_le (by decide), List.nil_append, drop_zN]
  simp
theorem wpList_copy_str {w : World} {ops : Array Oper} {rest : List Oper} {o : Oper} {a : Act} {Q : Exit → Act → World → Prop} (hgd : o.guard = none) (d s : Operand)
    (ho : o.op = .call { callee := .builtin .copy, args := #[d, s], argTypes := #[57, 9] }) (b m : Nat) (L : List UInt8) (st : ByteArray)
    (hd : a.eval d = .slice (some ⟨b, 0, none⟩) m m) (hs : a.eval s = .string st) (hr : ownB w b L) (hm : L.length = m) (hle : st.size ≤ m)
    (h : ∀ r w', ownB w' b (st.data.toList ++ L.drop st.size) → Keeps (fun i => i = b) w w' → wpList Tryz.prog ops Q rest (a.put o.dst r) w') : wpList Tryz.prog ops Q (o :: rest) a w := by
  have hsz : (Tryz.prog.info? 5).map (·.size) = some 1 := by kernel_rfl
  refine wpList_plain hgd fun K hK => ?_
  have hrun := Lib.run_copy_row_string (P := Tryz.prog) w 57 9 o.type 5 b 0 m m st (L.map U8).toArray 5 Tryz.underlying57 hsz hr hle (by simp; omega)
  obtain ⟨cs, hcs⟩ : ∃ cs, ((L.map U8).toArray.toList.take 0 ++ Lib.byteCells st.data.toList ++ (L.map U8).toArray.toList.drop (0 + st.size)) = cs := ⟨_, rfl⟩
  rw [hcs] at hrun
  have hce : cs = (st.data.toList ++ L.drop st.size).map U8 := by
    rw [← hcs, List.take_zero, List.nil_append, Nat.zero_add, List.map_append, List.map_drop]; rfl
  have hblk := setRow_heap w b (L.map U8).toArray cs.toArray 5 (0, 0) hr
  unfold Oper.wp
  simp [execOp, ho, resolve, invoke, builtin, hd, hs, hrun, Result.andThen]
  refine hK _ _ (h _ _ ?_ ⟨rfl, rfl, rfl, by simp, fun i _ hi => setRow_other w b i _ hi⟩)
  unfold ownB
  rw [hblk, hce]
set_option maxRecDepth 100000 in
theorem number_in (b i : Nat) (w : World) (hi : 4 + 2 * i + 2 ≤ 512) :
    Calls Tryz.prog 103 #[.slice (some ⟨b, 0, none⟩) 512 512, .int .i64 i] w fun e w' => e = .returned (.slice (some ⟨b, 4 + 2 * i, none⟩) 2 (512 - (4 + 2 * i))) ∧ w' = w := by
  have h0 : (0 : Int) ≤ (i : Int) := by omega
  have h1 : (i : Int) ≤ 253 := by omega
  go_enter Tryz.func103, Tryz.ntmps103
  go_wp2
  go_ret
  exact ⟨rfl, rfl⟩
/-- Numbers as the program has them. -/
abbrev natsZ (ns : List Nat) : List Int := ns.map (fun n : Nat => (n : Int))
set_option maxRecDepth 100000 in
set_option maxHeartbeats 2000000 in
theorem head_of (ns : List Nat) (a : Option Addr) (c : Nat) (w : World) (hns : intsAt w a (natsZ ns)) (hl : ns.length ≤ 100) (hm : ∀ n ∈ ns, n < 65536) :
    Calls Tryz.prog 104 #[.slice a ns.length c] w fun e w' => ∃ b, e = .returned (.slice (some ⟨b, 0, none⟩) 512 512) ∧ w.heap.size ≤ b ∧ ownB w' b (headS ns) ∧ Below w.heap.size w w' := by
  have HN := hid hns
  have HM := hid hm
  clear hns hm
  go_enter Tryz.func104, Tryz.ntmps104
  go_wp2_with (first
    | (refine wpList_make_u8 rfl (.const (.int .i64 512)) (.const (.int .i64 512)) rfl 512 512 rfl rfl rfl (by omega) ?_; intro w1 hb1 hr1 hz1; have HB1 := hid hb1; have HR1 : Hid (ownB w1 w.heap.size (zN 512)) := (by unfold Hid ownB; rw [hr1, rep_U8]); clear hb1 hr1 hz1)
    | (refine wpList_copy_str rfl (.tmp 7) (.const (.string ⟨#[68, 78]⟩)) rfl w.heap.size 512 (zN 512) ⟨#[68, 78]⟩ rfl rfl HR1.out (length_zN 512) (by decide) ?_; intro r2 w2 hr2 hk2; have HB2 := hid (HB1.out.trans (hk2.below HB1.out.size (fun i e => by omega))); have HR2 : Hid (ownB w2 w.heap.size ([68, 78] ++ (zN 512).drop 2)) := hr2; clear hr2 hk2 HR1 HB1))
  have hl0 : ([68, 78] ++ (zN 512).drop 2).length = 512 := by rw [List.length_append, drop_zN, length_zN]; rfl
  have hp := put_any w.heap.size 2 2 (512 - 2) ns.length ([68, 78] ++ (zN 512).drop 2) w2 HR2.out (by rw [hl0]; decide) (by rw [hl0]; decide) (by omega)
  rw [head_start] at hp
  have HP := hid hp
  clear hp hl0 HR2
  refine HP.out.mono ?_
  clear HP
  rintro e w3 ⟨rfl, hr3, hk3⟩
  have HR3 := hid hr3
  have HB3 := hid (HB2.out.trans (hk3.below HB2.out.size (fun i e => by omega)))
  clear hr3 hk3 HB2
  go_wp2
  go_loopw [16] (fun i wr => ∃ j : Nat, j ≤ ns.length ∧ i = .int .i64 j ∧ Hid (ownB wr w.heap.size (headTo ns j)) ∧ Hid (Below w.heap.size w wr)) (fun i _ => ns.length - (intOf i).toNat)
  case atStart => exact ⟨0, by omega, rfl, HR3, HB3⟩
  case round =>
    obtain ⟨j, hj, rfl, hR, hB⟩ := hrel
    by_cases hlt : j < ns.length
    · have hj0 : (0 : Int) ≤ (j : Int) := by omega
      have hj1 : (j : Int) < (ns.length : Int) := by omega
      have hjl : j < (natsZ ns).length := by simpa using hlt
      obtain ⟨b, o, rfl, hc⟩ := HN.out j hjl
      have hcj := hc j hjl
      have hcell : wr.cell? ⟨b, o + j, none⟩ = some (.int .i64 (ns[j] : Nat)) := by
        rw [hB.out.cell (p := ⟨b, o + j, none⟩) (World.block_lt_of_cell? w _ hcj), hcj]; simp
      have hnm := HM.out ns[j] (List.getElem_mem hlt)
      have hll := length_headTo ns j hj (by omega)
      have hp := put_any w.heap.size (4 + 2 * j) 2 (512 - (4 + 2 * j)) ns[j] (headTo ns j) wr hR.out (by rw [hll]; omega) (by rw [hll]; decide) (by omega)
      rw [headTo_succ ns j hlt] at hp
      have HP := hid hp
      have HNi := hid (number_in w.heap.size j wr (by omega))
      clear hp hll hc hcj hjl
      generalize ns[j] = x at *
      go_wp2_with fail
      refine HNi.out.mono ?_
      rintro e w4 ⟨rfl, h4⟩
      obtain rfl := h4.symm
      go_wp2_with fail
      refine HP.out.mono ?_
      clear HP
      rintro e w5 ⟨rfl, hr5, hk5⟩
      have HR5 := hid hr5
      have HB5 := hid (hB.out.trans (hk5.below hB.out.size (fun i e => by omega)))
      clear hr5 hk5
      go_wp2
      exact ⟨⟨j + 1, by omega, by go_num, HR5, HB5⟩, by simp [intOf]; omega⟩
    · obtain rfl : j = ns.length := by omega
      have hge : ¬ ((ns.length : Int) < (ns.length : Int)) := by omega
      go_wp2
      go_ret
      exact ⟨w.heap.size, rfl, Nat.le_refl _, hR.out, hB.out⟩
end Go.Proofs.YtkkmbgjlmdddoabGreat
/- wal.Open of a disk whose head is nothing but noughts. -/
namespace Go.Proofs.YtkkmbgjlmdddoabGreat
open Go.RowKit
set_option maxRecDepth 100000 in
set_option maxHeartbeats 1000000 in
theorem equal_any (l m : List UInt8) (a b : Addr) (c c' : Nat) (w : World) (ha : bytesAt w a l) (hb : bytesAt w b m) :
    Calls Tryz.prog 62 #[.slice (some a) l.length c, .slice (some b) m.length c'] w fun e w' => e = .returned (.bool (decide (l = m))) ∧ w' = w := by
  have hcv := run_convert_bytes_back (P := Tryz.prog) w 57 9 5 a c l Tryz.underlying57 Tryz.underlying5 Tryz.underlying9 ha
  have hcw := run_convert_bytes_back (P := Tryz.prog) w 57 9 5 b c' m Tryz.underlying57 Tryz.underlying5 Tryz.underlying9 hb
  have he : ((⟨l.toArray⟩ : ByteArray).toList == (⟨m.toArray⟩ : ByteArray).toList) = decide (l = m) := by
    rw [ByteArray.toList_mk, ByteArray.toList_mk]
    by_cases h : l = m
    · subst h; simp
    · rw [decide_eq_false h]; simpa using h
  have HE := hid he
  clear ha hb he
  generalize hs : (⟨l.toArray⟩ : ByteArray) = s at *
  generalize ht : (⟨m.toArray⟩ : ByteArray) = t at *
  clear hs ht
  go_enter Tryz.func62, Tryz.ntmps62
  go_wp2
  go_ret
  refine ⟨?_, rfl⟩
  rw [← HE.out]; rfl
set_option maxRecDepth 100000 in
set_option maxHeartbeats 1000000 in
theorem numbers_zero (d : DL) (S : DiskS) (size : Nat) (w : World) (h : DiskRd w d S) (hz : (seenS S.safe S.waits 0).data.toList = zN 512) :
    Calls Tryz.prog 75 #[layV d.p size] w fun e w' => e = .returned (.tuple #[.slice none 0 0, .bool true]) ∧ Below w.heap.size w w' := by
  have hsz : (seenS S.safe S.waits 0).size = 512 := by
    have : (seenS S.safe S.waits 0).data.toList.length = 512 := by rw [hz]; exact length_zN 512
    simpa using this
  have HR := hid (fun W hW => read_ok_rd d S 0 W (h.below (w' := W) hW) (by omega) (by have := h.plates.pos; omega))
  rw [hsz, hz] at HR
  clear h hsz hz
  unfold layV
  go_enter Tryz.func75, Tryz.ntmps75
  go_wp2_with fail
  refine (HR.out _ ((Below.refl w.heap.size w).alloc (Nat.le_refl _) (.cells #[.pointer (some ⟨d.p, 0, none⟩), .int .i64 size] 98))).mono ?_
  rintro e w1 ⟨b, c, rfl, hb, hat, hb1⟩
  have HAt := hid hat
  have HB1 := hid (((Below.refl w.heap.size w).alloc (Nat.le_refl _) (.cells #[.pointer (some ⟨d.p, 0, none⟩), .int .i64 size] 98)).trans (hb1.mono (by simp)))
  clear hat hb1 HR
  go_wp2_with (refine wpList_make_u8 rfl (.const (.int .i64 512)) (.const (.int .i64 512)) rfl 512 512 rfl rfl rfl (by omega) ?_; intro w2 hb2 hr2 hz2; have HB2 := hid (HB1.out.trans (hb2.mono HB1.out.size)); have HR2 : Hid (ownB w2 w1.heap.size (zN 512)) := (by unfold Hid ownB; rw [hr2, rep_U8]); have HK2 := hid hb2; clear hb2 hr2 hz2)
  have he := equal_any (zN 512) (zN 512) ⟨b, 0, none⟩ ⟨w1.heap.size, 0, none⟩ c 512 w2 (fun j hj => (HK2.out.cell (World.block_lt_of_cell? w1 _ (HAt.out j hj))).trans (HAt.out j hj)) HR2.out.at
  rw [length_zN, decide_eq_true rfl] at he
  have HE := hid he
  clear he
  refine HE.out.mono ?_
  clear HE
  rintro e w3 ⟨rfl, h3⟩
  obtain rfl := h3.symm
  go_wp2
  go_returns
  exact ⟨rfl, HB2.out⟩
/-- A log in memory: where it lies, its disk. -/
structure LogIn (w : World) (p : Nat) (d : DL) (S : DiskS) (size rec : Nat) (F : Nat → Prop) : Prop where
  heap : w.heap[p]? = some (.cells #[.pointer (some ⟨d.p, 0, none⟩), .int .i64 size, .int .i64 rec] 100 (0, 0))
  disk : AnyAt w d S F
  off : ¬ F p
set_option maxRecDepth 100000 in
set_option maxHeartbeats 2000000 in
theorem open_zero (d : DL) (S : DiskS) (size : Nat) (w : World) (h : DiskIn w d S) (hB : S.ops.length ≤ 4096) (h1 : 1 ≤ size) (h2 : size + 2 ≤ S.safe.length) (hz : (seenS S.safe S.waits 0).data.toList = zN 512) :
    Calls Tryz.prog 42 #[.pointer (some ⟨d.p, 0, none⟩), .int .i64 size] w fun e w' => Below w.heap.size w w' ∧ ∃ p d', e = .returned (.tuple #[.pointer (some ⟨p, 0, none⟩), .int .i64 0]) ∧ w.heap.size ≤ p ∧
      LogIn w' p d' S size 0 (fun i => w.heap.size ≤ i ∧ i < p) := by
  have hm := h.plates.most
  have HSe := hid (sectors_disk d S w h)
  have HFk := hid (fork_disk d S w h hB)
  have HZ := hid hz
  have hs1 : (1 : Int) ≤ (size : Int) := by omega
  have hs2 : (size : Int) ≤ (S.safe.length : Int) - 2 := by omega
  clear h hz
  go_enter Tryz.func42, Tryz.ntmps42
  go_wp2_with fail
  refine HSe.out.mono ?_
  clear HSe
  rintro e w1 ⟨rfl, hw1⟩
  obtain rfl := hw1.symm
  go_wp2_with fail
  refine HFk.out.mono ?_
  clear HFk
  rintro e w2 ⟨hb2, d2, rfl, hC, hf⟩
  have HC := hid hC
  have HF := hid hf
  have HB2 := hid hb2
  have HFl : Hid (∀ i, d2.cutFoot S.waits i → i < w2.heap.size) := fun i hi => hi.elim (fun e => by rw [e]; exact lt_of_heap hC.rd.heap) (fun e => hC.rd.plates.foot_lt e)
  have HNu := hid (fun W hW => numbers_zero d2 S size W (hC.rd.below (w' := W) hW) HZ.out)
  unfold layV at HNu
  clear hC hf hb2
  have HA := hid ((Below.refl w2.heap.size w2).alloc (Nat.le_refl _) (.cells #[.pointer (some ⟨d2.p, 0, none⟩), .int .i64 size] 98))
  have Hb := hid (block_new w2 (.cells #[.pointer (some ⟨d2.p, 0, none⟩), .int .i64 size] 98))
  go_wp2_with fail
  generalize w2.alloc (.cells #[.pointer (some ⟨d2.p, 0, none⟩), .int .i64 size] 98) = wA at *
  refine (HNu.out _ HA.out).mono ?_
  clear HNu
  rintro e w3 ⟨rfl, hb3⟩
  have hb := below_block hb3 Hb.out (lt_of_heap Hb.out)
  have c0 : w3.cell? ⟨w2.heap.size, 0, none⟩ = some (.pointer (some ⟨d2.p, 0, none⟩)) := cell_of_block hb 0
  have c1 : w3.cell? ⟨w2.heap.size, 1, none⟩ = some (.int .i64 size) := cell_of_block hb 1
  have hs3 := hb3.size
  have hsA := HA.out.size
  have hs22 := HB2.out.size
  have HC3 := hid (HC.out.below (HA.out.trans (hb3.mono HA.out.size)))
  have HB3 := hid (HB2.out.trans ((HA.out.trans (hb3.mono HA.out.size)).mono HB2.out.size))
  clear hb3 hb Hb HC HA
  go_wp2
  go_returns
  have hal := (Below.refl w3.heap.size w3).alloc (Nat.le_refl _) (.cells #[.pointer (some ⟨d2.p, 0, none⟩), .int .i64 size, .int .i64 0] 100)
  refine ⟨HB3.out.trans (hal.mono HB3.out.size), w3.heap.size, d2, rfl, HB3.out.size, block_new _ _, .inl ⟨HC3.out.below hal, fun i hi => ⟨HF.out i hi, ?_⟩⟩, fun h => by omega⟩
  have := HFl.out i hi
  omega
end Go.Proofs.YtkkmbgjlmdddoabGreat
/- A group of pages: a map from numbers to slices of bytes; its numbers, rising. -/
namespace Go.Proofs.YtkkmbgjlmdddoabGreat
open Go.RowKit Go.Maps Go.Sort Go.Shelf
/-- A group in memory: val tells what stands for a number; numbers from 0 to N - 1 alone. -/
structure GrpIn (w : World) (m B : Nat) (D : DataW Value) (N : Nat) (val : Int → Option Value) : Prop where
  mapOwn : w.ownsMap Tryz.prog 3 selfElem m B D
  absent : ∀ n, val n = none → Maps.has D (.int .i64 n) = false
  there : ∀ n v, val n = some v → Maps.has D (.int .i64 n) = true
  held : ∀ n v, val n = some v → ∀ z, D.atKey (.int .i64 n) z = .held v
  dom : ∀ n v, val n = some v → 0 ≤ n ∧ n < N
/-- Its numbers, rising. -/
def grpKeys (val : Int → Option Value) (N : Nat) : List Int := ((List.range N).map (fun k : Nat => (k : Int))).filter (fun k => (val k).isSome)
theorem mem_grpKeys {val : Int → Option Value} {N : Nat} {k : Int} : k ∈ grpKeys val N ↔ (0 ≤ k ∧ k < N ∧ (val k).isSome = true) := by
  simp only [grpKeys, List.mem_filter, List.mem_map, List.mem_range]
  constructor
  · rintro ⟨⟨j, hj, rfl⟩, h⟩
    exact ⟨by omega, by omega, h⟩
  · rintro ⟨h0, h1, h2⟩
    exact ⟨⟨k.toNat, by omega, by omega⟩, h2⟩
theorem sorted_grpKeys (val : Int → Option Value) (N : Nat) : (grpKeys val N).Pairwise (fun a b => a < b) := by
  refine List.Pairwise.filter _ (List.pairwise_map.2 (List.pairwise_lt_range.imp (fun h => by omega)))
theorem sort_grpKeys (val : Int → Option Value) (N : Nat) : (grpKeys val N).mergeSort leI = grpKeys val N :=
  List.mergeSort_of_pairwise ((sorted_grpKeys val N).imp (fun h => by simp only [leI, decide_eq_true_eq]; omega))
theorem GrpIn.keys {w : World} {m B : Nat} {D : DataW Value} {N : Nat} {val : Int → Option Value} (h : GrpIn w m B D N val) {ss : List Int} (hs : ss.Perm (intKeys D)) : ss.mergeSort leI = grpKeys val N := by
  have hk : ∀ x, x ∈ grpKeys val N ↔ has D (.int .i64 x) = true := fun x => by
    rw [mem_grpKeys]
    constructor
    · rintro ⟨_, _, hx⟩
      obtain ⟨v, hv⟩ := Option.isSome_iff_exists.1 hx
      exact h.there x v hv
    · intro hx
      cases hv : val x with
      | none => rw [h.absent x hv] at hx; cases hx
      | some v => exact ⟨(h.dom x v hv).1, (h.dom x v hv).2, rfl⟩
  obtain ⟨es, hD, hpw, _⟩ := h.mapOwn.entries (int_keyed Tryz.underlying3)
  obtain ⟨es', hD', hko⟩ := h.mapOwn.keysOf
  obtain rfl : es = es' := by rw [hD] at hD'; simpa using hD'
  have hp : (grpKeys val N).Perm (intKeys D) := by
    rw [hD] at hk ⊢
    exact perm_intKeys hpw (fun p hp => by obtain ⟨v, hv⟩ := hko p hp; obtain ⟨x, _, hx, _⟩ := Maps.keyOf_i64 Tryz.underlying3 hv; exact ⟨x, hx⟩) ((sorted_grpKeys _ _).imp (fun h => by omega)) hk
  rw [mergeSort_of_perm_i (hs.trans hp.symm), sort_grpKeys]
theorem GrpIn.keep {w w' : World} {m B : Nat} {D : DataW Value} {N : Nat} {val : Int → Option Value} (h : GrpIn w m B D N val) {F : Nat → Prop} (k : Keeps F w w') (hF : ¬ F m) : GrpIn w' m B D N val :=
  ⟨k.map h.mapOwn hF, h.absent, h.there, h.held, h.dom⟩
theorem GrpIn.below {w w' : World} {m B : Nat} {D : DataW Value} {N : Nat} {val : Int → Option Value} (h : GrpIn w m B D N val) (k : Below w.heap.size w w') : GrpIn w' m B D N val :=
  h.keep (F := fun _ => False) (Keeps.of_below k) (fun e => e)
set_option maxHeartbeats 1000000 in
theorem grp_numbers (m B : Nat) (D : DataW Value) (N : Nat) (val : Int → Option Value) (w : World) (h : GrpIn w m B D N val) (hB : B ≤ 1000000) :
    Calls Tryz.prog 105 #[.map (some m)] w fun e w' => ∃ v, e = .returned v ∧ w'.ownsRow w.heap.size 3 1 v (grpKeys val N).length ((grpKeys val N).map encZ) ∧ (v = .slice none 0 0 ↔ grpKeys val N = []) ∧ Below w.heap.size w w' := by
  refine (callsIn_wide (n := 6)).1 ?_
  have hown := h.mapOwn
  have hbl := hown.lt
  have hsz := hown.size_le
  have hmax : Maps.size D ≤ maxLen := by unfold maxLen; omega
  have hbytes : Maps.size D * 8 ≤ 140737488355328 := by omega
  have hseq : SeqGives Fence.wide 2 Tryz.prog 127 #[.pointer (some ⟨w.heap.size, 0, none⟩)] encZ (fun ss => ss.Perm (intKeys D)) (Maps.size D) (w.alloc (.cells #[.map (some m)] 125)) :=
    AnyZI.keys_gives (ρ := Tryz.keysG_ren) { Tryz.keysG with } Fence.wide _ trivial rfl (by omega) w.heap.size m B D _ (by simp) (by simp) (by
      obtain ⟨es, clock, hb, Ft, hs, hD⟩ := hown
      exact ⟨es, clock, (Below.heap_alloc _ _ m hbl).trans hb, Ft, hs, hD⟩)
  have cK : ∀ mb W, CallsIn Fence.wide 5 Tryz.prog 120 #[.map mb] W fun e w' => e = .returned (.func (.func 127) #[] #[.pointer (some ⟨W.heap.size, 0, none⟩)]) ∧ w' = W.alloc (.cells #[.map mb] 125) := fun mb W => AnyZI.keys_in Tryz.keysG Fence.wide 5 trivial rfl mb W
  have cS := AnyZI.sorted_in Tryz.sortedA Fence.wide 5 trivial trivial trivial trivial rfl (by omega) (sortsA _) (enters_of Tryz.func109 (by kernel_rfl) rfl) 127 #[.pointer (some ⟨w.heap.size, 0, none⟩)] trivial (enters_of Tryz.func127 (by kernel_rfl) rfl) _ _ hmax hbytes _ hseq
  change CallsIn _ _ Tryz.prog 78 _ _ _ at cS
  have hfK : Fence.wide.fn 120 := trivial
  have hfS : Fence.wide.fn 78 := trivial
  have H := hid h
  clear h hown hseq hsz
  refine callsIn_of_wp Tryz.func105 rfl trivial ?_ rfl
  simp only [Tryz.ntmps105, List.size_toArray, List.length_cons, List.length_nil, Nat.reduceAdd, Nat.reduceSub, Array.replicate_succ, Array.replicate_zero, List.push_toArray, List.append_toArray, List.nil_append, List.cons_append]
  gi_wp2_with (first
    | (gi_at_call 120; refine (cK _ _).mono ?_; rintro e w' ⟨rfl, rfl⟩)
    | (gi_at_call 78; refine cS.mono ?_; rintro e w' ⟨v, ss, rfl, hS, hrow, hnil, hb⟩))
  go_ret
  have hk := H.out.keys hS
  rw [hk] at hrow
  have hlen : ss.length = (grpKeys val N).length := by rw [← hk, List.length_mergeSort]
  refine ⟨v, rfl, ?_, ?_, ((Below.refl _ w).alloc (Nat.le_refl _) _).trans (hb.mono (by simp))⟩
  · rw [← hlen]; exact ownsRow_base_a hrow (by simp)
  · rw [hnil, ← List.length_eq_zero_iff, hlen, List.length_eq_zero_iff]
end Go.Proofs.YtkkmbgjlmdddoabGreat
/- wal.layout.grouped: pages as a group. -/
namespace Go.Proofs.YtkkmbgjlmdddoabGreat
open Go.RowKit Go.Maps
/-- A page that is handed in: its number, and where its bytes lie. -/
structure PageS where
  n : Int
  a : Option Addr
  len : Nat
  cap : Nat
def PageS.val (p : PageS) : Value := .slice p.a p.len p.cap
/-- Pages in memory, two cells each. -/
def pagesAt (w : World) (pa : Option Addr) (ps : List PageS) : Prop := ∀ j, j < ps.length → ∃ b o, pa = some ⟨b, o, none⟩ ∧ ∀ i (hi : i < ps.length), w.cell? ⟨b, o + i * 2, none⟩ = some (.int .i64 ps[i].n) ∧ w.cell? ⟨b, o + i * 2 + 1, none⟩ = some ps[i].val
def updV (f : Int → Option Value) (n : Int) (v : Value) : Int → Option Value := fun k => if k = n then some v else f k
/-- What the group has behind the first j pages, and what is wrong with them. -/
def grpVal (ps : List PageS) : Nat → Int → Option Value
  | 0 => fun _ => none
  | j + 1 => match ps[j]? with
    | some p => updV (grpVal ps j) p.n p.val
    | none => grpVal ps j
def grpErr (ps : List PageS) : Nat → Int
  | 0 => 0
  | j + 1 => match ps[j]? with
    | some p => if (grpVal ps j p.n).isSome ∨ p.len ≠ 512 then 3 else grpErr ps j
    | none => grpErr ps j
theorem wpList_mapUpdate_self {P : Program} {w : World} {ops : Array Oper} {rest : List Oper} {o : Oper} {a : Act} {Q : Exit → Act → World → Prop} (hg : o.guard = none) (m x v : Operand) (t : TypeId) (hop : o.op = Op.mapUpdate t m x v) (k e : TypeId) (KK : Keyed P k) (ht : P.underlying t = some (.map k e)) (b n : Nat) (D : DataW Value)
    (hm : a.eval m = .map (some b)) (hown : w.ownsMap P k selfElem b n D) (hn : n < maxLen) (key val : Value) (kl : Lit) (hx : a.eval x = key) (hv : a.eval v = val) (hkey : keyOf P k key = some kl)
    (h : ∀ w', w'.ownsMap P k selfElem b (n + 1) (D.put kl (.held val)) → w.grownBy w' (some b) → wpList P ops Q rest (a.put o.dst undef) w') : wpList P ops Q (o :: rest) a w :=
  wpList_plain hg fun _ hK => wp_mapUpdate_self m x v t hop k e KK ht b n D hm hown hn key val kl hx hv hkey (fun w' h1 h2 => hK _ _ (h w' h1 h2))
theorem wpList_lookup_ok_self {P : Program} {w : World} {ops : Array Oper} {rest : List Oper} {o : Oper} {a : Act} {Q : Exit → Act → World → Prop} (hg : o.guard = none) (m x : Operand) (t : TypeId) (hop : o.op = Op.lookup t m x true) (k e : TypeId) (KK : Keyed P k) (ht : P.underlying t = some (.map k e)) {z : Value} (hz : (zeroValue e).run P w = .ok z w) (b n : Nat) (D : DataW Value)
    (hm : a.eval m = .map (some b)) (hown : w.ownsMap P k selfElem b n D) (key : Value) (kl : Lit) (hx : a.eval x = key) (hkey : keyOf P k key = some kl) (q : Bool) (hq : Maps.has D kl = q)
    (h : ∀ v, wpList P ops Q rest (a.put o.dst (.tuple #[v, .bool q])) w) : wpList P ops Q (o :: rest) a w :=
  wpList_lookup_own_ok w hg m x t hop k e KK ht selfElem hz (.held z) [] rfl b n D hm hown key kl hx hkey (fun v ps _ => by rw [hq]; exact h v)
theorem GrpIn.put {w w' : World} {m B : Nat} {D : DataW Value} {N : Nat} {val : Int → Option Value} (h : GrpIn w m B D N val) {n : Int} {v : Value} (h0 : 0 ≤ n) (h1 : n < N)
    (hm : w'.ownsMap Tryz.prog 3 selfElem m (B + 1) (D.put (.int .i64 n) (.held v))) : GrpIn w' m (B + 1) (D.put (.int .i64 n) (.held v)) N (updV val n v) where
  mapOwn := hm
  absent := fun k hk => by
    by_cases e : k = n
    · subst e; simp [updV] at hk
    · rw [has_put_other (by simpa using e)]; exact h.absent k (by simpa [updV, e] using hk)
  there := fun k u hk => by
    by_cases e : k = n
    · subst e; exact has_put_same h.mapOwn.isMap (keyLit_i64 _) _
    · rw [has_put_other (by simpa using e)]; exact h.there k u (by simpa [updV, e] using hk)
  held := fun k u hk z => by
    by_cases e : k = n
    · subst e
      rw [atKey_put_same h.mapOwn.isMap (keyLit_i64 _)]
      simp [updV] at hk
      rw [hk]
    · rw [atKey_put_other (by simpa using e)]; exact h.held k u (by simpa [updV, e] using hk) z
  dom := fun k u hk => by
    by_cases e : k = n
    · subst e; exact ⟨h0, h1⟩
    · exact h.dom k u (by simpa [updV, e] using hk)
theorem GrpIn.has {w : World} {m B : Nat} {D : DataW Value} {N : Nat} {val : Int → Option Value} (h : GrpIn w m B D N val) (n : Int) : Maps.has D (.int .i64 n) = (val n).isSome := by
  cases hv : val n with
  | none => rw [h.absent n hv]; rfl
  | some v => rw [h.there n v hv]; rfl
/-- What grouped answers: a number of no page, or the group, and what is wrong with it. -/
def GroupedTo (ps : List PageS) (N K : Nat) (w' : World) (e : Ending) : Prop :=
  (∃ j, ∃ hj : j < ps.length, ¬ (0 ≤ ps[j].n ∧ ps[j].n < (N : Int)) ∧ e = .returned (.tuple #[.map none, .int .i64 2])) ∨
  ((∀ j (hj : j < ps.length), 0 ≤ ps[j].n ∧ ps[j].n < (N : Int)) ∧ ∃ m D, e = .returned (.tuple #[.map (some m), .int .i64 (grpErr ps ps.length)]) ∧ K ≤ m ∧ GrpIn w' m 100 D N (grpVal ps ps.length))
set_option maxRecDepth 100000 in
set_option maxHeartbeats 2000000 in
theorem grouped_any (d : DL) (S : DiskS) (size : Nat) (ps : List PageS) (pa : Option Addr) (pc : Nat) (w : World) (h : DiskRd w d S) (hs : size + 1 ≤ S.safe.length) (hp : pagesAt w pa ps) (hl : ps.length ≤ 100) :
    Calls Tryz.prog 81 #[layV d.p size, .slice pa ps.length pc] w fun e w' => Below w.heap.size w w' ∧
      GroupedTo ps (pagesS S size) w.heap.size w' e := by
  have HH := hid (fun n W hW => lay_has d S size n W (h.below (w' := W) hW) hs)
  unfold layV at HH ⊢
  have HP := hid hp
  have HPm : Hid (pagesS S size ≤ 4096) := by have := h.plates.most; unfold Hid pagesS; omega
  have HMono : Hid (∀ {W : World} {m : Nat} {D : DataW Value}, W.ownsMap Tryz.prog 3 selfElem m ps.length D → W.ownsMap Tryz.prog 3 selfElem m 100 D) := fun {W m D} ⟨es, c, h1, h2, h3, h4⟩ => ⟨es, c, h1, h2, by omega, h4⟩
  clear h hp
  obtain ⟨m1, m2, m3, m4⟩ := new2 w (.cells #[.pointer (some ⟨d.p, 0, none⟩), .int .i64 size] 98) (.map #[] 0)
  have HM1 := hid m1
  have HG0 : Hid (GrpIn ((w.alloc (.cells #[.pointer (some ⟨d.p, 0, none⟩), .int .i64 size] 98)).alloc (.map #[] 0)) (w.heap.size + 1) 0 (.map []) (pagesS S size) (grpVal ps 0)) :=
    ⟨map_empty m2, fun _ _ => rfl, fun n v hv => (by cases hv), fun n v hv => (by cases hv), fun n v hv => (by cases hv)⟩
  have HB0 := hid m3
  have hmk : ∀ W : World, (Instr.makeMap 125 none).run Tryz.prog W = .ok (.map (some W.heap.size)) (W.alloc (.map #[] 0)) := fun W => by kernel_rfl
  clear m1 m2 m3 m4
  go_enter Tryz.func81, Tryz.ntmps81
  go_wp2
  clear hmk
  generalize (w.alloc (.cells #[.pointer (some ⟨d.p, 0, none⟩), .int .i64 size] 98)).alloc (.map #[] 0) = w1 at *
  go_loopw [7, 15] (fun e i wr => ∃ (j : Nat) (D : DataW Value), j ≤ ps.length ∧ e = .int .i64 (grpErr ps j) ∧ i = .int .i64 j ∧ Hid (GrpIn wr (w.heap.size + 1) j D (pagesS S size) (grpVal ps j)) ∧ Hid (∀ k (hk : k < ps.length), k < j → 0 ≤ ps[k].n ∧ ps[k].n < (pagesS S size : Nat)) ∧ Hid (wr.heap[w.heap.size]? = some (.cells #[.pointer (some ⟨d.p, 0, none⟩), .int .i64 size] 98 (0, 0))) ∧ Hid (Below w.heap.size w wr)) (fun _ i _ => ps.length - (intOf i).toNat)
  case atStart => exact ⟨0, _, by omega, rfl, rfl, HG0, fun k _ h => by omega, HM1, HB0⟩
  case round =>
    obtain ⟨j, D, hj, rfl, rfl, hG, hA, hM, hB⟩ := hrel
    by_cases hlt : j < ps.length
    · have hj0 : (0 : Int) ≤ (j : Int) := by omega
      have hj1 : (j : Int) < (ps.length : Int) := by omega
      obtain ⟨b, o, rfl, hc⟩ := HP.out j hlt
      obtain ⟨hc0, hc1⟩ := hc j hlt
      have c0 : wr.cell? ⟨b, o + j * 2, none⟩ = some (.int .i64 ps[j].n) := (hB.out.cell (p := ⟨b, o + j * 2, none⟩) (World.block_lt_of_cell? w _ hc0)).trans hc0
      have c1 : wr.cell? ⟨b, o + j * 2 + 1, none⟩ = some (.slice ps[j].a ps[j].len ps[j].cap) := (hB.out.cell (p := ⟨b, o + j * 2 + 1, none⟩) (World.block_lt_of_cell? w _ hc1)).trans hc1
      have l0 : wr.cell? ⟨w.heap.size, 0, none⟩ = some (.pointer (some ⟨d.p, 0, none⟩)) := cell_of_block hM.out 0
      have l1 : wr.cell? ⟨w.heap.size, 1, none⟩ = some (.int .i64 size) := cell_of_block hM.out 1
      have hpj : ps[j]? = some ps[j] := List.getElem?_eq_getElem hlt
      have HV : Hid (grpVal ps (j + 1) = updV (grpVal ps j) ps[j].n (.slice ps[j].a ps[j].len ps[j].cap)) := by unfold Hid; rw [grpVal, hpj]; rfl
      have HE : Hid (grpErr ps (j + 1) = if (grpVal ps j ps[j].n).isSome ∨ ps[j].len ≠ 512 then 3 else grpErr ps j) := by unfold Hid; rw [grpErr, hpj]
      clear hc hc0 hc1 hpj
      have hwl := lt_of_heap hM.out
      have hal := (Below.refl wr.heap.size wr).alloc (Nat.le_refl _) (.cells #[.int .i64 ps[j].n, .slice ps[j].a ps[j].len ps[j].cap] 63)
      have hpb := block_new wr (.cells #[.int .i64 ps[j].n, .slice ps[j].a ps[j].len ps[j].cap] 63)
      have HAl := hid hal
      have HPb := hid hpb
      have q0 : (wr.alloc (.cells #[.int .i64 ps[j].n, .slice ps[j].a ps[j].len ps[j].cap] 63)).cell? ⟨w.heap.size, 0, none⟩ = some (.pointer (some ⟨d.p, 0, none⟩)) := (hal.cell (p := ⟨w.heap.size, 0, none⟩) hwl).trans l0
      have q1 : (wr.alloc (.cells #[.int .i64 ps[j].n, .slice ps[j].a ps[j].len ps[j].cap] 63)).cell? ⟨w.heap.size, 1, none⟩ = some (.int .i64 size) := (hal.cell (p := ⟨w.heap.size, 1, none⟩) hwl).trans l1
      clear hal hpb
      go_wp2_with fail
      refine (HH.out ps[j].n _ (hB.out.trans (HAl.out.mono hB.out.size))).mono ?_
      rintro e w5 ⟨rfl, hb5⟩
      have HM5 := hid (below_block hb5 (below_block HAl.out hM.out hwl) (by have := HAl.out.size; omega))
      have hP5 := below_block hb5 HPb.out (lt_of_heap HPb.out)
      have HG5 := hid ((hG.out.below HAl.out).below hb5)
      have HB5 := hid ((hB.out.trans (HAl.out.mono hB.out.size)).trans (hb5.mono (by have := HAl.out.size; have := hB.out.size; omega)))
      have p0 : w5.cell? ⟨wr.heap.size, 0, none⟩ = some (.int .i64 ps[j].n) := cell_of_block hP5 0
      have p1 : w5.cell? ⟨wr.heap.size, 1, none⟩ = some (.slice ps[j].a ps[j].len ps[j].cap) := cell_of_block hP5 1
      have hps : pagesS S size ≤ 4096 := HPm.out
      clear hb5 hP5 q0 q1 HAl HPb l0 l1 c0 c1
      by_cases hin : 0 ≤ ps[j].n ∧ ps[j].n < (pagesS S size : Nat)
      · rw [decide_eq_true hin]
        obtain ⟨hx0, hx1⟩ := hin
        have HA6 : Hid (∀ k (hk : k < ps.length), k < j + 1 → 0 ≤ ps[k].n ∧ ps[k].n < (pagesS S size : Nat)) := fun k hk hkj => by
          rcases Nat.lt_or_ge k j with h1 | h1
          · exact hA.out k hk h1
          · obtain rfl : k = j := by omega
            exact ⟨hx0, hx1⟩
        have HQ0 := hid (HG5.out.has ps[j].n)
        generalize hxn : ps[j].n = x at *
        generalize hxa : ps[j].a = pA at *
        generalize hxl : ps[j].len = pL at *
        generalize hxc : ps[j].cap = pC at *
        clear hxn hxa hxl hxc
        cases hq : (grpVal ps j x).isSome with
        | true =>
          have HQ : Hid (Maps.has D (.int .i64 x) = true) := HQ0.out.trans hq
          have HE3 : Hid (grpErr ps (j + 1) = 3) := by unfold Hid; rw [HE.out, if_pos (.inl hq)]
          clear HQ0 hq HE
          go_wp2_with (first
            | (refine wpList_lookup_ok_self rfl (.tmp 25) (.tmp 27) 125 rfl 3 57 (int_keyed Tryz.underlying3) Tryz.underlying125 (Tryz.zeroValue57 _) (w.heap.size + 1) j D rfl HG5.out.mapOwn (.int .i64 x) (.int .i64 x) rfl (keyI (by omega) (by omega)) true HQ.out ?_; intro lv)
            | (refine wpList_mapUpdate_self rfl (.tmp 38) (.tmp 40) (.tmp 42) 125 rfl 3 57 (int_keyed Tryz.underlying3) Tryz.underlying125 (w.heap.size + 1) j D rfl HG5.out.mapOwn (by unfold maxLen; omega) (.int .i64 x) (.slice pA pL pC) (.int .i64 x) rfl rfl (keyI (by omega) (by omega)) ?_; intro w6 hm6 hg6; have HG6 := hid (HG5.out.put hx0 hx1 hm6); have HB6 := hid (HB5.out.trans (below_of_row hg6 HB5.out.size (fun i e => by have := Option.some.inj e; omega))); have HM6 := hid (grown_block hg6 HM5.out (fun e => by have := Option.some.inj e; omega)); clear hm6 hg6))
          refine ⟨⟨j + 1, _, by omega, by rw [HE3.out], by go_num, by rw [HV.out]; exact HG6, HA6, HM6, HB6⟩, by simp [intOf]; omega⟩
        | false =>
          have HQ : Hid (Maps.has D (.int .i64 x) = false) := HQ0.out.trans hq
          by_cases h5 : pL = 512
          · have HE3 : Hid (grpErr ps (j + 1) = grpErr ps j) := by unfold Hid; rw [HE.out, if_neg (by simp [hq, h5])]
            clear HQ0 hq HE
            subst h5
            go_wp2_with (first
              | (refine wpList_lookup_ok_self rfl (.tmp 25) (.tmp 27) 125 rfl 3 57 (int_keyed Tryz.underlying3) Tryz.underlying125 (Tryz.zeroValue57 _) (w.heap.size + 1) j D rfl HG5.out.mapOwn (.int .i64 x) (.int .i64 x) rfl (keyI (by omega) (by omega)) false HQ.out ?_; intro lv)
              | (refine wpList_mapUpdate_self rfl (.tmp 38) (.tmp 40) (.tmp 42) 125 rfl 3 57 (int_keyed Tryz.underlying3) Tryz.underlying125 (w.heap.size + 1) j D rfl HG5.out.mapOwn (by unfold maxLen; omega) (.int .i64 x) (.slice pA 512 pC) (.int .i64 x) rfl rfl (keyI (by omega) (by omega)) ?_; intro w6 hm6 hg6; have HG6 := hid (HG5.out.put hx0 hx1 hm6); have HB6 := hid (HB5.out.trans (below_of_row hg6 HB5.out.size (fun i e => by have := Option.some.inj e; omega))); have HM6 := hid (grown_block hg6 HM5.out (fun e => by have := Option.some.inj e; omega)); clear hm6 hg6))
            refine ⟨⟨j + 1, _, by omega, by rw [HE3.out], by go_num, by rw [HV.out]; exact HG6, HA6, HM6, HB6⟩, by simp [intOf]; omega⟩
          · have HE3 : Hid (grpErr ps (j + 1) = 3) := by unfold Hid; rw [HE.out, if_pos (.inr h5)]
            have h5' : ((pL : Int) == 512) = false := by rw [beq_eq_false_iff_ne]; omega
            clear HQ0 hq HE
            go_wp2_with (first
              | (refine wpList_lookup_ok_self rfl (.tmp 25) (.tmp 27) 125 rfl 3 57 (int_keyed Tryz.underlying3) Tryz.underlying125 (Tryz.zeroValue57 _) (w.heap.size + 1) j D rfl HG5.out.mapOwn (.int .i64 x) (.int .i64 x) rfl (keyI (by omega) (by omega)) false HQ.out ?_; intro lv)
              | (refine wpList_mapUpdate_self rfl (.tmp 38) (.tmp 40) (.tmp 42) 125 rfl 3 57 (int_keyed Tryz.underlying3) Tryz.underlying125 (w.heap.size + 1) j D rfl HG5.out.mapOwn (by unfold maxLen; omega) (.int .i64 x) (.slice pA pL pC) (.int .i64 x) rfl rfl (keyI (by omega) (by omega)) ?_; intro w6 hm6 hg6; have HG6 := hid (HG5.out.put hx0 hx1 hm6); have HB6 := hid (HB5.out.trans (below_of_row hg6 HB5.out.size (fun i e => by have := Option.some.inj e; omega))); have HM6 := hid (grown_block hg6 HM5.out (fun e => by have := Option.some.inj e; omega)); clear hm6 hg6))
            refine ⟨⟨j + 1, _, by omega, by rw [HE3.out], by go_num, by rw [HV.out]; exact HG6, HA6, HM6, HB6⟩, by simp [intOf]; omega⟩
      · rw [decide_eq_false hin]
        have HIn := hid hin
        clear hin
        go_wp2
        go_returns
        exact ⟨HB5.out, .inl ⟨j, hlt, HIn.out, rfl⟩⟩
    · obtain rfl : j = ps.length := by omega
      have hge : ¬ ((ps.length : Int) < (ps.length : Int)) := by omega
      go_wp2
      go_returns
      exact ⟨hB.out, .inr ⟨fun k hk => hA.out k hk hk, _, D, rfl, by omega, ⟨HMono.out hG.out.mapOwn, hG.out.absent, hG.out.there, hG.out.held, hG.out.dom⟩⟩⟩
end Go.Proofs.YtkkmbgjlmdddoabGreat
/- wal.layout.bringHome: a group is written to its homes. -/
namespace Go.Proofs.YtkkmbgjlmdddoabGreat
open Go.RowKit Go.Maps
/-- A disk behind the pages of ks were written to their homes. -/
def homeTo (S : DiskS) (size : Nat) (l : Int → List UInt8) (ks : List Int) : DiskS := ks.foldl (fun S n => S.wrote (1 + (size : Int) + n) ⟨(l n).toArray⟩) S
/-- .. and the log was forgotten. -/
def homeS (S : DiskS) (size : Nat) (l : Int → List UInt8) (ks : List Int) : DiskS := ((homeTo S size l ks).flushed.wrote 0 ⟨(headS []).toArray⟩).flushed
theorem homeTo_facts (size : Nat) (l : Int → List UInt8) : ∀ (ks : List Int) (S : DiskS), (homeTo S size l ks).safe = S.safe ∧ (homeTo S size l ks).ops.length = S.ops.length + ks.length
  | [], S => ⟨rfl, rfl⟩
  | k :: ks, S => by
    obtain ⟨h1, h2⟩ := homeTo_facts size l ks (S.wrote (1 + (size : Int) + k) ⟨(l k).toArray⟩)
    refine ⟨h1, ?_⟩
    show (homeTo (S.wrote (1 + (size : Int) + k) ⟨(l k).toArray⟩) size l ks).ops.length = _
    rw [h2]
    simp [DiskS.wrote]
    omega
theorem homeTo_snoc (S : DiskS) (size : Nat) (l : Int → List UInt8) (ks : List Int) (k : Int) : homeTo S size l (ks ++ [k]) = (homeTo S size l ks).wrote (1 + (size : Int) + k) ⟨(l k).toArray⟩ := by simp [homeTo]
/-- What the group's numbers stand for: 512 bytes each, in blocks that the disk doesn't write. -/
def GrpBytes (w : World) (val : Int → Option Value) (l : Int → List UInt8) (F : Nat → Prop) : Prop := ∀ n v, val n = some v → ∃ ad c, v = .slice (some ad) 512 c ∧ bytesAt w ad (l n) ∧ (l n).length = 512 ∧ ¬ F ad.block
set_option maxRecDepth 100000 in
set_option maxHeartbeats 2000000 in
theorem bring_home (d : DL) (S : DiskS) (F : Nat → Prop) (size m B : Nat) (D : DataW Value) (N : Nat) (val : Int → Option Value) (l : Int → List UInt8) (w : World) (h : AnyAt w d S F) (hF : ∀ i, F i → i < w.heap.size)
    (hg : GrpIn w m B D N val) (hm : ¬ F m) (hB : B ≤ 1000000) (hv : GrpBytes w val l F) (hs : 1 + size + N ≤ S.safe.length) (hk : (grpKeys val N).length ≤ 100) (ho : S.ops.length ≤ 900000) :
    Calls Tryz.prog 76 #[layV d.p size, .map (some m)] w fun e w' => e = .returned (.tuple #[]) ∧ ∃ d', (d'.p = d.p ∧ d'.fv = d.fv ∧ OwnAt w' d' (homeS S size l (grpKeys val N)) (fun i => F i ∨ (w.heap.size ≤ i ∧ i < w'.heap.size))) ∧ AnyAt w' d' (homeS S size l (grpKeys val N)) (fun i => F i ∨ (w.heap.size ≤ i ∧ i < w'.heap.size)) ∧ Keeps F w w' := by
  have hmost := h.rd.plates.most
  have HA0 := hid ((Below.refl w.heap.size w).alloc (Nat.le_refl _) (.cells #[.pointer (some ⟨d.p, 0, none⟩), .int .i64 size] 98))
  have Hb0 := hid (block_new w (.cells #[.pointer (some ⟨d.p, 0, none⟩), .int .i64 size] 98))
  have HNu := hid (fun W hW => grp_numbers m B D N val W (hg.below (w' := W) hW) hB)
  have H := hid h
  have HG := hid hg
  have HV := hid hv
  have HFl := hid hF
  clear h hg hv hF
  unfold layV
  go_enter Tryz.func76, Tryz.ntmps76
  go_wp2_with fail
  generalize w.alloc (.cells #[.pointer (some ⟨d.p, 0, none⟩), .int .i64 size] 98) = wA at *
  refine (HNu.out _ HA0.out).mono ?_
  rintro e w1 ⟨v, rfl, hrow, -, hb1⟩
  obtain ⟨ra, rc, rfl, hints⟩ := row_slice hrow
  have HI := hid hints
  have HB1 := hid (HA0.out.trans (hb1.mono HA0.out.size))
  have HL1 := hid (below_block hb1 Hb0.out (lt_of_heap Hb0.out))
  have HG1 := hid (HG.out.below HB1.out)
  have HD1 := hid ((H.out.below HB1.out).mono (G := fun i => F i ∨ (w1.heap.size ≤ i ∧ i < w1.heap.size)) (fun i hi => .inl hi))
  have hsA : w.heap.size < wA.heap.size := lt_of_heap Hb0.out
  have hs1 := hb1.size
  have HFw : Hid (¬ F w.heap.size) := fun hf => by have := HFl.out _ hf; omega
  have HKey := hid (fun j (hj : j < (grpKeys val N).length) => mem_grpKeys.1 (List.getElem_mem hj))
  have HFa := hid (fun ks => homeTo_facts size l ks S)
  have HHs : Hid (homeS S size l (grpKeys val N) = ((homeTo S size l (grpKeys val N)).flushed.wrote 0 ⟨(headS []).toArray⟩).flushed) := rfl
  clear hrow hb1 HNu hints HA0 Hb0 H HG
  generalize hks : grpKeys val N = ks at *
  have HKs := hid hks
  clear hks
  go_wp2
  go_loopw [9] (fun i wr => ∃ (j : Nat) (dj : DL), j ≤ ks.length ∧ i = .int .i64 j ∧ Hid (dj.p = d.p ∧ dj.fv = d.fv) ∧ Hid (AnyAt wr dj (homeTo S size l (ks.take j)) (fun i => F i ∨ (w1.heap.size ≤ i ∧ i < wr.heap.size))) ∧ Hid (Keeps F w1 wr)) (fun i _ => ks.length - (intOf i).toNat)
  case atStart => exact ⟨0, d, by omega, rfl, ⟨rfl, rfl⟩, HD1, Keeps.refl _ _⟩
  case round =>
    obtain ⟨j, dj, hj, rfl, hp, hD, hK⟩ := hrel
    have hLr := hK.out.heap HL1.out HFw.out
    have l0 : wr.cell? ⟨w.heap.size, 0, none⟩ = some (.pointer (some ⟨d.p, 0, none⟩)) := cell_of_block hLr 0
    have l1 : wr.cell? ⟨w.heap.size, 1, none⟩ = some (.int .i64 size) := cell_of_block hLr 1
    have hsr := hK.out.size
    by_cases hlt : j < ks.length
    · have hj0 : (0 : Int) ≤ (j : Int) := by omega
      have hj1 : (j : Int) < (ks.length : Int) := by omega
      obtain ⟨g, rfl, hg1, hg2, hgc⟩ := HI.out j hlt
      have hcj : wr.cell? ⟨g, j, none⟩ = some (.int .i64 ks[j]) := by
        refine hK.out.cell (ad := ⟨g, j, none⟩) ?_ (fun hf => ?_)
        · rw [hgc j hlt]; simp [hlt]
        · have := HFl.out _ hf
          have e : (⟨g, j, none⟩ : Addr).block = g := rfl
          omega
      obtain ⟨k0, k1, k2⟩ := HKey.out j hlt
      obtain ⟨pv, hpv⟩ := Option.isSome_iff_exists.1 k2
      obtain ⟨ad, pc, rfl, hby, h512, hnf⟩ := HV.out _ _ hpv
      have HBy := hid hby
      have H5 := hid h512
      have HNf := hid hnf
      have HPv := hid hpv
      have HSn : Hid (homeTo S size l (ks.take (j + 1)) = (homeTo S size l (ks.take j)).wrote (1 + (size : Int) + ks[j]) ⟨(l ks[j]).toArray⟩) := by unfold Hid; rw [List.take_succ_eq_append_getElem hlt, homeTo_snoc]
      have HFaj := hid (HFa.out (ks.take j))
      clear hgc hg1 hby h512 hnf hpv k2
      generalize ks[j] = x at *
      have hlook : ∀ W : World, Keeps F w1 W → (Instr.lookup 125 (.map (some m)) (.int .i64 x) false).run Tryz.prog W = .ok (.slice (some ad) 512 pc) W := fun W hW => by
        have hgW := HG1.out.keep hW hm
        obtain ⟨u, hr, hu⟩ := self_lookup hgW.mapOwn (int_keyed Tryz.underlying3) Tryz.underlying125 (Tryz.zeroValue57 W) (keyI (n := x) (by omega) (by omega))
        rw [hr]
        rw [hgW.held x _ HPv.out] at hu
        rw [← DataW.held.inj hu]
      have HLk := hid hlook
      have hhm := lay_home d.p size x wr.drew (by omega) k0 (by omega)
      unfold layV at hhm
      have HHm := hid hhm
      clear hlook hhm
      go_wp2
      refine wp_region_noPanic ?_
      refine wp_region_held_drew (S := fun W => W.cell? ⟨w.heap.size, 0, none⟩ = some (.pointer (some ⟨d.p, 0, none⟩)) ∧ W.cell? ⟨w.heap.size, 1, none⟩ = some (.int .i64 size) ∧ (Instr.lookup 125 (.map (some m)) (.int .i64 x) false).run Tryz.prog W = .ok (.slice (some ad) 512 pc) W) (by kernel_rfl) ⟨l0, l1, HLk.out wr.drew hK.out.drew⟩ (fun hHeld => ?_)
      refine wpAnyH_take (i := 0) (v := ?_) rfl (by kernel_rfl) (by kernel_rfl) (by kernel_rfl) (fun _ _ _ h => h) (Or.inl ⟨by rfl, ?_⟩) (by assumption) ?_
      rotate_left
      · (intro W hSw; (try dsimp only at hSw); obtain ⟨s0, s1, s2⟩ := hSw; go_simp; try with_reducible rfl)
      try simp only [List.getElem_toArray, List.getElem_cons_zero, Act.put, List.setIfInBounds_toArray, List.set_cons_zero, List.set_cons_succ]
      refine wpAnyH_take (i := 1) (v := ?_) rfl (by kernel_rfl) (by kernel_rfl) (by kernel_rfl) (fun _ _ _ h => h) (Or.inl ⟨by rfl, ?_⟩) (by assumption) ?_
      rotate_left
      · (intro W hSw; (try dsimp only at hSw); obtain ⟨s0, s1, s2⟩ := hSw; go_simp; try with_reducible rfl)
      try simp only [List.getElem_toArray, List.getElem_cons_succ, List.getElem_cons_zero, Act.put, List.setIfInBounds_toArray, List.set_cons_zero, List.set_cons_succ]
      refine wpAnyH_take (i := 2) (v := ?_) rfl (by kernel_rfl) (by kernel_rfl) (by kernel_rfl) (fun _ _ _ h => h) (Or.inl ⟨by rfl, ?_⟩) (by assumption) ?_
      rotate_left
      · (intro W hSw; (try dsimp only at hSw); obtain ⟨s0, s1, s2⟩ := hSw; go_simp; try with_reducible rfl)
      try simp only [List.getElem_toArray, List.getElem_cons_succ, List.getElem_cons_zero, Act.put, List.setIfInBounds_toArray, List.set_cons_zero, List.set_cons_succ]
      refine wpAnyH_take (i := 3) (v := ?_) rfl (by kernel_rfl) (by kernel_rfl) (by kernel_rfl) (fun _ _ _ h => h) (Or.inl ⟨by rfl, ?_⟩) (by assumption) ?_
      rotate_left
      · (intro W hSw; (try dsimp only at hSw); obtain ⟨s0, s1, s2⟩ := hSw; go_simp; try with_reducible rfl)
      try simp only [List.getElem_toArray, List.getElem_cons_succ, List.getElem_cons_zero, Act.put, List.setIfInBounds_toArray, List.set_cons_zero, List.set_cons_succ]
      refine wpAnyH_take (i := 5) (v := ?_) rfl (by kernel_rfl) (by kernel_rfl) (by kernel_rfl) (fun _ _ _ h => h) (Or.inl ⟨by rfl, ?_⟩) (by assumption) ?_
      rotate_left
      · (intro W hSw; (try dsimp only at hSw); obtain ⟨s0, s1, s2⟩ := hSw; go_simp; try with_reducible rfl)
      try simp only [List.getElem_toArray, List.getElem_cons_succ, List.getElem_cons_zero, Act.put, List.setIfInBounds_toArray, List.set_cons_zero, List.set_cons_succ]
      refine wpAnyH_take (i := 6) (v := ?_) rfl (by kernel_rfl) (by kernel_rfl) (by kernel_rfl) (fun _ _ _ h => h) (Or.inl ⟨by rfl, ?_⟩) (by assumption) ?_
      rotate_left
      · (intro W hSw; (try dsimp only at hSw); obtain ⟨s0, s1, s2⟩ := hSw; go_simp; try with_reducible rfl)
      try simp only [List.getElem_toArray, List.getElem_cons_succ, List.getElem_cons_zero, Act.put, List.setIfInBounds_toArray, List.set_cons_zero, List.set_cons_succ]
      refine wpAnyH_take (i := 7) (v := ?_) rfl (by kernel_rfl) (by kernel_rfl) (by kernel_rfl) (fun _ _ _ h => h) (Or.inl ⟨by rfl, ?_⟩) (by assumption) ?_
      rotate_left
      · (intro W hSw; (try dsimp only at hSw); obtain ⟨s0, s1, s2⟩ := hSw; go_simp; try with_reducible rfl)
      try simp only [List.getElem_toArray, List.getElem_cons_succ, List.getElem_cons_zero, Act.put, List.setIfInBounds_toArray, List.set_cons_zero, List.set_cons_succ]
      refine wpAnyH_ready (rs := [4]) (by kernel_rfl) (by simp) (AllReadyH.cons rfl (fun K hKK => ?_) AllReadyH.nil)
      rw [if_pos (by rfl)]
      go_simp
      refine HHm.out.mono ?_
      clear HHm
      rintro e w2 ⟨rfl, hb2⟩
      have hK2 : Keeps F w1 w2 := hK.out.drew.andBelow hb2
      have hL2 := hK2.heap HL1.out HFw.out
      have m0 : w2.cell? ⟨w.heap.size, 0, none⟩ = some (.pointer (some ⟨d.p, 0, none⟩)) := cell_of_block hL2 0
      have m1 : w2.cell? ⟨w.heap.size, 1, none⟩ = some (.int .i64 size) := cell_of_block hL2 1
      have hs2 := hb2.size
      have hs2' : wr.heap.size ≤ w2.heap.size := hs2
      have hD2 : AnyAt w2 dj (homeTo S size l (ks.take j)) (fun i => F i ∨ (w1.heap.size ≤ i ∧ i < w2.heap.size)) := ((hD.out.below (w' := wr.drew) (Below.refl _ _).drew).below hb2).later (w1 := wr) hs2'
      have hby2 : bytesAt w2 ad (l x) := fun q hq => hK2.cell ((HB1.out.cell (World.block_lt_of_cell? w _ (HBy.out q hq))).trans (HBy.out q hq)) (by rw [add_block]; exact HNf.out)
      have hwr := at_write dj (homeTo S size l (ks.take j)) (fun i => F i ∨ (w1.heap.size ≤ i ∧ i < w2.heap.size)) (1 + (size : Int) + x) (l x) ad pc w2 hD2 (by rw [HFaj.out.2, List.length_take]; omega) (by omega) (by rw [HFaj.out.1]; omega) H5.out hby2
      rw [hp.out.1, hp.out.2] at hwr
      have HWr := hid hwr
      have HK2 := hid hK2
      clear hb2 hL2 hwr hby2 hD2 hK2
      go_wp2_with fail
      refine hKK.out _ _ ⟨m0, m1, HLk.out w2 HK2.out⟩ (fun hHeld => ?_)
      clear hKK K
      try simp only [List.getElem_toArray, List.getElem_cons_succ, List.getElem_cons_zero, Act.put, List.setIfInBounds_toArray, List.set_cons_zero, List.set_cons_succ]
      refine wpAnyH_ready (rs := [8]) (by kernel_rfl) (by simp) (AllReadyH.cons rfl (fun K hKK => ?_) AllReadyH.nil)
      rw [if_pos (by rfl)]
      go_simp
      refine HWr.out.mono ?_
      clear HWr
      rintro e w3 ⟨rfl, d3, e3, hA3, hK3⟩
      have hK13 : Keeps F w1 w3 := HK2.out.trans hK3 (fun i hi => hi.imp id (fun h => h.1))
      have hL3 := hK13.heap HL1.out HFw.out
      have HD3 := hid (hA3.next (w := w1) (w1 := w2) HK2.out.size hK3.size)
      rw [← HSn.out] at HD3
      have HK13 := hid hK13
      have HE3 : Hid (d3.p = d.p ∧ d3.fv = d.fv) := ⟨e3.1, e3.2.1⟩
      have n0 : w3.cell? ⟨w.heap.size, 0, none⟩ = some (.pointer (some ⟨d.p, 0, none⟩)) := cell_of_block hL3 0
      have n1 : w3.cell? ⟨w.heap.size, 1, none⟩ = some (.int .i64 size) := cell_of_block hL3 1
      clear hA3 hK3 hK13 hL3 e3
      go_wp2_with fail
      refine hKK.out _ _ ⟨n0, n1, HLk.out w3 HK13.out⟩ (fun hHeld => ?_)
      clear hKK K
      refine wpAnyH_done (by kernel_rfl) ?_ _
      refine NoPanic.normal ?_
      go_wp2
      exact ⟨⟨j + 1, d3, by omega, by go_num, HE3, HD3, HK13⟩, by simp [intOf]; omega⟩
    · obtain rfl : j = ks.length := by omega
      have hge : ¬ ((ks.length : Int) < (ks.length : Int)) := by omega
      have hDk := hD.out
      rw [List.take_length] at hDk
      have HFaK := hid (HFa.out ks)
      have hfl := at_flush dj (homeTo S size l ks) _ wr hDk (by rw [HFaK.out.2]; omega)
      rw [hp.out.1, hp.out.2] at hfl
      have HFls := hid hfl
      clear hfl hDk
      go_wp2_with fail
      refine HFls.out.mono ?_
      clear HFls
      rintro e w2 ⟨rfl, d2, e2, hA2, hK2⟩
      have hK12 : Keeps F w1 w2 := hK.out.trans hK2 (fun i hi => hi.imp id (fun h => h.1))
      have HD2 := hid (hA2.next (w := w1) (w1 := wr) hK.out.size hK2.size)
      have hL2 := hK12.heap HL1.out HFw.out
      have HK12 := hid hK12
      have HE2 : Hid (d2.p = d.p ∧ d2.fv = d.fv) := ⟨e2.1, e2.2.1⟩
      have m0 : w2.cell? ⟨w.heap.size, 0, none⟩ = some (.pointer (some ⟨d.p, 0, none⟩)) := cell_of_block hL2 0
      clear hA2 hK2 hK12 hL2 e2 l0 l1
      have HHd := hid (head_of [] none 0 w2.drew (fun j hj => by simp at hj) (by decide) (fun n hn => by cases hn))
      have hlh : (headS []).length = 512 := length_headTo [] 0 (by decide) (by decide)
      have HLh := hid hlh
      clear hlh
      generalize headS [] = HS0 at *
      go_wp2
      refine wp_region_noPanic ?_
      refine wp_region_held_drew (S := fun W => W.cell? ⟨w.heap.size, 0, none⟩ = some (.pointer (some ⟨d.p, 0, none⟩))) (by kernel_rfl) m0 (fun hHeld => ?_)
      refine wpAnyH_take (i := 0) (v := ?_) rfl (by kernel_rfl) (by kernel_rfl) (by kernel_rfl) (fun _ _ _ h => h) (Or.inl ⟨by rfl, ?_⟩) (by assumption) ?_
      rotate_left
      · (intro W hSw; (try dsimp only at hSw); go_simp; try with_reducible rfl)
      try simp only [List.getElem_toArray, List.getElem_cons_zero, Act.put, List.setIfInBounds_toArray, List.set_cons_zero, List.set_cons_succ]
      refine wpAnyH_take (i := 1) (v := ?_) rfl (by kernel_rfl) (by kernel_rfl) (by kernel_rfl) (fun _ _ _ h => h) (Or.inl ⟨by rfl, ?_⟩) (by assumption) ?_
      rotate_left
      · (intro W hSw; (try dsimp only at hSw); go_simp; try with_reducible rfl)
      try simp only [List.getElem_toArray, List.getElem_cons_succ, List.getElem_cons_zero, Act.put, List.setIfInBounds_toArray, List.set_cons_zero, List.set_cons_succ]
      refine wpAnyH_ready (rs := [2]) (by kernel_rfl) (by simp) (AllReadyH.cons rfl (fun K hKK => ?_) AllReadyH.nil)
      rw [if_pos (by rfl)]
      go_simp
      refine HHd.out.mono ?_
      clear HHd
      rintro e w3 ⟨hb, rfl, hhb, hob, hb3⟩
      have hK3 : Keeps F w1 w3 := HK12.out.drew.andBelow hb3
      have hL3 := hK3.heap HL1.out HFw.out
      have n0 : w3.cell? ⟨w.heap.size, 0, none⟩ = some (.pointer (some ⟨d.p, 0, none⟩)) := cell_of_block hL3 0
      have hs3 : w2.heap.size ≤ w3.heap.size := hb3.size
      have hD3 := ((HD2.out.below (w' := w2.drew) (Below.refl _ _).drew).below hb3).later (w1 := w2) hs3
      have hwr := at_write d2 _ _ 0 HS0 ⟨hb, 0, none⟩ 512 w3 hD3 (by simp only [DiskS.flushed, List.length_append, List.length_singleton]; rw [HFaK.out.2]; omega) (by omega) (by show (0 : Int) < ((imgS _).length : Nat); rw [length_imgS, HFaK.out.1]; omega) HLh.out hob.at
      rw [HE2.out.1, HE2.out.2] at hwr
      have HWr := hid hwr
      have HK3 := hid hK3
      clear hb3 hL3 hwr hD3 hK3 hob hhb
      go_wp2_with fail
      refine hKK.out _ _ n0 (fun hHeld => ?_)
      clear hKK K
      try simp only [List.getElem_toArray, List.getElem_cons_succ, List.getElem_cons_zero, Act.put, List.setIfInBounds_toArray, List.set_cons_zero, List.set_cons_succ]
      refine wpAnyH_ready (rs := [3]) (by kernel_rfl) (by simp) (AllReadyH.cons rfl (fun K hKK => ?_) AllReadyH.nil)
      rw [if_pos (by rfl)]
      go_simp
      refine HWr.out.mono ?_
      clear HWr
      rintro e w4 ⟨rfl, d4, e4, hA4, hK4⟩
      have hK14 : Keeps F w1 w4 := HK3.out.trans hK4 (fun i hi => hi.imp id (fun h => h.1))
      have hL4 := hK14.heap HL1.out HFw.out
      have q0 : w4.cell? ⟨w.heap.size, 0, none⟩ = some (.pointer (some ⟨d.p, 0, none⟩)) := cell_of_block hL4 0
      have hD4 := hA4.next (w := w1) (w1 := w3) HK3.out.size hK4.size
      have hfl := at_flush d4 _ _ w4 hD4 (by simp only [DiskS.wrote, DiskS.flushed, List.length_append, List.length_singleton]; rw [HFaK.out.2]; omega)
      rw [e4.1, e4.2.1] at hfl
      have HFls := hid hfl
      have HK14 := hid hK14
      clear hA4 hK4 hK14 hL4 hD4 hfl e4
      go_wp2_with fail
      refine hKK.out _ _ q0 (fun hHeld => ?_)
      clear hKK K
      refine wpAnyH_done (by kernel_rfl) ?_ _
      refine NoPanic.normal ?_
      go_wp2_with fail
      refine HFls.out.mono ?_
      clear HFls
      rintro e w5 ⟨rfl, d5, e5, hA5, hK5⟩
      have hK15 : Keeps F w1 w5 := HK14.out.trans hK5 (fun i hi => hi.imp id (fun h => h.1))
      have HD5 := hid (hA5.next (w := w1) (w1 := w4) HK14.out.size hK5.size)
      have HK15 := hid hK15
      have HE5 := hid (And.intro e5.1 e5.2.1)
      have HO5 := hid (e5.2.2.next (w := w1) (w1 := w4) HK14.out.size hK5.size)
      clear hA5 hK5 hK15 e5
      go_wp2
      go_returns
      have hs01 := HB1.out.size
      refine ⟨rfl, d5, ⟨HE5.out.1, HE5.out.2, ?_⟩, ?_, (Keeps.of_below HB1.out).trans HK15.out (fun i hi => .inl hi)⟩
      · rw [HKs.out, HHs.out]
        exact HO5.out.mono (fun i hi => hi.imp id (fun h => ⟨by omega, h.2⟩))
      · rw [HKs.out, HHs.out]
        exact HD5.out.mono (fun i hi => hi.imp id (fun h => ⟨by omega, h.2⟩))
end Go.Proofs.YtkkmbgjlmdddoabGreat
/- wal.layout.write: a group is written to the log, its head, and its homes. -/
namespace Go.Proofs.YtkkmbgjlmdddoabGreat
open Go.RowKit Go.Maps
/-- A disk behind the first j of the group's pages were written to the log. -/
def logTo (S : DiskS) (l : Int → List UInt8) (ks : List Int) (j : Nat) : DiskS := (List.range j).foldl (fun S (i : Nat) => S.wrote (1 + (i : Int)) ⟨(l (ks.getD i 0)).toArray⟩) S
theorem logTo_succ (S : DiskS) (l : Int → List UInt8) (ks : List Int) (j : Nat) (h : j < ks.length) : logTo S l ks (j + 1) = (logTo S l ks j).wrote (1 + (j : Int)) ⟨(l ks[j]).toArray⟩ := by
  rw [logTo, List.range_succ, List.foldl_append]
  simp [logTo, h]
theorem logTo_facts (S : DiskS) (l : Int → List UInt8) (ks : List Int) : ∀ j, (logTo S l ks j).safe = S.safe ∧ (logTo S l ks j).ops.length = S.ops.length + j
  | 0 => ⟨rfl, rfl⟩
  | j + 1 => by
    obtain ⟨h1, h2⟩ := logTo_facts S l ks j
    rw [logTo, List.range_succ, List.foldl_append]
    refine ⟨h1, ?_⟩
    show ((logTo S l ks j).ops ++ [_]).length = _
    rw [List.length_append, h2]; rfl
/-- A disk behind a group was written. -/
def writtenS (S : DiskS) (size : Nat) (l : Int → List UInt8) (ks : List Int) : DiskS :=
  homeS (((logTo S l ks ks.length).flushed.wrote 0 ⟨(headS (ks.map Int.toNat)).toArray⟩).flushed) size l ks
theorem natsZ_toNat (ks : List Int) (h : ∀ k ∈ ks, 0 ≤ k) : natsZ (ks.map Int.toNat) = ks := by
  unfold natsZ
  rw [List.map_map]
  conv => rhs; rw [← List.map_id ks]
  exact List.map_congr_left (fun k hk => by have := h k hk; simp; omega)
set_option maxRecDepth 100000 in
set_option maxHeartbeats 2000000 in
theorem write_group (d : DL) (S : DiskS) (F : Nat → Prop) (size m B : Nat) (D : DataW Value) (N : Nat) (val : Int → Option Value) (l : Int → List UInt8) (w : World) (h : AnyAt w d S F) (hF : ∀ i, F i → i < w.heap.size)
    (hg : GrpIn w m B D N val) (hm : ¬ F m) (hB : B ≤ 1000000) (hv : GrpBytes w val l F) (hs : 1 + size + N ≤ S.safe.length) (hk : (grpKeys val N).length ≤ 100) (hk2 : (grpKeys val N).length ≤ size) (ho : S.ops.length ≤ 800000) :
    Calls Tryz.prog 82 #[layV d.p size, .map (some m)] w fun e w' => e = .returned (.tuple #[]) ∧ ∃ d', (d'.p = d.p ∧ d'.fv = d.fv ∧ OwnAt w' d' (writtenS S size l (grpKeys val N)) (fun i => F i ∨ (w.heap.size ≤ i ∧ i < w'.heap.size))) ∧ AnyAt w' d' (writtenS S size l (grpKeys val N)) (fun i => F i ∨ (w.heap.size ≤ i ∧ i < w'.heap.size)) ∧ Keeps F w w' := by
  have hmost := h.rd.plates.most
  have HA0 := hid ((Below.refl w.heap.size w).alloc (Nat.le_refl _) (.cells #[.pointer (some ⟨d.p, 0, none⟩), .int .i64 size] 98))
  have Hb0 := hid (block_new w (.cells #[.pointer (some ⟨d.p, 0, none⟩), .int .i64 size] 98))
  have HNu := hid (fun W hW => grp_numbers m B D N val W (hg.below (w' := W) hW) hB)
  have H := hid h
  have HG := hid hg
  have HV := hid hv
  have HFl := hid hF
  have HMw := hid hg.mapOwn.lt
  clear h hg hv hF
  unfold layV
  go_enter Tryz.func82, Tryz.ntmps82
  go_wp2_with fail
  generalize w.alloc (.cells #[.pointer (some ⟨d.p, 0, none⟩), .int .i64 size] 98) = wA at *
  refine (HNu.out _ HA0.out).mono ?_
  rintro e w1 ⟨v, rfl, hrow, -, hb1⟩
  obtain ⟨ra, rc, rfl, hints⟩ := row_slice hrow
  have HI := hid hints
  have HB1 := hid (HA0.out.trans (hb1.mono HA0.out.size))
  have HL1 := hid (below_block hb1 Hb0.out (lt_of_heap Hb0.out))
  have HG1 := hid (HG.out.below HB1.out)
  have HD1 := hid ((H.out.below HB1.out).mono (G := fun i => F i ∨ (w1.heap.size ≤ i ∧ i < w1.heap.size)) (fun i hi => .inl hi))
  have hsA : w.heap.size < wA.heap.size := lt_of_heap Hb0.out
  have hs1 := hb1.size
  have HFw : Hid (¬ F w.heap.size) := fun hf => by have := HFl.out _ hf; omega
  have HKey := hid (fun j (hj : j < (grpKeys val N).length) => mem_grpKeys.1 (List.getElem_mem hj))
  have HFa := hid (fun ks => logTo_facts S l ks)
  clear hrow hb1 HNu hints HA0 Hb0 H HG
  generalize hks : grpKeys val N = ks at *
  have HKs := hid hks
  clear hks
  have HNs := hid (natsZ_toNat ks (fun k hk => by obtain ⟨q, hq, rfl⟩ := List.getElem_of_mem hk; exact (HKey.out q hq).1))
  have HNm : Hid (∀ n ∈ ks.map Int.toNat, n < 65536) := fun n hn => by
    obtain ⟨k, hk, rfl⟩ := List.mem_map.1 hn
    obtain ⟨q, hq, rfl⟩ := List.getElem_of_mem hk
    have := (HKey.out q hq).2.1
    omega
  go_wp2
  go_loopw [11] (fun i wr => ∃ (j : Nat) (dj : DL), j ≤ ks.length ∧ i = .int .i64 j ∧ Hid (dj.p = d.p ∧ dj.fv = d.fv) ∧ Hid (AnyAt wr dj (logTo S l ks j) (fun i => F i ∨ (w1.heap.size ≤ i ∧ i < wr.heap.size))) ∧ Hid (Keeps F w1 wr)) (fun i _ => ks.length - (intOf i).toNat)
  case atStart => exact ⟨0, d, by omega, rfl, ⟨rfl, rfl⟩, HD1, Keeps.refl _ _⟩
  case round =>
    obtain ⟨j, dj, hj, rfl, hp, hD, hK⟩ := hrel
    have hLr := hK.out.heap HL1.out HFw.out
    have l0 : wr.cell? ⟨w.heap.size, 0, none⟩ = some (.pointer (some ⟨d.p, 0, none⟩)) := cell_of_block hLr 0
    have l1 : wr.cell? ⟨w.heap.size, 1, none⟩ = some (.int .i64 size) := cell_of_block hLr 1
    have hsr := hK.out.size
    by_cases hlt : j < ks.length
    · have hj0 : (0 : Int) ≤ (j : Int) := by omega
      have hj1 : (j : Int) < (ks.length : Int) := by omega
      obtain ⟨g, rfl, hg1, hg2, hgc⟩ := HI.out j hlt
      have hcj : wr.cell? ⟨g, j, none⟩ = some (.int .i64 ks[j]) := by
        refine hK.out.cell (ad := ⟨g, j, none⟩) ?_ (fun hf => ?_)
        · rw [hgc j hlt]; simp [hlt]
        · have := HFl.out _ hf
          have e : (⟨g, j, none⟩ : Addr).block = g := rfl
          omega
      obtain ⟨k0, k1, k2⟩ := HKey.out j hlt
      obtain ⟨pv, hpv⟩ := Option.isSome_iff_exists.1 k2
      obtain ⟨ad, pc, rfl, hby, h512, hnf⟩ := HV.out _ _ hpv
      have hby2 : bytesAt wr ad (l ks[j]) := fun q hq => hK.out.cell ((HB1.out.cell (World.block_lt_of_cell? w _ (hby q hq))).trans (hby q hq)) (by rw [add_block]; exact hnf)
      have hlook : (Instr.lookup 125 (.map (some m)) (.int .i64 ks[j]) false).run Tryz.prog wr = .ok (.slice (some ad) 512 pc) wr := by
        have hgW := HG1.out.keep hK.out hm
        obtain ⟨u, hr, hu⟩ := self_lookup hgW.mapOwn (int_keyed Tryz.underlying3) Tryz.underlying125 (Tryz.zeroValue57 wr) (keyI (n := ks[j]) (by omega) (by omega))
        rw [hr]
        rw [hgW.held ks[j] _ hpv] at hu
        rw [← DataW.held.inj hu]
      have HSn := hid (logTo_succ S l ks j hlt)
      have hwr := at_write dj (logTo S l ks j) (fun i => F i ∨ (w1.heap.size ≤ i ∧ i < wr.heap.size)) (1 + (j : Int)) (l ks[j]) ad pc wr hD.out (by rw [(HFa.out ks j).2]; omega) (by omega) (by rw [(HFa.out ks j).1]; omega) h512 hby2
      rw [hp.out.1, hp.out.2, ← HSn.out] at hwr
      have HWr := hid hwr
      clear hgc hg1 hby h512 hnf hpv k2 hby2 hwr HSn
      generalize ks[j] = x at *
      go_wp2_with fail
      refine HWr.out.mono ?_
      clear HWr
      rintro e w3 ⟨rfl, d3, e3, hA3, hK3⟩
      have HK13 : Hid (Keeps F w1 w3) := hK.out.trans hK3 (fun i hi => hi.imp id (fun h => h.1))
      have HD3 := hid (hA3.next (w := w1) (w1 := wr) hK.out.size hK3.size)
      have HE3 : Hid (d3.p = d.p ∧ d3.fv = d.fv) := ⟨e3.1, e3.2.1⟩
      clear hA3 hK3 e3 l0 l1 hcj hlook hLr
      go_wp2
      exact ⟨⟨j + 1, d3, by omega, by go_num, HE3, HD3, HK13⟩, by simp [intOf]; omega⟩
    · obtain rfl : j = ks.length := by omega
      have hge : ¬ ((ks.length : Int) < (ks.length : Int)) := by omega
      have HFaK := hid (HFa.out ks ks.length)
      have hfl := at_flush dj (logTo S l ks ks.length) _ wr hD.out (by rw [HFaK.out.2]; omega)
      rw [hp.out.1, hp.out.2] at hfl
      have HFls := hid hfl
      clear hfl
      go_wp2_with fail
      refine HFls.out.mono ?_
      clear HFls
      rintro e w2 ⟨rfl, d2, e2, hA2, hK2⟩
      have hK12 : Keeps F w1 w2 := hK.out.trans hK2 (fun i hi => hi.imp id (fun h => h.1))
      have HD2 := hid (hA2.next (w := w1) (w1 := wr) hK.out.size hK2.size)
      have hL2 := hK12.heap HL1.out HFw.out
      have HE2 : Hid (d2.p = d.p ∧ d2.fv = d.fv) := ⟨e2.1, e2.2.1⟩
      have m0 : w2.cell? ⟨w.heap.size, 0, none⟩ = some (.pointer (some ⟨d.p, 0, none⟩)) := cell_of_block hL2 0
      have hin2 : intsAt w2.drew ra (natsZ (ks.map Int.toNat)) := by
        rw [HNs.out]
        intro j hj
        obtain ⟨g, rfl, hg1, hg2, hgc⟩ := HI.out j hj
        refine ⟨g, 0, rfl, fun i hi => ?_⟩
        rw [Nat.zero_add]
        refine hK12.drew.cell (ad := ⟨g, i, none⟩) ?_ (fun hf => ?_)
        · rw [hgc i hi]; simp [hi]
        · have := HFl.out _ hf
          have e : (⟨g, i, none⟩ : Addr).block = g := rfl
          omega
      have hhd := head_of (ks.map Int.toNat) ra rc w2.drew hin2 (by rw [List.length_map]; omega) HNm.out
      rw [List.length_map] at hhd
      have HHd := hid hhd
      have hlh : (headS (ks.map Int.toNat)).length = 512 := length_headTo _ _ (Nat.le_refl _) (by rw [List.length_map]; omega)
      have HLh := hid hlh
      have HK12 := hid hK12
      have HWS : Hid (writtenS S size l ks = homeS (((logTo S l ks ks.length).flushed.wrote 0 ⟨(headS (ks.map Int.toNat)).toArray⟩).flushed) size l ks) := rfl
      clear hA2 hK2 hK12 hL2 e2 l0 l1 hlh hhd hin2 hLr HNs HNm
      generalize headS (ks.map Int.toNat) = HS0 at *
      go_wp2
      refine wp_region_noPanic ?_
      refine wp_region_held_drew (S := fun W => W.cell? ⟨w.heap.size, 0, none⟩ = some (.pointer (some ⟨d.p, 0, none⟩))) (by kernel_rfl) m0 (fun hHeld => ?_)
      refine wpAnyH_take (i := 0) (v := ?_) rfl (by kernel_rfl) (by kernel_rfl) (by kernel_rfl) (fun _ _ _ h => h) (Or.inl ⟨by rfl, ?_⟩) (by assumption) ?_
      rotate_left
      · (intro W hSw; (try dsimp only at hSw); go_simp; try with_reducible rfl)
      try simp only [List.getElem_toArray, List.getElem_cons_zero, Act.put, List.setIfInBounds_toArray, List.set_cons_zero, List.set_cons_succ]
      refine wpAnyH_take (i := 1) (v := ?_) rfl (by kernel_rfl) (by kernel_rfl) (by kernel_rfl) (fun _ _ _ h => h) (Or.inl ⟨by rfl, ?_⟩) (by assumption) ?_
      rotate_left
      · (intro W hSw; (try dsimp only at hSw); go_simp; try with_reducible rfl)
      try simp only [List.getElem_toArray, List.getElem_cons_succ, List.getElem_cons_zero, Act.put, List.setIfInBounds_toArray, List.set_cons_zero, List.set_cons_succ]
      refine wpAnyH_take (i := 2) (v := ?_) rfl (by kernel_rfl) (by kernel_rfl) (by kernel_rfl) (fun _ _ _ h => h) (Or.inl ⟨by rfl, ?_⟩) (by assumption) ?_
      rotate_left
      · (intro W hSw; (try dsimp only at hSw); go_simp; try with_reducible rfl)
      try simp only [List.getElem_toArray, List.getElem_cons_succ, List.getElem_cons_zero, Act.put, List.setIfInBounds_toArray, List.set_cons_zero, List.set_cons_succ]
      refine wpAnyH_ready (rs := [3]) (by kernel_rfl) (by simp) (AllReadyH.cons rfl (fun K hKK => ?_) AllReadyH.nil)
      rw [if_pos (by rfl)]
      go_simp
      refine HHd.out.mono ?_
      clear HHd
      rintro e w3 ⟨hb, rfl, hhb, hob, hb3⟩
      have hK3 : Keeps F w1 w3 := HK12.out.drew.andBelow hb3
      have hL3 := hK3.heap HL1.out HFw.out
      have n0 : w3.cell? ⟨w.heap.size, 0, none⟩ = some (.pointer (some ⟨d.p, 0, none⟩)) := cell_of_block hL3 0
      have hs3 : w2.heap.size ≤ w3.heap.size := hb3.size
      have hD3 := ((HD2.out.below (w' := w2.drew) (Below.refl _ _).drew).below hb3).later (w1 := w2) hs3
      have hwr := at_write d2 _ _ 0 HS0 ⟨hb, 0, none⟩ 512 w3 hD3 (by simp only [DiskS.flushed, List.length_append, List.length_singleton]; rw [HFaK.out.2]; omega) (by omega) (by show (0 : Int) < ((imgS _).length : Nat); rw [length_imgS, HFaK.out.1]; omega) HLh.out hob.at
      rw [HE2.out.1, HE2.out.2] at hwr
      have HWr := hid hwr
      have HK3 := hid hK3
      clear hb3 hL3 hwr hD3 hK3 hob hhb
      go_wp2_with fail
      refine hKK.out _ _ n0 (fun hHeld => ?_)
      clear hKK K
      try simp only [List.getElem_toArray, List.getElem_cons_succ, List.getElem_cons_zero, Act.put, List.setIfInBounds_toArray, List.set_cons_zero, List.set_cons_succ]
      refine wpAnyH_ready (rs := [4]) (by kernel_rfl) (by simp) (AllReadyH.cons rfl (fun K hKK => ?_) AllReadyH.nil)
      rw [if_pos (by rfl)]
      go_simp
      refine HWr.out.mono ?_
      clear HWr
      rintro e w4 ⟨rfl, d4, e4, hA4, hK4⟩
      have hK14 : Keeps F w1 w4 := HK3.out.trans hK4 (fun i hi => hi.imp id (fun h => h.1))
      have hL4 := hK14.heap HL1.out HFw.out
      have q0 : w4.cell? ⟨w.heap.size, 0, none⟩ = some (.pointer (some ⟨d.p, 0, none⟩)) := cell_of_block hL4 0
      have hD4 := hA4.next (w := w1) (w1 := w3) HK3.out.size hK4.size
      have hfl := at_flush d4 _ _ w4 hD4 (by simp only [DiskS.wrote, DiskS.flushed, List.length_append, List.length_singleton]; rw [HFaK.out.2]; omega)
      rw [e4.1, e4.2.1] at hfl
      have HFls := hid hfl
      have HK14 := hid hK14
      clear hA4 hK4 hK14 hL4 hD4 hfl e4
      go_wp2_with fail
      refine hKK.out _ _ q0 (fun hHeld => ?_)
      clear hKK K
      refine wpAnyH_done (by kernel_rfl) ?_ _
      refine NoPanic.normal ?_
      go_wp2_with fail
      refine HFls.out.mono ?_
      clear HFls
      rintro e w5 ⟨rfl, d5, e5, hA5, hK5⟩
      have hK15 : Keeps F w1 w5 := HK14.out.trans hK5 (fun i hi => hi.imp id (fun h => h.1))
      have hD5 := hA5.next (w := w1) (w1 := w4) HK14.out.size hK5.size
      have hL5 := hK15.heap HL1.out HFw.out
      have r0 : w5.cell? ⟨w.heap.size, 0, none⟩ = some (.pointer (some ⟨d.p, 0, none⟩)) := cell_of_block hL5 0
      have r1 : w5.cell? ⟨w.heap.size, 1, none⟩ = some (.int .i64 size) := cell_of_block hL5 1
      have hmw : m < w.heap.size := HMw.out
      have hF5 : ∀ i, F i ∨ (w1.heap.size ≤ i ∧ i < w5.heap.size) → i < w5.heap.size := fun i hi => hi.elim (fun h => by have := HFl.out i h; have := HB1.out.size; have := hK15.size; omega) (fun h => h.2)
      have hm5 : ¬ (F m ∨ (w1.heap.size ≤ m ∧ m < w5.heap.size)) := fun h => h.elim hm (fun h => by have := HB1.out.size; omega)
      have hv5 : GrpBytes w5 val l (fun i => F i ∨ (w1.heap.size ≤ i ∧ i < w5.heap.size)) := fun n v hnv => by
        obtain ⟨ad, c, e, hby, h512, hnf⟩ := HV.out n v hnv
        refine ⟨ad, c, e, fun q hq => hK15.cell ((HB1.out.cell (World.block_lt_of_cell? w _ (hby q hq))).trans (hby q hq)) (by rw [add_block]; exact hnf), h512, fun hf => hf.elim hnf (fun hh => ?_)⟩
        have := World.block_lt_of_cell? w _ (hby 0 (by rw [h512]; decide))
        rw [add_block] at this
        have := HB1.out.size
        omega
      have hbr := bring_home d5 _ (fun i => F i ∨ (w1.heap.size ≤ i ∧ i < w5.heap.size)) size m B D N val l w5 hD5 hF5 (HG1.out.keep hK15 hm) hm5 hB hv5 (by show 1 + size + N ≤ (imgS _).length; rw [length_imgS]; show 1 + size + N ≤ (imgS _).length; rw [length_imgS, HFaK.out.1]; exact hs) (by rw [HKs.out]; exact hk) (by simp only [DiskS.wrote, DiskS.flushed, List.length_append, List.length_singleton]; rw [HFaK.out.2]; omega)
      rw [e5.1, e5.2.1, HKs.out, ← HWS.out] at hbr
      unfold layV at hbr
      have HBr := hid hbr
      have HK15 := hid hK15
      clear hA5 hK5 hK15 e5 hD5 hL5 hF5 hm5 hv5 hbr
      go_wp2_with fail
      refine HBr.out.mono ?_
      clear HBr
      rintro e w6 ⟨rfl, d6, e6, hA6, hK6⟩
      have hK16 : Keeps F w1 w6 := HK15.out.trans hK6 (fun i hi => hi.imp id (fun h => h.1))
      have HD6 := hid (hA6.next (w := w1) (w1 := w5) HK15.out.size hK6.size)
      have HK16 := hid hK16
      have HE6 := hid (And.intro e6.1 e6.2.1)
      have HO6 := hid (e6.2.2.next (w := w1) (w1 := w5) HK15.out.size hK6.size)
      clear hA6 hK6 hK16 e6
      go_wp2
      go_returns
      have hs01 := HB1.out.size
      refine ⟨rfl, d6, ⟨HE6.out.1, HE6.out.2, ?_⟩, ?_, (Keeps.of_below HB1.out).trans HK16.out (fun i hi => .inl hi)⟩
      · rw [HKs.out]
        exact HO6.out.mono (fun i hi => hi.imp id (fun h => ⟨by omega, h.2⟩))
      · rw [HKs.out]
        exact HD6.out.mono (fun i hi => hi.imp id (fun h => ⟨by omega, h.2⟩))
end Go.Proofs.YtkkmbgjlmdddoabGreat
/- The log's own calls: of nil, and of a log. -/
namespace Go.Proofs.YtkkmbgjlmdddoabGreat
open Go.RowKit
set_option maxRecDepth 100000 in
theorem open_nil (n : Int) (w : World) : Calls Tryz.prog 42 #[.pointer none, .int .i64 n] w fun e w' => e = .returned (.tuple #[.pointer none, .int .i64 1]) ∧ w' = w := by
  go_enter Tryz.func42, Tryz.ntmps42
  go_wp2
  go_returns
  exact ⟨rfl, rfl⟩
set_option maxRecDepth 100000 in
theorem lread_nil (n : Int) (w : World) : Calls Tryz.prog 59 #[.pointer none, .int .i64 n] w fun e w' => e = .returned (.tuple #[.slice none 0 0, .int .i64 1]) ∧ w' = w := by
  go_enter Tryz.func59, Tryz.ntmps59
  go_wp2
  go_returns
  exact ⟨rfl, rfl⟩
set_option maxRecDepth 100000 in
theorem commit_nil (v : Value) (w : World) : Calls Tryz.prog 46 #[.pointer none, v] w fun e w' => e = .returned (.int .i64 1) ∧ w' = w := by
  go_enter Tryz.func46, Tryz.ntmps46
  go_wp2
  go_ret
  exact ⟨rfl, rfl⟩
set_option maxRecDepth 100000 in
theorem pages_nil (w : World) : Calls Tryz.prog 25 #[.pointer none] w fun e w' => e = .returned (.int .i64 0) ∧ w' = w := by
  go_enter Tryz.func25, Tryz.ntmps25
  go_wp2
  go_ret
  exact ⟨rfl, rfl⟩
set_option maxRecDepth 100000 in
theorem capacity_nil (w : World) : Calls Tryz.prog 52 #[.pointer none] w fun e w' => e = .returned (.int .i64 0) ∧ w' = w := by
  go_enter Tryz.func52, Tryz.ntmps52
  go_wp2
  go_ret
  exact ⟨rfl, rfl⟩
section
variable {p : Nat} {d : DL} {S : DiskS} {size rec : Nat} {F : Nat → Prop}
theorem LogIn.below {w w' : World} (h : LogIn w p d S size rec F) (k : Below w.heap.size w w') : LogIn w' p d S size rec F := ⟨below_block k h.heap (lt_of_heap h.heap), h.disk.below k, h.off⟩
set_option maxRecDepth 100000 in
theorem log_pages (w : World) (h : LogIn w p d S size rec F) (hs : size + 1 ≤ S.safe.length) : Calls Tryz.prog 25 #[.pointer (some ⟨p, 0, none⟩)] w fun e w' => e = .returned (.int .i64 (pagesS S size : Nat)) ∧ Below w.heap.size w w' := by
  have c0 : w.cell? ⟨p, 0, none⟩ = some (.pointer (some ⟨d.p, 0, none⟩)) := cell_of_block h.heap 0
  have c1 : w.cell? ⟨p, 1, none⟩ = some (.int .i64 size) := cell_of_block h.heap 1
  have hp := lay_pages d S size w h.disk.rd hs
  unfold layV at hp
  have HP := hid hp
  clear h hp
  go_enter Tryz.func25, Tryz.ntmps25
  go_wp2_with fail
  refine HP.out.mono ?_
  rintro e w1 ⟨rfl, hb⟩
  have HB := hid hb
  clear hb
  go_wp2
  go_ret
  exact ⟨rfl, HB.out⟩
set_option maxRecDepth 100000 in
theorem log_capacity (w : World) (h : LogIn w p d S size rec F) (hs : size ≤ 4096) : Calls Tryz.prog 52 #[.pointer (some ⟨p, 0, none⟩)] w fun e w' => e = .returned (.int .i64 ((min size 100 : Nat) : Int)) ∧ Below w.heap.size w w' := by
  have c0 : w.cell? ⟨p, 0, none⟩ = some (.pointer (some ⟨d.p, 0, none⟩)) := cell_of_block h.heap 0
  have c1 : w.cell? ⟨p, 1, none⟩ = some (.int .i64 size) := cell_of_block h.heap 1
  have hp := lay_capacity d.p size w hs
  unfold layV at hp
  have HP := hid hp
  clear h hp
  generalize min size 100 = q at *
  go_enter Tryz.func52, Tryz.ntmps52
  go_wp2_with fail
  refine HP.out.mono ?_
  rintro e w1 ⟨rfl, hb⟩
  have HB := hid hb
  clear hb
  go_wp2
  go_ret
  exact ⟨rfl, HB.out⟩
set_option maxRecDepth 100000 in
set_option maxHeartbeats 1000000 in
theorem log_read (n : Nat) (w : World) (h : LogIn w p d S size rec F) (hs : size + 1 ≤ S.safe.length) (hn : n < pagesS S size) :
    Calls Tryz.prog 59 #[.pointer (some ⟨p, 0, none⟩), .int .i64 n] w fun e w' => ∃ b c, e = .returned (.tuple #[.slice (some ⟨b, 0, none⟩) (seenS S.safe S.waits (1 + (size : Int) + (n : Int))).size c, .int .i64 0]) ∧ w.heap.size ≤ b ∧ bytesAt w' ⟨b, 0, none⟩ (seenS S.safe S.waits (1 + (size : Int) + (n : Int))).data.toList ∧ Below w.heap.size w w' := by
  have hm := h.disk.rd.plates.most
  have hpm : 1 + size + n < S.safe.length := by unfold pagesS at hn; omega
  have HH := hid (fun W (hW : Below w.heap.size w W) => lay_has d S size (n : Int) W ((h.below hW).disk.rd) hs)
  have HHm := hid (fun W => lay_home d.p size (n : Int) W (by omega) (by omega) (by omega))
  have HR := hid (fun W (hW : Below w.heap.size w W) => read_ok_rd d S (1 + (size : Int) + (n : Int)) W ((h.below hW).disk.rd) (by omega) (by omega))
  have HC : Hid (∀ W, Below w.heap.size w W → W.cell? ⟨p, 0, none⟩ = some (.pointer (some ⟨d.p, 0, none⟩)) ∧ W.cell? ⟨p, 1, none⟩ = some (.int .i64 size)) := fun W hW => ⟨cell_of_block (h.below hW).heap 0, cell_of_block (h.below hW).heap 1⟩
  have hd : decide (0 ≤ (n : Int) ∧ (n : Int) < (pagesS S size : Nat)) = true := decide_eq_true ⟨by omega, by omega⟩
  unfold layV at HH HHm
  rw [hd] at HH
  obtain ⟨c0, c1⟩ := HC.out w (Below.refl _ _)
  clear h hd
  generalize seenS S.safe S.waits (1 + (size : Int) + (n : Int)) = T at *
  go_enter Tryz.func59, Tryz.ntmps59
  go_wp2_with fail
  refine (HH.out _ (Below.refl _ _)).mono ?_
  rintro e w1 ⟨rfl, hb1⟩
  have HB1 := hid hb1
  obtain ⟨d0, d1⟩ := HC.out w1 hb1
  clear hb1 c0 c1 HH
  go_wp2_with fail
  refine wp_region_noPanic ?_
  refine wp_region_held_drew (S := fun W => W.cell? ⟨p, 0, none⟩ = some (.pointer (some ⟨d.p, 0, none⟩)) ∧ W.cell? ⟨p, 1, none⟩ = some (.int .i64 size)) (by kernel_rfl) ⟨d0, d1⟩ (fun hHeld => ?_)
  refine wpAnyH_take (i := 0) (v := ?_) rfl (by kernel_rfl) (by kernel_rfl) (by kernel_rfl) (fun _ _ _ h => h) (Or.inl ⟨by rfl, ?_⟩) (by assumption) ?_
  rotate_left
  · (intro W hSw; (try dsimp only at hSw); obtain ⟨s0, s1⟩ := hSw; go_simp; try with_reducible rfl)
  try simp only [List.getElem_toArray, List.getElem_cons_zero, Act.put, List.setIfInBounds_toArray, List.set_cons_zero, List.set_cons_succ]
  refine wpAnyH_take (i := 1) (v := ?_) rfl (by kernel_rfl) (by kernel_rfl) (by kernel_rfl) (fun _ _ _ h => h) (Or.inl ⟨by rfl, ?_⟩) (by assumption) ?_
  rotate_left
  · (intro W hSw; (try dsimp only at hSw); obtain ⟨s0, s1⟩ := hSw; go_simp; try with_reducible rfl)
  try simp only [List.getElem_toArray, List.getElem_cons_succ, List.getElem_cons_zero, Act.put, List.setIfInBounds_toArray, List.set_cons_zero, List.set_cons_succ]
  refine wpAnyH_take (i := 2) (v := ?_) rfl (by kernel_rfl) (by kernel_rfl) (by kernel_rfl) (fun _ _ _ h => h) (Or.inl ⟨by rfl, ?_⟩) (by assumption) ?_
  rotate_left
  · (intro W hSw; (try dsimp only at hSw); obtain ⟨s0, s1⟩ := hSw; go_simp; try with_reducible rfl)
  try simp only [List.getElem_toArray, List.getElem_cons_succ, List.getElem_cons_zero, Act.put, List.setIfInBounds_toArray, List.set_cons_zero, List.set_cons_succ]
  refine wpAnyH_take (i := 3) (v := ?_) rfl (by kernel_rfl) (by kernel_rfl) (by kernel_rfl) (fun _ _ _ h => h) (Or.inl ⟨by rfl, ?_⟩) (by assumption) ?_
  rotate_left
  · (intro W hSw; (try dsimp only at hSw); obtain ⟨s0, s1⟩ := hSw; go_simp; try with_reducible rfl)
  try simp only [List.getElem_toArray, List.getElem_cons_succ, List.getElem_cons_zero, Act.put, List.setIfInBounds_toArray, List.set_cons_zero, List.set_cons_succ]
  refine wpAnyH_take (i := 4) (v := ?_) rfl (by kernel_rfl) (by kernel_rfl) (by kernel_rfl) (fun _ _ _ h => h) (Or.inl ⟨by rfl, ?_⟩) (by assumption) ?_
  rotate_left
  · (intro W hSw; (try dsimp only at hSw); obtain ⟨s0, s1⟩ := hSw; go_simp; try with_reducible rfl)
  try simp only [List.getElem_toArray, List.getElem_cons_succ, List.getElem_cons_zero, Act.put, List.setIfInBounds_toArray, List.set_cons_zero, List.set_cons_succ]
  refine wpAnyH_take (i := 5) (v := ?_) rfl (by kernel_rfl) (by kernel_rfl) (by kernel_rfl) (fun _ _ _ h => h) (Or.inl ⟨by rfl, ?_⟩) (by assumption) ?_
  rotate_left
  · (intro W hSw; (try dsimp only at hSw); obtain ⟨s0, s1⟩ := hSw; go_simp; try with_reducible rfl)
  try simp only [List.getElem_toArray, List.getElem_cons_succ, List.getElem_cons_zero, Act.put, List.setIfInBounds_toArray, List.set_cons_zero, List.set_cons_succ]
  refine wpAnyH_take (i := 6) (v := ?_) rfl (by kernel_rfl) (by kernel_rfl) (by kernel_rfl) (fun _ _ _ h => h) (Or.inl ⟨by rfl, ?_⟩) (by assumption) ?_
  rotate_left
  · (intro W hSw; (try dsimp only at hSw); obtain ⟨s0, s1⟩ := hSw; go_simp; try with_reducible rfl)
  try simp only [List.getElem_toArray, List.getElem_cons_succ, List.getElem_cons_zero, Act.put, List.setIfInBounds_toArray, List.set_cons_zero, List.set_cons_succ]
  refine wpAnyH_take (i := 7) (v := ?_) rfl (by kernel_rfl) (by kernel_rfl) (by kernel_rfl) (fun _ _ _ h => h) (Or.inl ⟨by rfl, ?_⟩) (by assumption) ?_
  rotate_left
  · (intro W hSw; (try dsimp only at hSw); obtain ⟨s0, s1⟩ := hSw; go_simp; try with_reducible rfl)
  try simp only [List.getElem_toArray, List.getElem_cons_succ, List.getElem_cons_zero, Act.put, List.setIfInBounds_toArray, List.set_cons_zero, List.set_cons_succ]
  refine wpAnyH_take (i := 8) (v := ?_) rfl (by kernel_rfl) (by kernel_rfl) (by kernel_rfl) (fun _ _ _ h => h) (Or.inl ⟨by rfl, ?_⟩) (by assumption) ?_
  rotate_left
  · (intro W hSw; (try dsimp only at hSw); obtain ⟨s0, s1⟩ := hSw; go_simp; try with_reducible rfl)
  try simp only [List.getElem_toArray, List.getElem_cons_succ, List.getElem_cons_zero, Act.put, List.setIfInBounds_toArray, List.set_cons_zero, List.set_cons_succ]
  refine wpAnyH_take (i := 9) (v := ?_) rfl (by kernel_rfl) (by kernel_rfl) (by kernel_rfl) (fun _ _ _ h => h) (Or.inl ⟨by rfl, ?_⟩) (by assumption) ?_
  rotate_left
  · (intro W hSw; (try dsimp only at hSw); obtain ⟨s0, s1⟩ := hSw; go_simp; try with_reducible rfl)
  try simp only [List.getElem_toArray, List.getElem_cons_succ, List.getElem_cons_zero, Act.put, List.setIfInBounds_toArray, List.set_cons_zero, List.set_cons_succ]
  refine wpAnyH_ready (rs := [10]) (by kernel_rfl) (by simp) (AllReadyH.cons rfl (fun K hKK => ?_) AllReadyH.nil)
  rw [if_pos (by rfl)]
  go_simp
  refine (HHm.out w1.drew).mono ?_
  clear HHm
  rintro e w2 ⟨rfl, hb2⟩
  have hB2 : Below w.heap.size w w2 := HB1.out.drew.trans (hb2.mono HB1.out.size)
  have HB2 := hid hB2
  obtain ⟨e0, e1⟩ := HC.out w2 hB2
  clear hb2 hB2
  go_wp2_with fail
  refine hKK.out _ _ ⟨e0, e1⟩ (fun hHeld => ?_)
  clear hKK K
  try simp only [List.getElem_toArray, List.getElem_cons_succ, List.getElem_cons_zero, Act.put, List.setIfInBounds_toArray, List.set_cons_zero, List.set_cons_succ]
  refine wpAnyH_ready (rs := [11]) (by kernel_rfl) (by simp) (AllReadyH.cons rfl (fun K hKK => ?_) AllReadyH.nil)
  rw [if_pos (by rfl)]
  go_simp
  refine (HR.out w2 HB2.out).mono ?_
  clear HR
  rintro e w3 ⟨b, c, rfl, hbb, hat, hb3⟩
  have hB3 : Below w.heap.size w w3 := HB2.out.trans (hb3.mono HB2.out.size)
  have HB3 := hid hB3
  have HAt := hid hat
  have hs2 := HB2.out.size
  obtain ⟨f0, f1⟩ := HC.out w3 hB3
  clear hb3 hB3 hat
  go_wp2_with fail
  refine hKK.out _ _ ⟨f0, f1⟩ (fun hHeld => ?_)
  clear hKK K
  try simp only [List.getElem_toArray, List.getElem_cons_succ, List.getElem_cons_zero, Act.put, List.setIfInBounds_toArray, List.set_cons_zero, List.set_cons_succ]
  refine wpAnyH_take (i := 12) (v := ?_) rfl (by kernel_rfl) (by kernel_rfl) (by kernel_rfl) (fun _ _ _ h => h) (Or.inl ⟨by rfl, ?_⟩) (by assumption) ?_
  rotate_left
  · (intro W hSw; (try dsimp only at hSw); obtain ⟨s0, s1⟩ := hSw; go_simp; try with_reducible rfl)
  try simp only [List.getElem_toArray, List.getElem_cons_succ, List.getElem_cons_zero, Act.put, List.setIfInBounds_toArray, List.set_cons_zero, List.set_cons_succ]
  refine wpAnyH_take (i := 13) (v := ?_) rfl (by kernel_rfl) (by kernel_rfl) (by kernel_rfl) (fun _ _ _ h => h) (Or.inl ⟨by rfl, ?_⟩) (by assumption) ?_
  rotate_left
  · (intro W hSw; (try dsimp only at hSw); obtain ⟨s0, s1⟩ := hSw; go_simp; try with_reducible rfl)
  try simp only [List.getElem_toArray, List.getElem_cons_succ, List.getElem_cons_zero, Act.put, List.setIfInBounds_toArray, List.set_cons_zero, List.set_cons_succ]
  refine wpAnyH_take (i := 14) (v := ?_) rfl (by kernel_rfl) (by kernel_rfl) (by kernel_rfl) (fun _ _ _ h => h) (Or.inl ⟨by rfl, ?_⟩) (by assumption) ?_
  rotate_left
  · (intro W hSw; (try dsimp only at hSw); obtain ⟨s0, s1⟩ := hSw; go_simp; try with_reducible rfl)
  try simp only [List.getElem_toArray, List.getElem_cons_succ, List.getElem_cons_zero, Act.put, List.setIfInBounds_toArray, List.set_cons_zero, List.set_cons_succ]
  refine wpAnyH_take (i := 15) (v := ?_) rfl (by kernel_rfl) (by kernel_rfl) (by kernel_rfl) (fun _ _ _ h => h) (Or.inl ⟨by rfl, ?_⟩) (by assumption) ?_
  rotate_left
  · (intro W hSw; (try dsimp only at hSw); obtain ⟨s0, s1⟩ := hSw; go_simp; try with_reducible rfl)
  try simp only [List.getElem_toArray, List.getElem_cons_succ, List.getElem_cons_zero, Act.put, List.setIfInBounds_toArray, List.set_cons_zero, List.set_cons_succ]
  refine wpAnyH_done (by kernel_rfl) ?_ _
  refine NoPanic.normal ?_
  go_wp2
  go_returns
  exact ⟨b, c, rfl, by omega, HAt.out, HB3.out⟩
end
end Go.Proofs.YtkkmbgjlmdddoabGreat
/- Log.Commit of pages that are right. -/
namespace Go.Proofs.YtkkmbgjlmdddoabGreat
open Go.RowKit
theorem filt_le (val : Int → Option Value) (n : Int) (v : Value) : ∀ L : List Int, L.Nodup → (L.filter (fun k => (updV val n v k).isSome)).length ≤ (L.filter (fun k => (val k).isSome)).length + 1
  | [], _ => by simp
  | k :: L, h => by
    obtain ⟨h1, h2⟩ := List.nodup_cons.1 h
    have ih := filt_le val n v L h2
    by_cases e : k = n
    · subst e
      have hrest : L.filter (fun q => (updV val k v q).isSome) = L.filter (fun q => (val q).isSome) := List.filter_congr (fun q hq => by
        have : q ≠ k := fun e => h1 (e ▸ hq)
        simp [updV, this])
      rw [List.filter_cons, List.filter_cons, hrest]
      split <;> split <;> (try simp only [List.length_cons]) <;> omega
    · have hk : (updV val n v k).isSome = (val k).isSome := by simp [updV, e]
      rw [List.filter_cons, List.filter_cons, hk]
      split
      · simp only [List.length_cons]; omega
      · exact ih
theorem grpKeys_le (ps : List PageS) (N : Nat) : ∀ j, (grpKeys (grpVal ps j) N).length ≤ j
  | 0 => by simp [grpKeys, grpVal]
  | j + 1 => by
    have ih := grpKeys_le ps N j
    have hnd : ((List.range N).map (fun k : Nat => (k : Int))).Nodup := by
      refine List.pairwise_map.2 (List.nodup_range.imp (fun h => by omega))
    cases hp : ps[j]? with
    | none =>
      have e : grpVal ps (j + 1) = grpVal ps j := by rw [grpVal, hp]
      rw [e]; omega
    | some p =>
      have e : grpVal ps (j + 1) = updV (grpVal ps j) p.n p.val := by rw [grpVal, hp]
      have := filt_le (grpVal ps j) p.n p.val _ hnd
      rw [e]
      unfold grpKeys at ih ⊢
      omega
section
variable {p : Nat} {d : DL} {S : DiskS} {size rec : Nat} {F : Nat → Prop}
set_option maxRecDepth 100000 in
set_option maxHeartbeats 1000000 in
theorem commit_fv (ps : List PageS) (pa : Option Addr) (pc : Nat) (l : Int → List UInt8) (w : World) (h : LogIn w p d S size rec F) (hF : ∀ i, F i → i < w.heap.size) (hs : size + 1 ≤ S.safe.length) (hp : pagesAt w pa ps)
    (h1 : 1 ≤ ps.length) (h2 : ps.length ≤ size) (h3 : ps.length ≤ 100) (hin : ∀ j (hj : j < ps.length), 0 ≤ ps[j].n ∧ ps[j].n < (pagesS S size : Nat)) (he : grpErr ps ps.length = 0)
    (hv : GrpBytes w (grpVal ps ps.length) l F) (ho : S.ops.length ≤ 800000) :
    Calls Tryz.prog 46 #[.pointer (some ⟨p, 0, none⟩), .slice pa ps.length pc] w fun e w' => e = .returned (.int .i64 0) ∧ ∃ d', (d'.fv = d.fv ∧ OwnAt w' d' (writtenS S size l (grpKeys (grpVal ps ps.length) (pagesS S size))) (fun i => F i ∨ (w.heap.size ≤ i ∧ i < w'.heap.size))) ∧ LogIn w' p d' (writtenS S size l (grpKeys (grpVal ps ps.length) (pagesS S size))) size rec (fun i => F i ∨ (w.heap.size ≤ i ∧ i < w'.heap.size)) ∧ Keeps F w w' := by
  have hm := h.disk.rd.plates.most
  have hpl := lt_of_heap h.heap
  have HC : Hid (∀ W, Below w.heap.size w W → W.cell? ⟨p, 0, none⟩ = some (.pointer (some ⟨d.p, 0, none⟩)) ∧ W.cell? ⟨p, 1, none⟩ = some (.int .i64 size)) := fun W hW => ⟨cell_of_block (h.below hW).heap 0, cell_of_block (h.below hW).heap 1⟩
  have hcp := lay_capacity d.p size w (by omega)
  have HGr := hid (fun W (hW : Below w.heap.size w W) => grouped_any d S size ps pa pc W ((h.below hW).disk.rd) hs (fun j hj => by
    obtain ⟨b, o, e, hc⟩ := hp j hj
    exact ⟨b, o, e, fun i hi => ⟨(hW.cell (p := ⟨b, o + i * 2, none⟩) (World.block_lt_of_cell? w _ (hc i hi).1)).trans (hc i hi).1, (hW.cell (p := ⟨b, o + i * 2 + 1, none⟩) (World.block_lt_of_cell? w _ (hc i hi).2)).trans (hc i hi).2⟩⟩) h3)
  unfold layV at hcp HGr
  have HCp := hid hcp
  have H := hid h
  have HV := hid hv
  have HFl := hid hF
  have HIn := hid hin
  have HE := hid he
  have HKl := hid (grpKeys_le ps (pagesS S size) ps.length)
  have hcap : ps.length ≤ min size 100 := by omega
  obtain ⟨c0, c1⟩ := HC.out w (Below.refl _ _)
  clear h hp hF hin he hv hcp
  generalize min size 100 = q at *
  have hn0 : ¬ ((ps.length : Int) = 0) := by omega
  have hnq : ¬ ((q : Int) < (ps.length : Int)) := by omega
  go_enter Tryz.func46, Tryz.ntmps46
  go_wp2_with fail
  refine HCp.out.mono ?_
  clear HCp
  rintro e w1 ⟨rfl, hb1⟩
  have HB1 := hid hb1
  obtain ⟨d0, d1⟩ := HC.out w1 hb1
  clear hb1 c0 c1
  go_wp2_with fail
  refine (HGr.out w1 HB1.out).mono ?_
  clear HGr
  rintro e w2 ⟨hb2, hg2⟩
  rcases hg2 with ⟨j, hj, hbad, -⟩ | ⟨-, m, D, rfl, hm2, hgi⟩
  · exact absurd (HIn.out j hj) hbad
  rw [HE.out]
  have hB2 : Below w.heap.size w w2 := HB1.out.trans (hb2.mono HB1.out.size)
  have HB2 := hid hB2
  obtain ⟨e0, e1⟩ := HC.out w2 hB2
  have hs12 := HB1.out.size
  have hs22 := hB2.size
  have hv2 : GrpBytes w2 (grpVal ps ps.length) l F := fun n v hnv => by
    obtain ⟨ad, c, e, hby, h512, hnf⟩ := HV.out n v hnv
    exact ⟨ad, c, e, fun q hq => (hB2.cell (World.block_lt_of_cell? w _ (hby q hq))).trans (hby q hq), h512, hnf⟩
  have hwg := write_group d S F size m 100 D (pagesS S size) (grpVal ps ps.length) l w2 (H.out.disk.below hB2) (fun i hi => by have := HFl.out i hi; omega) hgi (fun hf => by have := HFl.out _ hf; omega) (by decide) hv2 (by unfold pagesS; omega) (by have := HKl.out; omega) (by have := HKl.out; omega) ho
  unfold layV at hwg
  have HWg := hid hwg
  clear hb2 hgi hB2 hv2 hwg d0 d1
  go_wp2_with fail
  refine HWg.out.mono ?_
  clear HWg
  rintro e w3 ⟨rfl, d3, e3, hA3, hK3⟩
  have hK : Keeps F w w3 := (Keeps.of_below HB2.out).trans hK3 (fun i hi => .inl hi)
  have HK := hid hK
  have hhp := hK.heap H.out.heap H.out.off
  rw [← e3.1] at hhp
  have HE3 := hid e3.2
  have HHp := hid hhp
  have HA3 := hid hA3
  have hs3 := hK3.size
  clear hA3 hK3 hK hhp e3
  go_wp2
  go_ret
  exact ⟨rfl, d3, ⟨HE3.out.1, HE3.out.2.mono (fun i hi => hi.imp id (fun h => ⟨by omega, h.2⟩))⟩, ⟨HHp.out, HA3.out.mono (fun i hi => hi.imp id (fun h => ⟨by omega, h.2⟩)), fun hf => hf.elim H.out.off (fun h => by omega)⟩, HK.out⟩
theorem commit_ok (ps : List PageS) (pa : Option Addr) (pc : Nat) (l : Int → List UInt8) (w : World) (h : LogIn w p d S size rec F) (hF : ∀ i, F i → i < w.heap.size) (hs : size + 1 ≤ S.safe.length) (hp : pagesAt w pa ps)
    (h1 : 1 ≤ ps.length) (h2 : ps.length ≤ size) (h3 : ps.length ≤ 100) (hin : ∀ j (hj : j < ps.length), 0 ≤ ps[j].n ∧ ps[j].n < (pagesS S size : Nat)) (he : grpErr ps ps.length = 0)
    (hv : GrpBytes w (grpVal ps ps.length) l F) (ho : S.ops.length ≤ 800000) :
    Calls Tryz.prog 46 #[.pointer (some ⟨p, 0, none⟩), .slice pa ps.length pc] w fun e w' => e = .returned (.int .i64 0) ∧ ∃ d', LogIn w' p d' (writtenS S size l (grpKeys (grpVal ps ps.length) (pagesS S size))) size rec (fun i => F i ∨ (w.heap.size ≤ i ∧ i < w'.heap.size)) ∧ Keeps F w w' := by
  refine (commit_fv ps pa pc l w h hF hs hp h1 h2 h3 hin he hv ho).mono ?_
  rintro e w' ⟨h1, d', _, h2⟩
  exact ⟨h1, d', h2⟩
end
end Go.Proofs.YtkkmbgjlmdddoabGreat
/- law03's Deed.pages, of one that is not short. -/
namespace Go.Proofs.YtkkmbgjlmdddoabGreat
open Go.RowKit
/-- The bytes of the page at i. -/
def rowX (x : UInt8) (i : Nat) : List UInt8 := List.replicate 512 (x + UInt8.ofNat i)
theorem length_rowX (x : UInt8) (i : Nat) : (rowX x i).length = 512 := List.length_replicate
/-- k of them are laid. -/
def rowTo (x : UInt8) (i k : Nat) : List UInt8 := List.replicate k (x + UInt8.ofNat i) ++ zN (512 - k)
theorem rowTo_zero (x : UInt8) (i : Nat) : rowTo x i 0 = zN 512 := by simp [rowTo]
theorem rowTo_full (x : UInt8) (i : Nat) : rowTo x i 512 = rowX x i := by
  rw [rowTo, rowX, Nat.sub_self]; exact List.append_nil _
theorem length_rowTo (x : UInt8) (i k : Nat) (h : k ≤ 512) : (rowTo x i k).length = 512 := by
  rw [rowTo, List.length_append, List.length_replicate, length_zN]; omega
theorem rowTo_succ (x : UInt8) (i k : Nat) (h : k < 512) : (rowTo x i k).set k (x + UInt8.ofNat i) = rowTo x i (k + 1) := by
  have e : 512 - k = (512 - (k + 1)) + 1 := by omega
  rw [rowTo, rowTo, List.set_append_right _ _ (by rw [List.length_replicate]; exact Nat.le_refl _), List.length_replicate, Nat.sub_self, e, zN, List.replicate_succ, List.set_cons_zero, List.replicate_succ', List.append_assoc]
  rfl
/-- The cells of the first k pages. -/
def pageCells (ns : List Int) (bs : Nat → Nat) (k : Nat) : List Value := (List.range k).flatMap (fun j => [.int .i64 (ns.getD j 0), .slice (some ⟨bs j, 0, none⟩) 512 512])
theorem pageCells_succ (ns : List Int) (bs : Nat → Nat) (k : Nat) : pageCells ns bs (k + 1) = pageCells ns bs k ++ [.int .i64 (ns.getD k 0), .slice (some ⟨bs k, 0, none⟩) 512 512] := by
  rw [pageCells, List.range_succ, List.flatMap_append]; simp [pageCells]
theorem pageCells_congr (ns : List Int) (bs bs' : Nat → Nat) : ∀ k, (∀ j, j < k → bs j = bs' j) → pageCells ns bs k = pageCells ns bs' k
  | 0, _ => rfl
  | k + 1, h => by rw [pageCells_succ, pageCells_succ, pageCells_congr ns bs bs' k (fun j hj => h j (by omega)), h k (by omega)]
theorem grown_of_belowW {w w' : World} (h : Below w.heap.size w w') (r : Option Nat) : w.grownBy w' r := ⟨h.os, h.tape, h.output, h.size, fun k hk _ => h.block k hk⟩
theorem infoPage : (Tryz.prog.info? 63).map (fun i => (i.zero, i.size, i.bytes)) = some (some (.agg #[.int .i64 0, .slice none 0 0]), 2, 32) := by kernel_rfl
def DeedTo (ns : List Int) (x : UInt8) (K : Nat) (w' : World) (e : Ending) : Prop := ∃ v bs, e = .returned v ∧ w'.ownsRow (K + 1) 63 2 v ns.length (pageCells ns bs ns.length) ∧ ∀ j, j < ns.length → K ≤ bs j ∧ ownB w' (bs j) (rowX x j)
end Go.Proofs.YtkkmbgjlmdddoabGreat
/- What law03's live asks, in plain words. -/
namespace Go.Proofs.YtkkmbgjlmdddoabGreat
open Go.RowKit
def wS0 : DiskS := freshS (List.replicate 8 blankS)
theorem wS0_len : wS0.safe.length = 8 := by simp [wS0, freshS]
theorem wS0_seen : (seenS wS0.safe wS0.waits 0).data.toList = zN 512 := by
  have : seenS wS0.safe wS0.waits 0 = blankS := by simp [seenS, wS0, freshS]
  rw [this]; exact blank_zeros
theorem wS0_pages : pagesS wS0 3 = 4 := by unfold pagesS; rw [wS0_len]
def livePs (b0 b1 : Nat) : List PageS := [⟨2, some ⟨b0, 0, none⟩, 512, 512⟩, ⟨0, some ⟨b1, 0, none⟩, 512, 512⟩]
def liveL (n : Int) : List UInt8 := if n = 2 then rowX 5 0 else rowX 5 1
theorem liveVal (b0 b1 : Nat) (n : Int) : grpVal (livePs b0 b1) 2 n = if n = 0 then some (.slice (some ⟨b1, 0, none⟩) 512 512) else if n = 2 then some (.slice (some ⟨b0, 0, none⟩) 512 512) else none := by
  simp [grpVal, livePs, updV, PageS.val]
theorem liveErr (b0 b1 : Nat) : grpErr (livePs b0 b1) 2 = 0 := by
  simp [grpErr, livePs, grpVal, updV]
theorem liveKeys (b0 b1 : Nat) : grpKeys (grpVal (livePs b0 b1) 2) 4 = [0, 2] := by
  have hr : List.range 4 = [0, 1, 2, 3] := by decide
  simp [grpKeys, hr, liveVal]
theorem seen_flushed (S : DiskS) (n : Nat) (h : n < S.safe.length) : seenS S.flushed.safe S.flushed.waits (n : Int) = seenS S.safe S.waits (n : Int) := by
  have hl : n < (imgS S).length := by rw [length_imgS]; exact h
  show (if ([] : List ByteArray) = [] then (imgS S).getD ((n : Int)).toNat ⟨#[]⟩ else _) = _
  rw [if_pos rfl, show ((n : Int)).toNat = n by omega, List.getD_eq_getElem?_getD, List.getElem?_eq_getElem hl, Option.getD_some, imgS_at]
theorem seen_other (S : DiskS) (n k : Int) (s : ByteArray) (h : n ≠ k) : seenS (S.wrote k s).safe (S.wrote k s).waits n = seenS S.safe S.waits n := by
  simp [seenS, DiskS.wrote, upd_other _ _ h]
theorem seen_same (S : DiskS) (k : Int) (s : ByteArray) : seenS (S.wrote k s).safe (S.wrote k s).waits k = s := by
  simp [seenS, DiskS.wrote, upd_same]
theorem live_seen : seenS (writtenS wS0 3 liveL [0, 2]).safe (writtenS wS0 3 liveL [0, 2]).waits (1 + ((3 : Nat) : Int) + ((0 : Nat) : Int)) = ⟨(rowX 5 1).toArray⟩ := by
  have e4 : (1 + ((3 : Nat) : Int) + ((0 : Nat) : Int)) = ((4 : Nat) : Int) := by decide
  rw [e4, writtenS, homeS]
  generalize hX : ((logTo wS0 liveL [0, 2] [(0 : Int), 2].length).flushed.wrote 0 ⟨(headS ([(0 : Int), 2].map Int.toNat)).toArray⟩).flushed = X
  have hXl : X.safe.length = 8 := by
    rw [← hX]
    show (imgS _).length = 8
    rw [length_imgS]
    show (imgS _).length = 8
    rw [length_imgS, (logTo_facts _ _ _ _).1, wS0_len]
  have hHl : (homeTo X 3 liveL [0, 2]).safe.length = 8 := by rw [(homeTo_facts 3 liveL [0, 2] X).1, hXl]
  rw [seen_flushed _ 4 (by show 4 < (imgS _).length; rw [length_imgS, hHl]; decide), seen_other _ _ _ _ (by decide), seen_flushed _ 4 (by rw [hHl]; decide)]
  have eh : homeTo X 3 liveL [0, 2] = (X.wrote (1 + ((3 : Nat) : Int) + 0) ⟨(liveL 0).toArray⟩).wrote (1 + ((3 : Nat) : Int) + 2) ⟨(liveL 2).toArray⟩ := rfl
  rw [eh]
  rw [seen_other _ _ _ _ (by decide), show (((4 : Nat) : Int)) = 1 + ((3 : Nat) : Int) + 0 by decide, seen_same]
  rfl
theorem live_ops : (writtenS wS0 3 liveL [0, 2]).ops.length = 10 := by
  rw [writtenS, homeS]
  generalize headS ([(0 : Int), 2].map Int.toNat) = H1
  generalize headS [] = H2
  simp only [DiskS.flushed, DiskS.wrote, List.length_append, List.length_singleton, (homeTo_facts 3 liveL [0, 2] _).2, (logTo_facts wS0 liveL [0, 2] _).2]
  rfl
theorem live_len : (writtenS wS0 3 liveL [0, 2]).safe.length = 8 := by
  rw [writtenS, homeS]
  show (imgS _).length = 8
  rw [length_imgS]
  show (imgS _).length = 8
  rw [length_imgS, (homeTo_facts 3 liveL [0, 2] _).1]
  show (imgS _).length = 8
  rw [length_imgS]
  show (imgS _).length = 8
  rw [length_imgS, (logTo_facts _ _ _ _).1, wS0_len]
end Go.Proofs.YtkkmbgjlmdddoabGreat
/- The walk of law03's live. -/
namespace Go.Proofs.YtkkmbgjlmdddoabGreat
open Go.RowKit
end Go.Proofs.YtkkmbgjlmdddoabGreat
