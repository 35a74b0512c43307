/- octets: a number is laid in bytes, and read again. -/
import Derived.Test.YtoeiodiadanhkaaGreatWKit
import Derived.Test.YtoeiodiadanhkaaGreatJoined1
namespace Go.Proofs.YtoeiodiadanhkaaGreat
open Go.RowKit
theorem beS_at : ∀ (k X r : Nat), r < k → (beS k X)[r]? = some (UInt8.ofNat (X / 256 ^ (k - 1 - r) % 256))
  | 0, _, _, h => by omega
  | k + 1, X, r, h => by
    rw [beS]
    by_cases hr : r < k
    · rw [List.getElem?_append_left (by rw [length_beS]; exact hr), beS_at k (X / 256) r hr, Nat.div_div_eq_div_mul, ← Nat.pow_succ', show (k - 1 - r).succ = k + 1 - 1 - r by omega]
    · obtain rfl : r = k := by omega
      rw [List.getElem?_append_right (by rw [length_beS]; exact Nat.le_refl _), length_beS]
      simp
theorem i64_or_nat (a b : Nat) (ha : a < 2 ^ 62) (hb : b < 2 ^ 62) : bits .or .i64 (a : Int) (b : Int) = ((a ||| b : Nat) : Int) := by
  have hx : a ||| b < 2 ^ 62 := Nat.or_lt_two_pow ha hb
  show IntKind.i64.wrap ((BitVec.ofInt 64 (a : Int) ||| BitVec.ofInt 64 (b : Int)).toNat : Int) = _
  rw [BitVec.toNat_or, BitVec.ofInt_natCast, BitVec.ofInt_natCast, BitVec.toNat_ofNat, BitVec.toNat_ofNat, Nat.mod_eq_of_lt (by omega), Nat.mod_eq_of_lt (by omega)]
  simp [IntKind.wrap, IntKind.bits, IntKind.signed]
  omega
/-- One byte more is laid. -/
theorem put_step (L B : List UInt8) (o k r : Nat) (hr : r < k) (hB : B.length = k) (hk : o + k ≤ L.length) (v : UInt8) (hv : B[r]? = some v) :
    (L.take (o + (r + 1)) ++ B.drop (r + 1) ++ L.drop (o + k)).set (o + r) v = L.take (o + r) ++ B.drop r ++ L.drop (o + k) := by
  have h1 : L.take (o + (r + 1)) = L.take (o + r) ++ [L[o + r]'(by omega)] := by rw [show o + (r + 1) = o + r + 1 by omega, List.take_succ_eq_append_getElem (by omega)]
  have h2 : B.drop r = v :: B.drop (r + 1) := by
    obtain ⟨hl, e⟩ := List.getElem?_eq_some_iff.1 hv
    rw [List.drop_eq_getElem_cons hl, e]
  have hl : (L.take (o + r)).length = o + r := by rw [List.length_take]; omega
  rw [h1, h2, List.append_assoc, List.append_assoc, List.set_append_right _ _ (by rw [hl]; exact Nat.le_refl _), hl, Nat.sub_self]
  simp
set_option maxRecDepth 100000 in
set_option maxHeartbeats 2000000 in
theorem put_any (b o k c X : Nat) (L : List UInt8) (w : World) (h : ownB w b L) (hk : o + k ≤ L.length) (hL : L.length ≤ 4096) (_hX : X < 4611686018427387904) :
    Calls Tryz.prog 105 #[.slice (some ⟨b, o, none⟩) k c, .int .i64 X] w fun e w' => e = .returned (.tuple #[]) ∧ ownB w' b (L.take o ++ beS k X ++ L.drop (o + k)) ∧ Keeps (fun i => i = b) w w' := by
  have H := hid h
  clear h
  go_enter Tryz.func105, Tryz.ntmps105
  go_wp2
  go_loopw [1, 4] (fun x i wr => ∃ r : Nat, r ≤ k ∧ x = .int .i64 ((X / 256 ^ (k - r) : Nat) : Int) ∧ i = .int .i64 ((r : Int) - 1) ∧ Hid (ownB wr b (L.take (o + r) ++ (beS k X).drop r ++ L.drop (o + k))) ∧ Hid (Keeps (fun i => i = b) w wr)) (fun _ i _ => (intOf i + 1).toNat)
  case atStart =>
    refine ⟨k, Nat.le_refl _, by simp, rfl, ?_, Keeps.refl _ _⟩
    have := H.out
    have e : (beS k X).drop k = [] := List.drop_eq_nil_of_le (by rw [length_beS]; exact Nat.le_refl _)
    unfold Hid
    rw [e, List.append_nil, List.take_append_drop]
    exact this
  case round =>
    obtain ⟨r, hr, rfl, rfl, hO, hKp⟩ := hrel
    rcases Nat.eq_zero_or_pos r with rfl | hpos
    · go_wp2
      go_returns
      exact ⟨rfl, by simpa using hO.out, hKp.out⟩
    · obtain ⟨r, rfl⟩ : ∃ s, r = s + 1 := ⟨r - 1, by omega⟩
      have hle : X / 256 ^ (k - (r + 1)) ≤ X := Nat.div_le_self _ _
      have hnext : X / 256 ^ (k - (r + 1)) / 256 = X / 256 ^ (k - r) := by rw [Nat.div_div_eq_div_mul, ← Nat.pow_succ, show (k - (r + 1)).succ = k - r by omega]
      have hb := beS_at k X r (by omega)
      rw [show k - 1 - r = k - (r + 1) by omega] at hb
      have hset := fun v hv => put_step L (beS k X) o k r (by omega) (length_beS k X) hk v hv
      have HSet := hid hset
      have HB := hid hb
      have HNext := hid hnext
      have hlen : o + r < (L.take (o + (r + 1)) ++ (beS k X).drop (r + 1) ++ L.drop (o + k)).length := by simp [length_beS]; omega
      obtain ⟨old, cl⟩ : ∃ v, wr.cell? ⟨b, o + r, none⟩ = some v := ⟨_, hO.out.cell (o + r) hlen⟩
      have fl := hO.out.frozen (o + r)
      clear hset hb hnext hlen
      generalize X / 256 ^ (k - (r + 1)) = x at *
      have hr0 : (0 : Int) ≤ (r : Int) := by omega
      have hrk : (r : Int) < (k : Int) := by omega
      have e1 : ((r + 1 : Nat) : Int) - 1 = (r : Int) := by omega
      rw [e1]
      go_wp2
      have hv : ((UInt8.ofNat (x % 256)).toNat : Int) = (x : Int) % 256 := by
        rw [UInt8.toNat_ofNat', Nat.mod_eq_of_lt (show x % 256 < 2 ^ 8 from Nat.mod_lt _ (by decide))]; omega
      have hs := hO.out.set (o + r) (UInt8.ofNat (x % 256))
      rw [HSet.out _ HB.out, hv] at hs
      refine ⟨⟨r, by omega, by rw [← HNext.out]; rfl, rfl, hs, ?_⟩, by simp [intOf]⟩
      exact hKp.out.grown (grown_setCell (grown_refl _ _) _ _) (fun i e => .inl (Option.some.inj e).symm)
set_option maxRecDepth 100000 in
set_option maxHeartbeats 2000000 in
theorem number_any (l : List UInt8) (a : Option Addr) (c : Nat) (w : World) (hb : bytesIn w a l) (hl : l.length ≤ 7) :
    Calls Tryz.prog 89 #[.slice a l.length c] w fun e w' => e = .returned (.int .i64 (numS l : Nat)) ∧ w' = w := by
  have HB := hid hb
  clear hb
  go_enter Tryz.func89, Tryz.ntmps89
  go_wp2
  go_loopw [3, 8] (fun x i wr => ∃ j : Nat, j ≤ l.length ∧ x = .int .i64 ((numS (l.take j) : Nat) : Int) ∧ i = .int .i64 j ∧ wr = w) (fun _ i _ => l.length - (intOf i).toNat)
  case atStart => exact ⟨0, by omega, rfl, rfl, rfl⟩
  case round =>
    obtain ⟨j, hj, rfl, rfl, rfl⟩ := hrel
    by_cases hlt : j < l.length
    · have hj0 : (0 : Int) ≤ (j : Int) := by omega
      have hj1 : (j : Int) < (l.length : Int) := by omega
      obtain ⟨b, o, rfl, hc⟩ := HB.out j hlt
      have hcell := hc j hlt
      have HT : Hid (numS (l.take (j + 1)) = numS (l.take j) * 256 + l[j].toNat) := by
        unfold Hid
        rw [List.take_succ_eq_append_getElem hlt, numS_snoc]
      have hb := numS_lt (l.take j)
      have hlj : (l.take j).length = j := by rw [List.length_take]; omega
      rw [hlj] at hb
      have hp : 256 ^ j ≤ 256 ^ 6 := Nat.pow_le_pow_right (by decide) (by omega)
      have hx : numS (l.take j) < 281474976710656 := Nat.lt_of_lt_of_le hb (Nat.le_trans hp (by decide))
      have ho := l[j].toNat_lt
      have ho' : l[j].toNat < 256 := ho
      clear hc hb hlj hp ho
      generalize numS (l.take j) = x at *
      generalize l[j].toNat = y at *
      go_wp2
      have hor : bits .or .i64 ((x : Int) * 256) (y : Int) = ((x * 256 + y : Nat) : Int) := by
        rw [show (x : Int) * 256 = ((x * 256 : Nat) : Int) by omega, i64_or_nat (x * 256) y (by omega) (by omega)]
        congr 1
        rw [show x * 256 = x <<< 8 by rw [Nat.shiftLeft_eq], ← Nat.shiftLeft_add_eq_or_of_lt (show y < 2 ^ 8 by omega)]
      rw [hor, ← HT.out]
      exact ⟨⟨j + 1, by omega, rfl, by go_num, trivial⟩, by simp [intOf]; omega⟩
    · obtain rfl : j = l.length := by omega
      have hge : ¬ ((l.length : Int) < (l.length : Int)) := by omega
      go_wp2
      go_ret
      exact ⟨rfl, rfl⟩
end Go.Proofs.YtoeiodiadanhkaaGreat
