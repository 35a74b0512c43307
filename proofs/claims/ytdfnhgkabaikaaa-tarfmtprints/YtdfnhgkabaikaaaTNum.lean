/- number and sumOf. -/
import Derived.Test.YtdfnhgkabaikaaaTField
namespace Go.Proofs.Ytdfnhgkabaikaaa
open Go.RowKit
theorem i64_or_nat (a b : Nat) (ha : a < 2 ^ 62) (hb : b < 2 ^ 62) : bits .or .i64 (a : Int) (b : Int) = ((a ||| b : Nat) : Int) := by
  have hx : a ||| b < 2 ^ 62 := Nat.or_lt_two_pow ha hb
  show IntKind.i64.wrap ((BitVec.ofInt 64 (a : Int) ||| BitVec.ofInt 64 (b : Int)).toNat : Int) = _
  rw [BitVec.toNat_or, BitVec.ofInt_natCast, BitVec.ofInt_natCast, BitVec.toNat_ofNat, BitVec.toNat_ofNat, Nat.mod_eq_of_lt (by omega), Nat.mod_eq_of_lt (by omega)]
  simp [IntKind.wrap, IntKind.bits, IntKind.signed]
  omega
theorem or8 (n d : Nat) (hn : n < 2 ^ 40) (hd : d < 8) : bits .or .i64 ((n : Int) * 8) (d : Int) = ((n * 8 + d : Nat) : Int) := by
  rw [show (n : Int) * 8 = ((n * 8 : Nat) : Int) by omega, i64_or_nat (n * 8) d (by omega) (by omega)]
  congr 1
  rw [show n * 8 = n <<< 3 by rw [Nat.shiftLeft_eq], ← Nat.shiftLeft_add_eq_or_of_lt (show d < 2 ^ 3 by omega)]
theorem val_snoc (ds : List UInt8) (d : UInt8) : val (ds ++ [d]) = val ds * 8 + (d.toNat - 48) := by simp [val]
theorem val_take {ds : List UInt8} {k : Nat} (hk : k < ds.length) : val (ds.take (k + 1)) = val (ds.take k) * 8 + ((ds.getD k 0).toNat - 48) := by
  rw [List.take_succ_eq_append_getElem hk, val_snoc, List.getD_eq_getElem?_getD, List.getElem?_eq_getElem hk]; rfl
theorem digs_take {ds : List UInt8} {k : Nat} (hk : k < ds.length) (h : (ds.take k).all isDig = true) (hx : isDig (ds.getD k 0) = true) : (ds.take (k + 1)).all isDig = true := by
  rw [List.take_succ_eq_append_getElem hk, List.all_append, h]
  rw [List.getD_eq_getElem?_getD, List.getElem?_eq_getElem hk] at hx
  simpa using hx
theorem digs_not {ds : List UInt8} {k : Nat} (hk : k < ds.length) (hx : isDig (ds.getD k 0) = false) : ds.all isDig = false := by
  rw [List.all_eq_false]
  refine ⟨ds.getD k 0, ?_, by rw [hx]; simp⟩
  rw [List.getD_eq_getElem?_getD, List.getElem?_eq_getElem hk]
  exact List.getElem_mem hk
theorem val_lt : ∀ (ds : List UInt8) (n : Nat), ds.all isDig = true → ds.foldl (fun n d => n * 8 + (d.toNat - 48)) n < (n + 1) * 8 ^ ds.length
  | [], n, _ => by simp
  | d :: ds, n, h => by
    rw [List.all_cons, Bool.and_eq_true] at h
    have hd : d.toNat ≤ 55 := by have := h.1; simp [isDig] at this; omega
    have := val_lt ds (n * 8 + (d.toNat - 48)) h.2
    rw [List.foldl_cons, List.length_cons, Nat.pow_succ]
    refine Nat.lt_of_lt_of_le this ?_
    rw [Nat.mul_comm (8 ^ ds.length) 8, ← Nat.mul_assoc]
    exact Nat.mul_le_mul_right _ (by omega)
theorem val_small {ds : List UInt8} (h : ds.all isDig = true) (hl : ds.length ≤ 11) : val ds < 2 ^ 33 := by
  have := val_lt ds 0 h
  have h2 : 8 ^ ds.length ≤ 8 ^ 11 := Nat.pow_le_pow_right (by omega) hl
  unfold val
  omega
theorem isDig_cases (x : UInt8) : (isDig x = true ∧ 48 ≤ V x ∧ V x ≤ 55) ∨ (isDig x = false ∧ (V x < 48 ∨ (48 ≤ V x ∧ 55 < V x))) := by
  unfold isDig V
  by_cases h1 : 48 ≤ x.toNat <;> by_cases h2 : x.toNat ≤ 55 <;> simp [h1, h2] <;> omega
theorem or_digit (n : Nat) (x : UInt8) (hn : n < 2 ^ 40) (h1 : 48 ≤ V x) (h2 : V x ≤ 55) : bits .or .i64 ((n : Int) * 8) (V x - 48) = ((n * 8 + (x.toNat - 48) : Nat) : Int) := by
  rw [show V x - 48 = ((x.toNat - 48 : Nat) : Int) by unfold V at *; omega]
  exact or8 n _ hn (by unfold V at *; omega)
theorem V_eq {x y : UInt8} (h : x = y) : (V x == V y) = true := by rw [h]; simp
set_option maxHeartbeats 2000000 in
set_option maxRecDepth 100000 in
theorem number_any (ds : List UInt8) (z : UInt8) (b o cap L : Nat) (w : World) (hL : ds.length = L) (hl : L ≤ 11) (hcap : L + 1 ≤ cap) (hc : ∀ j, j < L → w.cell? ⟨b, o + j, none⟩ = some (B (ds.getD j 0))) (hz : w.cell? ⟨b, o + L, none⟩ = some (B z)) :
    Calls Try.prog 49 #[.slice (some ⟨b, o, none⟩) (L + 1) cap] w fun e w' => e = .returned (.tuple #[.int .i64 ((numP ds z).1 : Nat), .bool (numP ds z).2]) ∧ ∃ q, w' = w.drewN q := by
  have HC := hid hc
  have HL := hid hL
  have q0 : (0 : Int) ≤ (L : Int) := by omega
  have q1 : (L : Int) ≤ (cap : Int) := by omega
  have q2 : (L : Int) ≤ 11 := by omega
  have q3 : (L : Int) < (L : Int) + 1 := by omega
  clear hc hcap hL
  go_enter Try.func49, Try.ntmps49
  go_wp2
  go_loopw [2, 14] (fun x i wr => ∃ k : Nat, k ≤ L ∧ x = .int .i64 ((val (ds.take k) : Nat) : Int) ∧ i = .int .i64 k ∧ Hid ((ds.take k).all isDig = true) ∧ wr = w) (fun _ i _ => L - (intOf i).toNat)
  case atStart => exact ⟨0, by omega, rfl, rfl, rfl, rfl⟩
  case round =>
    obtain ⟨k, hk, rfl, rfl, hA, rfl⟩ := hrel
    by_cases hlt : k < L
    · have hlt' : k < ds.length := by rw [HL.out]; exact hlt
      have c1 := HC.out k hlt
      have hk0 : (0 : Int) ≤ (k : Int) := by omega
      have hk1 : (k : Int) < (L : Int) := by omega
      have hv := val_small hA.out (by rw [List.length_take]; omega)
      have HV := hid (val_take hlt')
      have HT := hid (digs_take hlt' hA.out)
      have HN := hid (digs_not hlt')
      generalize ds.getD k 0 = x at *
      clear hA HC
      have x0 : 0 ≤ V x := V_nonneg x
      rcases isDig_cases x with ⟨hx, y1, y2⟩ | ⟨hx, hx2⟩
      · have HA := hid (HT.out hx)
        have hor := or_digit (val (ds.take k)) x (by omega) y1 y2
        rw [← HV.out] at hor
        have HOr := hid hor
        have hv2 : val (ds.take k) < 8589934592 := by omega
        have y3 : V x < 256 := V_lt x
        clear HT HN hx HV hor hv
        generalize val (ds.take k) = n at *
        go_wp2
        rw [HOr.out]
        exact ⟨⟨k + 1, by omega, rfl, by go_num, HA, trivial⟩, by simp [intOf]; omega⟩
      · have HA := hid (HN.out hx)
        have HP : Hid (numP ds z = (0, false)) := by unfold Hid numP; rw [HA.out]; rfl
        clear HT HN hx HV hv HA
        rcases hx2 with y1 | ⟨y1, y2⟩
        all_goals
          go_wp2
          go_ret2
          exact ⟨by rw [HP.out]; rfl, 0, rfl⟩
    · obtain rfl : k = L := by omega
      have hge : ¬ ((k : Int) < (k : Int)) := by omega
      have HA : Hid (ds.all isDig = true) := by
        have := hA.out
        rwa [List.take_of_length_le (by rw [HL.out]; exact Nat.le_refl _)] at this
      have HV : Hid (val (ds.take k) = val ds) := by unfold Hid; rw [List.take_of_length_le (by rw [HL.out]; exact Nat.le_refl _)]
      have HP : Hid (numP ds z = (val ds, (z == 0) || (z == 32))) := by unfold Hid numP; rw [HA.out]; rfl
      rw [HV.out]
      clear hA HC HV
      generalize val ds = n at *
      by_cases z0 : z = 0
      · subst z0
        have hz' : wr.cell? ⟨b, o + k, none⟩ = some (.int .u8 0) := hz
        clear hz
        go_wp2
        go_quiet (fail)
        go_wp2
        go_ret2
        exact ⟨by rw [HP.out]; rfl, _, rfl⟩
      · by_cases z1 : z = 32
        · subst z1
          have hz' : wr.cell? ⟨b, o + k, none⟩ = some (.int .u8 32) := hz
          clear hz
          go_wp2
          go_quiet (fail)
          go_wp2
          go_ret2
          exact ⟨by rw [HP.out]; rfl, _, rfl⟩
        · have e1 : (V z == 0) = false := beq_eq_false_iff_ne.2 (V_ne z0)
          have e2 : (V z == 32) = false := beq_eq_false_iff_ne.2 (fun e => z1 (V_inj (by rw [e]; rfl)))
          have HE : Hid (((z == 0) || (z == 32)) = false) := by unfold Hid; simp [z0, z1]
          rw [HE.out] at HP
          clear z0 z1 HE
          go_wp2
          go_quiet (fail)
          go_wp2
          go_ret2
          exact ⟨by rw [HP.out]; rfl, _, rfl⟩
/-- Bytes at a place. -/
def byAt (w : World) (b o : Nat) (f : List UInt8) : Prop := ∀ j, j < f.length → w.cell? ⟨b, o + j, none⟩ = some (B (f.getD j 0))
theorem byAt.up {w w' : World} {b o : Nat} {f : List UInt8} (h : byAt w b o f) (hB : Below w.heap.size w w') : byAt w' b o f := fun j hj =>
  (World.cell?_of_block (w := w) (hB.block b (lt_of_cell (h j hj)))).trans (h j hj)
theorem byAt.drewN {w : World} {b o q : Nat} {f : List UInt8} (h : byAt w b o f) : byAt (w.drewN q) b o f := h
theorem byAt.sub {w : World} {b o : Nat} {f : List UInt8} (h : byAt w b o f) (k n : Nat) : byAt w b (o + k) (fld f k n) := fun j hj => by
  unfold fld at *
  rw [List.length_take, List.length_drop] at hj
  have := h (k + j) (by omega)
  rw [Nat.add_assoc, this, List.getD_eq_getElem?_getD, List.getD_eq_getElem?_getD, List.getElem?_take_of_lt (by omega), List.getElem?_drop]
theorem byAt.rd {w : World} {b o n cap : Nat} {f : List UInt8} (h : byAt w b o f) (hn : f.length = n) (h1 : n ≤ cap) (h2 : cap ≤ 9223372036854775807) : Rd w (.slice (some ⟨b, o, none⟩) n cap) f := by
  subst hn
  refine ⟨_, _, rfl, h1, h2, (fun h => by cases h), fun ad ha j x hj => ?_⟩
  cases ha
  obtain ⟨hl, e⟩ := List.getElem?_eq_some_iff.1 hj
  have := h j hl
  rw [List.getD_eq_getElem?_getD, hj] at this
  exact ⟨b, o, rfl, lt_of_cell this, this⟩
theorem length_fld (h : List UInt8) (o n : Nat) (hn : o + n ≤ h.length) : (fld h o n).length = n := by
  unfold fld; rw [List.length_take, List.length_drop]; omega
theorem getD_last {f : List UInt8} {n : Nat} (hf : f.length = n + 1) : f.getLastD 0 = f.getD n 0 := by
  rw [List.getLastD_eq_getLast?, List.getLast?_eq_getElem?, List.getD_eq_getElem?_getD, hf]; rfl
theorem getD_dropLast {f : List UInt8} {n j : Nat} (hf : f.length = n + 1) (hj : j < n) : f.dropLast.getD j 0 = f.getD j 0 := by
  rw [List.getD_eq_getElem?_getD, List.getD_eq_getElem?_getD, List.getElem?_dropLast, if_pos (by omega)]
theorem number_f (f : List UInt8) (b o cap n : Nat) (w : World) (hf : f.length = n + 1) (hn : n ≤ 11) (hcap : n + 1 ≤ cap) (h : byAt w b o f) :
    Calls Try.prog 49 #[.slice (some ⟨b, o, none⟩) (n + 1) cap] w fun e w' => e = .returned (.tuple #[.int .i64 ((numF f).1 : Nat), .bool (numF f).2]) ∧ ∃ q, w' = w.drewN q := by
  refine number_any f.dropLast (f.getLastD 0) b o cap n w (by rw [List.length_dropLast, hf]; rfl) hn hcap (fun j hj => ?_) ?_
  · rw [h j (by omega), getD_dropLast hf hj]
  · rw [h n (by omega), getD_last hf]
theorem V_is {x : UInt8} {n : Nat} (hn : n < 256) (h : V x = n) : x = UInt8.ofNat n := V_inj (by rw [h]; unfold V; rw [UInt8.toNat_ofNat']; omega)
set_option maxHeartbeats 2000000 in
set_option maxRecDepth 100000 in
theorem sumOf_any (f : List UInt8) (b o cap : Nat) (w : World) (hf : f.length = 8) (hcap : 8 ≤ cap) (h : byAt w b o f) :
    Calls Try.prog 45 #[.slice (some ⟨b, o, none⟩) 8 cap] w fun e w' => e = .returned (.tuple #[.int .i64 ((sumF f).1 : Nat), .bool (sumF f).2]) ∧ ∃ q, w' = w.drewN q := by
  have c7 := h 7 (by omega)
  have c6 := h 6 (by omega)
  have q1 : (7 : Int) ≤ (cap : Int) := by omega
  have HA := hid (number_f f b o cap 7 w hf (by omega) hcap h)
  have HT := hid (number_f (f.take 7) b o cap 6 w (by rw [List.length_take]; omega) (by omega) (by omega) (by have := h.sub 0 7; unfold fld at this; simpa using this))
  by_cases h7 : f.getD 7 0 = 32
  · by_cases h6 : f.getD 6 0 = 0
    · have HS : Hid (sumF f = numF (f.take 7)) := if_pos ⟨h7, h6⟩
      rw [h7] at c7
      rw [h6] at c6
      have c7' : w.cell? ⟨b, o + 7, none⟩ = some (.int .u8 32) := c7
      have c6' : w.cell? ⟨b, o + 6, none⟩ = some (.int .u8 0) := c6
      clear c7 c6 h7 h6 HA h hf
      go_enter Try.func45, Try.ntmps45
      go_wp2_with fail
      refine HT.out.mono ?_
      rintro e w1 ⟨rfl, q, rfl⟩
      go_wp2
      go_ret2
      exact ⟨by rw [HS.out]; rfl, _, rfl⟩
    · have HS : Hid (sumF f = numF f) := if_neg (fun h => h6 h.2)
      rw [h7] at c7
      have c7' : w.cell? ⟨b, o + 7, none⟩ = some (.int .u8 32) := c7
      have e6 : (V (f.getD 6 0) == 0) = false := beq_eq_false_iff_ne.2 (V_ne h6)
      generalize f.getD 6 0 = x at *
      clear c7 h7 h6 HT h hf
      go_enter Try.func45, Try.ntmps45
      go_wp2_with fail
      refine HA.out.mono ?_
      rintro e w1 ⟨rfl, q, rfl⟩
      go_wp2
      go_ret2
      exact ⟨by rw [HS.out]; rfl, _, rfl⟩
  · have HS : Hid (sumF f = numF f) := if_neg (fun h => h7 h.1)
    have e7 : (V (f.getD 7 0) == 32) = false := beq_eq_false_iff_ne.2 (fun e => h7 (V_inj (by rw [e]; rfl)))
    generalize f.getD 7 0 = x at *
    clear c6 h7 HT h hf
    go_enter Try.func45, Try.ntmps45
    go_wp2_with fail
    refine HA.out.mono ?_
    rintro e w1 ⟨rfl, q, rfl⟩
    go_wp2
    go_ret2
    exact ⟨by rw [HS.out]; rfl, _, rfl⟩
end Go.Proofs.Ytdfnhgkabaikaaa
