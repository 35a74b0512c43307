/- The reference's head, of whatever disk. -/
import Derived.Test.YtmnepbdbbdcllaaGreatRLog
import Derived.Test.YtmnepbdbbdcllaaGreatWHead
namespace Go.Proofs.YtmnepbdbbdcllaaGreat
open Go.RowKit
theorem two_at (b : List UInt8) (i : Nat) (h : i + 1 < b.length) : two b i = (b[i]'(by omega)).toNat * 256 + b[i + 1].toNat := by
  rw [two, List.drop_eq_getElem_cons (show i < b.length by omega), List.drop_eq_getElem_cons h, List.take_succ_cons, List.take_succ_cons, List.take_zero]
  simp only [numS, List.foldl]
  omega
theorem be_two (b : List UInt8) (i : Nat) (h : i + 1 < b.length) : beS 2 (two b i) = [b[i]'(by omega), b[i + 1]] := by
  rw [two_at b i h]
  have h1 := (b[i]'(by omega)).toNat_lt
  have h2 := b[i + 1].toNat_lt
  refine List.ext_getElem (length_beS 2 _) (fun k hk1 hk2 => ?_)
  have hk : k < 2 := by simpa [length_beS] using hk1
  have e := beS_at 2 ((b[i]'(by omega)).toNat * 256 + b[i + 1].toNat) k hk
  rw [List.getElem?_eq_getElem hk1] at e
  rw [Option.some.inj e]
  match k, hk with
  | 0, _ =>
    show UInt8.ofNat (_ / 256 ^ 1 % 256) = b[i]
    apply UInt8.toNat_inj.1
    rw [UInt8.toNat_ofNat']
    omega
  | 1, _ =>
    show UInt8.ofNat (_ / 256 ^ 0 % 256) = b[i + 1]
    apply UInt8.toNat_inj.1
    rw [UInt8.toNat_ofNat']
    omega
theorem nums_flat (b : List UInt8) : ∀ c, 4 + 2 * c ≤ b.length → (numsL b c).flatMap (beS 2) = (b.drop 4).take (2 * c)
  | 0, _ => by simp [numsL]
  | c + 1, h => by
    have ih := nums_flat b c (by omega)
    rw [numsL, List.range_succ, List.map_append, List.flatMap_append, ← numsL, ih]
    simp only [List.map_cons, List.map_nil, List.flatMap_cons, List.flatMap_nil, List.append_nil]
    rw [be_two b (4 + 2 * c) (by omega), show 2 * (c + 1) = 2 * c + 1 + 1 by omega]
    have hd : (b.drop 4).length = b.length - 4 := List.length_drop
    rw [List.take_succ_eq_append_getElem (show 2 * c + 1 < (b.drop 4).length by omega), List.take_succ_eq_append_getElem (show 2 * c < (b.drop 4).length by omega)]
    simp only [List.getElem_drop, List.append_assoc, List.cons_append, List.nil_append]
    congr 3
/-- Just such a head is one. -/
theorem headS_iff (b : List UInt8) (h : b.length = 512) (hc : two b 2 ≤ 254) : b = headS (numsL b (two b 2)) ↔ b[0] = 68 ∧ b[1] = 78 ∧ ∀ i (hi : i < b.length), 4 + 2 * two b 2 ≤ i → b[i] = 0 := by
  have e0 : headS (numsL b (two b 2)) = ([68, 78] : List UInt8) ++ ([b[2], b[3]] ++ ((b.drop 4).take (2 * two b 2) ++ zN (508 - 2 * two b 2))) := by
    rw [headS_eq, length_numsL, nums_flat b _ (by omega), be_two b 2 (by omega)]
  have e1 : b = [b[0], b[1]] ++ ([b[2], b[3]] ++ ((b.drop 4).take (2 * two b 2) ++ b.drop (4 + 2 * two b 2))) := by
    have hx : b = b[0] :: b[1] :: b[2] :: b[3] :: b.drop 4 := by
      conv => lhs; rw [← List.drop_zero (l := b), List.drop_eq_getElem_cons (show 0 < b.length by omega), List.drop_eq_getElem_cons (show 0 + 1 < b.length by omega), List.drop_eq_getElem_cons (show 0 + 1 + 1 < b.length by omega), List.drop_eq_getElem_cons (show 0 + 1 + 1 + 1 < b.length by omega)]
    have hy : (b.drop 4).take (2 * two b 2) ++ b.drop (4 + 2 * two b 2) = b.drop 4 := by rw [← List.drop_drop, List.take_append_drop]
    rw [hy]
    exact hx
  have e2 : b.drop (4 + 2 * two b 2) = zN (508 - 2 * two b 2) ↔ ∀ i (hi : i < b.length), 4 + 2 * two b 2 ≤ i → b[i] = 0 := by
    constructor
    · intro hz i hi hle
      have hj : i - (4 + 2 * two b 2) < (b.drop (4 + 2 * two b 2)).length := by rw [List.length_drop]; omega
      have h1 : (b.drop (4 + 2 * two b 2))[i - (4 + 2 * two b 2)] = b[i] := by
        rw [List.getElem_drop]
        congr 1
        omega
      rw [← h1]
      have h2 : (b.drop (4 + 2 * two b 2))[i - (4 + 2 * two b 2)]? = some 0 := by
        rw [hz, zN, List.getElem?_replicate, if_pos (by omega)]
      rw [List.getElem?_eq_getElem hj] at h2
      exact Option.some.inj h2
    · intro hz
      refine List.ext_getElem (by rw [List.length_drop, length_zN]; omega) (fun i h1 h2 => ?_)
      rw [List.getElem_drop, hz _ (by rw [List.length_drop] at h1; omega) (by omega)]
      simp only [zN, List.getElem_replicate]
  rw [e0]
  constructor
  · intro hb0
    have hb := e1.symm.trans hb0
    simp only [List.cons_append, List.nil_append, List.cons.injEq] at hb
    exact ⟨hb.1, hb.2.1, e2.1 (List.append_cancel_left hb.2.2.2.2)⟩
  · rintro ⟨h0, h1, h2⟩
    conv => lhs; rw [e1]
    rw [h0, h1, e2.2 h2]
theorem zero_iff (b : List UInt8) (h : b.length = 512) : b = zN 512 ↔ ∀ i (hi : i < b.length), b[i] = 0 := by
  constructor
  · intro hb i hi
    have h1 : b[i]? = some 0 := by rw [hb, zN, List.getElem?_replicate, if_pos (by omega)]
    rw [List.getElem?_eq_getElem hi] at h1
    exact Option.some.inj h1
  · intro hz
    refine List.ext_getElem (by rw [length_zN]; exact h) (fun i h1 h2 => ?_)
    rw [hz i h1]
    simp only [zN, List.getElem_replicate]
set_option maxRecDepth 100000 in
theorem rtwo_any (b : List UInt8) (g cap i : Nat) (w : World) (h : b.length = 512) (hi : i + 1 < 512) (hb : ∀ k (hk : k < b.length), w.cell? ⟨g, k, none⟩ = some (.int .u8 (b[k].toNat : Int))) :
    Calls Tryz.prog 83 #[.slice (some ⟨g, 0, none⟩) 512 cap, .int .i64 i] w fun e w' => e = .returned (.int .i64 (two b i : Nat)) ∧ Below w.heap.size w w' := by
  have c0 := hb i (by omega)
  have c1 := hb (i + 1) (by omega)
  have HT := hid (two_at b i (by omega))
  have h1 := (b[i]'(by omega)).toNat_lt
  have h2 := (b[i + 1]'(by omega)).toNat_lt
  have h1' : (b[i]'(by omega)).toNat < 256 := h1
  have h2' : (b[i + 1]'(by omega)).toNat < 256 := h2
  clear h1 h2 hb
  generalize (b[i]'(by omega)).toNat = x at *
  generalize (b[i + 1]'(by omega)).toNat = y at *
  have k0 : (0 : Int) ≤ (i : Int) := by omega
  have k1 : (i : Int) < 512 := by omega
  have k2 : (i : Int) + 1 < 512 := by omega
  have e1 : IntKind.i64.wrap ((i : Int) + 1) = (i : Int) + 1 := IntWalk.i64_in _ (by omega)
  have k3 : (0 : Int) ≤ (i : Int) + 1 := by omega
  have f0 : IntKind.i64.wrap (x : Int) = (x : Int) := IntWalk.i64_in _ (by omega)
  have f1 : IntKind.i64.wrap ((x : Int) * 256) = (x : Int) * 256 := IntWalk.i64_in _ (by omega)
  have f2 : IntKind.i64.wrap (y : Int) = (y : Int) := IntWalk.i64_in _ (by omega)
  have hor : bits .or .i64 ((x : Int) * 256) (y : Int) = ((x * 256 + y : Nat) : Int) := by
    rw [show (x : Int) * 256 = ((x * 256 : Nat) : Int) by omega, i64_or_nat (x * 256) y (by omega) (by omega)]
    congr 1
    rw [show x * 256 = x <<< 8 by rw [Nat.shiftLeft_eq], ← Nat.shiftLeft_add_eq_or_of_lt (show y < 2 ^ 8 by omega)]
  go_enter Tryz.func83, Tryz.ntmps83
  go_wp2
  refine wp_region_noPanic ?_
  refine wp_region_held_drew (S := fun W => W.cell? ⟨g, i, none⟩ = some (.int .u8 (x : Int)) ∧ W.cell? ⟨g, i + 1, none⟩ = some (.int .u8 (y : Int))) (by kernel_rfl) ⟨c0, c1⟩ (fun hHeld => ?_)
  refine wpAnyH_take (i := 0) (v := ?_) rfl (by kernel_rfl) (by kernel_rfl) (by kernel_rfl) (fun _ _ _ h => h) (Or.inl ⟨by rfl, ?_⟩) (by assumption) ?_
  rotate_left
  · (intro W hSw; (try dsimp only at hSw); obtain ⟨s1, s2⟩ := hSw; go_simp; try with_reducible rfl)
  try simp only [List.getElem_toArray, List.getElem_cons_zero, Act.put, List.setIfInBounds_toArray, List.set_cons_zero, List.set_cons_succ]
  refine wpAnyH_take (i := 1) (v := ?_) rfl (by kernel_rfl) (by kernel_rfl) (by kernel_rfl) (fun _ _ _ h => h) (Or.inl ⟨by rfl, ?_⟩) (by assumption) ?_
  rotate_left
  · (intro W hSw; (try dsimp only at hSw); obtain ⟨s1, s2⟩ := hSw; go_simp; try with_reducible rfl)
  try simp only [List.getElem_toArray, List.getElem_cons_succ, List.getElem_cons_zero, Act.put, List.setIfInBounds_toArray, List.set_cons_zero, List.set_cons_succ]
  refine wpAnyH_take (i := 2) (v := ?_) rfl (by kernel_rfl) (by kernel_rfl) (by kernel_rfl) (fun _ _ _ h => h) (Or.inl ⟨by rfl, ?_⟩) (by assumption) ?_
  rotate_left
  · (intro W hSw; (try dsimp only at hSw); obtain ⟨s1, s2⟩ := hSw; go_simp; try with_reducible rfl)
  try simp only [List.getElem_toArray, List.getElem_cons_succ, List.getElem_cons_zero, Act.put, List.setIfInBounds_toArray, List.set_cons_zero, List.set_cons_succ]
  refine wpAnyH_take (i := 3) (v := ?_) rfl (by kernel_rfl) (by kernel_rfl) (by kernel_rfl) (fun _ _ _ h => h) (Or.inl ⟨by rfl, ?_⟩) (by assumption) ?_
  rotate_left
  · (intro W hSw; (try dsimp only at hSw); obtain ⟨s1, s2⟩ := hSw; go_simp; try with_reducible rfl)
  try simp only [List.getElem_toArray, List.getElem_cons_succ, List.getElem_cons_zero, Act.put, List.setIfInBounds_toArray, List.set_cons_zero, List.set_cons_succ]
  refine wpAnyH_take (i := 4) (v := .int .i64 (x : Int)) rfl (by kernel_rfl) (by kernel_rfl) (by kernel_rfl) (fun _ _ _ h => h) (Or.inl ⟨by rfl, ?_⟩) (by assumption) ?_
  · (intro W hSw; (try dsimp only at hSw); obtain ⟨s1, s2⟩ := hSw; go_simp; try first | with_reducible rfl | go_num | (rw [if_pos (by assumption)]; simp only [*]) | simp only [*])
  try simp only [List.getElem_toArray, List.getElem_cons_succ, List.getElem_cons_zero, Act.put, List.setIfInBounds_toArray, List.set_cons_zero, List.set_cons_succ]
  refine wpAnyH_take (i := 5) (v := .int .i64 ((x : Int) * 256)) rfl (by kernel_rfl) (by kernel_rfl) (by kernel_rfl) (fun _ _ _ h => h) (Or.inl ⟨by rfl, ?_⟩) (by assumption) ?_
  · (intro W hSw; (try dsimp only at hSw); obtain ⟨s1, s2⟩ := hSw; go_simp; try first | with_reducible rfl | go_num | (rw [if_pos (by assumption)]; simp only [*]) | simp only [*])
  try simp only [List.getElem_toArray, List.getElem_cons_succ, List.getElem_cons_zero, Act.put, List.setIfInBounds_toArray, List.set_cons_zero, List.set_cons_succ]
  refine wpAnyH_take (i := 6) (v := ?_) rfl (by kernel_rfl) (by kernel_rfl) (by kernel_rfl) (fun _ _ _ h => h) (Or.inl ⟨by rfl, ?_⟩) (by assumption) ?_
  rotate_left
  · (intro W hSw; (try dsimp only at hSw); obtain ⟨s1, s2⟩ := hSw; go_simp; try with_reducible rfl)
  try simp only [List.getElem_toArray, List.getElem_cons_succ, List.getElem_cons_zero, Act.put, List.setIfInBounds_toArray, List.set_cons_zero, List.set_cons_succ]
  refine wpAnyH_take (i := 7) (v := ?_) rfl (by kernel_rfl) (by kernel_rfl) (by kernel_rfl) (fun _ _ _ h => h) (Or.inl ⟨by rfl, ?_⟩) (by assumption) ?_
  rotate_left
  · (intro W hSw; (try dsimp only at hSw); obtain ⟨s1, s2⟩ := hSw; go_simp; try with_reducible rfl)
  try simp only [List.getElem_toArray, List.getElem_cons_succ, List.getElem_cons_zero, Act.put, List.setIfInBounds_toArray, List.set_cons_zero, List.set_cons_succ]
  refine wpAnyH_take (i := 8) (v := .int .i64 ((i : Int) + 1)) rfl (by kernel_rfl) (by kernel_rfl) (by kernel_rfl) (fun _ _ _ h => h) (Or.inl ⟨by rfl, ?_⟩) (by assumption) ?_
  · (intro W hSw; (try dsimp only at hSw); obtain ⟨s1, s2⟩ := hSw; go_simp; try first | with_reducible rfl | go_num | (rw [if_pos (by assumption)]; simp only [*]) | simp only [*])
  try simp only [List.getElem_toArray, List.getElem_cons_succ, List.getElem_cons_zero, Act.put, List.setIfInBounds_toArray, List.set_cons_zero, List.set_cons_succ]
  refine wpAnyH_take (i := 9) (v := ?_) rfl (by kernel_rfl) (by kernel_rfl) (by kernel_rfl) (fun _ _ _ h => h) (Or.inl ⟨by rfl, ?_⟩) (by assumption) ?_
  rotate_left
  · (intro W hSw; (try dsimp only at hSw); obtain ⟨s1, s2⟩ := hSw; go_simp; try with_reducible rfl)
  try simp only [List.getElem_toArray, List.getElem_cons_succ, List.getElem_cons_zero, Act.put, List.setIfInBounds_toArray, List.set_cons_zero, List.set_cons_succ]
  refine wpAnyH_take (i := 10) (v := ?_) rfl (by kernel_rfl) (by kernel_rfl) (by kernel_rfl) (fun _ _ _ h => h) (Or.inl ⟨by rfl, ?_⟩) (by assumption) ?_
  rotate_left
  · (intro W hSw; (try dsimp only at hSw); obtain ⟨s1, s2⟩ := hSw; go_simp; try with_reducible rfl)
  try simp only [List.getElem_toArray, List.getElem_cons_succ, List.getElem_cons_zero, Act.put, List.setIfInBounds_toArray, List.set_cons_zero, List.set_cons_succ]
  refine wpAnyH_take (i := 11) (v := .int .i64 (y : Int)) rfl (by kernel_rfl) (by kernel_rfl) (by kernel_rfl) (fun _ _ _ h => h) (Or.inl ⟨by rfl, ?_⟩) (by assumption) ?_
  · (intro W hSw; (try dsimp only at hSw); obtain ⟨s1, s2⟩ := hSw; go_simp; try first | with_reducible rfl | go_num | (rw [if_pos (by assumption)]; simp only [*]) | simp only [*])
  try simp only [List.getElem_toArray, List.getElem_cons_succ, List.getElem_cons_zero, Act.put, List.setIfInBounds_toArray, List.set_cons_zero, List.set_cons_succ]
  refine wpAnyH_take (i := 12) (v := .int .i64 ((x * 256 + y : Nat) : Int)) rfl (by kernel_rfl) (by kernel_rfl) (by kernel_rfl) (fun _ _ _ h => h) (Or.inl ⟨by rfl, ?_⟩) (by assumption) ?_
  · (intro W hSw; (try dsimp only at hSw); obtain ⟨s1, s2⟩ := hSw; go_simp; try first | with_reducible rfl | go_num | (rw [if_pos (by assumption)]; simp only [*]) | simp only [*])
  try simp only [List.getElem_toArray, List.getElem_cons_succ, List.getElem_cons_zero, Act.put, List.setIfInBounds_toArray, List.set_cons_zero, List.set_cons_succ]
  refine wpAnyH_take (i := 13) (v := ?_) rfl (by kernel_rfl) (by kernel_rfl) (by kernel_rfl) (fun _ _ _ h => h) (Or.inl ⟨by rfl, ?_⟩) (by assumption) ?_
  rotate_left
  · (intro W hSw; (try dsimp only at hSw); obtain ⟨s1, s2⟩ := hSw; go_simp; try with_reducible rfl)
  try simp only [List.getElem_toArray, List.getElem_cons_succ, List.getElem_cons_zero, Act.put, List.setIfInBounds_toArray, List.set_cons_zero, List.set_cons_succ]
  refine wpAnyH_done (by kernel_rfl) ?_ _
  refine NoPanic.normal ?_
  go_wp2
  go_ret
  exact ⟨by rw [HT.out]; rfl, (Below.refl _ _).drew⟩
theorem headNums_of {b : List UInt8} (h : b.length = 512) (size N : Nat) (hz : b ≠ zN 512) : headNums b size N = if min size 100 < two b 2 then none else if rises b N (two b 2) ∧ b[0] = 68 ∧ b[1] = 78 ∧ ∀ i (hi : i < b.length), 4 + 2 * two b 2 ≤ i → b[i] = 0 then some (numsL b (two b 2)) else none := by
  rw [headNums, if_neg hz]
  by_cases hc : min size 100 < two b 2
  · rw [if_pos hc, if_pos hc]
  · rw [if_neg hc, if_neg hc]
    have e := headS_iff b h (by omega)
    by_cases hr : rises b N (two b 2)
    · by_cases hb : b = headS (numsL b (two b 2))
      · rw [if_pos ⟨hr, hb⟩, if_pos ⟨hr, e.1 hb⟩]
      · rw [if_neg (fun x => hb x.2), if_neg (fun x => hb (e.2 x.2))]
    · rw [if_neg (fun x => hr x.1), if_neg (fun x => hr x.1)]
/-- What head answers. -/
def HeadTo : Option (List Nat) → Nat → World → Ending → Prop
  | none, _, _, e => e = .returned (.tuple #[.slice none 0 0, .bool false])
  | some ns, K, w', e => ∃ a c, e = .returned (.tuple #[.slice a ns.length c, .bool true]) ∧ intsAt w' a (natsZ ns) ∧ ∀ ad, a = some ad → K ≤ ad.block
def allZ (b : List UInt8) (k : Nat) : Bool := (b.take k).all (fun x => x == 0)
theorem allZ_succ (b : List UInt8) (k : Nat) (h : k < b.length) : allZ b (k + 1) = (allZ b k && (b[k] == 0)) := by
  rw [allZ, allZ, List.take_succ_eq_append_getElem h, List.all_append]; simp
theorem allZ_iff (b : List UInt8) (h : b.length = 512) : allZ b 512 = true ↔ b = zN 512 := by
  rw [zero_iff b h, allZ, List.take_of_length_le (by omega), List.all_eq_true]
  constructor
  · intro hz i hi; exact beq_iff_eq.1 (hz _ (List.getElem_mem hi))
  · intro hz x hx
    obtain ⟨i, hi, rfl⟩ := List.mem_iff_getElem.1 hx
    exact beq_iff_eq.2 (hz i hi)
theorem u8_zero (x : UInt8) : ((x.toNat : Int) == 0) = (x == 0) := by
  by_cases h : x = 0
  · subst h; rfl
  · rw [beq_eq_false_iff_ne.2 h]
    have : x.toNat ≠ 0 := fun e => h (UInt8.toNat_inj.1 (by simpa using e))
    exact beq_eq_false_iff_ne.2 (by omega)
theorem natsZ_snoc (b : List UInt8) (j : Nat) : (natsZ (numsL b (j + 1))).map encZ = (natsZ (numsL b j)).map encZ ++ [.int .i64 (two b (4 + 2 * j) : Nat)] := by
  simp [natsZ, numsL, List.range_succ]
set_option maxRecDepth 100000 in
set_option maxHeartbeats 4000000 in
theorem rhead_any (q r : Nat) (fv lv : Value) (vs : List Value) (Rd : Nat → Prop) (R : RefS) (size rec : Nat) (b : List UInt8) (w : World) (h : RLogIn w q r fv lv vs Rd R size rec) (hR : okR R) (hm : R.l.length ≤ 1000000) (hs : size + 1 ≤ R.first.length) (hb : (atL R R.l.length)[0]? = some b) (h5 : b.length = 512) :
    Calls Tryz.prog 62 #[.pointer (some ⟨q, 0, none⟩)] w fun e w' => Below w.heap.size w w' ∧ HeadTo (headNums b size (pagesR R size)) w.heap.size w' e := by
  have c0 : w.cell? ⟨q, 0, none⟩ = some (.pointer (some ⟨r, 0, none⟩)) := cell_of_block h.heap 0
  have HRe := hid (rread_ok r fv lv vs Rd R 0 b w h.disk hR hm (by omega) (by omega) hb h5)
  have HPg := hid (fun W (hW : Below w.heap.size w W) => rlpages_any W (h.below hW) hR.1 hs)
  have HCp := hid (fun W (hW : Below w.heap.size w W) => rlcap_any W (h.below hW))
  have hN : pagesR R size ≤ 4096 := by have := hR.1; unfold pagesR; omega
  obtain ⟨HN, hHN⟩ : ∃ HN, HN = headNums b size (pagesR R size) := ⟨_, rfl⟩
  rw [← hHN]
  have HHN := hid hHN
  have H5 := hid h5
  clear h hR hm hb hHN h5
  generalize pagesR R size = N at *
  obtain ⟨i0, hi, hz0, hz1, hz2⟩ := info_parts infoInt
  have HI := hid hi
  clear hi
  go_enter Tryz.func62, Tryz.ntmps62
  go_wp2_with fail
  refine HRe.out.mono ?_
  clear HRe
  rintro e w1 ⟨hb1, g, cap, rfl, hat⟩
  have HB1 := hid hb1
  have HAt : Hid (∀ W, Below w1.heap.size w1 W → ∀ k (hk : k < b.length), W.cell? ⟨g, k, none⟩ = some (.int .u8 (b[k].toNat : Int))) := fun W hW k hk => by
    obtain ⟨b', o, e, hc⟩ := hat k hk
    simp only [Option.some.injEq, Addr.mk.injEq, and_true] at e
    obtain ⟨rfl, rfl⟩ := e
    have := hc k hk
    rw [Nat.zero_add] at this
    exact (hW.cell (p := ⟨g, k, none⟩) (World.block_lt_of_cell? w1 _ this)).trans this
  have HTw : Hid (∀ W i, Below w1.heap.size w1 W → i + 1 < 512 → Calls Tryz.prog 83 #[.slice (some ⟨g, 0, none⟩) 512 cap, .int .i64 (i : Nat)] W fun e w' => e = .returned (.int .i64 (two b i : Nat)) ∧ Below W.heap.size W w') := fun W i hW hi => rtwo_any b g cap i W H5.out hi (HAt.out W hW)
  clear hb1 hat c0
  go_wp2
  go_loopw [6, 7] (fun a i wr => wr = w1 ∧ ∃ k : Nat, k ≤ 512 ∧ a = .bool (allZ b k) ∧ i = .int .i64 k) (fun _ i _ => 512 - (intOf i).toNat)
  case atStart => exact ⟨rfl, 0, by omega, rfl, rfl⟩
  case round =>
    obtain ⟨rfl, k, hk, rfl, rfl⟩ := hrel
    by_cases hlt : k < 512
    · have hk0 : (0 : Int) ≤ (k : Int) := by omega
      have hk1 : (k : Int) < 512 := by omega
      have ck := HAt.out _ (Below.refl _ _) k (by rw [H5.out]; exact hlt)
      have HSu := hid (allZ_succ b k (by rw [H5.out]; exact hlt))
      have hu := u8_zero (b[k]'(by rw [H5.out]; exact hlt))
      have hxl := (b[k]'(by rw [H5.out]; exact hlt)).toNat_lt
      generalize (b[k]'(by rw [H5.out]; exact hlt)) = x at *
      cases hz : allZ b k with
      | true =>
        rw [hz] at HSu
        cases hx : (x == 0) with
        | true =>
          rw [hx] at HSu hu
          go_wp2
          exact ⟨⟨by first | rfl | trivial, k + 1, by omega, by rw [HSu.out]; rfl, by go_num⟩, by simp [intOf]; omega⟩
        | false =>
          rw [hx] at HSu hu
          go_wp2
          exact ⟨⟨by first | rfl | trivial, k + 1, by omega, by rw [HSu.out]; rfl, by go_num⟩, by simp [intOf]; omega⟩
      | false =>
        rw [hz] at HSu
        go_wp2
        exact ⟨⟨by first | rfl | trivial, k + 1, by omega, by rw [HSu.out]; rfl, by go_num⟩, by simp [intOf]; omega⟩
    · obtain rfl : k = 512 := by omega
      have hge : ¬ (((512 : Nat) : Int) < 512) := by omega
      cases hz : allZ b 512 with
      | true =>
        have hE : HN = some [] := by rw [HHN.out, headNums, if_pos ((allZ_iff b H5.out).1 hz)]
        have HE := hid hE
        clear hz hE
        go_wp2
        go_returns
        rw [HE.out]
        exact ⟨HB1.out, none, 0, rfl, fun j hj => by simp [natsZ] at hj, fun ad e => by cases e⟩
      | false =>
        have hne : b ≠ zN 512 := fun e => by rw [(allZ_iff b H5.out).2 e] at hz; cases hz
        have HOf := hid (HHN.out.trans (headNums_of H5.out size N hne))
        clear hz hne
        have hc2 : two b 2 < 65536 := two_lt b 2
        have HT2 := hid (HTw.out _ 2 (Below.refl _ _) (by omega))
        have b0 := HAt.out _ (Below.refl _ _) 0 (by rw [H5.out]; decide)
        have b1 := HAt.out _ (Below.refl _ _) 1 (by rw [H5.out]; decide)
        go_wp2_with fail
        refine HT2.out.mono ?_
        clear HT2
        rintro e w2 ⟨rfl, hb2⟩
        have HB2 := hid hb2
        have d0 := HAt.out _ hb2 0 (by rw [H5.out]; decide)
        have d1 := HAt.out _ hb2 1 (by rw [H5.out]; decide)
        have HC2 := hid (HCp.out w2 (HB1.out.trans (hb2.mono HB1.out.size)))
        clear hb2 b0 b1 HCp
        have HB0 : Hid (∀ hx : 0 < b.length, b[0] ≠ 68 → HN = none) := fun hx hne => by
          rw [HOf.out]
          split
          · rfl
          · rw [if_neg (fun x => hne x.2.1)]
        have HB1' : Hid (∀ hx : 1 < b.length, b[1] ≠ 78 → HN = none) := fun hx hne => by
          rw [HOf.out]
          split
          · rfl
          · rw [if_neg (fun x => hne x.2.2.1)]
        have hu0 : ∀ x y : UInt8, ((x.toNat : Int) == (y.toNat : Int)) = (x == y) := fun x y => by
          by_cases hh : x = y
          · subst hh; simp
          · rw [beq_eq_false_iff_ne.2 hh]
            exact beq_eq_false_iff_ne.2 (fun e => hh (UInt8.toNat_inj.1 (by omega)))
        by_cases hb0 : b[0]'(by rw [H5.out]; decide) = 68
        · rw [hb0] at d0
          by_cases hb1 : b[1]'(by rw [H5.out]; decide) = 78
          · rw [hb1] at d1
            by_cases hcp : min size 100 < two b 2
            · have hE : HN = none := by rw [HOf.out, if_pos hcp]
              have HE := hid hE
              have hcp' : ((min size 100 : Nat) : Int) < (two b 2 : Nat) := by omega
              clear hE hcp
              generalize min size 100 = cp at *
              generalize two b 2 = t2 at *
              go_wp2_with fail
              refine HC2.out.mono ?_
              clear HC2
              rintro e w3 ⟨rfl, h3⟩
              obtain rfl := h3.symm
              go_wp2
              go_returns
              rw [HE.out]
              exact ⟨HB1.out.trans (HB2.out.mono HB1.out.size), rfl⟩
            · have hcp' : ¬ (((min size 100 : Nat) : Int) < (two b 2 : Nat)) := by omega
              have HOf2 : Hid (HN = if rises b N (two b 2) ∧ ∀ i (hi : i < b.length), 4 + 2 * two b 2 ≤ i → b[i] = 0 then some (numsL b (two b 2)) else none) := by
                unfold Hid
                rw [HOf.out, if_neg hcp]
                by_cases hx : rises b N (two b 2) ∧ ∀ i (hi : i < b.length), 4 + 2 * two b 2 ≤ i → b[i] = 0
                · rw [if_pos hx, if_pos ⟨hx.1, hb0, hb1, hx.2⟩]
                · rw [if_neg hx, if_neg (fun y => hx ⟨y.1, y.2.2.2⟩)]
              have hc100 : two b 2 ≤ 100 := by omega
              clear HOf hcp HB0 HB1' hu0 hc2 hb0 hb1
              have d0' : w2.cell? ⟨g, 0, none⟩ = some (.int .u8 68) := d0
              have d1' : w2.cell? ⟨g, 1, none⟩ = some (.int .u8 78) := d1
              have hd1 : decide (((two b 2 : Nat) : Int) > ((min size 100 : Nat) : Int)) = false := decide_eq_false (by omega)
              have hd2 : decide (min size 100 < two b 2) = false := decide_eq_false (by omega)
              clear d0 d1
              generalize min size 100 = cp at *
              generalize two b 2 = c at *
              go_wp2_with fail
              refine HC2.out.mono ?_
              clear HC2
              rintro e w3 ⟨rfl, h3⟩
              obtain rfl := h3.symm
              go_wp2
              go_loopw [9, 10] (fun v i wr => ∃ j : Nat, j ≤ c ∧ i = .int .i64 j ∧ Hid (rises b N j) ∧ Hid (wr.ownsRow w2.heap.size 3 1 v j ((natsZ (numsL b j)).map encZ)) ∧ Hid (Below w2.heap.size w2 wr)) (fun _ i _ => c - (intOf i).toNat)
              case atStart => exact ⟨0, by omega, rfl, fun i hi => by omega, World.ownsRow_nil _ _ _ _, Below.refl _ _⟩
              case round =>
                obtain ⟨j, hj, rfl, hri, hO, hB⟩ := hrel
                have HBw := hid (HB2.out.trans (hB.out.mono HB2.out.size))
                by_cases hlt : j < c
                · have hj0 : (0 : Int) ≤ (j : Int) := by omega
                  have hj1 : (j : Int) < (c : Int) := by omega
                  have hj2 : (j : Int) < 100 := by omega
                  have ht := HTw.out _ (4 + 2 * j) HBw.out (by omega)
                  rw [show ((4 + 2 * j : Nat) : Int) = 4 + 2 * (j : Int) by omega] at ht
                  have HT := hid ht
                  have hpl := two_lt b (4 + 2 * j)
                  have HSn := hid (natsZ_snoc b j)
                  have HNo1 : Hid (N ≤ two b (4 + 2 * j) → HN = none) := fun hx => by
                    rw [HOf2.out, if_neg (fun y => by have := (y.1 j hlt).1; omega)]
                  have HNo2 : Hid (0 < j → two b (4 + 2 * j) ≤ two b (4 + 2 * (j - 1)) → HN = none) := fun h0 hx => by
                    rw [HOf2.out, if_neg (fun y => by have := (y.1 j hlt).2 h0; omega)]
                  have HRs : Hid (two b (4 + 2 * j) < N → (0 < j → two b (4 + 2 * (j - 1)) < two b (4 + 2 * j)) → rises b N (j + 1)) := fun h1 h2 i hi => by
                    by_cases e : i = j
                    · subst e; exact ⟨h1, h2⟩
                    · exact hri.out i (by omega)
                  have HPv : Hid (∀ t, t < j → ∀ (g9 c9 : Nat) (W : World), W.ownsRow w2.heap.size 3 1 (.slice (some ⟨g9, 0, none⟩) j c9) j ((natsZ (numsL b j)).map encZ) → W.cell? ⟨g9, t, none⟩ = some (.int .i64 (two b (4 + 2 * t) : Nat))) := fun t ht' g9 c9 W hrow => by
                    rw [hrow.cellAt t (by omega)]
                    simp [natsZ, numsL, ht']
                  clear ht hri
                  obtain ⟨pj, hpj⟩ : ∃ pj, pj = two b (4 + 2 * j) := ⟨_, rfl⟩
                  rw [← hpj] at HT hpl HSn HNo1 HNo2 HRs
                  clear hpj
                  go_wp2_with fail
                  refine HT.out.mono ?_
                  clear HT
                  rintro e w3 ⟨rfl, hb3⟩
                  have HB3 := hid (hB.out.trans (hb3.mono hB.out.size))
                  have HO3 := hid ((Keeps.of_below (F := fun _ => False) hb3).row hO.out (fun _ _ e => e))
                  have HP3 := hid (HPg.out w3 (HB1.out.trans ((HB2.out.trans (HB3.out.mono HB2.out.size)).mono HB1.out.size)))
                  clear hb3
                  go_wp2_with fail
                  refine HP3.out.mono ?_
                  clear HP3
                  rintro e w4 ⟨rfl, hb4⟩
                  have HB4 := hid (HB3.out.trans (hb4.mono HB3.out.size))
                  have HO4 := hid ((Keeps.of_below (F := fun _ => False) hb4).row HO3.out (fun _ _ e => e))
                  clear hb4 HB3 HO3
                  by_cases hpn : N ≤ pj
                  · have hp1 : (pj : Int) ≥ (N : Int) := by omega
                    have HE := hid (HNo1.out hpn)
                    clear hpn
                    go_wp2
                    go_returns
                    rw [HE.out]
                    exact ⟨HB1.out.trans ((HB2.out.trans (HB4.out.mono HB2.out.size)).mono HB1.out.size), rfl⟩
                  · have hp1 : ¬ ((pj : Int) ≥ (N : Int)) := by omega
                    by_cases hz : j = 0
                    · subst hz
                      have HRi := hid (HRs.out (by omega) (fun h => by omega))
                      clear hpn
                      go_wp2_with (refine wpList_append_lies _ rfl (.tmp 81) (.tmp 83) 30 rfl w2.heap.size 3 i0 (.int .i64 0) 1 8 Tryz.underlying30 HI.out hz0 hz1 hz2 rfl (by omega) u9 0 _ rfl (HO4.out.alloc _) ⟨w4.heap.size, 0, none⟩ 1 1 [.int .i64 (pj : Int)] rfl rfl (World.news_of_block (cs := #[.int .i64 (pj : Int)]) (block_new w4 _)) (by intro u hu; rw [List.mem_singleton.1 hu]; rfl) (by omega) (by unfold maxLen; omega) (by omega) (by have := HB4.out.size; simp; omega) (w4.heap.size + 1) (by simp) ?_; intro g2 cap2 w5 hown hgr hat hlt2; have HOw := hid hown; have HGr := hid hgr; clear hown hgr hat hlt2)
                      have hal := HB4.out.alloc HB4.out.size (.cells #[.int .i64 (pj : Int)] 3)
                      refine ⟨⟨0 + 1, by omega, by go_num, HRi, ?_, hal.trans (below_of_row HGr.out hal.size (fun i e => (HO4.out.lt i e).1))⟩, by simp [intOf]; omega⟩
                      have := HOw.out
                      unfold Hid
                      rw [HSn.out]
                      exact this
                    · have hpos : 0 < j := by omega
                      obtain ⟨g9, c9, rfl, -⟩ := HO4.out.form hpos
                      obtain ⟨t, ht⟩ : ∃ t : Nat, j = t + 1 := ⟨j - 1, by omega⟩
                      have cv := HPv.out t (by omega) g9 c9 w4 HO4.out
                      have e9 : IntKind.i64.wrap ((j : Int) - 1) = (t : Int) := by rw [show (j : Int) - 1 = (t : Int) by omega]; exact IntWalk.i64_in _ (by omega)
                      have t0 : (0 : Int) ≤ (t : Int) := by omega
                      have t1 : (t : Int) < (j : Int) := by omega
                      have hjp : (j : Int) > 0 := by omega
                      have ej : (j : Int) - 1 = (t : Int) := by omega
                      have hN2 := HNo2.out hpos
                      rw [show j - 1 = t by omega] at hN2
                      have hR2 := HRs.out (by omega)
                      rw [show j - 1 = t by omega] at hR2
                      have HN2 := hid hN2
                      have HR2 := hid hR2
                      have hpv := two_lt b (4 + 2 * t)
                      generalize two b (4 + 2 * t) = pv at *
                      clear hN2 hR2 ht hz
                      by_cases hle : pj ≤ pv
                      · have hp2 : (pj : Int) ≤ (pv : Int) := by omega
                        have HE := hid (HN2.out hle)
                        clear hpn hle
                        go_wp2
                        go_returns
                        rw [HE.out]
                        exact ⟨HB1.out.trans ((HB2.out.trans (HB4.out.mono HB2.out.size)).mono HB1.out.size), rfl⟩
                      · have hp2 : ¬ ((pj : Int) ≤ (pv : Int)) := by omega
                        have HRi := hid (HR2.out (fun _ => by omega))
                        clear hpn hle
                        go_wp2_with (refine wpList_append_lies _ rfl (.tmp 81) (.tmp 83) 30 rfl w2.heap.size 3 i0 (.int .i64 0) 1 8 Tryz.underlying30 HI.out hz0 hz1 hz2 rfl (by omega) (.slice (some ⟨g9, 0, none⟩) j c9) j _ rfl (HO4.out.alloc _) ⟨w4.heap.size, 0, none⟩ 1 1 [.int .i64 (pj : Int)] rfl rfl (World.news_of_block (cs := #[.int .i64 (pj : Int)]) (block_new w4 _)) (by intro u hu; rw [List.mem_singleton.1 hu]; rfl) (by omega) (by unfold maxLen; omega) (by omega) (by have := HB4.out.size; simp; omega) (w4.heap.size + 1) (by simp) ?_; intro g2 cap2 w5 hown hgr hat hlt2; have HOw := hid hown; have HGr := hid hgr; clear hown hgr hat hlt2)
                        have hal := HB4.out.alloc HB4.out.size (.cells #[.int .i64 (pj : Int)] 3)
                        refine ⟨⟨j + 1, by omega, by go_num, HRi, ?_, hal.trans (below_of_row HGr.out hal.size (fun i e => (HO4.out.lt i e).1))⟩, by simp [intOf]; omega⟩
                        have := HOw.out
                        unfold Hid
                        rw [HSn.out]
                        exact this
                · obtain rfl : j = c := by omega
                  have hge2 : ¬ ((j : Int) < (j : Int)) := by omega
                  have hcc : (j : Int) ≤ 100 := by omega
                  have hcc0 : (0 : Int) ≤ (j : Int) := by omega
                  have hrow := hO.out
                  have hln : (natsZ (numsL b j)).length = j := by simp [natsZ, numsL]
                  rw [show wr.ownsRow w2.heap.size 3 1 u9 j ((natsZ (numsL b j)).map encZ) ↔ wr.ownsRow w2.heap.size 3 1 u9 (natsZ (numsL b j)).length ((natsZ (numsL b j)).map encZ) by rw [hln]] at hrow
                  obtain ⟨na, nc, hu9, hin⟩ := ints_of_row hrow
                  rw [hln] at hu9
                  subst hu9
                  have HIn := hid hin
                  have HLo : Hid (∀ ad, na = some ad → w.heap.size ≤ ad.block) := fun ad e => by
                    subst e
                    have h1 := hO.out.lt ad.block rfl
                    have h2 := HB1.out.size
                    have h3 := HB2.out.size
                    omega
                  obtain ⟨wl, hwl⟩ : ∃ wl, wl = wr := ⟨_, rfl⟩
                  rw [← hwl] at HIn
                  have HBl : Hid (Below w.heap.size w wl) := by rw [hwl]; exact HB1.out.trans (HBw.out.mono HB1.out.size)
                  have HAl : Hid (∀ W, Below wl.heap.size wl W → ∀ k (hk : k < b.length), W.cell? ⟨g, k, none⟩ = some (.int .u8 (b[k].toNat : Int))) := fun W hW => by rw [hwl] at hW; exact HAt.out _ (HBw.out.trans (hW.mono HBw.out.size))
                  clear hrow hin hln hO hB HBw
                  go_wp2
                  go_loopw [12] (fun i wr => Hid (Below wl.heap.size wl wr) ∧ ∃ k : Nat, 4 + 2 * j ≤ k ∧ k ≤ 512 ∧ i = .int .i64 k ∧ Hid (∀ m (hm : m < b.length), 4 + 2 * j ≤ m → m < k → b[m] = 0)) (fun i _ => 512 - (intOf i).toNat)
                  case atStart => exact ⟨by rw [hwl]; exact Below.refl _ _, 4 + 2 * j, by omega, by omega, by congr 1 <;> omega, fun m hm h1 h2 => by omega⟩
                  case round =>
                    obtain ⟨hBk, k, hk1, hk2, rfl, hZ⟩ := hrel
                    by_cases hkl : k < 512
                    · have hk0 : (0 : Int) ≤ (k : Int) := by omega
                      have hk3 : (k : Int) < 512 := by omega
                      have ck := HAl.out _ hBk.out k (by rw [H5.out]; exact hkl)
                      have hu := u8_zero (b[k]'(by rw [H5.out]; exact hkl))
                      by_cases hbz : b[k]'(by rw [H5.out]; exact hkl) = 0
                      · have HZ2 : Hid (∀ m (hm : m < b.length), 4 + 2 * j ≤ m → m < k + 1 → b[m] = 0) := fun m hm h1 h2 => by
                          by_cases e : m = k
                          · subst e; exact hbz
                          · exact hZ.out m hm h1 (by omega)
                        rw [hbz] at ck
                        clear hu hbz
                        go_wp2
                        exact ⟨⟨hBk, k + 1, by omega, by omega, by go_num, HZ2⟩, by simp [intOf]; omega⟩
                      · rw [beq_eq_false_iff_ne.2 hbz] at hu
                        have HE : Hid (HN = none) := by
                          unfold Hid
                          rw [HOf2.out, if_neg (fun y => hbz (y.2 k (by rw [H5.out]; exact hkl) hk1))]
                        clear hbz
                        generalize (b[k]'(by rw [H5.out]; exact hkl)).toNat = y at *
                        have hy1 : ¬ ((y : Int) = 0) := fun e => by rw [e] at hu; cases hu
                        have hy2 : ((y : Int) != 0) = true := by simp [bne, hu]
                        have hy3 : ¬ (y = 0) := by omega
                        go_wp2
                        go_returns
                        rw [HE.out]
                        exact ⟨HBl.out.trans (hBk.out.mono HBl.out.size), rfl⟩
                    · obtain rfl : k = 512 := by omega
                      have hge3 : ¬ (((512 : Nat) : Int) < 512) := by omega
                      have HE : Hid (HN = some (numsL b j)) := by
                        unfold Hid
                        rw [HOf2.out, if_pos ⟨hri.out, fun i hi h1 => hZ.out i hi h1 (by rw [H5.out] at hi; exact hi)⟩]
                      go_wp2
                      go_returns
                      rw [HE.out]
                      exact ⟨HBl.out.trans (hBk.out.mono HBl.out.size), na, nc, by rw [length_numsL]; rfl, HIn.out.below hBk.out, HLo.out⟩
          · have hE := HB1'.out (by rw [H5.out]; decide) hb1
            have HE := hid hE
            have hx := hu0 (b[1]'(by rw [H5.out]; decide)) 78
            rw [beq_eq_false_iff_ne.2 hb1] at hx
            have hx' : (((b[1]'(by rw [H5.out]; decide)).toNat : Int) == 78) = false := hx
            clear hE hb1 hx
            generalize (b[1]'(by rw [H5.out]; decide)).toNat = y at *
            have hy1 : ¬ ((y : Int) = 78) := fun e => by rw [e] at hx'; cases hx'
            have hy2 : ((y : Int) != 78) = true := by simp [bne, hx']
            have hy3 : ¬ (y = 78) := by omega
            generalize two b 2 = t2 at *
            go_wp2
            go_returns
            rw [HE.out]
            exact ⟨HB1.out.trans (HB2.out.mono HB1.out.size), rfl⟩
        · have hE := HB0.out (by rw [H5.out]; decide) hb0
          have HE := hid hE
          have hx := hu0 (b[0]'(by rw [H5.out]; decide)) 68
          rw [beq_eq_false_iff_ne.2 hb0] at hx
          have hx' : (((b[0]'(by rw [H5.out]; decide)).toNat : Int) == 68) = false := hx
          clear hE hb0 hx
          generalize (b[0]'(by rw [H5.out]; decide)).toNat = y at *
          have hy1 : ¬ ((y : Int) = 68) := fun e => by rw [e] at hx'; cases hx'
          have hy2 : ((y : Int) != 68) = true := by simp [bne, hx']
          have hy3 : ¬ (y = 68) := by omega
          generalize two b 2 = t2 at *
          go_wp2
          go_returns
          rw [HE.out]
          exact ⟨HB1.out.trans (HB2.out.mono HB1.out.size), rfl⟩
end Go.Proofs.YtmnepbdbbdcllaaGreat
