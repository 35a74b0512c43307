/- The statement ShaBit: for every slice of bytes and every number the call returns true, and both read afterwards as they read before. No condition but the form's own. -/
import Derived.Test.YtohfgppdeiddmaaDoorArg
import Derived.Test.YtohfgppdeiddmaaDoorCopy
import Derived.Test.YtohfgppdeiddmaaDoorPlainCrc
namespace Go.Proofs.YtohfgppdeiddmaaDoor
open Go.ChangeShapes Go.WideShapes Go.ChangeAt Go.RowKit
theorem V_xor (a b : UInt8) : bits .xor .u8 (V a) (V b) = V (a ^^^ b) := by
  unfold V; rw [u8_xor_nat _ _ a.toNat_lt b.toNat_lt, UInt8.toNat_xor]
theorem V_pow (j : Nat) (h : j < 8) : (2 : Int) ^ j = V (UInt8.ofNat (2 ^ j)) ∧ UInt8.ofNat (2 ^ j) ≠ 0 := by
  have : ∀ j : Fin 8, (2 : Int) ^ j.val = V (UInt8.ofNat (2 ^ j.val)) ∧ UInt8.ofNat (2 ^ j.val) ≠ 0 := by decide
  exact this ⟨j, h⟩
theorem own_set {w w' : World} {g cap K q : Nat} {bs : List UInt8} {rest : List Value} {y : UInt8} (hc : bs.length ≤ cap) (hK : K ≤ g) (hb : w.heap[g]? = some (.cells (bs.map B ++ rest).toArray 5 (0, 0))) (hq : q < bs.length) (hw : w' = w.setCell ⟨g, q, none⟩ (B y)) :
    OwnBytes w' (.slice (some ⟨g, 0, none⟩) bs.length cap) (bs.set q y) K := by
  subst hw
  refine .inr ⟨g, cap, rest, by simp, by simpa using hc, hK, ?_⟩
  rw [block_setCell hb]
  congr 2
  simp [hq, List.map_set]
set_option maxHeartbeats 1000000 in
theorem bit_walk (bs : List UInt8) (v : Value) (n : Nat) (hn : n ≤ 65535) (w : World) (hK : Kat w) (hS : Sat w) (hC : Cat w) (hb : Bytes w v bs) (hlen : bs.length ≤ 140737488351232) :
    Calls Tryd.prog 7 #[v, .int .u16 n] w fun e w' => e = .returned (.bool true) ∧ Below w.heap.size w w' := by
  have h2 := hK.lt
  have HK := hid hK
  have HS := hid hS
  have HC := hid hC
  have HB := hid hb
  clear hK hS hC
  obtain ⟨a, cap, rfl, hcap, _⟩ := hb
  by_cases h0 : bs.length = 0
  · have hz : ((bs.length : Int) == 0) = true := by simp [h0]
    go_enter Tryd.func7, Tryd.ntmps7
    go_wp2_with fail
    refine (live_any w HK.out HS.out HC.out).mono ?_
    rintro e w1 ⟨rfl, hB1⟩
    go_wp2
    go_ret
    exact ⟨rfl, hB1⟩
  · have hz : ((bs.length : Int) == 0) = false := beq_eq_false_iff_ne.2 (by omega)
    have hpos : 0 < bs.length := by omega
    have hk : n % (8 * bs.length) / 8 < bs.length := by
      have := Nat.mod_lt n (show 8 * bs.length > 0 by omega)
      omega
    have hki : (n : Int).tmod (8 * (bs.length : Int)) = ((n % (8 * bs.length) : Nat) : Int) := by
      rw [Int.tmod_eq_emod_of_nonneg (by omega)]; push_cast; rfl
    generalize hk0 : n % (8 * bs.length) = k at *
    clear hk0
    go_enter Tryd.func7, Tryd.ntmps7
    go_wp2_with fail
    refine (copy_any bs _ w HB.out hlen).mono ?_
    rintro e w1 ⟨v', rfl, hO1, hB1⟩
    rcases hO1 with ⟨h, _⟩ | ⟨g, c', rest, rfl, hc', hg', hbl⟩
    · subst h; simp at h0
    have hx := get_some (l := bs) (d := 0) hk
    have c1 : w1.cell? ⟨g, k / 8, none⟩ = some (B (bs.getD (k / 8) 0)) := by
      rw [cell_of_block hbl, List.getElem?_toArray, List.getElem?_append_left (by simpa using hk), List.getElem?_map, hx]; rfl
    have f1 : w1.frozen? ⟨g, k / 8, none⟩ = false := frozen_of_block hbl _
    have hgl := lt_of_heap hbl
    have HBL := hid hbl
    obtain ⟨x, hxx⟩ : ∃ x, x = bs.getD (k / 8) 0 := ⟨_, rfl⟩
    rw [← hxx] at c1
    have HX := hid hxx
    have hb8 : (k : Int) < 8 * (bs.length : Int) := by omega
    have hq : IntKind.i64.wrap ((k : Int) / 8) = (k : Int) / 8 := IntWalk.i64_in _ (by omega)
    have hq0 : (0 : Int) ≤ (k : Int) / 8 := by omega
    have hq1 : (k : Int) / 8 < (bs.length : Int) := by omega
    have hqt : ((k : Int) / 8).toNat = k / 8 := by omega
    have hr : (k : Int).tmod 8 = (k : Int) % 8 := Int.tmod_eq_emod_of_nonneg (by omega)
    have hr0 : (0 : Int) ≤ (k : Int) % 8 := by omega
    have hr1 : (k : Int) % 8 < 8 := by omega
    have hrt : ((k : Int) % 8).toNat = k % 8 := by omega
    clear hbl hx hxx hki
    go_wp2
    go_still_tail 9, hmix
    go_wp2_with fail
    obtain ⟨hp1, hp2⟩ := V_pow (k % 8) (by omega)
    have hv : bits .xor .u8 (V x) (2 ^ (k % 8) % 256) = V (x ^^^ UInt8.ofNat (2 ^ (k % 8))) := by
      rw [← V_xor, ← hp1]
      congr 1
      have := V_lt (UInt8.ofNat (2 ^ (k % 8)))
      have := V_nonneg (UInt8.ofNat (2 ^ (k % 8)))
      omega
    rw [hv]
    have hne : x ^^^ UInt8.ofNat (2 ^ (k % 8)) ≠ x := fun h => hp2 (by
      have := congrArg (fun u => x ^^^ u) h
      simpa [← UInt8.xor_assoc] using this)
    generalize x ^^^ UInt8.ofNat (2 ^ (k % 8)) = y at *
    have hO2 := own_set (y := y) (w' := w1.setCell ⟨g, k / 8, none⟩ (B y)) hc' hg' HBL.out hk rfl
    have hBs : Below w.heap.size w (w1.setCell ⟨g, k / 8, none⟩ (B y)) := hB1.setCell hg' _
    have hne2 : crcS (bs.set (k / 8) y) ≠ crcS bs := crc_byte bs (k / 8) y hk (by rw [← HX.out]; exact hne)
    have hb2 : Bytes (w1.setCell ⟨g, k / 8, none⟩ (B y)).drew (.slice (some ⟨g, 0, none⟩) bs.length c') (bs.set (k / 8) y) := hO2.bytes
    have hBd : Below w.heap.size w (w1.setCell ⟨g, k / 8, none⟩ (B y)).drew := hBs.drew
    clear hv hp1 hp2 c1 f1 HBL hO2 hBs hq hq0 hq1 hqt hr hr0 hr1 hrt hb8
    generalize (w1.setCell ⟨g, k / 8, none⟩ (B y)).drew = w2 at *
    refine (live_any w2 (HK.out.below hBd h2) (HS.out.below hBd (by omega)) (HC.out.below hBd (by omega))).mono ?_
    rintro e w3 ⟨rfl, hB3⟩
    have hb3 := hid (hb2.up hB3)
    have hBall : Below w.heap.size w w3 := hBd.trans (hB3.mono hBd.size)
    have hC3 := HC.out.below hBall (by omega)
    have hb0 := hid (HB.out.up hBall)
    have hl3 : (bs.set (k / 8) y).length = bs.length := List.length_set
    have HL3 := hid hl3
    have HNE := hid hne2
    clear hb2 hl3 hne2
    go_wp2_with fail
    refine (crc_any _ _ w3 hC3 hb3.out (by rw [HL3.out]; omega)).mono ?_
    rintro e w4 ⟨rfl, rfl⟩
    go_wp2_with fail
    refine (crc_any _ _ _ hC3 hb0.out (by omega)).mono ?_
    rintro e w4 ⟨rfl, rfl⟩
    have hu : (U (crcS (bs.set (k / 8) y)) != U (crcS bs)) = true := bne_iff_ne.2 (fun h => HNE.out (U_inj h))
    go_wp2
    go_ret
    exact ⟨rfl, hBall⟩

/-! ### The row -/
theorem shaBit_laid_met (os : Os) : laidMet Tryd.prog Rows.shaBitRow.laid ((relaidWorld (World.holding Tryd.prog os ⟨#[], #[], []⟩)).forCall (fun _ _ => 0) ⟨#[], #[.slice none 0 0, .int .u16 0], []⟩).memory :=
  laidMet_of_run' 8 (by kernel_rfl) (by kernel_rfl)
theorem shaBit_reads (os : Os) {H : Type} (enc : TypeId × Value → H) : ∃ places, DataW.whole enc Tryd.prog ((relaidWorld (World.holding Tryd.prog os ⟨#[], #[], []⟩)).forCall (fun _ _ => 0) ⟨#[], #[.slice none 0 0, .int .u16 0], []⟩).memory Tryd.f7.params.toList Rows.shaBitSpec.vars false #[Value.slice none 0 0, Value.int .u16 0].toList 8 = some ([.nil, .lit (.int .u16 0)], [], places) :=
  ⟨[], by kernel_rfl⟩
theorem shaBit_readable : ∀ t ∈ Tryd.f7.params.toList, Tryd.prog.readableRec t = true ∧ t < Tryd.prog.types.size := by
  rw [Tryd.params7]
  intro t ht
  simp only [List.mem_cons, List.mem_nil_iff, or_false] at ht
  rcases ht with rfl | rfl <;> exact ⟨by kernel_rfl, of_decide_eq_true (by kernel_rfl)⟩
theorem shaBit_contract (H : Type) (enc : TypeId × Value → H) (W : World) (base : Nat) (args : Array Value) (ds gs : List (DataW H)) (before : List MemPlace)
    (hval : ∀ (j : Nat) t v, Tryd.f7.params[j]? = some t → args[j]? = some v → Value.okWide Tryd.prog W .any base t v)
    (hW : DataW.Whole enc Tryd.prog Tryd.f7.params.toList Rows.shaBitSpec.vars false W args.toList ds gs before)
    (hsz : (DataW.weightsEach Tryd.prog (Tryd.f7.params.toList ++ (OpenSpec.ofChange Rows.shaBitSpec).bare.plain.varTypes Tryd.prog) (ds ++ gs)).all (· ≤ reachBytes) = true)
    (hL : laidMetH Tryd.prog Rows.shaBitRow.laid W) :
    Calls Tryd.prog 7 args W fun e W' => ∃ v, e = .returned v ∧ Rows.shaBitSpec.post enc Tryd.prog Tryd.f7 false true false false W args v W' := by
  obtain ⟨hK, hS, hC⟩ := tables_of hL
  have hW' := hW
  obtain ⟨p, q, hA0, hV, rfl, _, _⟩ := hW
  have hA : DataW.TrodAll enc Tryd.prog W 0 (fun _ => true) true Tryd.f7.params.toList args.toList ds p := hA0
  rw [Tryd.params7] at hA hval hsz
  obtain ⟨v0, vs0, d0, ds0, p0, q0, hargs, rfl, rfl, h0, r0⟩ := trodAll_cons hA
  obtain ⟨v1, vs1, d1, ds1, p1, q1, rfl, rfl, rfl, h1, r1⟩ := trodAll_cons r0
  obtain ⟨rfl, rfl, rfl⟩ := trodAll_nil r1
  obtain rfl : args = #[v0, v1] := by cases args; simp_all
  obtain ⟨rfl, rfl⟩ := trodVars_none hV
  obtain ⟨bs, hB, hd⟩ := bytes_open (hval 0 22 v0 rfl rfl) h0
  obtain ⟨x, rfl, rfl, rfl, wx⟩ := open_int Tryd.underlying46 (hval 1 46 v1 rfl rfl) h1
  have hx := bounds_u16 wx
  obtain ⟨n, rfl⟩ := Int.eq_ofNat_of_zero_le hx.1
  refine (bit_walk bs v0 n (by omega) W hK hS hC hB (bytes_reach (j := 0) hsz rfl rfl hd)).mono fun e W' ⟨he, hg⟩ => ?_
  subst he
  exact ⟨_, rfl, post_law hW' rfl (by kernel_rfl) rfl shaBit_readable hg⟩
set_option maxRecDepth 100000 in
theorem shaBit_lifted (os : Os) (started : os.Started) (H : Type) (enc : TypeId × Value → H) (F : Stop.Interp) :
    ReturnsInHanded {} Tryd.checked os 7 .any ((OpenSpec.ofChange Rows.shaBitSpec).preRow enc Tryd.prog Tryd.f7 Rows.shaBitRow.domain false Rows.shaBitRow.laid) (((OpenSpec.ofChange Rows.shaBitSpec).at F).post enc Tryd.prog Tryd.f7 false true false false) := by
  obtain ⟨places, hx⟩ := shaBit_reads os enc
  refine returnsInHanded_of_row (C := Tryd.checked) (s := OpenSpec.ofChange Rows.shaBitSpec) own started (by kernel_rfl) Tryd.func7
    (witness_row_at (enc := enc) (C := Tryd.checked) false (relaidWorld (World.holding Tryd.prog os ⟨#[], #[], []⟩)) #[.slice none 0 0, .int .u16 0] rfl (by kernel_rfl) (by kernel_rfl) (by kernel_rfl)
      (OpenSpec.preRow_of_cond 8 hx (by kernel_rfl) (fun k hk => by cases hk) (by kernel_rfl) (shaBit_laid_met os))) ?_
  intro W base args ds gs before hval hW _ _ hsz hL _ _
  exact shaBit_contract H enc W base args ds gs before hval hW hsz hL
theorem shaBit_said : Rows.ShaBitSaid :=
  OpenClaim.holds_of_cond 7 Tryd.f7 rfl rfl rfl rfl rfl rfl rfl ⟨rfl, rfl, rfl, rfl, rfl⟩ rfl rfl rfl rfl rfl (by kernel_rfl) Tryd.func7 (by kernel_rfl)
    (of_decide_eq_true (by kernel_rfl)) (by unfold Func.isWrapper; first | (rw [if_pos (by decide +kernel)]; kernel_rfl) | (rw [if_neg (by decide +kernel)]; exact ⟨rfl, rfl⟩))
    (fun os started H enc _ F => by rw [OpenClaim.pre_eq_preRow]; exact shaBit_lifted os started H enc F)
theorem shaBit_plain (f : FuncId) (fn : Func) (hf : Tryd.pinned.checked.prog.funcNamed "dunnage/dunnagelaw02.ShaBit" = some f) (hfn : Tryd.pinned.checked.prog.funcs[f]? = some fn) :
    false = Tryd.pinned.checked.prog.looks [] ∧ ∀ (j : Nat) t, fn.params[j]? = some t → Tryd.pinned.checked.prog.wantsStandIn t = false := by
  obtain rfl : f = 7 := Option.some.inj ((show Tryd.prog.funcNamed "dunnage/dunnagelaw02.ShaBit" = some 7 by kernel_rfl).symm.trans hf) |>.symm
  obtain rfl : fn = Tryd.f7 := (Option.some.inj (Tryd.func7.symm.trans hfn)).symm
  refine ⟨by kernel_rfl, fun j t ht => ?_⟩
  rw [Tryd.params7] at ht
  have hm := Array.mem_of_getElem? ht
  simp only [List.mem_toArray, List.mem_cons, List.mem_nil_iff, or_false] at hm
  rcases hm with rfl | rfl
  · exact (show Tryd.prog.wantsStandIn 22 = false by kernel_rfl)
  · exact (show Tryd.prog.wantsStandIn 46 = false by kernel_rfl)
/-- THE CARD: the statement ShaBit. -/
theorem shaBit_card : Rows.ShaBitCardSaid :=
  Claim7.holds_tied_plain_at .later [] _ _ _ _ shaBit_said (fun _ h => by cases h) (by kernel_rfl) (fun _ h => by cases h) shaBit_row_tie rfl ⟨rfl, rfl⟩ (by kernel_rfl) rfl shaBit_plain (by kernel_rfl)
end Go.Proofs.YtohfgppdeiddmaaDoor
