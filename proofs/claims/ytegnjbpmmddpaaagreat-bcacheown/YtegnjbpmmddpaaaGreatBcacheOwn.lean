/- BcacheOwn: a page that was written is read so at once; what was handed in and told is nobody else's, for every deed: the statement, proved. -/
import Derived.Test.YtegnjbpmmddpaaaGreatBOwnWalk
import Derived.Test.YtegnjbpmmddpaaaGreatBaseC
namespace Go.Proofs.YtegnjbpmmddpaaaGreat
open Go.ChangeShapes Go.WideShapes Go.ChangeAt Go.RowKit
theorem cellsD4 : Tryz.prog.cellsOf 30 = 4 := by kernel_rfl
set_option maxRecDepth 100000 in
/-- A deed that was handed in. -/
theorem deed4_open {H : Type} {enc : TypeId × Value → H} {W : World} {r : Reach} {b0 base : Nat} {sp : Nat → Bool} {held : Bool} {v : Value} {d : DataW H} {p : List MemPlace} (hv : Value.okWide Tryz.prog W r b0 30 v) (h : DataW.Trod enc Tryz.prog W base sp held 30 v d p) :
    ∃ (k n : Int) (x : UInt8) (s : Bool), v = .agg #[.int .i64 k, .int .i64 n, .int .u8 (x.toNat : Int), .bool s] ∧ -9223372036854775808 ≤ n ∧ n < 9223372036854775808 := by
  obtain ⟨v0, v1, v2, v3, y0, y1, y2, y3, k, rfl, _, _, h0, h1, h2, h3⟩ := Joins.open_agg4 Tryz.underlying30 (by kernel_rfl) cellsD4 hv h
  obtain ⟨f, e0, _⟩ := DataW.trod_int Tryz.underlying3 h0
  obtain ⟨n, e1, _, w1⟩ := DataW.trod_int Tryz.underlying3 h1
  obtain ⟨l, e2, _, w2⟩ := DataW.trod_int Tryz.underlying5 h2
  obtain ⟨x, e3, _⟩ := DataW.trod_bool Tryz.underlying4 h3
  simp only [List.cons.injEq, and_true] at e0 e1 e2 e3
  subst e0 e1 e2 e3
  have hb := bounds_u8 w2
  have hc0 := bounds_i64 w1
  have hc : -9223372036854775808 ≤ n ∧ n < 9223372036854775808 := ⟨hc0.1, by omega⟩
  refine ⟨f, n, UInt8.ofNat l.toNat, x, ?_, hc.1, hc.2⟩
  have e : ((UInt8.ofNat l.toNat).toNat : Int) = l := by rw [UInt8.toNat_ofNat']; omega
  rw [e]
theorem bcacheOwn_readable : ∀ t ∈ Tryz.f7.params.toList, Tryz.prog.readableRec t = true ∧ t < Tryz.prog.types.size := by
  rw [Tryz.params7]
  intro t ht
  simp only [List.mem_cons, List.mem_nil_iff, or_false] at ht
  subst ht; exact ⟨by kernel_rfl, of_decide_eq_true (by kernel_rfl)⟩
set_option maxRecDepth 100000 in
theorem bcacheOwn_lifted (os : Os) (started : os.Started) (H : Type) (enc : TypeId × Value → H) :
    ReturnsInHanded {} Tryz.checked os 7 .any (Rows.bcacheOwnSpec.pre6 enc Tryz.prog Tryz.f7 Rows.bcacheOwnRow.domain false) (Rows.bcacheOwnSpec.post enc Tryz.prog Tryz.f7 false true false false) := by
  refine returnsInHanded_of_change (C := Tryz.checked) own started (by kernel_rfl) Tryz.func7
    (ChangeSpec.witness6 (enc := enc) (C := Tryz.checked) false ⟨#[], #[.agg #[.int .i64 0, .int .i64 0, .int .u8 0, .bool false]], []⟩ 8 (by kernel_rfl) (by kernel_rfl) (by kernel_rfl) (by kernel_rfl)) ?_
  intro W base args ds gs before hval0 hW hcnd _
  have hval : ∀ (j : Nat) t v, Tryz.f7.params[j]? = some t → args[j]? = some v → Value.okWide Tryz.prog W .any base t v := hval0
  have hW' := hW
  obtain ⟨p, q, hA0, hV, rfl, hfz, hnd⟩ := hW
  have hA : DataW.TrodAll enc Tryz.prog W 0 (fun _ => true) true Tryz.f7.params.toList args.toList ds p := hA0
  rw [Tryz.params7] at hA hval
  obtain ⟨v0, vs0, d0, ds0, p0, q0, hargs, rfl, rfl, h0, r0⟩ := trodAll_cons hA
  obtain ⟨rfl, rfl, rfl⟩ := trodAll_nil r0
  obtain rfl : args = #[v0] := by cases args; simp_all
  obtain ⟨rfl, rfl⟩ := trodVars_none hV
  obtain ⟨kd, pg, x, s, rfl, hp0, hp1⟩ := deed4_open (hval 0 30 v0 rfl rfl) h0
  clear hA0 hval0
  refine (bcacheOwn_walk kd pg hp0 hp1 x s W).mono fun e W' ⟨he, hg⟩ => ?_
  subst he
  exact ⟨_, rfl, post_law hW' rfl (by kernel_rfl) rfl bcacheOwn_readable hg⟩
/-- THE STATEMENT. -/
theorem bcacheOwn_said : Rows.BcacheOwnSaid :=
  OpenClaim.holds_of_wide 7 Tryz.f7 rfl rfl rfl rfl rfl rfl rfl ⟨rfl, rfl, rfl, rfl, rfl⟩ rfl rfl rfl rfl rfl (by kernel_rfl) Tryz.func7 (by kernel_rfl)
    (of_decide_eq_true (by kernel_rfl)) (by unfold Func.isWrapper; first | (rw [if_pos (by decide +kernel)]; kernel_rfl) | (rw [if_neg (by decide +kernel)]; exact ⟨rfl, rfl⟩))
    (fun os started H enc _ => bcacheOwn_lifted os started H enc)
end Go.Proofs.YtegnjbpmmddpaaaGreat
