/- InodeBack: what was written is read, and nothing beside it has changed, for every deeds, a write and a read: the statement, proved. -/
import Derived.Test.YtamfgnfclamamaaGreatJoined9
import Derived.Test.YtamfgnfclamamaaGreatJoined2
set_option maxRecDepth 100000
namespace Go.Proofs.YtamfgnfclamamaaGreat
open Go.ChangeShapes Go.WideShapes Go.ChangeAt Go.RowKit
theorem cellsI2 : Tryz.prog.cellsOf 26 = 2 := by kernel_rfl
theorem cellsI1 : Tryz.prog.cellsOf 3 = 1 := by kernel_rfl
theorem ints2_open {H : Type} {enc : TypeId × Value -> H} {W : World} {base : Nat} {v : Value} {d : DataW H} {p : List MemPlace} (hok : Value.okWide Tryz.prog W .any base 26 v) (hd : DataW.Trod enc Tryz.prog W 0 (fun _ => true) true 26 v d p) :
  ∃ a b : Int, v = .agg #[.int .i64 a, .int .i64 b] /\ b <= 9223372036854775807 := by
 have h0 := hok
 unfold Value.okWide at h0
 rw [Tryz.underlying26] at h0
 obtain ⟨cs, rfl, hsz, _⟩ := h0
 rw [cellsI2] at hsz
 obtain ⟨fuel, hf⟩ := hd
 obtain ⟨xs, m, rfl, hx, hl, hn, he⟩ := DataW.trod_array Tryz.underlying26 hf
 simp only [Value.cells, cellsI1, Nat.mul_one] at he
 obtain ⟨l⟩ := cs
 match l, hsz, xs, hl with
 | [c0, c1], _, [y0, y1], _ =>
  obtain ⟨v0, e0, _, w0⟩ := DataW.trod_int Tryz.underlying3 (he 0 (by omega))
  obtain ⟨v1, e1, _, w1⟩ := DataW.trod_int Tryz.underlying3 (he 1 (by omega))
  have b1 := bounds_i64 w1
  have f0 : c0 = .int .i64 v0 := by simpa using e0
  have f1 : c1 = .int .i64 v1 := by simpa using e1
  exact ⟨v0, v1, by rw [f0, f1], by omega⟩
theorem inodeBack_readable : ∀ t ∈ Tryz.f3.params.toList, Tryz.prog.readableRec t = true /\ t < Tryz.prog.types.size := by
 rw [Tryz.params3]
 intro t ht
 simp only [List.mem_cons, List.mem_nil_iff, or_false] at ht
 rcases ht with ht | ht | ht
 all_goals subst ht; exact ⟨by kernel_rfl, of_decide_eq_true (by kernel_rfl)⟩
theorem inodeBack_lifted (os : Os) (started : os.Started) (H : Type) (enc : TypeId × Value -> H) :
  ReturnsInHanded {} Tryz.checked os 3 .any (Rows.inodeBackSpec.pre6 enc Tryz.prog Tryz.f3 Rows.inodeBackRow.domain false) (Rows.inodeBackSpec.post enc Tryz.prog Tryz.f3 false true false false) := by
 refine returnsInHanded_of_change (C := Tryz.checked) own started (by kernel_rfl) Tryz.func3
  (ChangeSpec.witness6 (enc := enc) (C := Tryz.checked) false ⟨#[], #[.slice none 0 0, .agg #[.int .i64 0, .int .i64 0, .int .i64 0, .int .i64 0, .int .i64 0, .int .i64 0, .int .i64 0, .int .u8 0], .agg #[.int .i64 0, .int .i64 0]], []⟩ 8 (by kernel_rfl) (by kernel_rfl) (by kernel_rfl) (by kernel_rfl)) ?_
 intro W base args ds gs before hval0 hW hcnd _
 have hval : ∀ (j : Nat) t v, Tryz.f3.params[j]? = some t -> args[j]? = some v -> Value.okWide Tryz.prog W .any base t v := hval0
 have hW' := hW
 obtain ⟨p, q, hA0, hV, rfl, hfz, hnd⟩ := hW
 have hA : DataW.TrodAll enc Tryz.prog W 0 (fun _ => true) true Tryz.f3.params.toList args.toList ds p := hA0
 rw [Tryz.params3] at hA hval
 obtain ⟨v0, vs0, d0, ds0, p0, q0, hargs, rfl, rfl, h0, r0⟩ := trodAll_cons hA
 obtain ⟨v1, vs1, d1, ds1, p1, q1, rfl, rfl, rfl, h1, r1⟩ := trodAll_cons r0
 obtain ⟨v2, vs2, d2, ds2, p2, q2, rfl, rfl, rfl, h2, r2⟩ := trodAll_cons r1
 obtain ⟨rfl, rfl, rfl⟩ := trodAll_nil r2
 obtain rfl : args = #[v0, v1, v2] := by cases args; simp_all
 obtain ⟨rfl, rfl⟩ := trodVars_none hV
 obtain ⟨l, a, c, rfl, hl, hlen⟩ := ideeds_open (hval 0 22 v0 rfl rfl) h0
 obtain ⟨D, rfl⟩ := ideed_open (hval 1 25 v1 rfl rfl) h1
 obtain ⟨at0, n0, rfl, hn0⟩ := ints2_open (hval 2 26 v2 rfl rfl) h2
 clear hA0 hval0
 refine (inodeBack_walk l a c D at0 n0 hn0 W hl).mono fun e W' ⟨he, hg⟩ => ?_
 subst he
 exact ⟨_, rfl, post_law hW' rfl (by kernel_rfl) rfl inodeBack_readable hg⟩
theorem inodeBack_said : Rows.InodeBackSaid :=
 OpenClaim.holds_of_wide 3 Tryz.f3 rfl rfl rfl rfl rfl rfl rfl ⟨rfl, rfl, rfl, rfl, rfl⟩ rfl rfl rfl rfl rfl (by kernel_rfl) Tryz.func3 (by kernel_rfl)
  (of_decide_eq_true (by kernel_rfl)) (by unfold Func.isWrapper; first | (rw [if_pos (by decide +kernel)]; kernel_rfl) | (rw [if_neg (by decide +kernel)]; exact ⟨rfl, rfl⟩))
  (fun os started H enc _ => inodeBack_lifted os started H enc)
end Go.Proofs.YtamfgnfclamamaaGreat
