/- TarfmtTells: a byte of a header that is changed is told, at that header, for every entries, a header, a byte of it: the statement, proved. -/
import Derived.Test.YtdfnhgkabaikaaaTTellsW
import Derived.Test.YtdfnhgkabaikaaaTEArg
namespace Go.Proofs.Ytdfnhgkabaikaaa
open Go.ChangeShapes Go.WideShapes Go.ChangeAt Go.RowKit
theorem cellsS : Try.prog.cellsOf 42 = 2 := by kernel_rfl
theorem cellsW : Try.prog.cellsOf 41 = 1 := by kernel_rfl
/-- Two numbers that were handed in as one array. -/
theorem spot_open {H : Type} {enc : TypeId × Value → H} {W : World} {base : Nat} {v : Value} {d : DataW H} {p : List MemPlace} (hok : Value.okWide Try.prog W .any base 42 v) (hd : DataW.Trod enc Try.prog W 0 (fun _ => true) true 42 v d p) :
    ∃ a b : Nat, v = .agg #[.int .u16 (a : Nat), .int .u16 (b : Nat)] ∧ a < 65536 ∧ b < 65536 := by
  have h0 := hok
  unfold Value.okWide at h0
  rw [Try.underlying42] at h0
  obtain ⟨cs, rfl, hsz, _⟩ := h0
  rw [cellsS] at hsz
  obtain ⟨fuel, hf⟩ := hd
  obtain ⟨xs, m, rfl, hx, hl, hn, he⟩ := DataW.trod_array Try.underlying42 hf
  simp only [Value.cells, cellsW, Nat.mul_one] at he
  obtain ⟨l⟩ := cs
  match l, hsz, xs, hl with
  | [c0, c1], _, [y0, y1], _ =>
    obtain ⟨v0, e0, _, w0⟩ := DataW.trod_int Try.underlying41 (he 0 (by omega))
    obtain ⟨v1, e1, _, w1⟩ := DataW.trod_int Try.underlying41 (he 1 (by omega))
    have b0 := bounds_u16 w0
    have b1 := bounds_u16 w1
    have f0 : c0 = .int .u16 v0 := by simpa using e0
    have f1 : c1 = .int .u16 v1 := by simpa using e1
    refine ⟨v0.toNat, v1.toNat, ?_, by omega, by omega⟩
    rw [f0, f1, Int.toNat_of_nonneg (by omega), Int.toNat_of_nonneg (by omega)]
theorem tarfmtTells_readable : ∀ t ∈ Try.f6.params.toList, Try.prog.readableRec t = true ∧ t < Try.prog.types.size := by
  rw [Try.params6]
  intro t ht
  simp only [List.mem_cons, List.mem_nil_iff, or_false] at ht
  rcases ht with ht | ht | ht
  all_goals subst ht; exact ⟨by kernel_rfl, of_decide_eq_true (by kernel_rfl)⟩
set_option maxRecDepth 100000 in
theorem tarfmtTells_lifted (os : Os) (started : os.Started) (H : Type) (enc : TypeId × Value → H) :
    ReturnsInHanded {} Try.checked os 6 .any (Rows.tarfmtTellsSpec.pre6 enc Try.prog Try.f6 Rows.tarfmtTellsRow.domain false) (Rows.tarfmtTellsSpec.post enc Try.prog Try.f6 false true false false) := by
  refine returnsInHanded_of_change_sized (C := Try.checked) own started (by kernel_rfl) Try.func6
    (ChangeSpec.witness6 (enc := enc) (C := Try.checked) false ⟨#[], #[.slice none 0 0, .agg #[.int .u16 0, .int .u16 0], .int .u8 0], []⟩ 8 (by kernel_rfl) (by kernel_rfl) (by kernel_rfl) (by kernel_rfl)) ?_
  intro W base args ds gs before hval0 hW hcnd hsz0 _
  have hval : ∀ (j : Nat) t v, Try.f6.params[j]? = some t → args[j]? = some v → Value.okWide Try.prog W .any base t v := hval0
  have hW' := hW
  obtain ⟨p, q, hA0, hV, rfl, hfz, hnd⟩ := hW
  have hA : DataW.TrodAll enc Try.prog W 0 (fun _ => true) true Try.f6.params.toList args.toList ds p := hA0
  rw [Try.params6] at hA hval
  obtain ⟨v0, vs0, d0, ds0, p0, q0, hargs, rfl, rfl, h0, r0⟩ := trodAll_cons hA
  obtain ⟨v1, vs1, d1, ds1, p1, q1, rfl, rfl, rfl, h1, r1⟩ := trodAll_cons r0
  obtain ⟨v2, vs2, d2, ds2, p2, q2, rfl, rfl, rfl, h2, r2⟩ := trodAll_cons r1
  obtain ⟨rfl, rfl, rfl⟩ := trodAll_nil r2
  obtain rfl : args = #[v0, v1, v2] := by cases args; simp_all
  obtain ⟨rfl, rfl⟩ := trodVars_none hV
  obtain ⟨l0, la0, lc0, rfl, he0, hc0, hm0, hn0, hd0⟩ := ents_open (hval 0 22 v0 rfl rfl) h0
  have hs0 := ents_reach hsz0 (j := 0) rfl rfl hd0
  obtain ⟨sa1, sb1, rfl, ka1, kb1⟩ := spot_open (hval 1 42 v1 rfl rfl) h1
  obtain ⟨x2, rfl, rfl, rfl, w2⟩ := open_int Try.underlying5 (hval 2 5 v2 rfl rfl) h2
  have hb2 := bounds_u8 w2
  clear hA0 hval0
  have hV : B (UInt8.ofNat x2.toNat) = .int .u8 x2 := by
    show Value.int .u8 (V _) = _
    unfold V
    rw [UInt8.toNat_ofNat']
    congr 1
    omega
  have hw := tells_walk l0 la0 lc0 sa1 sb1 (UInt8.ofNat x2.toNat) W he0 hs0 ka1 kb1
  rw [hV] at hw
  refine hw.mono fun e W' ⟨he, hg⟩ => ?_
  subst he
  exact ⟨_, rfl, post_law hW' rfl (by kernel_rfl) rfl tarfmtTells_readable hg⟩
/-- THE STATEMENT. -/
theorem tarfmtTells_said : Rows.TarfmtTellsSaid :=
  OpenClaim.holds_of_wide 6 Try.f6 rfl rfl rfl rfl rfl rfl rfl ⟨rfl, rfl, rfl, rfl, rfl⟩ rfl rfl rfl rfl rfl (by kernel_rfl) Try.func6 (by kernel_rfl)
    (of_decide_eq_true (by kernel_rfl)) (by unfold Func.isWrapper; first | (rw [if_pos (by decide +kernel)]; kernel_rfl) | (rw [if_neg (by decide +kernel)]; exact ⟨rfl, rfl⟩))
    (fun os started H enc _ => tarfmtTells_lifted os started H enc)
end Go.Proofs.Ytdfnhgkabaikaaa
