/- TopAgain: crashed again and again, also while it is opened, a log has all pages of a group, or none, for all groups, places and choices: the statement, proved. -/
import Derived.Test.YtclmachgpmfjfaaTAgainWalk
import Derived.Test.YtclmachgpmfjfaaBaseC
namespace Go.Proofs.Ytclmachgpmfjfaa
open Go.ChangeShapes Go.WideShapes Go.ChangeAt Go.RowKit
theorem cellsU16 : Try.prog.cellsOf 38 = 1 := by kernel_rfl
set_option maxRecDepth 100000 in
theorem u16s_open {H : Type} {enc : TypeId × Value → H} {W : World} {base : Nat} {v : Value} {d : DataW H} {p : List MemPlace} (hok : Value.okWide Try.prog W .any base 23 v) (h : DataW.Trod enc Try.prog W 0 (fun _ => true) true 23 v d p) :
    ∃ (xs : List Int) (a : Option Addr) (c : Nat), v = .slice a xs.length c ∧ u16At W a xs := by
  obtain ⟨a0, len0, cap0, rfl⟩ := okWide_slice Try.underlying23 hok
  obtain ⟨fuel, hf⟩ := h
  rcases open_ints Try.underlying23 Try.underlying38 cellsU16 hf with ⟨hcs, hx⟩ | ⟨a, len, cap, zs, hcs, _, hl, hm, hz, hx, hcell, hwz⟩
  · simp only [Value.cells, List.cons.injEq, and_true, Value.slice.injEq] at hcs
    obtain ⟨rfl, rfl, rfl⟩ := hcs
    exact ⟨[], none, 0, rfl, fun j hj => by simp at hj⟩
  · simp only [Value.cells, List.cons.injEq, and_true, Value.slice.injEq] at hcs
    obtain ⟨rfl, rfl, rfl⟩ := hcs
    simp only [if_true] at hz
    have hlen : (zs.take len0).length = len0 := by simp; omega
    refine ⟨zs.take len0, some a, cap0, by rw [hlen], fun j hj => ?_⟩
    rw [hlen] at hj
    have h0 := plain_addr (hcell 0 (by omega))
    rw [Addr.add, if_pos rfl] at h0
    refine ⟨a.block, a.off, by rw [← h0], fun i hi => ?_⟩
    have hil : i < len0 := by rw [hlen] at hi; exact hi
    have hc := hcell i (by omega)
    have hiz : i < zs.length := by omega
    have hg : zs.getD i 0 = (zs.take len0)[i] := by rw [List.getD_eq_getElem?_getD, List.getElem?_eq_getElem hiz]; simp
    have hb := bounds_u16 (hwz zs[i] (List.getElem_mem hiz))
    have hg2 : (zs.take len0)[i] = zs[i] := by simp
    rw [hg, h0, Addr.add_mid] at hc
    rw [hg2] at hc ⊢
    exact ⟨hc, hb.1, hb.2⟩
theorem topAgain_readable : ∀ t ∈ Try.f3.params.toList, Try.prog.readableRec t = true ∧ t < Try.prog.types.size := by
  rw [Try.params3]
  intro t ht
  simp only [List.mem_cons, List.mem_nil_iff, or_false] at ht
  rcases ht with ht | ht | ht
  all_goals subst ht; exact ⟨by kernel_rfl, of_decide_eq_true (by kernel_rfl)⟩
set_option maxRecDepth 100000 in
theorem topAgain_lifted (os : Os) (started : os.Started) (H : Type) (enc : TypeId × Value → H) :
    ReturnsInHanded {} Try.checked os 3 .any (Rows.topAgainSpec.pre6 enc Try.prog Try.f3 Rows.topAgainRow.domain false) (Rows.topAgainSpec.post enc Try.prog Try.f3 false true false false) := by
  refine returnsInHanded_of_change (C := Try.checked) own started (by kernel_rfl) Try.func3
    (ChangeSpec.witness6 (enc := enc) (C := Try.checked) false ⟨#[], #[.slice none 0 0, .slice none 0 0, .slice none 0 0], []⟩ 8 (by kernel_rfl) (by kernel_rfl) (by kernel_rfl) (by kernel_rfl)) ?_
  intro W base args ds gs before hval0 hW hcnd _
  have hval : ∀ (j : Nat) t v, Try.f3.params[j]? = some t → args[j]? = some v → Value.okWide Try.prog W .any base t v := hval0
  have hW' := hW
  obtain ⟨p, q, hA0, hV, rfl, hfz, hnd⟩ := hW
  have hA : DataW.TrodAll enc Try.prog W 0 (fun _ => true) true Try.f3.params.toList args.toList ds p := hA0
  rw [Try.params3] at hA hval
  obtain ⟨v0, vs0, d0, ds0, p0, q0, hargs, rfl, rfl, h0, r0⟩ := trodAll_cons hA
  obtain ⟨v1, vs1, e1, ds1, p1, q1, rfl, rfl, rfl, h1, r1⟩ := trodAll_cons r0
  obtain ⟨v2, vs2, e2, ds2, p2, q2, rfl, rfl, rfl, h2, r2⟩ := trodAll_cons r1
  obtain ⟨rfl, rfl, rfl⟩ := trodAll_nil r2
  obtain rfl : args = #[v0, v1, v2] := by cases args; simp_all
  obtain ⟨rfl, rfl⟩ := trodVars_none hV
  obtain ⟨pg, pa, pc, rfl, hpg, hpgl⟩ := bytes_open (hval 0 22 v0 rfl rfl) h0
  obtain ⟨pl, la, lc, rfl, hpl⟩ := u16s_open (hval 1 23 v1 rfl rfl) h1
  obtain ⟨ch, ca, cc, rfl, hch, hchl⟩ := bytes_open (hval 2 22 v2 rfl rfl) h2
  clear hA0 hval0
  refine (topAgain_walk pg pa pc pl la lc ch ca cc W hpg hpl hch hchl).mono fun e W' ⟨he, hg⟩ => ?_
  subst he
  exact ⟨_, rfl, post_law hW' rfl (by kernel_rfl) rfl topAgain_readable hg⟩
/-- THE STATEMENT. -/
theorem topAgain_said : Rows.TopAgainSaid :=
  OpenClaim.holds_of_wide 3 Try.f3 rfl rfl rfl rfl rfl rfl rfl ⟨rfl, rfl, rfl, rfl, rfl⟩ rfl rfl rfl rfl rfl (by kernel_rfl) Try.func3 (by kernel_rfl)
    (of_decide_eq_true (by kernel_rfl)) (by unfold Func.isWrapper; first | (rw [if_pos (by decide +kernel)]; kernel_rfl) | (rw [if_neg (by decide +kernel)]; exact ⟨rfl, rfl⟩))
    (fun os started H enc _ => topAgain_lifted os started H enc)
end Go.Proofs.Ytclmachgpmfjfaa
