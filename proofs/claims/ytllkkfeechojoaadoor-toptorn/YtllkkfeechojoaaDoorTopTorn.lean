/- The statement TopTorn: for every text b, every number k and every choice, a text of seven sectors that was cut by a crash has of each sector the text's bytes or noughts, and its digest piece by piece is that of the whole: the call returns true, and what it was handed reads as before. No condition but the form's own. -/
import Derived.Test.YtllkkfeechojoaaDoorTopTornWalk
import Derived.Test.YtllkkfeechojoaaDoorSArg
namespace Go.Proofs.YtllkkfeechojoaaDoor
open Go.ChangeShapes Go.WideShapes Go.ChangeAt Go.RowKit
theorem bytesIn_of_bytes {w : World} {v : Value} {l : List UInt8} (h : Sh.Bytes w v l) : ∀ a c, v = .slice a l.length c → bytesIn w a l := by
  rintro a c rfl
  obtain ⟨a', c', e, _, hx⟩ := h
  obtain ⟨rfl, _, rfl⟩ : a = a' ∧ l.length = l.length ∧ c = c' := by simpa using e
  intro j hj
  obtain ⟨b, o, rfl, _⟩ := hx j l[j] (List.getElem?_eq_getElem hj)
  refine ⟨b, o, rfl, fun i hi => ?_⟩
  obtain ⟨b', o', e', hc⟩ := hx i l[i] (List.getElem?_eq_getElem hi)
  simp only [Option.some.injEq, Addr.mk.injEq, and_true] at e'
  obtain ⟨rfl, rfl⟩ := e'
  exact hc
def laidTwo : List (String × DataW Unit) := [("dunnage/sha.start", Lib.tabData .u32 (Sh.startS.list.map Sh.U)), ("dunnage/sha.roundWords", Lib.tabData .u32 (Sh.kwords.map Sh.U))]
theorem laidTwo_is : laidTwo = [("dunnage/sha.start", Rows.laid_dunnage_sha_start), ("dunnage/sha.roundWords", Rows.laid_dunnage_sha_roundWords)] := by kernel_rfl
theorem tables2 {W : World} (h : laidMet Tryd.prog laidTwo W) : Sh.Kat W ∧ Sh.Sat W := by
  obtain ⟨ps, h, _⟩ := h
  obtain ⟨h2, q2, h⟩ := Sh.tab_of_vars Sh.gS Sh.tS Tryd.underlying72 Tryd.underlying35 Sh.cells28 Sh.cells55 h
  obtain ⟨h3, _⟩ := Sh.tab_of_vars Sh.gK Sh.tK Tryd.underlying103 Tryd.underlying35 Sh.cells28 Sh.cells66 h
  refine ⟨fun t ht => ?_, ⟨?_, ?_, ?_, ?_, ?_, ?_, ?_, ?_⟩⟩
  · rw [h3.cell Sh.gK t (by simpa [Sh.kwords] using ht)]
    have hg := Sh.get_some (l := Sh.kwords) (k := t) (d := 0) (by simpa [Sh.kwords] using ht)
    rw [List.getD_eq_getElem?_getD, List.getElem?_map, hg]; rfl
  · exact h2.cell Sh.gS 0 (by simp [Sh.St.list])
  · exact h2.cell Sh.gS 1 (by simp [Sh.St.list])
  · exact h2.cell Sh.gS 2 (by simp [Sh.St.list])
  · exact h2.cell Sh.gS 3 (by simp [Sh.St.list])
  · exact h2.cell Sh.gS 4 (by simp [Sh.St.list])
  · exact h2.cell Sh.gS 5 (by simp [Sh.St.list])
  · exact h2.cell Sh.gS 6 (by simp [Sh.St.list])
  · exact h2.cell Sh.gS 7 (by simp [Sh.St.list])
theorem tables2_of {W : World} (h : laidMetH Tryd.prog [("dunnage/sha.start", Rows.laid_dunnage_sha_start), ("dunnage/sha.roundWords", Rows.laid_dunnage_sha_roundWords)] W) : Sh.Kat W ∧ Sh.Sat W := by
  rw [← laidTwo_is] at h
  exact tables2 h
theorem topTorn_laid_met (os : Os) : laidMet Tryd.prog Rows.topTornRow.laid ((Sh.relaidWorld (World.holding Tryd.prog os ⟨#[], #[], []⟩)).forCall (fun _ _ => 0) ⟨#[], #[.slice none 0 0, .int .u8 0, .slice none 0 0], []⟩).memory :=
  laidMet_of_run' 8 (by kernel_rfl) (by kernel_rfl)
theorem topTorn_reads (os : Os) {H : Type} (enc : TypeId × Value → H) : ∃ places, DataW.whole enc Tryd.prog ((Sh.relaidWorld (World.holding Tryd.prog os ⟨#[], #[], []⟩)).forCall (fun _ _ => 0) ⟨#[], #[.slice none 0 0, .int .u8 0, .slice none 0 0], []⟩).memory Tryd.f4.params.toList Rows.topTornSpec.vars false #[Value.slice none 0 0, .int .u8 0, .slice none 0 0].toList 8 = some ([.nil, .lit (.int .u8 0), .nil], [], places) :=
  ⟨[], by kernel_rfl⟩
theorem topTorn_readable : ∀ t ∈ Tryd.f4.params.toList, Tryd.prog.readableRec t = true ∧ t < Tryd.prog.types.size := by
  rw [Tryd.params4]
  intro t ht
  simp only [List.mem_cons, List.mem_nil_iff, or_false] at ht
  rcases ht with ht | ht | ht
  all_goals subst ht; exact ⟨by kernel_rfl, of_decide_eq_true (by kernel_rfl)⟩
set_option maxRecDepth 100000 in
theorem topTorn_contract (H : Type) (enc : TypeId × Value → H) (W : World) (base : Nat) (args : Array Value) (ds gs : List (DataW H)) (before : List MemPlace)
    (hval : ∀ (j : Nat) t v, Tryd.f4.params[j]? = some t → args[j]? = some v → Value.okWide Tryd.prog W .any base t v)
    (hW : DataW.Whole enc Tryd.prog Tryd.f4.params.toList Rows.topTornSpec.vars false W args.toList ds gs before)
    (hsz : (DataW.weightsEach Tryd.prog (Tryd.f4.params.toList ++ (OpenSpec.ofChange Rows.topTornSpec).bare.plain.varTypes Tryd.prog) (ds ++ gs)).all (· ≤ reachBytes) = true)
    (hL : laidMetH Tryd.prog Rows.topTornRow.laid W) :
    Calls Tryd.prog 4 args W fun e W' => ∃ v, e = .returned v ∧ Rows.topTornSpec.post enc Tryd.prog Tryd.f4 false true false false W args v W' := by
  obtain ⟨hK, hS⟩ := tables2_of hL
  have hW' := hW
  obtain ⟨p, q, hA0, hV, rfl, _, _⟩ := hW
  have hA : DataW.TrodAll enc Tryd.prog W 0 (fun _ => true) true Tryd.f4.params.toList args.toList ds p := hA0
  rw [Tryd.params4] at hA hval hsz
  obtain ⟨v0, vs0, d0, ds0, p0, q0, hargs, rfl, rfl, h0, r0⟩ := trodAll_cons hA
  obtain ⟨v1, vs1, e1, ds1, p1, q1, rfl, rfl, rfl, h1, r1⟩ := trodAll_cons r0
  obtain ⟨v2, vs2, e2, ds2, p2, q2, rfl, rfl, rfl, h2, r2⟩ := trodAll_cons r1
  obtain ⟨rfl, rfl, rfl⟩ := trodAll_nil r2
  obtain rfl : args = #[v0, v1, v2] := by cases args; simp_all
  obtain ⟨rfl, rfl⟩ := trodVars_none hV
  obtain ⟨xs, hX, hdx⟩ := Sh.bytes_open (hval 0 22 v0 rfl rfl) h0
  obtain ⟨n, rfl, rfl, rfl, wn⟩ := open_int Tryd.underlying5 (hval 1 5 v1 rfl rfl) h1
  obtain ⟨ch, hC, hdc⟩ := Sh.bytes_open (hval 2 22 v2 rfl rfl) h2
  have bn := bounds_u8 wn
  have hlx := Sh.bytes_reach (j := 0) hsz rfl rfl hdx
  have hlc := Sh.bytes_reach (j := 2) hsz rfl rfl hdc
  have hIn := bytesIn_of_bytes hC
  obtain ⟨xa, xc, rfl, _, _⟩ := id hX
  obtain ⟨ca, cc, rfl, _, _⟩ := id hC
  refine (topTorn_walk xs ch xa ca xc cc n bn.1 bn.2 (Nat.le_trans hlx (by decide)) (Nat.le_trans hlc (by decide)) W hK hS hX (hIn ca cc rfl)).mono fun e W' ⟨he, hg⟩ => ?_
  subst he
  exact ⟨_, rfl, Sh.post_law hW' rfl (by kernel_rfl) rfl topTorn_readable hg⟩
set_option maxRecDepth 100000 in
theorem topTorn_lifted (os : Os) (started : os.Started) (H : Type) (enc : TypeId × Value → H) (F : Stop.Interp) :
    ReturnsInHanded {} Tryd.checked os 4 .any ((OpenSpec.ofChange Rows.topTornSpec).preRow enc Tryd.prog Tryd.f4 Rows.topTornRow.domain false Rows.topTornRow.laid) (((OpenSpec.ofChange Rows.topTornSpec).at F).post enc Tryd.prog Tryd.f4 false true false false) := by
  obtain ⟨places, hx⟩ := topTorn_reads os enc
  refine returnsInHanded_of_row (C := Tryd.checked) (s := OpenSpec.ofChange Rows.topTornSpec) Sh.own started (by kernel_rfl) Tryd.func4
    (witness_row_at (enc := enc) (C := Tryd.checked) false (Sh.relaidWorld (World.holding Tryd.prog os ⟨#[], #[], []⟩)) #[.slice none 0 0, .int .u8 0, .slice none 0 0] rfl (by kernel_rfl) (by kernel_rfl) (by kernel_rfl)
      (OpenSpec.preRow_of_cond 8 hx (by kernel_rfl) (fun k hk => by cases hk) (by kernel_rfl) (topTorn_laid_met os))) ?_
  intro W base args ds gs before hval hW _ _ hsz hL _ _
  exact topTorn_contract H enc W base args ds gs before hval hW hsz hL
theorem topTorn_said : Rows.TopTornSaid :=
  OpenClaim.holds_of_cond 4 Tryd.f4 rfl rfl rfl rfl rfl rfl rfl ⟨rfl, rfl, rfl, rfl, rfl⟩ rfl rfl rfl rfl rfl (by kernel_rfl) Tryd.func4 (by kernel_rfl)
    (of_decide_eq_true (by kernel_rfl)) (by unfold Func.isWrapper; first | (rw [if_pos (by decide +kernel)]; kernel_rfl) | (rw [if_neg (by decide +kernel)]; exact ⟨rfl, rfl⟩))
    (fun os started H enc _ F => by rw [OpenClaim.pre_eq_preRow]; exact topTorn_lifted os started H enc F)
theorem topTorn_plain (f : FuncId) (fn : Func) (hf : Tryd.pinned.checked.prog.funcNamed "dunnage/dunnagetop.TopTorn" = some f) (hfn : Tryd.pinned.checked.prog.funcs[f]? = some fn) :
    true = Tryd.pinned.checked.prog.looks [] ∧ ∀ (j : Nat) t, fn.params[j]? = some t → Tryd.pinned.checked.prog.wantsStandIn t = false := by
  obtain rfl : f = 4 := Option.some.inj ((show Tryd.prog.funcNamed "dunnage/dunnagetop.TopTorn" = some 4 by kernel_rfl).symm.trans hf) |>.symm
  obtain rfl : fn = Tryd.f4 := (Option.some.inj (Tryd.func4.symm.trans hfn)).symm
  refine ⟨by kernel_rfl, fun j t ht => ?_⟩
  rw [Tryd.params4] at ht
  have hm := Array.mem_of_getElem? ht
  simp only [List.mem_toArray, List.mem_cons, List.mem_nil_iff, or_false] at hm
  rcases hm with hm | hm | hm
  · subst hm; exact (show Tryd.prog.wantsStandIn 22 = false by kernel_rfl)
  · subst hm; exact (show Tryd.prog.wantsStandIn 5 = false by kernel_rfl)
  · subst hm; exact (show Tryd.prog.wantsStandIn 22 = false by kernel_rfl)
/-- THE CARD: the statement TopTorn. -/
theorem topTorn_card : Rows.TopTornCardSaid :=
  Claim7.holds_tied_plain_at .later [] _ _ _ _ topTorn_said (fun _ h => by cases h) (by kernel_rfl) (fun _ h => by cases h) topTorn_row_tie rfl ⟨rfl, rfl⟩ (by kernel_rfl) rfl topTorn_plain (by kernel_rfl)
end Go.Proofs.YtllkkfeechojoaaDoor
