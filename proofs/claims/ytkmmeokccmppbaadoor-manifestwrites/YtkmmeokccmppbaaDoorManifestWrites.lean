/- ManifestWrites: a manifest's bytes, or the error; whether it is right; its digest; how often a layer stands there; whether a text is a word, for every manifest, digest and text: the statement, as a card: the two tables read as the program's own text lays them. -/
import Derived.Test.YtkmmeokccmppbaaDoorCards
import Derived.Test.YtkmmeokccmppbaaDoorTie
import Derived.Test.YtkmmeokccmppbaaDoorWWalk
import Derived.Test.YtkmmeokccmppbaaDoorMArg
import Derived.Deep.DeepHandedRow
import Derived.Lib.LaidTab
import Derived.ChangeMaps5
import Derived.OpenShut
namespace Go.Proofs.YtkmmeokccmppbaaDoor
open Go.ChangeShapes Go.WideShapes Go.ChangeAt Go.RowKit
theorem gS : Tryd.prog.globalNamed "dunnage/sha.start" = some 0 := by kernel_rfl
theorem gK : Tryd.prog.globalNamed "dunnage/sha.roundWords" = some 1 := by kernel_rfl
theorem tS : (Tryd.prog.globals[0]?).map (·.type) = some 53 := by kernel_rfl
theorem tK : (Tryd.prog.globals[1]?).map (·.type) = some 64 := by kernel_rfl
theorem cellsDg : Tryd.prog.cellsOf 53 = 8 := by kernel_rfl
theorem cells64 : Tryd.prog.cellsOf 64 = 64 := by kernel_rfl
theorem cellsU32 : Tryd.prog.cellsOf 42 = 1 := by kernel_rfl
/-- One table out of the list, and the rest of the list. -/
theorem tab_of_vars {P : Program} {W : World} {name : String} {k : IntKind} {zs : List Int} {rest : List (String × DataW Unit)} {ps : List MemPlace} {g : Nat} {t e : TypeId} {n : Nat}
    (hg : P.globalNamed name = some g) (hty : (P.globals[g]?).map (·.type) = some t) (ht : P.underlying t = some (.array n e)) (he : P.underlying e = some (.int k)) (hce : P.cellsOf e = 1) (hct : P.cellsOf t = n)
    (h : DataW.LaidVars P W ((name, Lib.tabData k zs) :: rest) ps) : Lib.TabIs P W name k zs ∧ ∃ q, DataW.LaidVars P W rest q := by
  obtain ⟨g', t', cs, fuel, p, q, hg', ht', hvar, hd, hrest, _⟩ := h
  obtain rfl := Option.some.inj (hg.symm.trans hg')
  obtain rfl := Option.some.inj (hty.symm.trans ht')
  refine ⟨?_, q, hrest⟩
  have := Lib.cells_of_tab ht he hce hct hd
  unfold Lib.TabIs
  rw [hvar, ← this]
def laidAll : List (String × DataW Unit) := [("dunnage/sha.start", Lib.tabData .u32 (startS.list.map U)), ("dunnage/sha.roundWords", Lib.tabData .u32 (kwords.map U))]
theorem laid_is : laidAll = [("dunnage/sha.start", Rows.laid_dunnage_sha_start), ("dunnage/sha.roundWords", Rows.laid_dunnage_sha_roundWords)] := by kernel_rfl
theorem tables {W : World} (h : laidMet Tryd.prog laidAll W) : Kat W ∧ Sat W := by
  obtain ⟨ps, h, _⟩ := h
  obtain ⟨h2, q2, h⟩ := tab_of_vars gS tS Tryd.underlying53 Tryd.underlying42 cellsU32 cellsDg h
  obtain ⟨h3, _⟩ := tab_of_vars gK tK Tryd.underlying64 Tryd.underlying42 cellsU32 cells64 h
  refine ⟨fun t ht => ?_, ⟨?_, ?_, ?_, ?_, ?_, ?_, ?_, ?_⟩⟩
  · rw [h3.cell gK t (by simpa [kwords] using ht)]
    have hg := get_some (l := kwords) (k := t) (d := 0) (by simpa [kwords] using ht)
    rw [List.getD_eq_getElem?_getD, List.getElem?_map, hg]; rfl
  · exact h2.cell gS 0 (by simp [St.list])
  · exact h2.cell gS 1 (by simp [St.list])
  · exact h2.cell gS 2 (by simp [St.list])
  · exact h2.cell gS 3 (by simp [St.list])
  · exact h2.cell gS 4 (by simp [St.list])
  · exact h2.cell gS 5 (by simp [St.list])
  · exact h2.cell gS 6 (by simp [St.list])
  · exact h2.cell gS 7 (by simp [St.list])
theorem tables_of {W : World} (h : laidMetH Tryd.prog [("dunnage/sha.start", Rows.laid_dunnage_sha_start), ("dunnage/sha.roundWords", Rows.laid_dunnage_sha_roundWords)] W) : Kat W ∧ Sat W := by
  rw [← laid_is] at h
  exact tables h
/-- A block's cells, others in their place. -/
def relaid (C : Array Value) : Obj → Obj
  | .cells _ t frozen => .cells C t frozen
  | o => o
/-- A world for the witness: the tables hold what their initialisers lay. -/
def relaidWorld (w : World) : World :=
  { w with heap := (w.heap.modify 0 (relaid (startS.list.map W).toArray)).modify 1 (relaid (kwords.map W).toArray) }
theorem okWide_arr {P : Program} {w : World} {r : Reach} {base : Nat} {t e : TypeId} {n : Nat} {v : Value} (ht : P.underlying t = some (.array n e)) (h : Value.okWide P w r base t v) : ∃ cs, v = .agg cs ∧ cs.size = P.cellsOf t := by
  unfold Value.okWide at h
  rw [ht] at h
  obtain ⟨cs, h1, h2, _⟩ := h
  exact ⟨cs, h1, h2⟩
theorem hash_open {H : Type} {enc : TypeId × Value → H} {W : World} {base : Nat} {v : Value} {d : DataW H} {p : List MemPlace} (hok : Value.okWide Tryd.prog W .any base 26 v) (hd : DataW.Trod enc Tryd.prog W 0 (fun _ => true) true 26 v d p) :
    ∃ h : List UInt8, v = .agg (h.map B).toArray ∧ h.length = 32 := by
  obtain ⟨cs, rfl, hsz⟩ := okWide_arr Tryd.underlying26 hok
  rw [cellsH] at hsz
  obtain ⟨fuel, hf⟩ := hd
  obtain ⟨xs, m, rfl, hx, hl, hn, he⟩ := DataW.trod_array Tryd.underlying26 hf
  simp only [Value.cells, cells5, Nat.mul_one] at he
  obtain ⟨h, hh⟩ := bytes_of_cells cs.toList (fun i v hv => by
    have hi : i < cs.toList.length := (List.getElem?_eq_some_iff.1 hv).1
    have hi2 : i < 32 := by simpa [hsz] using hi
    have h1 := he i hi2
    have hxi : xs[i]? = some xs[i] := List.getElem?_eq_getElem (by omega)
    rw [hxi, List.drop_eq_getElem_cons hi, List.take_succ_cons, List.take_zero] at h1
    obtain ⟨n, hc, _, hw⟩ := DataW.trod_int Tryd.underlying5 h1
    have hb := bounds_u8 hw
    have hv' : v = cs.toList[i] := by
      rw [List.getElem?_eq_getElem hi] at hv
      exact (Option.some.inj hv).symm
    simp only [List.cons.injEq, and_true] at hc
    refine ⟨UInt8.ofNat n.toNat, ?_⟩
    have hV : V (UInt8.ofNat n.toNat) = n := by unfold V; rw [UInt8.toNat_ofNat']; omega
    rw [hv', hc]
    show _ = Value.int .u8 (V _)
    rw [hV])
  refine ⟨h, ?_, ?_⟩
  · rw [← hh]
  · have := congrArg List.length hh
    simpa [hsz] using this.symm

/-- A manifest that was handed in, with how long its words may be. -/
theorem manifest_open2 {H : Type} {enc : TypeId × Value → H} {W : World} {r : Reach} {b0 : Nat} {v : Value} {d : DataW H} {p : List MemPlace} (hv : Value.okWide Tryd.prog W r b0 24 v) (h : DataW.Trod enc Tryd.prog W 0 (fun _ => true) true 24 v d p) :
    ∃ (m : MS) (la : Option Addr) (lc : Nat), v = .agg #[str m.os, str m.arch, .slice la m.ls.length lc] ∧ layersAt W la m.ls ∧ m.ls.length ≤ 9223372036854775807 ∧ (m.os.length : Int) ≤ 9223372036854775807 ∧ (m.arch.length : Int) ≤ 9223372036854775807 := by
  obtain ⟨v0, v1, v2, y0, y1, y2, k, rfl, _, _, h0, h1, h2⟩ := Joins.open_agg3 Tryd.underlying24 (by kernel_rfl) cellsM hv h
  obtain ⟨s0, e0, _, z0⟩ := DataW.trod_string Tryd.underlying9 h0
  obtain ⟨s1, e1, _, z1⟩ := DataW.trod_string Tryd.underlying9 h1
  obtain ⟨ls, a, c, rfl, hl, hn, hc, hm, ha⟩ := layers_trod h2
  simp only [List.cons.injEq, and_true] at e0 e1
  subst e0 e1
  refine ⟨⟨s0.data.toList, s1.data.toList, ls⟩, a, c, by simp [str], hl, hn, ?_, ?_⟩
  · have : s0.data.toList.length = s0.size := by simp
    unfold maxLen at z0
    show ((s0.data.toList.length : Nat) : Int) ≤ _
    rw [this]; omega
  · have : s1.data.toList.length = s1.size := by simp
    unfold maxLen at z1
    show ((s1.data.toList.length : Nat) : Int) ≤ _
    rw [this]; omega

theorem manifestWrites_laid_met (os : Os) : laidMet Tryd.prog Rows.manifestWritesRow.laid ((relaidWorld (World.holding Tryd.prog os ⟨#[], #[], []⟩)).forCall (fun _ _ => 0) ⟨#[], #[.agg #[.string ⟨#[]⟩, .string ⟨#[]⟩, .slice none 0 0], .agg #[.int .u8 0, .int .u8 0, .int .u8 0, .int .u8 0, .int .u8 0, .int .u8 0, .int .u8 0, .int .u8 0, .int .u8 0, .int .u8 0, .int .u8 0, .int .u8 0, .int .u8 0, .int .u8 0, .int .u8 0, .int .u8 0, .int .u8 0, .int .u8 0, .int .u8 0, .int .u8 0, .int .u8 0, .int .u8 0, .int .u8 0, .int .u8 0, .int .u8 0, .int .u8 0, .int .u8 0, .int .u8 0, .int .u8 0, .int .u8 0, .int .u8 0, .int .u8 0], .string ⟨#[]⟩], []⟩).memory :=
  laidMet_of_run' 8 (by kernel_rfl) (by kernel_rfl)
theorem manifestWrites_reads (os : Os) {H : Type} (enc : TypeId × Value → H) : ∃ places, DataW.whole enc Tryd.prog ((relaidWorld (World.holding Tryd.prog os ⟨#[], #[], []⟩)).forCall (fun _ _ => 0) ⟨#[], #[.agg #[.string ⟨#[]⟩, .string ⟨#[]⟩, .slice none 0 0], .agg #[.int .u8 0, .int .u8 0, .int .u8 0, .int .u8 0, .int .u8 0, .int .u8 0, .int .u8 0, .int .u8 0, .int .u8 0, .int .u8 0, .int .u8 0, .int .u8 0, .int .u8 0, .int .u8 0, .int .u8 0, .int .u8 0, .int .u8 0, .int .u8 0, .int .u8 0, .int .u8 0, .int .u8 0, .int .u8 0, .int .u8 0, .int .u8 0, .int .u8 0, .int .u8 0, .int .u8 0, .int .u8 0, .int .u8 0, .int .u8 0, .int .u8 0, .int .u8 0], .string ⟨#[]⟩], []⟩).memory Tryd.f3.params.toList Rows.manifestWritesSpec.vars false #[Value.agg #[Value.string ⟨#[]⟩, Value.string ⟨#[]⟩, Value.slice none 0 0], Value.agg #[Value.int .u8 0, Value.int .u8 0, Value.int .u8 0, Value.int .u8 0, Value.int .u8 0, Value.int .u8 0, Value.int .u8 0, Value.int .u8 0, Value.int .u8 0, Value.int .u8 0, Value.int .u8 0, Value.int .u8 0, Value.int .u8 0, Value.int .u8 0, Value.int .u8 0, Value.int .u8 0, Value.int .u8 0, Value.int .u8 0, Value.int .u8 0, Value.int .u8 0, Value.int .u8 0, Value.int .u8 0, Value.int .u8 0, Value.int .u8 0, Value.int .u8 0, Value.int .u8 0, Value.int .u8 0, Value.int .u8 0, Value.int .u8 0, Value.int .u8 0, Value.int .u8 0, Value.int .u8 0], Value.string ⟨#[]⟩].toList 8 = some ([.agg [.lit (.string []), .lit (.string []), .nil], .agg [.lit (.int .u8 0), .lit (.int .u8 0), .lit (.int .u8 0), .lit (.int .u8 0), .lit (.int .u8 0), .lit (.int .u8 0), .lit (.int .u8 0), .lit (.int .u8 0), .lit (.int .u8 0), .lit (.int .u8 0), .lit (.int .u8 0), .lit (.int .u8 0), .lit (.int .u8 0), .lit (.int .u8 0), .lit (.int .u8 0), .lit (.int .u8 0), .lit (.int .u8 0), .lit (.int .u8 0), .lit (.int .u8 0), .lit (.int .u8 0), .lit (.int .u8 0), .lit (.int .u8 0), .lit (.int .u8 0), .lit (.int .u8 0), .lit (.int .u8 0), .lit (.int .u8 0), .lit (.int .u8 0), .lit (.int .u8 0), .lit (.int .u8 0), .lit (.int .u8 0), .lit (.int .u8 0), .lit (.int .u8 0)], .lit (.string [])], [], places) :=
  ⟨[], by kernel_rfl⟩
theorem manifestWrites_readable : ∀ t ∈ Tryd.f3.params.toList, Tryd.prog.readableRec t = true ∧ t < Tryd.prog.types.size := by
  rw [Tryd.params3]
  intro t ht
  simp only [List.mem_cons, List.mem_nil_iff, or_false] at ht
  rcases ht with rfl | rfl | rfl <;> exact ⟨by kernel_rfl, of_decide_eq_true (by kernel_rfl)⟩
theorem manifestWrites_contract (H : Type) (enc : TypeId × Value → H) (W : World) (base : Nat) (args : Array Value) (ds gs : List (DataW H)) (before : List MemPlace)
    (hval : ∀ (j : Nat) t v, Tryd.f3.params[j]? = some t → args[j]? = some v → Value.okWide Tryd.prog W .any base t v)
    (hW : DataW.Whole enc Tryd.prog Tryd.f3.params.toList Rows.manifestWritesSpec.vars false W args.toList ds gs before)
    (hL : laidMetH Tryd.prog Rows.manifestWritesRow.laid W) :
    Calls Tryd.prog 3 args W fun e W' => ∃ v, e = .returned v ∧ Rows.manifestWritesSpec.post enc Tryd.prog Tryd.f3 false true false false W args v W' := by
  obtain ⟨hK, hS⟩ := tables_of hL
  have hW' := hW
  obtain ⟨p, q, hA0, hV, rfl, _, _⟩ := hW
  have hA : DataW.TrodAll enc Tryd.prog W 0 (fun _ => true) true Tryd.f3.params.toList args.toList ds p := hA0
  rw [Tryd.params3] at hA hval
  obtain ⟨v0, vs0, d0, ds0, p0, q0, hargs, rfl, rfl, h0, r0⟩ := trodAll_cons hA
  obtain ⟨v1, vs1, d1, ds1, p1, q1, rfl, rfl, rfl, h1, r1⟩ := trodAll_cons r0
  obtain ⟨v2, vs2, d2, ds2, p2, q2, rfl, rfl, rfl, h2, r2⟩ := trodAll_cons r1
  obtain ⟨rfl, rfl, rfl⟩ := trodAll_nil r2
  obtain rfl : args = #[v0, v1, v2] := by cases args; simp_all
  obtain ⟨rfl, rfl⟩ := trodVars_none hV
  obtain ⟨m, la, lc, rfl, hl, hn, ho, ha⟩ := manifest_open2 (hval 0 24 v0 rfl rfl) h0
  obtain ⟨h, rfl, h32⟩ := hash_open (hval 1 26 v1 rfl rfl) h1
  obtain ⟨s, rfl, _, _, hz⟩ := Go.ChangeMaps.open_string Tryd.underlying9 (hval 2 9 v2 rfl rfl) h2
  have hsl : ((s.data.toList.length : Nat) : Int) ≤ 9223372036854775807 := by
    have : s.data.toList.length = s.size := by simp
    unfold maxLen at hz
    rw [this]; omega
  have hstr : Value.string s = str s.data.toList := by simp [str]
  rw [hstr]
  refine (writes_walk m la lc h s.data.toList h32 W hK hS hl hn ho ha hsl).mono fun e W' ⟨he, hg⟩ => ?_
  subst he
  rw [hstr] at hW'
  exact ⟨_, rfl, post_law hW' rfl (by kernel_rfl) rfl manifestWrites_readable hg⟩
set_option maxRecDepth 100000 in
theorem manifestWrites_lifted (os : Os) (started : os.Started) (H : Type) (enc : TypeId × Value → H) (F : Stop.Interp) :
    ReturnsInHanded {} Tryd.checked os 3 .any ((OpenSpec.ofChange Rows.manifestWritesSpec).preRow enc Tryd.prog Tryd.f3 Rows.manifestWritesRow.domain false Rows.manifestWritesRow.laid) (((OpenSpec.ofChange Rows.manifestWritesSpec).at F).post enc Tryd.prog Tryd.f3 false true false false) := by
  obtain ⟨places, hx⟩ := manifestWrites_reads os enc
  refine returnsInHanded_of_row (C := Tryd.checked) (s := OpenSpec.ofChange Rows.manifestWritesSpec) own started (by kernel_rfl) Tryd.func3
    (witness_row_at (enc := enc) (C := Tryd.checked) false (relaidWorld (World.holding Tryd.prog os ⟨#[], #[], []⟩)) #[.agg #[.string ⟨#[]⟩, .string ⟨#[]⟩, .slice none 0 0], .agg #[.int .u8 0, .int .u8 0, .int .u8 0, .int .u8 0, .int .u8 0, .int .u8 0, .int .u8 0, .int .u8 0, .int .u8 0, .int .u8 0, .int .u8 0, .int .u8 0, .int .u8 0, .int .u8 0, .int .u8 0, .int .u8 0, .int .u8 0, .int .u8 0, .int .u8 0, .int .u8 0, .int .u8 0, .int .u8 0, .int .u8 0, .int .u8 0, .int .u8 0, .int .u8 0, .int .u8 0, .int .u8 0, .int .u8 0, .int .u8 0, .int .u8 0, .int .u8 0], .string ⟨#[]⟩] rfl (by kernel_rfl) (by kernel_rfl) (by kernel_rfl)
      (OpenSpec.preRow_of_cond 8 hx (by kernel_rfl) (fun k hk => by cases hk) (by kernel_rfl) (manifestWrites_laid_met os))) ?_
  intro W base args ds gs before hval hW _ _ _ hL _ _
  exact manifestWrites_contract H enc W base args ds gs before hval hW hL
theorem manifestWrites_said : Rows.ManifestWritesSaid :=
  OpenClaim.holds_of_cond 3 Tryd.f3 rfl rfl rfl rfl rfl rfl rfl ⟨rfl, rfl, rfl, rfl, rfl⟩ rfl rfl rfl rfl rfl (by kernel_rfl) Tryd.func3 (by kernel_rfl)
    (of_decide_eq_true (by kernel_rfl)) (by unfold Func.isWrapper; first | (rw [if_pos (by decide +kernel)]; kernel_rfl) | (rw [if_neg (by decide +kernel)]; exact ⟨rfl, rfl⟩))
    (fun os started H enc _ F => by rw [OpenClaim.pre_eq_preRow]; exact manifestWrites_lifted os started H enc F)
theorem manifestWrites_plain (f : FuncId) (fn : Func) (hf : Tryd.pinned.checked.prog.funcNamed "dunnage/dunnagelaw11.ManifestWrites" = some f) (hfn : Tryd.pinned.checked.prog.funcs[f]? = some fn) :
    false = Tryd.pinned.checked.prog.looks [] ∧ ∀ (j : Nat) t, fn.params[j]? = some t → Tryd.pinned.checked.prog.wantsStandIn t = false := by
  obtain rfl : f = 3 := Option.some.inj ((show Tryd.prog.funcNamed "dunnage/dunnagelaw11.ManifestWrites" = some 3 by kernel_rfl).symm.trans hf) |>.symm
  obtain rfl : fn = Tryd.f3 := (Option.some.inj (Tryd.func3.symm.trans hfn)).symm
  refine ⟨by kernel_rfl, fun j t ht => ?_⟩
  rw [Tryd.params3] at ht
  have hm := Array.mem_of_getElem? ht
  simp only [List.mem_toArray, List.mem_cons, List.mem_nil_iff, or_false] at hm
  rcases hm with rfl | rfl | rfl
  · exact (show Tryd.prog.wantsStandIn 24 = false by kernel_rfl)
  · exact (show Tryd.prog.wantsStandIn 26 = false by kernel_rfl)
  · exact (show Tryd.prog.wantsStandIn 9 = false by kernel_rfl)
/-- THE CARD: the statement ManifestWrites. -/
theorem manifestWrites_card : Rows.ManifestWritesCardSaid :=
  Claim7.holds_tied_plain_at .later [] _ _ _ _ manifestWrites_said (fun _ h => by cases h) (by kernel_rfl) (fun _ h => by cases h) manifestWrites_row_tie rfl ⟨rfl, rfl⟩ (by kernel_rfl) rfl manifestWrites_plain (by kernel_rfl)
end Go.Proofs.YtkmmeokccmppbaaDoor
