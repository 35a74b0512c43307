/- From a walk to a row, for every statement of this seat: the three tables that the row lists are what the walks ask for; what was read before the call reads so behind it. -/
import Derived.Test.YtllkkfeechojoaaDoorCards
import Derived.Test.YtllkkfeechojoaaDoorTie
import Derived.Test.YtllkkfeechojoaaDoorSSum
import Derived.Test.YtllkkfeechojoaaDoorSCrc
import Derived.Deep.DeepHandedRow
import Derived.Lib.LaidTab
namespace Go.Proofs.YtllkkfeechojoaaDoor.Sh
open Go.ChangeShapes Go.WideShapes Go.ChangeAt Go.RowKit
set_option maxRecDepth 100000 in
theorem own : ownKnob Tryd.prog.godebug = none := by kernel_rfl
set_option maxRecDepth 100000 in
theorem laidOut : laidOutB Tryd.prog = true := by kernel_rfl
set_option maxRecDepth 100000 in
theorem gC : Tryd.prog.globalNamed "dunnage/sha.crcWords" = some 0 := by kernel_rfl
set_option maxRecDepth 100000 in
theorem gS : Tryd.prog.globalNamed "dunnage/sha.start" = some 1 := by kernel_rfl
set_option maxRecDepth 100000 in
theorem gK : Tryd.prog.globalNamed "dunnage/sha.roundWords" = some 2 := by kernel_rfl
set_option maxRecDepth 100000 in
theorem tC : (Tryd.prog.globals[0]?).map (·.type) = some 68 := by kernel_rfl
set_option maxRecDepth 100000 in
theorem tS : (Tryd.prog.globals[1]?).map (·.type) = some 72 := by kernel_rfl
set_option maxRecDepth 100000 in
theorem tK : (Tryd.prog.globals[2]?).map (·.type) = some 103 := by kernel_rfl
set_option maxRecDepth 100000 in
theorem cells53 : Tryd.prog.cellsOf 68 = 16 := by kernel_rfl
set_option maxRecDepth 100000 in
theorem cells55 : Tryd.prog.cellsOf 72 = 8 := by kernel_rfl
set_option maxRecDepth 100000 in
theorem cells66 : Tryd.prog.cellsOf 103 = 64 := by kernel_rfl
set_option maxRecDepth 100000 in
theorem cells28 : Tryd.prog.cellsOf 35 = 1 := by kernel_rfl
set_option maxRecDepth 100000 in
/-- One table out of the list, and the rest of the list. -/
theorem tab_of_vars {P : Program} {W : World} {name : String} {k : IntKind} {zs : List Int} {rest : List (String × DataW Unit)} {ps : List MemPlace} {g : Nat} {t e : TypeId} {n : Nat}
    (hg : P.globalNamed name = some g) (hty : (P.globals[g]?).map (·.type) = some t) (ht : P.underlying t = some (.array n e)) (he : P.underlying e = some (.int k)) (hce : P.cellsOf e = 1) (hct : P.cellsOf t = n)
    (h : DataW.LaidVars P W ((name, Lib.tabData k zs) :: rest) ps) : Lib.TabIs P W name k zs ∧ ∃ q, DataW.LaidVars P W rest q := by
  obtain ⟨g', t', cs, fuel, p, q, hg', ht', hvar, hd, hrest, _⟩ := h
  obtain rfl := Option.some.inj (hg.symm.trans hg')
  obtain rfl := Option.some.inj (hty.symm.trans ht')
  refine ⟨?_, q, hrest⟩
  have := Lib.cells_of_tab ht he hce hct hd
  unfold Lib.TabIs
  rw [hvar, ← this]
def laidAll : List (String × DataW Unit) := [("dunnage/sha.crcWords", Lib.tabData .u32 (crcTab.map U)), ("dunnage/sha.start", Lib.tabData .u32 (startS.list.map U)), ("dunnage/sha.roundWords", Lib.tabData .u32 (kwords.map U))]
set_option maxRecDepth 100000 in
theorem laid_is : laidAll = [("dunnage/sha.crcWords", Rows.laid_dunnage_sha_crcWords), ("dunnage/sha.start", Rows.laid_dunnage_sha_start), ("dunnage/sha.roundWords", Rows.laid_dunnage_sha_roundWords)] := by kernel_rfl
set_option maxRecDepth 100000 in
theorem tables {W : World} (h : laidMet Tryd.prog laidAll W) : Kat W ∧ Sat W ∧ Cat W := by
  obtain ⟨ps, h, _⟩ := h
  obtain ⟨h1, q1, h⟩ := tab_of_vars gC tC Tryd.underlying68 Tryd.underlying35 cells28 cells53 h
  obtain ⟨h2, q2, h⟩ := tab_of_vars gS tS Tryd.underlying72 Tryd.underlying35 cells28 cells55 h
  obtain ⟨h3, _⟩ := tab_of_vars gK tK Tryd.underlying103 Tryd.underlying35 cells28 cells66 h
  refine ⟨fun t ht => ?_, ⟨?_, ?_, ?_, ?_, ?_, ?_, ?_, ?_⟩, fun t ht => ?_⟩
  · rw [h3.cell gK t (by simpa [kwords] using ht)]
    have hg := get_some (l := kwords) (k := t) (d := 0) (by simpa [kwords] using ht)
    rw [List.getD_eq_getElem?_getD, List.getElem?_map, hg]; rfl
  · exact h2.cell gS 0 (by simp [St.list])
  · exact h2.cell gS 1 (by simp [St.list])
  · exact h2.cell gS 2 (by simp [St.list])
  · exact h2.cell gS 3 (by simp [St.list])
  · exact h2.cell gS 4 (by simp [St.list])
  · exact h2.cell gS 5 (by simp [St.list])
  · exact h2.cell gS 6 (by simp [St.list])
  · exact h2.cell gS 7 (by simp [St.list])
  · rw [h1.cell gC t (by simpa [crcTab] using ht)]
    have hg := get_some (l := crcTab) (k := t) (d := 0) (by simpa [crcTab] using ht)
    rw [List.getD_eq_getElem?_getD, List.getElem?_map, hg]; rfl
set_option maxRecDepth 100000 in
theorem tables_of {W : World} (h : laidMetH Tryd.prog [("dunnage/sha.crcWords", Rows.laid_dunnage_sha_crcWords), ("dunnage/sha.start", Rows.laid_dunnage_sha_start), ("dunnage/sha.roundWords", Rows.laid_dunnage_sha_roundWords)] W) : Kat W ∧ Sat W ∧ Cat W := by
  rw [← laid_is] at h
  exact tables h
set_option maxRecDepth 100000 in
/-- What was read before the call reads so behind it. -/
theorem trodAll_below {H : Type} {enc : TypeId × Value → H} {P : Program} (hl : laidOutB P = true) {W W' : World} (hb : Below W.heap.size W W') : ∀ (ts : List TypeId) (vs : List Value) (ds : List (DataW H)) (ps : List MemPlace),
    (∀ t ∈ ts, P.readableRec t = true ∧ t < P.types.size) → DataW.TrodAll enc P W 0 (fun _ => true) true ts vs ds ps → (∀ x ∈ ps, x.block < W.heap.size) → DataW.TrodAll enc P W' 0 (fun b => decide (b < W.heap.size)) true ts vs ds ps
  | [], vs, ds, ps, _, h, _ => by cases vs <;> cases ds <;> simp [DataW.TrodAll] at h ⊢; exact h
  | t :: ts, vs, ds, ps, hr, h, hlt => by
    obtain ⟨v, vs', d, ds', p, q, rfl, rfl, rfl, h1, h2⟩ := trodAll_cons h
    exact trodAll_cons_mk (Below.trod hl (hr t (by simp)).1 (hr t (by simp)).2 h1 hb (fun x hx => hlt x (by simp [hx])))
      (trodAll_below hl hb ts vs' ds' q (fun t' ht' => hr t' (by simp [ht'])) h2 (fun x hx => hlt x (by simp [hx])))
set_option maxRecDepth 100000 in
/-- The end of a law: it returned true, and has made new memory at most. -/
theorem post_law {H : Type} {enc : TypeId × Value → H} {f : Func} {s : ChangeSpec} {W W' : World} {args : Array Value} {ds gs : List (DataW H)} {before : List MemPlace}
    (hW : DataW.Whole enc Tryd.prog f.params.toList s.vars false W args.toList ds gs before) (hv : s.vars = []) (hres : f.resultTypes = #[4]) (hfn : (s.fn H (ds ++ gs)) = { results := [.lit (.bool true)], args := ds })
    (hr : ∀ t ∈ f.params.toList, Tryd.prog.readableRec t = true ∧ t < Tryd.prog.types.size) (hb : Below W.heap.size W W') : s.post enc Tryd.prog f false true false false W args (.bool true) W' := by
  have hW' := hW
  obtain ⟨p, q, hA, hV, rfl, _, _⟩ := hW
  refine ⟨ds, gs, p ++ q, [], p, [], hW', ?_, ?_, ?_, hb.frame _, fun h => by cases h⟩
  · rw [hfn, hres]
    exact trodAll_cons_mk (shut_bool Tryd.underlying4 true) trodAll_mk0
  · rw [hfn]
    exact trodAll_below laidOut hb _ _ _ _ hr hA (fun x hx => by simpa using hW'.lt x (by simp [hx]))
  · rw [hfn, hv]; exact rfl
/-- A block's cells, others in their place. -/
def relaid (C : Array Value) : Obj → Obj
  | .cells _ t frozen => .cells C t frozen
  | o => o
/-- A world for the witness: the tables hold what their initialisers lay. -/
def relaidWorld (w : World) : World :=
  { w with heap := ((w.heap.modify 0 (relaid (crcTab.map W).toArray)).modify 1 (relaid (startS.list.map W).toArray)).modify 2 (relaid (kwords.map W).toArray) }
end Go.Proofs.YtllkkfeechojoaaDoor.Sh
