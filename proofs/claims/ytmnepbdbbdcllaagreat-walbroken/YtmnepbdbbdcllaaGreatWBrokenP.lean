/- WalBroken: spoils that were handed in; disks that were loaded; what Open does to both. -/
import Derived.Test.YtmnepbdbbdcllaaGreatROpen
import Derived.Test.YtmnepbdbbdcllaaGreatRRows
import Derived.Test.YtmnepbdbbdcllaaGreatWDeeds
import Derived.Test.YtmnepbdbbdcllaaGreatLoad
import Derived.Test.YtmnepbdbbdcllaaGreatRLoad
import Derived.Test.YtmnepbdbbdcllaaGreatWPlayM
namespace Go.Proofs.YtmnepbdbbdcllaaGreat
open Go.ChangeShapes Go.WideShapes Go.ChangeAt Go.RowKit
/-- A byte that is changed. -/
structure SpoilS where
  s : Int
  a : Int
  b : UInt8
def SpoilS.ok (w : World) (D : SpoilS) (b o : Nat) : Prop := w.cell? ⟨b, o, none⟩ = some (.int .i64 D.s) ∧ w.cell? ⟨b, o + 1, none⟩ = some (.int .i64 D.a) ∧ w.cell? ⟨b, o + 2, none⟩ = some (.int .u8 (D.b.toNat : Int))
def spoilsAt (w : World) (a : Option Addr) (ds : List SpoilS) : Prop := ∀ j, j < ds.length → ∃ b o, a = some ⟨b, o, none⟩ ∧ ∀ i (hi : i < ds.length), SpoilS.ok w ds[i] b (o + i * 3)
theorem SpoilS.ok.below {w w' : World} {D : SpoilS} {b o : Nat} (h : D.ok w b o) (k : Below w.heap.size w w') : D.ok w' b o :=
  ⟨(k.cell (World.block_lt_of_cell? w _ h.1)).trans h.1, (k.cell (World.block_lt_of_cell? w _ h.2.1)).trans h.2.1, (k.cell (World.block_lt_of_cell? w _ h.2.2)).trans h.2.2⟩
theorem cellsSpoil : Tryz.prog.cellsOf 54 = 3 := by kernel_rfl
set_option maxRecDepth 100000 in
theorem spoil_cells {H : Type} {enc : TypeId × Value → H} {W : World} {sp : Nat → Bool} {held : Bool} {a : Addr} {m : Nat} {y : DataW H × List MemPlace} (h : (W.cells? 0 a 3).bind (DataW.trod enc Tryz.prog W 0 sp held m 54) = some y) :
    ∃ D : SpoilS, a = ⟨a.block, a.off, none⟩ ∧ D.ok W a.block a.off := by
  obtain ⟨cs, hcs, hf⟩ := Option.bind_eq_some_iff.1 h
  obtain ⟨_, hl, hc⟩ := World.cells?_some hcs
  obtain ⟨y0, y1, y2, n, _, _, h0, h1, h2⟩ := Deep.trod_struct3 Tryz.underlying54 hf
  match cs, hl with
  | [v0, v1, v2], _ =>
    obtain ⟨f, e0, _⟩ := DataW.trod_int Tryz.underlying3 h0
    obtain ⟨g, e1, _⟩ := DataW.trod_int Tryz.underlying3 h1
    obtain ⟨x, e2, _, w2⟩ := DataW.trod_int Tryz.underlying5 h2
    have e0' : v0 = .int .i64 f := by simpa [show Tryz.prog.cellsOf 3 = 1 by kernel_rfl] using e0
    have e1' : v1 = .int .i64 g := by simpa [show Tryz.prog.cellsOf 3 = 1 by kernel_rfl] using e1
    have e2' : v2 = .int .u8 x := by simpa [show Tryz.prog.cellsOf 5 = 1 by kernel_rfl, show Tryz.prog.cellsOf 3 = 1 by kernel_rfl] using e2
    subst e0' e1' e2'
    have hb := bounds_u8 w2
    have hx : x = ((UInt8.ofNat x.toNat).toNat : Int) := by simp only [UInt8.toNat_ofNat']; omega
    have c0 := hc 0 (by omega)
    have hp := plain_addr c0
    rw [Addr.add, if_pos rfl] at hp
    rw [hp] at hc
    have d0 : W.cell? ⟨a.block, a.off, none⟩ = some (.int .i64 f) := by simpa [Addr.add_mid] using hc 0 (by omega)
    have d1 : W.cell? ⟨a.block, a.off + 1, none⟩ = some (.int .i64 g) := by simpa [Addr.add_mid] using hc 1 (by omega)
    have d2 : W.cell? ⟨a.block, a.off + 2, none⟩ = some (.int .u8 x) := by simpa [Addr.add_mid] using hc 2 (by omega)
    rw [hx] at d2
    exact ⟨⟨f, g, UInt8.ofNat x.toNat⟩, hp, d0, d1, d2⟩
set_option maxRecDepth 100000 in
theorem spoils_open {H : Type} {enc : TypeId × Value → H} {W : World} {base : Nat} {v : Value} {d : DataW H} {p : List MemPlace} (hok : Value.okWide Tryz.prog W .any base 50 v) (h : DataW.Trod enc Tryz.prog W 0 (fun _ => true) true 50 v d p) :
    ∃ (ds : List SpoilS) (a : Option Addr) (c : Nat), v = .slice a ds.length c ∧ spoilsAt W a ds := by
  obtain ⟨a0, len, cap, rfl⟩ := okWide_slice Tryz.underlying50 hok
  obtain ⟨fuel, hf⟩ := h
  rcases DataW.trod_slice Tryz.underlying50 hf with ⟨hcs, hx⟩ | ⟨a, len', cap', elems, rest, n, _, hcs, hx, _, hl, hm, hel, hcell, _, _⟩
  · simp only [Value.cells, List.cons.injEq, and_true, Value.slice.injEq] at hcs
    obtain ⟨rfl, rfl, rfl⟩ := hcs
    exact ⟨[], none, 0, rfl, fun j hj => by simp at hj⟩
  · simp only [Value.cells, List.cons.injEq, and_true, Value.slice.injEq] at hcs
    obtain ⟨rfl, rfl, rfl⟩ := hcs
    have hex : ∀ i, i < len → ∃ D : SpoilS, (a.add (i * 3)) = ⟨a.block, a.off + i * 3, none⟩ ∧ D.ok W a.block (a.off + i * 3) := fun i hi => by
      have h1 := hcell i hi
      rw [cellsSpoil, List.getElem?_eq_getElem (by omega)] at h1
      obtain ⟨D, hp, hD⟩ := spoil_cells h1
      have hblk : (a.add (i * 3)).block = a.block := add_block a _
      have hoff : (a.add (i * 3)).off = a.off + i * 3 := add_off _ _
      rw [hblk, hoff] at hp hD
      exact ⟨D, hp, hD⟩
    obtain ⟨ds, hdl, hP⟩ := list_of len hex
    refine ⟨ds, some a, cap, by rw [hdl], fun j hj => ?_⟩
    have ha : a = ⟨a.block, a.off, none⟩ := by
      have h1 := hcell 0 (by omega)
      rw [cellsSpoil, List.getElem?_eq_getElem (by omega)] at h1
      obtain ⟨D, hp, _⟩ := spoil_cells h1
      rw [Nat.zero_mul, Addr.add, if_pos rfl] at hp
      exact hp
    exact ⟨a.block, a.off, by rw [← ha], fun i hi => (hP i hi).2⟩
/-- What Open does to the reference is what it does to the log's disk. -/
theorem ropen_of {S : DiskS} (h : Made S) (size : Nat) (ns : List Nat) (hp : ns.Pairwise (fun a b => a < b)) (hl : ns.length ≤ size) (hs : size + 1 ≤ S.safe.length) : ropenR (refOf S) size ns = refOf (openS S size ns) := by
  by_cases h0 : ns = []
  · rw [ropenR, openS, if_pos h0, if_pos h0]
  · rw [ropenR, openS, if_neg h0, if_neg h0, homeS_doOps]
    obtain ⟨h1, _, h3⟩ := doOps_facts S (homeOps size (logL S ns ns.length) (natsZ ns))
    rw [rhomeR, put_head _ _ (by show 0 < (bytesOf S.first).length; rw [length_bytesOf, ← h.len]; omega) (by simp)]
    show _ = (⟨bytesOf (doOps S _).first, (doOps S _).ops.map ropOf⟩ : RefS)
    rw [h1, h3, List.map_append, homeOps]
    have e : (List.range ns.length).map (fun i => (⟨false, (size : Int) + 1 + (ns.getD i 0 : Nat), (atL (refOf S) (refOf S).l.length).getD (1 + i) []⟩ : ROp)) = ((natsZ ns).map (fun n => OpS.write (1 + (size : Int) + n) ⟨(logL S ns ns.length n).toArray⟩)).map ropOf := by
      refine List.ext_getElem (by simp [natsZ]) (fun i h1 h2 => ?_)
      have hi : i < ns.length := by simpa using h1
      simp only [List.getElem_map, List.getElem_range, ropOf, natsZ]
      rw [logL_at S ns hp i hi ns.length hi (Nat.le_refl _), List.getD_eq_getElem?_getD, List.getElem?_eq_getElem hi, List.getD_eq_getElem?_getD, img_atP h (1 + i) (by omega)]
      simp only [Option.getD_some]
      congr 1
      omega
    simp only [RefS.did, rhomeTo]
    rw [e]
    simp [refOf, ropOf]
theorem bytesOf_secs (L : List (List UInt8)) : bytesOf (secsOf L) = L := by
  simp [bytesOf, secsOf, Function.comp_def]
/-- A disk of the reference that was loaded. -/
theorem refIn_load {w w' : World} {L : List (List UInt8)} {r : Nat} {a : Option Addr} {c : Nat} (hr : w'.heap[r]? = some (.cells #[.slice a L.length c, .slice none 0 0] 88 (0, 0))) (hf : rowsFrom w' w.heap.size a L) (hL : 2 < L.length) (h5 : ∀ l ∈ L, l.length = 512) :
    RefIn w' r (.slice a L.length c) (.slice none 0 0) [] (fun i => i < w'.heap.size ∧ i ≠ r) ⟨L, []⟩ := by
  have hne : ∀ ad v, w'.cell? ad = some v → (∀ x n y, v ≠ .slice x n y) → ad.block ≠ r := fun ad v hc hv e => by
    have hp := plain_addr hc
    rw [hp, e, cell_of_block hr] at hc
    match ad.off, hc with
    | 0, hc => simp at hc; exact hv _ _ _ hc.symm
    | 1, hc => simp at hc; exact hv _ _ _ hc.symm
    | (n + 2), hc => simp at hc
  have htab : ∀ b o, a = some ⟨b, o, none⟩ → b ≠ r := fun b o e e2 => by
    obtain ⟨b', o', e3, _, hc⟩ := hf 2 hL
    rw [e] at e3
    simp only [Option.some.injEq, Addr.mk.injEq, and_true] at e3
    obtain ⟨rfl, rfl⟩ := e3
    obtain ⟨a', c', h1, _⟩ := hc 2 hL
    rw [e2, cell_of_block hr] at h1
    have hsz : o + 2 < 2 := by
      have := (Array.getElem?_eq_some_iff.1 h1).1
      simpa using this
    omega
  refine ⟨hr, fun h => h.2 rfl, ⟨a, c, rfl, hf.at, fun ad ha => ?_⟩, ?_, World.ownsRow_nil _ _ _ _, fun i hi => by simp [Value.ownBlock] at hi, rfl, fun _ => rfl, fun j hj => by simp at hj⟩
  · obtain ⟨b', o', e3, _, hc⟩ := hf 0 (by omega)
    obtain ⟨a', c', h1, _⟩ := hc 0 (by omega)
    rw [ha] at e3
    obtain rfl := Option.some.inj e3
    exact ⟨World.block_lt_of_cell? w' _ h1, htab b' o' (by rw [ha])⟩
  · intro a1 c1 e1 b o e3 i hi a' n' c' hcell ad had
    simp only [Value.slice.injEq, true_and] at e1
    obtain ⟨rfl, rfl⟩ := e1
    obtain ⟨b', o', e4, _, hc⟩ := hf i hi
    rw [e3] at e4
    simp only [Option.some.injEq, Addr.mk.injEq, and_true] at e4
    obtain ⟨rfl, rfl⟩ := e4
    obtain ⟨a2, c2, h1, h2, _⟩ := hc i hi
    rw [h1] at hcell
    simp only [Option.some.injEq, Value.slice.injEq] at hcell
    obtain ⟨rfl, _, _⟩ := hcell
    have hiL : i < L.length := hi
    have h5i := h5 _ (List.getElem_mem hiL)
    have hi' : 0 < (L[i]'hiL).length := by omega
    obtain ⟨b6, o6, e6, hc6⟩ := h2 0 hi'
    rw [had] at e6
    obtain rfl := Option.some.inj e6
    have h7 := hc6 0 hi'
    exact ⟨World.block_lt_of_cell? w' _ h7, hne _ _ h7 (fun x n y => by simp)⟩
end Go.Proofs.YtmnepbdbbdcllaaGreat
