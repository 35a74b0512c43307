/- TopPages: pages that were committed stay, through caches that are closed and opened again, each behind a crash, for all groups of pages, every byte and all choices: the statement, proved. -/
import Derived.Test.YtjgclmlclkfgpaaGreatTPagesWalk
import Derived.Test.YtjgclmlclkfgpaaGreatBaseC
import Derived.Deep.Slices
namespace Go.Proofs.YtjgclmlclkfgpaaGreat
open Go.ChangeShapes Go.WideShapes Go.ChangeAt Go.RowKit
theorem cellsRow : Tryz.prog.cellsOf 49 = 1 := by kernel_rfl
set_option maxRecDepth 100000 in
theorem bytes_trod {H : Type} {enc : TypeId × Value → H} {W : World} {v : Value} {d : DataW H} {p : List MemPlace} {fuel : Nat} (hf : DataW.trod enc Tryz.prog W 0 (fun _ => true) true fuel 49 [v] = some (d, p)) : ∃ bs : List UInt8, ∃ (a : Option Addr) (c : Nat), v = .slice a bs.length c ∧ bytesIn W a bs := by
  rcases open_ints Tryz.underlying49 Tryz.underlying5 cellsU8 hf with ⟨hcs, hx⟩ | ⟨a, len, cap, zs, hcs, _, hl, hm, hz, hx, hcell, hwz⟩
  · simp only [List.cons.injEq, and_true] at hcs
    subst hcs
    exact ⟨[], none, 0, rfl, fun j hj => by simp at hj⟩
  · simp only [List.cons.injEq, and_true] at hcs
    subst hcs
    simp only [if_true] at hz
    have hlen : ((zs.take len).map fun n => UInt8.ofNat n.toNat).length = len := by simp; omega
    refine ⟨(zs.take len).map fun n => UInt8.ofNat n.toNat, some a, cap, by rw [hlen], fun j hj => ?_⟩
    rw [hlen] at hj
    have h0 := plain_addr (hcell 0 (by omega))
    rw [Addr.add, if_pos rfl] at h0
    refine ⟨a.block, a.off, by rw [← h0], fun i hi => ?_⟩
    have hil : i < len := by rw [hlen] at hi; exact hi
    have hc := hcell i (by omega)
    have hiz : i < zs.length := by omega
    have hb := bounds_u8 (hwz zs[i] (List.getElem_mem hiz))
    have hg : zs.getD i 0 = zs[i] := by rw [List.getD_eq_getElem?_getD, List.getElem?_eq_getElem hiz]; rfl
    have hV : zs[i] = (((zs.take len).map fun n => UInt8.ofNat n.toNat)[i].toNat : Int) := by
      simp only [List.getElem_map, List.getElem_take, UInt8.toNat_ofNat']; omega
    rw [hg, hV, h0, Addr.add_mid] at hc
    exact hc
set_option maxRecDepth 100000 in
/-- Rows of bytes that were handed in. -/
theorem rows_open {H : Type} {enc : TypeId × Value → H} {W : World} {base : Nat} {v : Value} {d : DataW H} {p : List MemPlace} (hok : Value.okWide Tryz.prog W .any base 36 v) (h : DataW.Trod enc Tryz.prog W 0 (fun _ => true) true 36 v d p) :
    ∃ (bss : List (List UInt8)) (a : Option Addr) (c : Nat), v = .slice a bss.length c ∧ rowsAt W a bss := by
  obtain ⟨a0, len, cap, rfl⟩ := okWide_slice Tryz.underlying36 hok
  obtain ⟨fuel, hf⟩ := h
  rcases Go.Deep.open_slice1 Tryz.underlying36 cellsRow hf with ⟨hcs, hx⟩ | ⟨a, len, cap, m, n, V, D, Pl, hcs, _, hl, hm, hmm, hx, hr⟩
  · simp only [Value.cells, Prod.mk.injEq, List.cons.injEq, and_true] at hcs hx
    rw [hcs]
    exact ⟨[], none, 0, rfl, fun j hj => by simp at hj⟩
  · simp only [if_true] at hmm
    subst hmm
    simp only [Value.cells, Prod.mk.injEq, List.cons.injEq, and_true] at hcs hx
    rw [hcs]
    obtain ⟨f, hfr⟩ := Go.Deep.choose_lt (α := List UInt8) (n := m) (p := fun i bs => ∃ (a : Option Addr) (c : Nat), V i = .slice a bs.length c ∧ bytesIn W a bs) (fun i hi => bytes_trod (hr i hi).2)
    refine ⟨(List.range len).map f, some a, m, by simp, fun j hj => ?_⟩
    have hj' : j < len := by simpa using hj
    have h0 := plain_addr (hr 0 (by omega)).1
    rw [Addr.add, if_pos rfl] at h0
    refine ⟨a.block, a.off, by rw [← h0], fun i hi => ?_⟩
    have hil : i < len := by simpa using hi
    have hc := (hr i (by omega)).1
    obtain ⟨a', c', e1, e2⟩ := hfr i (by omega)
    have hg : ((List.range len).map f)[i] = f i := by simp
    rw [hg]
    refine ⟨a', c', ?_, e2⟩
    rw [← e1, ← hc, h0, Addr.add_mid]
theorem topPages_readable : ∀ t ∈ Tryz.f6.params.toList, Tryz.prog.readableRec t = true ∧ t < Tryz.prog.types.size := by
  rw [Tryz.params6]
  intro t ht
  simp only [List.mem_cons, List.mem_nil_iff, or_false] at ht
  rcases ht with ht | ht | ht
  all_goals subst ht; exact ⟨by kernel_rfl, of_decide_eq_true (by kernel_rfl)⟩
set_option maxRecDepth 100000 in
theorem topPages_lifted (os : Os) (started : os.Started) (H : Type) (enc : TypeId × Value → H) :
    ReturnsInHanded {} Tryz.checked os 6 .any (Rows.topPagesSpec.pre6 enc Tryz.prog Tryz.f6 Rows.topPagesRow.domain false) (Rows.topPagesSpec.post enc Tryz.prog Tryz.f6 false true false false) := by
  refine returnsInHanded_of_change (C := Tryz.checked) own started (by kernel_rfl) Tryz.func6
    (ChangeSpec.witness6 (enc := enc) (C := Tryz.checked) false ⟨#[], #[.slice none 0 0, .int .u8 0, .slice none 0 0], []⟩ 8 (by kernel_rfl) (by kernel_rfl) (by kernel_rfl) (by kernel_rfl)) ?_
  intro W base args ds gs before hval0 hW hcnd _
  have hval : ∀ (j : Nat) t v, Tryz.f6.params[j]? = some t → args[j]? = some v → Value.okWide Tryz.prog W .any base t v := hval0
  have hW' := hW
  obtain ⟨p, q, hA0, hV, rfl, hfz, hnd⟩ := hW
  have hA : DataW.TrodAll enc Tryz.prog W 0 (fun _ => true) true Tryz.f6.params.toList args.toList ds p := hA0
  rw [Tryz.params6] at hA hval
  obtain ⟨v0, vs0, d0, ds0, p0, q0, hargs, rfl, rfl, h0, r0⟩ := trodAll_cons hA
  obtain ⟨v1, vs1, e1, ds1, p1, q1, rfl, rfl, rfl, h1, r1⟩ := trodAll_cons r0
  obtain ⟨v2, vs2, e2, ds2, p2, q2, rfl, rfl, rfl, h2, r2⟩ := trodAll_cons r1
  obtain ⟨rfl, rfl, rfl⟩ := trodAll_nil r2
  obtain rfl : args = #[v0, v1, v2] := by cases args; simp_all
  obtain ⟨rfl, rfl⟩ := trodVars_none hV
  obtain ⟨l, a, c, rfl, hl⟩ := rows_open (hval 0 36 v0 rfl rfl) h0
  obtain ⟨a1, rfl, rfl, rfl, w1⟩ := open_int Tryz.underlying5 (hval 1 5 v1 rfl rfl) h1
  have hb := bounds_u8 w1
  obtain ⟨ch, ca, cc, rfl, hch, hchl⟩ := bytes_open (hval 2 49 v2 rfl rfl) h2
  clear hA0 hval0
  obtain ⟨x, rfl⟩ : ∃ x : UInt8, a1 = (x.toNat : Int) := ⟨UInt8.ofNat a1.toNat, by rw [UInt8.toNat_ofNat']; omega⟩
  refine (topPages_walk l a c x ch ca cc W hl hch hchl).mono fun e W' ⟨he, hg⟩ => ?_
  subst he
  exact ⟨_, rfl, post_law hW' rfl (by kernel_rfl) rfl topPages_readable hg⟩
/-- THE STATEMENT. -/
theorem topPages_said : Rows.TopPagesSaid :=
  OpenClaim.holds_of_wide 6 Tryz.f6 rfl rfl rfl rfl rfl rfl rfl ⟨rfl, rfl, rfl, rfl, rfl⟩ rfl rfl rfl rfl rfl (by kernel_rfl) Tryz.func6 (by kernel_rfl)
    (of_decide_eq_true (by kernel_rfl)) (by unfold Func.isWrapper; first | (rw [if_pos (by decide +kernel)]; kernel_rfl) | (rw [if_neg (by decide +kernel)]; exact ⟨rfl, rfl⟩))
    (fun os started H enc _ => topPages_lifted os started H enc)
end Go.Proofs.YtjgclmlclkfgpaaGreat
