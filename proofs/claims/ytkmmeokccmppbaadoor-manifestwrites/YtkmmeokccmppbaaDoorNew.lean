/- sha.New makes a Hasher that has taken no bytes; Fork makes another one with the same; of nil: none. -/
import Derived.Test.YtkmmeokccmppbaaDoorPad
namespace Go.Proofs.YtkmmeokccmppbaaDoor
open Go.RowKit
set_option maxRecDepth 100000 in
theorem info59 : (Tryd.prog.info? 57).map (·.size) = some 73 := by kernel_rfl
/-- The first digest lies in its global. -/
def Sat (w : World) : Prop := w.cell? ⟨0, 0, none⟩ = some (W startS.a) ∧ w.cell? ⟨0, 1, none⟩ = some (W startS.b) ∧ w.cell? ⟨0, 2, none⟩ = some (W startS.c) ∧ w.cell? ⟨0, 3, none⟩ = some (W startS.d) ∧
  w.cell? ⟨0, 4, none⟩ = some (W startS.e) ∧ w.cell? ⟨0, 5, none⟩ = some (W startS.f) ∧ w.cell? ⟨0, 6, none⟩ = some (W startS.g) ∧ w.cell? ⟨0, 7, none⟩ = some (W startS.h)
/-- The cells of a Hasher. -/
def hc (s : St) (rs : List UInt8) (n : Nat) : List Value := s.list.map W ++ (rs.map B ++ [.int .i64 n])
set_option maxRecDepth 100000 in
theorem length_hc (s : St) (rs : List UInt8) (n : Nat) (h : rs.length = 64) : (hc s rs n).length = 73 := by simp [hc, h, St.list]
set_option maxRecDepth 100000 in
theorem hc_one (s : St) (rs : List UInt8) (n : Nat) : ∀ v ∈ hc s rs n, v.oneCell' = true := by
  intro v hv
  simp only [hc, List.mem_append, List.mem_singleton] at hv
  rcases hv with hv | hv | rfl
  · exact W_one _ v hv
  · exact B_one _ v hv
  · rfl
set_option maxRecDepth 100000 in
theorem hc_last (s : St) (rs : List UInt8) (n : Nat) (h : rs.length = 64) : (hc s rs n).toArray[72]? = some (.int .i64 n) := by
  rw [List.getElem?_toArray]
  unfold hc
  rw [List.getElem?_append_right (by simp [St.list]), List.getElem?_append_right (by simp [St.list, h])]
  simp [St.list, h]
/-- The Hasher at block p has taken the bytes bs. -/
def HasherAt (w : World) (p : Nat) (bs : List UInt8) : Prop :=
  ∃ rs : List UInt8, rs.length = 64 ∧ rs.take (bs.length % 64) = bs.drop (64 * (bs.length / 64)) ∧ w.heap[p]? = some (.cells (hc (blocksS bs (bs.length / 64)) rs bs.length).toArray 57 (0, 0))
def Z59 : Array Value := (List.replicate 8 (Value.int .u32 0) ++ (List.replicate 64 (Value.int .u8 0) ++ [Value.int .i64 0])).toArray
set_option maxRecDepth 100000 in
theorem zero59 : (Tryd.prog.info? 57).bind (·.zero) = some (.agg Z59) := by kernel_rfl
set_option maxRecDepth 100000 in
theorem run_zero59 (w : World) : (zeroValue 57).run Tryd.prog w = .ok (.agg Z59) w := by
  have h := zero59
  cases hq : Tryd.prog.info? 57 with
  | none => rw [hq] at h; simp at h
  | some i =>
    rw [hq] at h
    have hz : i.zero = some (.agg Z59) := by simpa using h
    simp [zeroValue, typeInfo, hq, hz]
set_option maxRecDepth 100000 in
theorem size59 : Z59.size = 73 := rfl
set_option maxRecDepth 100000 in
theorem built59 : ((((((((Z59.setIfInBounds 0 (W startS.a)).setIfInBounds 1 (W startS.b)).setIfInBounds 2 (W startS.c)).setIfInBounds 3 (W startS.d)).setIfInBounds 4 (W startS.e)).setIfInBounds 5 (W startS.f)).setIfInBounds 6 (W startS.g)).setIfInBounds 7 (W startS.h)) =
    (hc startS (List.replicate 64 0) 0).toArray := by kernel_rfl
set_option maxRecDepth 100000 in
theorem hasher_new {w : World} {p : Nat} (h : w.heap[p]? = some (.cells (hc startS (List.replicate 64 0) 0).toArray 57 (0, 0))) : HasherAt w p [] :=
  ⟨List.replicate 64 0, by simp, by simp, h⟩

set_option maxRecDepth 100000 in
set_option maxHeartbeats 1000000 in
theorem new_any (w : World) (hS : Sat w) :
    Calls Tryd.prog 22 #[] w fun e w' => e = .returned (.pointer (some ⟨w.heap.size, 0, none⟩)) ∧ HasherAt w' w.heap.size [] ∧ Below w.heap.size w w' ∧ w'.heap.size = w.heap.size + 1 := by
  obtain ⟨s0, s1, s2, s3, s4, s5, s6, s7⟩ := hS
  have hz := run_zero59
  have hs := size59
  have hb := built59
  go_enter Tryd.func22, Tryd.ntmps22
  go_wp2
  go_ret
  exact ⟨rfl, hasher_new (block_new _ _), (Below.refl _ _).alloc (Nat.le_refl _) _, by simp⟩

set_option maxRecDepth 100000 in
theorem fork_nil (w : World) : Calls Tryd.prog 26 #[.pointer none] w fun e w' => e = .returned (.pointer none) ∧ w' = w := by
  go_enter Tryd.func26, Tryd.ntmps26
  go_wp2
  go_ret
  exact ⟨rfl, rfl⟩

set_option maxRecDepth 100000 in
set_option maxHeartbeats 1000000 in
theorem fork_any (w : World) (p : Nat) (bs : List UInt8) (hH : HasherAt w p bs) :
    Calls Tryd.prog 26 #[.pointer (some ⟨p, 0, none⟩)] w fun e w' => e = .returned (.pointer (some ⟨w.heap.size, 0, none⟩)) ∧ HasherAt w' w.heap.size bs ∧ Below w.heap.size w w' ∧ w'.heap.size = w.heap.size + 1 := by
  obtain ⟨rs, h64, htk, hb⟩ := hH
  have hl := length_hc (blocksS bs (bs.length / 64)) rs bs.length h64
  have HB := hid hb
  have HL : Hid ((hc (blocksS bs (bs.length / 64)) rs bs.length).toArray.size = 73) := by simp [Hid, hl]
  have H1 : Hid ((hc (blocksS bs (bs.length / 64)) rs bs.length).toArray.all (·.oneCell') = true) := all_oneCell_toArray (hc_one _ _ _)
  have HT := hid htk
  clear hl htk
  have HE : Hid (∀ w' : World, w'.heap[w.heap.size]? = some (.cells (hc (blocksS bs (bs.length / 64)) rs bs.length).toArray 57 (0, 0)) → HasherAt w' w.heap.size bs) := fun w' h => ⟨rs, h64, HT.out, h⟩
  clear hb h64
  generalize (hc (blocksS bs (bs.length / 64)) rs bs.length).toArray = C at *
  have hz := run_zero59
  go_enter Tryd.func26, Tryd.ntmps26
  go_wp2_with (first
    | (refine wpList_load_block rfl 57 (.tmp 7) rfl p rfl C 57 (0, 0) HB.out _ Tryd.underlying57 rfl (info59.trans (congrArg some HL.out.symm)) ?_)
    | (refine wpList_store_block rfl 57 (.tmp 3) (.tmp 8) rfl w.heap.size C rfl rfl Z59 57 (block_new _ _) (HL.out.trans size59.symm) (info59.trans (congrArg some HL.out.symm)) H1.out ?_; intro w1 hg1 hb1 hz1))
  go_ret
  exact ⟨rfl, HE.out _ hb1, ((Below.refl _ _).alloc (Nat.le_refl _) _).trans (below_of_grown hg1 (Nat.le_refl _) (by simp)), by rw [hz1]; simp⟩

end Go.Proofs.YtkmmeokccmppbaaDoor
