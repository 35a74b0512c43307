/- text, and what it calls of the library. -/
import Derived.Test.YtdfnhgkabaikaaaTNum
import Derived.Lib.BytesEntry
import Derived.Lib.IndexLaws
import Derived.Lib.Strings
namespace Go.Proofs.Ytdfnhgkabaikaaa
open Go.RowKit
theorem below_drewN {K : Nat} {w w' : World} (h : Below K w w') (n : Nat) : Below K w (w'.drewN n) := ⟨h.os, h.tape, h.output, h.size, h.block⟩
/-- The place of the first 0, or -1. -/
def idx0 (f : List UInt8) : Int := Lib.indexByte f 0
theorem bytesOf_V (f : List UInt8) : Lib.bytesOf (f.map V) = f := by
  unfold Lib.bytesOf V
  rw [List.map_map]
  conv => rhs; rw [← List.map_id f]
  congr 1
  funext x
  simp
theorem idx0_none {f : List UInt8} (h : idx0 f = -1) : f.takeWhile (fun x => x != 0) = f ∧ f.dropWhile (fun x => x != 0) = [] := by
  have hn : ∀ x ∈ f, (x != 0) = true := fun x hx => by
    obtain ⟨k, hk, rfl⟩ := List.getElem_of_mem hx
    have := Lib.indexByte_none h k
    rw [List.getElem?_eq_getElem hk] at this
    simpa using this
  have h1 : f.takeWhile (fun x => x != 0) = f := by
    clear h
    induction f with
    | nil => rfl
    | cons x f ih => rw [List.takeWhile_cons, if_pos (hn x (by simp)), ih (fun y hy => hn y (by simp [hy]))]
  refine ⟨h1, ?_⟩
  have := List.takeWhile_append_dropWhile (p := fun x : UInt8 => x != 0) (l := f)
  rw [h1] at this
  simpa using this
theorem while_at : ∀ (f : List UInt8) (k : Nat), f[k]? = some 0 → (∀ j, j < k → f[j]? ≠ some 0) → f.takeWhile (fun x => x != 0) = f.take k ∧ f.dropWhile (fun x => x != 0) = f.drop k
  | [], k, h, _ => by simp at h
  | x :: f, 0, h, _ => by
    simp only [List.getElem?_cons_zero, Option.some.injEq] at h
    subst h
    simp
  | x :: f, k + 1, h, hn => by
    have hx : x ≠ 0 := fun e => hn 0 (by omega) (by rw [e]; rfl)
    obtain ⟨h1, h2⟩ := while_at f k (by simpa using h) (fun j hj => by simpa using hn (j + 1) (by omega))
    have hx2 : (x != 0) = true := by simpa using hx
    rw [List.takeWhile_cons, List.dropWhile_cons, if_pos hx2, if_pos hx2, h1, h2]
    exact ⟨rfl, rfl⟩
theorem idx0_some {f : List UInt8} {k : Nat} (h : idx0 f = k) : k < f.length ∧ f.takeWhile (fun x => x != 0) = f.take k ∧ f.dropWhile (fun x => x != 0) = 0 :: f.drop (k + 1) := by
  obtain ⟨h1, h2⟩ := Lib.indexByte_some h
  obtain ⟨hl, e⟩ := List.getElem?_eq_some_iff.1 h1
  obtain ⟨h3, h4⟩ := while_at f k h1 h2
  refine ⟨hl, h3, ?_⟩
  rw [h4, List.drop_eq_getElem_cons hl, e]
theorem idx0_cases (f : List UInt8) : idx0 f = -1 ∨ ∃ k : Nat, idx0 f = k := by
  have := Lib.indexByte_ge f 0
  unfold idx0
  by_cases h : Lib.indexByte f 0 = -1
  · exact .inl h
  · exact .inr ⟨(Lib.indexByte f 0).toNat, by omega⟩
set_option maxHeartbeats 1000000 in
set_option maxRecDepth 100000 in
theorem bIndexByte_any (f : List UInt8) (b o n cap : Nat) (w : World) (hn : f.length = n) (h : byAt w b o f) :
    Calls Try.prog 56 #[.slice (some ⟨b, o, none⟩) n cap, .int .u8 0] w fun e w' => e = .returned (.int .i64 (idx0 f)) ∧ w' = w := by
  have hc : ∀ i, i < n → w.cell? ⟨b, o + i, none⟩ = some (.int .u8 ((f.map V).getD i 0)) := fun i hi => by
    rw [h i (by omega), List.getD_eq_getElem?_getD, List.getD_eq_getElem?_getD, List.getElem?_map, List.getElem?_eq_getElem (by omega)]; rfl
  have HR := hid (Lib.run_indexByteSlice (P := Try.prog) w b o n cap (f.map V) (by simpa using hn) hc 0)
  clear hc h hn
  go_enter Try.func56, Try.ntmps56
  go_wp2
  rw [run_callFunc_extern Try.func61 (by kernel_rfl) (by kernel_rfl) (by kernel_rfl) (e := Extern.BytealgIndexByte.indexByte) (by kernel_rfl), HR.out]
  simp only [Result.andThen]
  rw [Oper.upon_value]
  go_wp2
  go_ret
  exact ⟨by rw [bytesOf_V]; rfl, rfl⟩
set_option maxHeartbeats 1000000 in
set_option maxRecDepth 100000 in
theorem bIndex_one (f : List UInt8) (b o n cap g : Nat) (w : World) (hn : f.length = n) (h : byAt w b o f) (hg : w.cell? ⟨g, 0, none⟩ = some (.int .u8 0)) :
    Calls Try.prog 55 #[.slice (some ⟨b, o, none⟩) n cap, .slice (some ⟨g, 0, none⟩) 1 1] w fun e w' => e = .returned (.int .i64 (idx0 f)) ∧ w' = w := by
  have HI := hid (bIndexByte_any f b o n cap w hn h)
  clear h hn
  go_enter Try.func55, Try.ntmps55
  go_wp2_with fail
  refine HI.out.mono ?_
  rintro e w1 ⟨rfl, rfl⟩
  go_wp2
  go_ret
  exact ⟨rfl, rfl⟩
/-- What bytes.Cut at a 0 tells. -/
def CutTo (f : List UInt8) (w : World) (e : Ending) (w' : World) : Prop :=
  (∃ q, w' = w.drewN q) ∧ ∃ v1 v2 x, e = .returned (.tuple #[v1, v2, .bool x]) ∧ Rd w v1 (textF f).1 ∧ ∃ t, Rd w v2 t ∧ noughts t = (textF f).2
set_option maxHeartbeats 1000000 in
set_option maxRecDepth 100000 in
theorem bCut_any (f : List UInt8) (b o n cap g : Nat) (w : World) (hn : f.length = n) (hcap : n ≤ cap) (hmax : cap ≤ 1000000) (h : byAt w b o f) (hg : w.cell? ⟨g, 0, none⟩ = some (.int .u8 0)) :
    Calls Try.prog 54 #[.slice (some ⟨b, o, none⟩) n cap, .slice (some ⟨g, 0, none⟩) 1 1] w (CutTo f w) := by
  have HI := hid (bIndex_one f b o n cap g w hn h hg)
  have hR := h.rd hn hcap (by omega)
  rw [← hn] at hR
  rcases idx0_cases f with hi | ⟨k, hi⟩
  · obtain ⟨e1, e2⟩ := idx0_none hi
    have HE : Hid (CutTo f w (.returned (.tuple #[.slice (some ⟨b, o, none⟩) n cap, .slice none 0 0, .bool false])) w) := ⟨⟨0, rfl⟩, _, _, _, rfl, by unfold textF; rw [e1, ← hn]; exact hR, [], Rd.nil w, by unfold textF; rw [e2]⟩
    rw [hi] at HI
    clear hR e1 e2 h hn hi hg
    go_enter Try.func54, Try.ntmps54
    go_wp2_with fail
    refine HI.out.mono ?_
    rintro e w1 ⟨rfl, rfl⟩
    go_wp2
    go_ret3
    exact HE.out
  · obtain ⟨hl, e1, e2⟩ := idx0_some hi
    have hk1 : k + 1 ≤ f.length := hl
    have HT := hid (Rd.take hR (Nat.le_of_lt hl))
    rw [hi] at HI
    have q0 : (0 : Int) ≤ (k : Int) := by omega
    have q1 : (k : Int) ≤ (cap : Int) := by omega
    have q2 : (k : Int) + 1 ≤ (cap : Int) := by omega
    have q3 : (k : Int) + 1 ≤ (n : Int) := by omega
    have q4 : (n : Int) ≤ (cap : Int) := by omega
    have q5 : (k : Int) ≤ 1000000 := by omega
    have q6 : (0 : Int) ≤ (k : Int) + 1 := by omega
    have HTx : Hid ((textF f).1 = f.take k ∧ (textF f).2 = noughts (f.drop (k + 1))) := ⟨e1, by show noughts _ = _; rw [e2]; simp [noughts]⟩
    by_cases hcn : cap = k + 1
    · have HD := hid (Rd.drop_all hR hk1 hcn)
      rw [show f.length - (k + 1) = 0 by omega] at HD
      have q7 : (cap : Int) = (k : Int) + 1 := by omega
      have hn1 : n = k + 1 := by omega
      subst hcn
      subst hn1
      clear hR e1 e2 h hi hg hl hk1 hn
      go_enter Try.func54, Try.ntmps54
      go_wp2_with fail
      refine HI.out.mono ?_
      rintro e w1 ⟨rfl, rfl⟩
      go_wp2
      go_quiet (fail)
      go_wp2
      go_ret3
      exact ⟨⟨_, rfl⟩, _, _, _, rfl, by rw [HTx.out.1]; exact HT.out, _, HD.out, HTx.out.2.symm⟩
    · have HD := hid (Rd.drop hR hk1)
      have q7 : ¬ ((cap : Int) = (k : Int) + 1) := by omega
      rw [hn, Addr.add_mid] at HD
      clear hR e1 e2 h hi hg hl hk1 hn
      go_enter Try.func54, Try.ntmps54
      go_wp2_with fail
      refine HI.out.mono ?_
      rintro e w1 ⟨rfl, rfl⟩
      go_wp2
      go_quiet (fail)
      go_wp2
      go_ret3
      exact ⟨⟨_, rfl⟩, _, _, _, rfl, by rw [HTx.out.1]; exact HT.out, _, HD.out, HTx.out.2.symm⟩
set_option maxHeartbeats 2000000 in
set_option maxRecDepth 100000 in
theorem text_any (f : List UInt8) (b o n cap : Nat) (w : World) (hn : f.length = n) (hcap : n ≤ cap) (hmax : cap ≤ 1000000) (h : byAt w b o f) :
    Calls Try.prog 51 #[.slice (some ⟨b, o, none⟩) n cap] w fun e w' => e = .returned (.tuple #[str (textF f).1, .bool (textF f).2]) ∧ Below w.heap.size w w' := by
  have hB := (Below.refl w.heap.size w).alloc (Nat.le_refl _) (.cells #[.int .u8 0] 5)
  have hg : (w.alloc (.cells #[.int .u8 0] 5)).cell? ⟨w.heap.size, 0, none⟩ = some (.int .u8 0) := cell_of_block (block_new w _) 0
  have HC := hid (bCut_any f b o n cap w.heap.size _ hn hcap hmax (h.up hB) hg)
  have HB := hid hB
  clear hB hg h hn
  go_enter Try.func51, Try.ntmps51
  go_wp2_with fail
  generalize w.alloc (.cells #[.int .u8 0] 5) = w1 at *
  refine HC.out.mono ?_
  clear HC
  rintro e w2 ⟨⟨q, rfl⟩, v1, v2, x, rfl, r1, t, r2, ht⟩
  have r1' : Rd (w1.drewN q) v1 (textF f).1 := r1
  have r2' : Rd (w1.drewN q) v2 t := r2
  have HB1 : Hid (Below w.heap.size w (w1.drewN q)) := below_drewN HB.out q
  generalize w1.drewN q = W at *
  have hcv := fun k : Nat => run_str (w := W.drewN k) r1'
  have hno := fun k : Nat => isNoughts_any t v2 (W.drewN k) r2'
  rw [ht] at hno
  have HN := hid hno
  clear r1 r2 r1' r2' hno ht HB
  go_wp2
  go_quiet (first | (go_at_call 44; refine Calls.quiet_of ((HN.out _).mono (fun e w' h => ⟨h.1, 0, h.2⟩))))
  go_wp2
  go_ret2
  exact ⟨rfl, below_drewN HB1.out _⟩
end Go.Proofs.Ytdfnhgkabaikaaa
