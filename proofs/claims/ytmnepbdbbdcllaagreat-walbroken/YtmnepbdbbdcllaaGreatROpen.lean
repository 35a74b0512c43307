/- The reference's Open, of whatever disk. -/
import Derived.Test.YtmnepbdbbdcllaaGreatRHead
import Derived.Test.YtmnepbdbbdcllaaGreatWPlayP
namespace Go.Proofs.YtmnepbdbbdcllaaGreat
open Go.RowKit
theorem atL_512P {R : RefS} (h : okR R) : ∀ k, ∀ l ∈ atL R k, l.length = 512
  | 0, l, hl => h.2.1 l hl
  | k + 1, l, hl => by
    have ih := atL_512P h k
    rw [atL_succ] at hl
    cases e : R.l[k]? with
    | none => rw [e] at hl; exact ih l hl
    | some o =>
      rw [e] at hl
      simp only at hl
      split at hl
      · exact ih l hl
      · rename_i hf
        rcases List.mem_or_eq_of_mem_set hl with h1 | h1
        · exact ih l h1
        · rw [h1]; exact (h.2.2 o (List.mem_of_getElem? e) (by simpa using hf)).2.2
/-- How many pages came is laid. -/
theorem RLogIn.came {w : World} {q r : Nat} {fv lv : Value} {vs : List Value} {Rd : Nat → Prop} {R : RefS} {size rec : Nat} (h : RLogIn w q r fv lv vs Rd R size rec) (k : Nat) : RLogIn (w.setCell ⟨q, 2, none⟩ (.int .i64 (k : Nat))) q r fv lv vs Rd R size k := by
  have hk : Keeps (fun i => i = q) w (w.setCell ⟨q, 2, none⟩ (.int .i64 (k : Nat))) := (Keeps.refl _ _).grown (grown_setCell (grown_refl _ _) _ _) (fun i e => .inl (Option.some.inj e).symm)
  refine ⟨?_, h.disk.keep hk (fun i hi e => h.off (e ▸ hi)) (fun e => h.ne e.symm), fun i hi => Nat.lt_of_lt_of_le (h.rd i hi) hk.size, h.off, h.ne⟩
  exact block_setCell h.heap 2 _
/-- The reference behind Open. -/
def ropenR (R : RefS) (size : Nat) (ns : List Nat) : RefS := if ns = [] then R else rhomeR R size ns (fun i => (atL R R.l.length).getD (1 + i) [])
/-- What Open answers. -/
def ROpenTo (R : RefS) (size : Nat) (fv : Value) (K : Nat) (w' : World) (e : Ending) : Option (List Nat) → Prop
  | none => e = .returned (.tuple #[.pointer none, .int .i64 9])
  | some ns => ∃ q r lv vs Rd, e = .returned (.tuple #[.pointer (some ⟨q, 0, none⟩), .int .i64 0]) ∧ K ≤ q ∧ RLogIn w' q r fv lv vs Rd (ropenR R size ns) size ns.length
set_option maxRecDepth 100000 in
set_option maxHeartbeats 2000000 in
theorem ropen_any (r : Nat) (fv lv : Value) (vs : List Value) (Rd : Nat → Prop) (R : RefS) (size : Nat) (b : List UInt8) (w : World) (h : RefIn w r fv lv vs Rd R) (hrd : ∀ i, Rd i → i < w.heap.size) (hR : okR R) (hm : R.l.length ≤ 700000) (h1 : 1 ≤ size) (h2 : size + 2 ≤ R.first.length) (hb : (atL R R.l.length)[0]? = some b) (h5 : b.length = 512) :
    Calls Tryz.prog 27 #[.pointer (some ⟨r, 0, none⟩), .int .i64 size] w fun e w' => Below w.heap.size w w' ∧ ROpenTo R size fv w.heap.size w' e (headNums b size (pagesR R size)) := by
  have hl := hR.1
  have HSe := hid (rsectors_any r fv lv vs Rd R w h)
  have HFk := hid (rfork_any r fv lv vs Rd R w h hrd)
  have HRd := hid hrd
  have HR := hid hR
  have HBb := hid hb
  have H5 := hid h5
  have hs1 : (1 : Int) ≤ (size : Int) := by omega
  have hs2 : (size : Int) ≤ (R.first.length : Int) - 2 := by omega
  obtain ⟨HN, hHN⟩ : ∃ HN, HN = headNums b size (pagesR R size) := ⟨_, rfl⟩
  rw [← hHN]
  have HHN := hid hHN
  clear h hrd hR hb h5 hHN
  go_enter Tryz.func27, Tryz.ntmps27
  go_wp2_with fail
  refine HSe.out.mono ?_
  clear HSe
  rintro e w1 ⟨rfl, hw1⟩
  obtain rfl := hw1.symm
  go_wp2_with fail
  refine HFk.out.mono ?_
  clear HFk
  rintro e w2 ⟨rfl, hb2, hR2⟩
  have HB2 := hid hb2
  have hs22 := hb2.size
  have hrl : RLogIn (w2.alloc (.cells #[.pointer (some ⟨w.heap.size, 0, none⟩), .int .i64 size, .int .i64 0] 76)) w2.heap.size w.heap.size fv lv vs Rd R size 0 :=
    ⟨block_new w2 _, hR2.keep (Keeps.of_below (F := fun _ => False) ((Below.refl w2.heap.size w2).alloc (Nat.le_refl _) _)) (fun _ _ h => h) (fun h => h), fun i hi => by have := HRd.out i hi; have h2 := ((Below.refl w2.heap.size w2).alloc (Nat.le_refl _) (.cells #[.pointer (some ⟨w.heap.size, 0, none⟩), .int .i64 size, .int .i64 0] 76)).size; omega, fun hi => by have := HRd.out _ hi; omega, by have := lt_of_heap hR2.heap; omega⟩
  have HRl := hid hrl
  have hhe := rhead_any _ _ _ _ _ _ _ _ _ b _ hrl HR.out (by omega) (by omega) HBb.out H5.out
  rw [← HHN.out] at hhe
  have HHe := hid hhe
  have HA := hid ((Below.refl w2.heap.size w2).alloc (Nat.le_refl _) (.cells #[.pointer (some ⟨w.heap.size, 0, none⟩), .int .i64 size, .int .i64 0] 76))
  clear hb2 hR2 hrl hhe
  go_wp2_with fail
  generalize w2.alloc (.cells #[.pointer (some ⟨w.heap.size, 0, none⟩), .int .i64 size, .int .i64 0] 76) = wA at *
  refine HHe.out.mono ?_
  clear HHe
  rintro e w3 ⟨hb3, hh3⟩
  have hsA := HA.out.size
  have HB3 := hid (HB2.out.trans ((HA.out.trans (hb3.mono HA.out.size)).mono HB2.out.size))
  cases hHNc : HN with
  | none =>
    rw [hHNc] at hh3
    obtain rfl := hh3
    have HHc := hid hHNc
    clear hb3 hHNc
    go_wp2
    go_returns
    refine ⟨HB3.out, ?_⟩
    rw [HHc.out]
    rfl
  | some ns =>
    rw [hHNc] at hh3
    obtain ⟨na, nc, rfl, hin, hna⟩ := hh3
    have HRl3 := hid (HRl.out.below hb3)
    obtain ⟨f1, f2, f3⟩ := headNums_facts (HHN.out.symm.trans hHNc)
    cases ns with
    | nil =>
      have HHc := hid hHNc
      clear hb3 hHNc hin hna f1 f2 f3
      go_wp2
      go_returns
      refine ⟨HB3.out, ?_⟩
      rw [HHc.out]
      exact ⟨w2.heap.size, w.heap.size, lv, vs, Rd, rfl, hs22, by rw [ropenR, if_pos rfl]; exact HRl3.out⟩
    | cons n0 ns' =>
      generalize hns : n0 :: ns' = ns at *
      have hpos : 0 < ns.length := by rw [← hns]; simp
      have hlen : ns.length ≤ 100 := by omega
      have hlen2 : ns.length ≤ size := by omega
      have hne : ns ≠ [] := by rw [← hns]; simp
      have hho := rhome_any w2.heap.size w.heap.size fv lv vs Rd R size 0 ns (fun i => (atL R R.l.length).getD (1 + i) []) na nc w3 HRl3.out HR.out (by omega) hin (fun ad e => by have := hna ad e; have := lt_of_heap HRl.out.disk.heap; omega) hlen hlen2 (fun n hn => by have := f3 n hn; unfold pagesR at this; omega) (fun i hi => by
        have hlt : 1 + i < (atL R R.l.length).length := by rw [length_atL]; omega
        rw [List.getElem?_eq_getElem hlt, List.getD_eq_getElem?_getD, List.getElem?_eq_getElem hlt]; rfl) (fun i hi => by
        have hlt : 1 + i < (atL R R.l.length).length := by rw [length_atL]; omega
        rw [List.getD_eq_getElem?_getD, List.getElem?_eq_getElem hlt]
        exact atL_512P HR.out _ _ (List.getElem_mem hlt))
      have HHo := hid hho
      have HRo : Hid (ropenR R size ns = rhomeR R size ns (fun i => (atL R R.l.length).getD (1 + i) [])) := by unfold Hid; rw [ropenR, if_neg hne]
      have hpos' : (0 : Int) < (ns.length : Int) := by omega
      have hw3 := hb3.size
      have HHc := hid hHNc
      clear hb3 hHNc hin hna f1 f2 f3 hho hns hne
      go_wp2_with fail
      refine HHo.out.mono ?_
      clear HHo
      rintro e w4 ⟨rfl, lv4, vs4, hL4, hK4⟩
      rw [← HRo.out] at hL4
      have c2 : w4.cell? ⟨w2.heap.size, 2, none⟩ = some (.int .i64 0) := cell_of_block hL4.heap 2
      have fz := frozen_of_block hL4.heap 2
      have HL5 := hid (hL4.came ns.length)
      have HB4 := hid (HB3.out.trans (hK4.below HB3.out.size (fun i e => by omega)))
      have HB5 : Hid (Below w.heap.size w (w4.setCell ⟨w2.heap.size, 2, none⟩ (.int .i64 (ns.length : Nat)))) := HB4.out.trans (below_of_grown (grown_setCell (grown_refl _ _) _ _) hs22 HB4.out.size)
      clear hL4 hK4 HRo
      go_wp2
      go_returns
      refine ⟨HB5.out, ?_⟩
      rw [HHc.out]
      exact ⟨w2.heap.size, w.heap.size, lv4, vs4, _, rfl, hs22, HL5.out⟩
end Go.Proofs.YtmnepbdbbdcllaaGreat
