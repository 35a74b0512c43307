/- The reference disk: Write, Flush. -/
import Derived.Test.YtpkjpkjcdpgaaaaRef2
namespace Go.Proofs.Ytpkjpkjcdpgaaaa
open Go.RowKit
/-- What the reference's Write answers. -/
def errR (R : RefS) (n : Int) (l : List UInt8) : Int := if ¬ (0 ≤ n ∧ n < R.first.length) then 2 else if l.length ≠ 512 then 3 else 0
def RefS.put (R : RefS) (n : Int) (l : List UInt8) : RefS := if errR R n l = 0 then R.did ⟨false, n, l⟩ else R
theorem RefIn.later {w : World} {r : Nat} {fv lv : Value} {vs : List Value} {Rd : Nat → Prop} {R : RefS} (h : RefIn w r fv lv vs Rd R) (w' : World) : RefIn w r fv lv vs (moreOf Rd w w') R :=
  h.moreRd (fun _ => .inl) (fun e => by
    rcases e with e | e
    · exact h.rd e
    · have := lt_of_heap h.heap; omega)
theorem RefIn.below {w w' : World} {r : Nat} {fv lv : Value} {vs : List Value} {Rd : Nat → Prop} {R : RefS} (h : RefIn w r fv lv vs Rd R) (k : Below w.heap.size w w') : RefIn w' r fv lv vs Rd R := h.keep (G := fun _ => False) (Keeps.of_below k) (fun _ _ e => e) (fun e => e)
set_option maxRecDepth 100000 in
set_option maxHeartbeats 1000000 in
theorem rwrite_any (r : Nat) (fv lv : Value) (vs : List Value) (Rd : Nat → Prop) (R : RefS) (n : Int) (l : List UInt8) (a : Option Addr) (k c : Nat) (w : World) (h : RefIn w r fv lv vs Rd R) (hm : R.l.length ≤ 1000000) (hk : l.length = k) (hb : bytesIn w a l) :
    Calls Try.prog 35 #[.pointer (some ⟨r, 0, none⟩), .int .i64 n, .slice a k c] w fun e w' => e = .returned (.int .i64 (errR R n l)) ∧
      ∃ lv' vs', RefIn w' r fv lv' vs' (moreOf Rd w w') (R.put n l) ∧ Keeps (fun i => i = r) w w' := by
  have HLook := hid (look_any r fv lv vs Rd R n w h)
  by_cases hn : 0 ≤ n ∧ n < R.first.length
  · have e0 : lookR R n = 0 := by rw [lookR, if_pos hn]
    rw [e0] at HLook
    by_cases hl : l.length = 512
    · have e1 : errR R n l = 0 := by rw [errR, if_neg (not_not_intro hn), if_neg (not_not_intro hl)]
      have e2 : R.put n l = R.did ⟨false, n, l⟩ := by rw [RefS.put, if_pos e1]
      rw [e1, e2]
      have hcp := copy_any l a c w hb (by omega) (by omega)
      obtain rfl : k = 512 := by omega
      rw [hl] at hcp
      have HCp := hid hcp
      have H := hid h
      have HL := hid hl
      clear hcp hl hb hk h e0 e1 e2
      go_enter Try.func35, Try.ntmps35
      go_wp2_with fail
      refine HLook.out.mono ?_
      rintro e w9 ⟨rfl, h9⟩
      obtain rfl := h9.symm
      go_wp2_with fail
      refine HCp.out.mono ?_
      clear HCp HLook
      rintro e w1 ⟨g, cap, rfl, hb1, hg1, hg2, hB1⟩
      have hD := rdo_any r fv lv vs (moreOf Rd w w1) R ⟨false, n, l⟩ (some ⟨g, 0, none⟩) cap w1 ((H.out.later w1).below hB1) hm hb1 (fun ad e => .inr (by have := Option.some.inj e; rw [← this]; exact ⟨hg1, hg2⟩))
      have hD' : Calls Try.prog 59 #[.pointer (some ⟨r, 0, none⟩), .agg #[.bool false, .int .i64 n, .slice (some ⟨g, 0, none⟩) l.length cap]] w1 fun e w' => e = .returned (.tuple #[]) ∧
        ∃ lv' vs', RefIn w' r fv lv' vs' (moreOf (moreOf Rd w w1) w1 w') (R.did ⟨false, n, l⟩) ∧ Keeps (fun i => i = r) w1 w' := hD
      rw [HL.out] at hD'
      have HD := hid hD'
      have HB1 := hid hB1
      clear hD hD' hB1 hb1
      go_wp2_with fail
      refine HD.out.mono ?_
      clear HD
      rintro e w2 ⟨rfl, lv', vs', hR2, hK2⟩
      have HR2 := hid hR2
      have HK2 := hid hK2
      clear hR2 hK2
      go_wp2
      go_ret
      refine ⟨rfl, lv', vs', HR2.out.moreRd (fun i hi => ?_) (fun hi => ?_), (Keeps.of_below HB1.out).trans HK2.out (fun i e => .inl e)⟩
      · have hs2 := HK2.out.size
        have hs1 := HB1.out.size
        rcases hi with (hi | hi) | hi
        · exact .inl hi
        · exact .inr (by omega)
        · exact .inr (by omega)
      · rcases hi with hi | hi
        · exact H.out.rd hi
        · have := lt_of_heap H.out.heap; omega
    · have e1 : errR R n l = 3 := by rw [errR, if_neg (not_not_intro hn), if_pos hl]
      have e2 : R.put n l = R := by rw [RefS.put, if_neg (by rw [e1]; decide)]
      rw [e1, e2]
      have hk' : ¬ ((k : Int) = 512) := by omega
      have H := hid h
      clear hl hb hk h e0 e1 e2
      go_enter Try.func35, Try.ntmps35
      go_wp2_with fail
      refine HLook.out.mono ?_
      rintro e w9 ⟨rfl, h9⟩
      obtain rfl := h9.symm
      go_wp2
      go_ret
      exact ⟨rfl, lv, vs, H.out.later _, Keeps.refl _ _⟩
  · have e0 : lookR R n = 2 := by rw [lookR, if_neg hn]
    have e1 : errR R n l = 2 := by rw [errR, if_pos hn]
    have e2 : R.put n l = R := by rw [RefS.put, if_neg (by rw [e1]; decide)]
    rw [e0] at HLook
    rw [e1, e2]
    have H := hid h
    clear hb hk h e0 e1 e2 hn
    go_enter Try.func35, Try.ntmps35
    go_wp2_with fail
    refine HLook.out.mono ?_
    rintro e w9 ⟨rfl, h9⟩
    obtain rfl := h9.symm
    go_wp2
    go_ret
    exact ⟨rfl, lv, vs, H.out.later _, Keeps.refl _ _⟩
set_option maxRecDepth 100000 in
theorem rflush_any (r : Nat) (fv lv : Value) (vs : List Value) (Rd : Nat → Prop) (R : RefS) (w : World) (h : RefIn w r fv lv vs Rd R) (hm : R.l.length ≤ 1000000) :
    Calls Try.prog 34 #[.pointer (some ⟨r, 0, none⟩)] w fun e w' => e = .returned (.int .i64 0) ∧ ∃ lv' vs', RefIn w' r fv lv' vs' (moreOf Rd w w') (R.did ⟨true, 0, []⟩) ∧ Keeps (fun i => i = r) w w' := by
  have hD' : Calls Try.prog 59 #[.pointer (some ⟨r, 0, none⟩), .agg #[.bool true, .int .i64 0, .slice none 0 0]] w fun e w' => e = .returned (.tuple #[]) ∧
    ∃ lv' vs', RefIn w' r fv lv' vs' (moreOf Rd w w') (R.did ⟨true, 0, []⟩) ∧ Keeps (fun i => i = r) w w' := rdo_any r fv lv vs Rd R ⟨true, 0, []⟩ none 0 w h hm (fun j hj => by simp at hj) (fun ad e => by cases e)
  have HD := hid hD'
  clear hD' h
  go_enter Try.func34, Try.ntmps34
  go_wp2_with fail
  refine HD.out.mono ?_
  clear HD
  rintro e w1 ⟨rfl, hq⟩
  have HQ := hid hq
  clear hq
  go_wp2
  go_ret
  exact ⟨rfl, HQ.out⟩
end Go.Proofs.Ytpkjpkjcdpgaaaa
