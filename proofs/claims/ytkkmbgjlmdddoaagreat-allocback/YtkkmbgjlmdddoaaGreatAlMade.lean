/- Make; law05's cached. -/
import Derived.Test.YtkkmbgjlmdddoaaGreatAlEmpty
import Derived.Test.YtkkmbgjlmdddoaaGreatWRef
namespace Go.Proofs.YtkkmbgjlmdddoaaGreat
open Go.RowKit
/-- Pages as they are behind these were written. -/
def putL (Pg : Nat → List UInt8) (ks : List (Nat × List UInt8)) : Nat → List UInt8 := ks.foldl (fun f p => updP f p.1 p.2) Pg
def putLD (D : Int → Bool) (ks : List (Nat × List UInt8)) : Int → Bool := ks.foldl (fun f p => updT f (p.1 : Int)) D
theorem putP_keys : ∀ (ps : List WPg) (Pg : Nat → List UInt8), putP Pg ps = putL Pg (ps.map WPg.key)
  | [], _ => rfl
  | p :: ps, Pg => putP_keys ps (updP Pg p.n p.l)
theorem putD_keys : ∀ (ps : List WPg) (D : Int → Bool), putD D ps = putLD D (ps.map WPg.key)
  | [], _ => rfl
  | p :: ps, D => putD_keys ps (updT D (p.n : Int))
theorem empK_lt {N ino k : Nat} {x : Nat × List UInt8} (h : x ∈ empK N ino k) : x.1 < 3 + k := by
  simp only [empK, List.cons_append, List.nil_append, List.mem_cons, List.mem_map, List.mem_range] at h
  rcases h with rfl | rfl | rfl | ⟨j, hj, rfl⟩
  · show 0 < 3 + k; omega
  · show 1 < 3 + k; omega
  · show 2 < 3 + k; omega
  · show 3 + j < 3 + k; omega
section
variable {w : World} {m c ino : Nat} {F : Nat → Prop} {size N : Nat} {Pg Cm : Nat → List UInt8} {D : Int → Bool} {o u : Nat}
theorem EmpIn.wpgs {w0 w : World} {ps : List WPg} {k pb cap : Nat} (h : EmpIn w0 w ps N ino k) (hr : w.ownsRow w0.heap.size 85 2 (.slice (some ⟨pb, 0, none⟩) (3 + k) cap) (3 + k) (psCells ps)) (hF : ∀ i, F i → i < w0.heap.size) (hN : 3 + k ≤ N) : WPgs w pb ps F N := by
  have hl := h.len
  refine ⟨fun i hi => ?_, fun _ hf => ?_, fun p hp => ?_⟩
  · obtain ⟨h1, h2⟩ := psCells_at ps i hi
    rcases hr.2 with ⟨e, -⟩ | ⟨g, cp, cur, e, -, hh, hn, -, hs, ht⟩
    · cases e
    · obtain ⟨rfl, rfl⟩ : pb = g ∧ cap = cp := by simpa using e
      have hc : ∀ j v, (psCells ps)[j]? = some v → w.cell? ⟨pb, j, none⟩ = some v := fun j v hv => by
        rw [← ht, List.getElem?_take] at hv
        split at hv
        · rw [cell_of_block hh, ← Array.getElem?_toList]; exact hv
        · cases hv
      exact ⟨hc _ _ h1, hc _ _ h2⟩
  · have h1 := (hr.lt pb rfl).1
    have h2 := hF _ hf
    omega
  · have hk : p.key ∈ empK N ino k := by rw [← h.keys]; exact List.mem_map.2 ⟨p, hp, rfl⟩
    have h1 := empK_lt hk
    have h2 := h.rows p hp
    exact ⟨by show p.n < N; have h3 : p.n < 3 + k := h1; omega, h2.1, h2.2.1, fun hf => by have := hF _ hf; have := h2.2.2; omega⟩
/-- What Make tells. -/
def MakeTo (w : World) (c : Nat) (F : Nat → Prop) (size N : Nat) (Pg Cm : Nat → List UInt8) (D : Int → Bool) (o u : Nat) (ino : Int) (e : Ending) (w' : World) : Prop :=
  Keeps F w w' ∧ ((¬ mayP N ino ∧ e = .returned (.tuple #[.pointer none, .int .i64 2]) ∧ Pc w' c F size N Pg Cm D o u) ∨
    ∃ n : Nat, ino = (n : Int) ∧ mayP N ino ∧ ((min size 100 < (dkD N D).length + (3 + n / 8) ∧ e = .returned (.tuple #[.pointer none, .int .i64 7]) ∧ Pc w' c F size N Pg Cm D o u) ∨
      ((dkD N D).length + (3 + n / 8) ≤ min size 100 ∧ ∃ m, w.heap.size ≤ m ∧ ¬ F m ∧ mapB w' m c n ∧ e = .returned (.tuple #[.pointer (some ⟨m, 0, none⟩), .int .i64 0]) ∧ Pc w' c F size N (putL Pg (empK N n (n / 8))) Cm (putLD D (empK N n (n / 8))) o u)))
set_option maxRecDepth 100000 in
set_option maxHeartbeats 4000000 in
theorem amake_any (ino : Int) (hp : Pc w c F size N Pg Cm D o u) : Calls Tryz.prog 10 #[.pointer (some ⟨c, 0, none⟩), .int .i64 ino] w (MakeTo w c F size N Pg Cm D o u ino) := by
  obtain ⟨p, hl1, hl2⟩ := hp.logPages
  have hN4 := hp.four
  have HL1 := hid hl1
  have HL2 := hid hl2
  have HMb := hid (fun W => amayBe_any N ino hN4 W)
  have HP := hid hp
  have HFl := hid hp.lt
  have hkl := hp.keysLen
  obtain ⟨K, hK⟩ : ∃ K, K = (dkD N D).length := ⟨_, rfl⟩
  have HK := hid hK
  obtain ⟨Z, hZ⟩ : ∃ Z, Z = min size 100 := ⟨_, rfl⟩
  have hZ1 : Z ≤ 100 := by omega
  have HZ := hid hZ
  rw [← hK, ← hZ] at hkl
  clear hp hl1 hl2 hK hZ hN4
  by_cases hmay : mayP N ino
  · rw [decide_eq_true hmay] at HMb
    have HMay := hid hmay
    obtain ⟨n, rfl⟩ : ∃ n : Nat, ino = (n : Int) := ⟨ino.toNat, by have := hmay.1; omega⟩
    have hn5 : n ≤ 512 := by have := hmay.2.1; omega
    have hfN : 3 + n / 8 ≤ N := by have := hmay.2.2.2.1; omega
    clear hmay
    go_enter Tryz.func10, Tryz.ntmps10
    go_wp2_with fail
    refine HL1.out.mono ?_
    clear HL1
    rintro e w1 ⟨rfl, h1⟩
    obtain rfl := h1.symm
    clear h1
    go_wp2_with fail
    refine HL2.out.mono ?_
    clear HL2
    rintro e w1 ⟨rfl, hb1⟩
    have HB1 := hid hb1
    clear hb1
    go_wp2_with fail
    refine (HMb.out w1).mono ?_
    clear HMb
    rintro e w2 ⟨rfl, h2⟩
    obtain rfl := h2.symm
    clear h2
    obtain ⟨wm, hwm⟩ : ∃ wm, wm = w1.alloc (.cells #[.pointer (some ⟨c, 0, none⟩), .int .i64 n] 71) := ⟨_, rfl⟩
    have hbm : Below w1.heap.size w1 wm := by rw [hwm]; exact (Below.refl _ w1).alloc (Nat.le_refl _) _
    have hmb : mapB wm w1.heap.size c n := by rw [hwm]; exact block_new w1 _
    have HBm := hid (HB1.out.trans (hbm.mono HB1.out.size))
    have HMm := hid hmb
    have hR := (HP.out.below HBm.out).roomC
    rw [← HZ.out, ← HK.out] at hR
    have HR := hid hR
    have HmF : Hid (¬ F w1.heap.size) := fun hf => by have := HFl.out _ hf; have := HB1.out.size; omega
    have HSm := hid HB1.out.size
    obtain ⟨mb, hmbE⟩ : ∃ mb, mb = w1.heap.size := ⟨_, rfl⟩
    rw [← hmbE] at HMm HmF HSm
    clear hbm hmb hR
    go_wp2_with fail
    rw [← hwm, ← hmbE]
    clear hwm hmbE
    refine HR.out.mono ?_
    clear HR
    rintro e w3 ⟨rfl, hb3⟩
    have HB3 := hid (HBm.out.trans (hb3.mono HBm.out.size))
    have HM3 := hid (HMm.out.below hb3)
    have HFi := hid (amFirst_any HM3.out hn5)
    have HEm := hid (aempty_any HM3.out hn5 (HP.out.below HB3.out))
    obtain ⟨f, hf⟩ : ∃ f, f = n / 8 := ⟨_, rfl⟩
    rw [← hf] at HFi HEm hfN
    have HF := hid hf
    clear hb3 hf
    have hff : f ≤ 64 := by have := HF.out; omega
    go_wp2_with fail
    refine HFi.out.mono ?_
    clear HFi
    rintro e w4 ⟨rfl, h4⟩
    obtain rfl := h4.symm
    clear h4
    by_cases hfull : Z < K + (3 + f)
    · have hlt : (Z : Int) - (K : Int) < ((3 + f : Nat) : Int) := by omega
      obtain ⟨ff, hffE⟩ : ∃ ff, ff = 3 + f := ⟨_, rfl⟩
      rw [← hffE] at hlt ⊢
      clear hffE
      go_wp2
      go_returns
      refine ⟨Keeps.of_below HB3.out, .inr ⟨n, rfl, HMay.out, .inl ⟨?_, rfl, HP.out.below HB3.out⟩⟩⟩
      rw [← HK.out, ← HZ.out, ← HF.out]; exact hfull
    · have hlt : ¬ ((Z : Int) - (K : Int) < ((3 + f : Nat) : Int)) := by omega
      obtain ⟨ff, hffE⟩ : ∃ ff, ff = 3 + f := ⟨_, rfl⟩
      rw [← hffE] at hlt HEm ⊢
      have HFF := hid hffE
      clear hffE
      go_wp2_with fail
      refine HEm.out.mono ?_
      clear HEm
      rintro e w5 ⟨pb, cap, ps, rfl, hrow, hE, hb5⟩
      have hB5 := HB3.out.trans (hb5.mono HB3.out.size)
      have HB5 := hid hB5
      have hrow' : w5.ownsRow w3.heap.size 85 2 (.slice (some ⟨pb, 0, none⟩) (3 + f) cap) (3 + f) (psCells ps) := by rw [← HFF.out]; exact hrow
      have hF3 : ∀ i, F i → i < w3.heap.size := fun i hi => Nat.lt_of_lt_of_le (HFl.out i hi) HB3.out.size
      have hws := hE.wpgs (F := F) hrow' hF3 hfN
      have hlen : ps.length = ff := by rw [hE.len, HFF.out]
      have hwr := awrite_any (HM3.out.below hb5) HmF.out pb ps hws cap (by rw [hlen, HFF.out]; omega) (by rw [hlen, HFF.out]; omega) (HP.out.below hB5)
      rw [hlen] at hwr
      have HWr := hid hwr
      have HKe := hid hE.keys
      have HM5 := hid (HM3.out.below hb5)
      have HLn := hid hlen
      clear hb5 hB5 hrow hrow' hF3 hws hwr hE hlen
      go_wp2_with fail
      refine HWr.out.mono ?_
      clear HWr
      rintro e w6 ⟨hk6, hw6⟩
      have HK6 := hid ((Keeps.of_below HB5.out : Keeps F w w5).trans hk6 (fun i e => .inl e))
      have HM6 : Hid (mapB w6 mb c n) := HM5.out.keep hk6 HmF.out
      have hncl : newC D ps ≤ ff := by rw [← HLn.out]; exact List.length_filter_le _ _
      clear hk6
      rcases hw6 with ⟨hf6, rfl, hp6⟩ | ⟨hf6, rfl, hp6⟩
      · exfalso
        have h1 := HK.out
        have h2 := HZ.out
        have h3 := HFF.out
        omega
      · have HP6 := hid hp6
        clear hp6 hf6
        go_wp2
        go_returns
        refine ⟨HK6.out, .inr ⟨n, rfl, HMay.out, .inr ⟨?_, mb, HSm.out, HmF.out, HM6.out, rfl, ?_⟩⟩⟩
        · rw [← HK.out, ← HZ.out, ← HF.out]; omega
        · have h1 := HP6.out
          rw [putP_keys, putD_keys, HKe.out, HF.out] at h1
          exact h1
  · rw [decide_eq_false hmay] at HMb
    have HMay := hid hmay
    clear hmay
    go_enter Tryz.func10, Tryz.ntmps10
    go_wp2_with fail
    refine HL1.out.mono ?_
    clear HL1
    rintro e w1 ⟨rfl, h1⟩
    obtain rfl := h1.symm
    clear h1
    go_wp2_with fail
    refine HL2.out.mono ?_
    clear HL2
    rintro e w1 ⟨rfl, hb1⟩
    have HB1 := hid hb1
    clear hb1
    go_wp2_with fail
    refine (HMb.out w1).mono ?_
    clear HMb
    rintro e w2 ⟨rfl, h2⟩
    obtain rfl := h2.symm
    clear h2
    go_wp2
    go_returns
    exact ⟨Keeps.of_below HB1.out, .inl ⟨HMay.out, rfl, HP.out.below HB1.out⟩⟩
end
set_option maxRecDepth 100000 in
set_option maxHeartbeats 1000000 in
/-- A cache of so many pages. -/
theorem cached_any (pages size : Nat) (h1 : 1 ≤ size) (h2 : 1 ≤ pages) (h3 : pages + size + 1 ≤ 4096) (w : World) :
    Calls Tryz.prog 9 #[.int .i64 pages, .int .i64 size] w fun e w' => ∃ c F, e = .returned (.pointer (some ⟨c, 0, none⟩)) ∧ (∀ i, F i → w.heap.size ≤ i) ∧ Pc w' c F size pages (fun _ => zN 512) (fun _ => zN 512) (fun _ => false) 0 0 ∧ Below w.heap.size w w' := by
  obtain ⟨n, hn⟩ : ∃ n, n = pages + size + 1 := ⟨_, rfl⟩
  have e1 : IntKind.i64.wrap ((pages : Int) + (size : Int)) = ((pages + size : Nat) : Int) := by rw [IntWalk.i64_in _ (by omega)]; omega
  have e2 : IntKind.i64.wrap (((pages + size : Nat) : Int) + 1) = (n : Int) := by rw [IntWalk.i64_in _ (by omega)]; omega
  have e3 : (pages : Int) + (size : Int) + 1 = (n : Int) := by omega
  have hn3 : n ≤ 4096 := by omega
  have hn2 : size + 2 ≤ n := by omega
  have hNp : pagesS (freshN n) size = pages := by unfold pagesS; rw [freshN_len]; omega
  have HNp := hid hNp
  have HN := hid hn
  clear hn h3 hNp
  go_enter Tryz.func9, Tryz.ntmps9
  go_wp2_with fail
  refine (new_disk n (by omega) hn3 _).mono ?_
  rintro e w1 ⟨d, rfl, hD, -, -, hB⟩
  have HD : Hid (DiskIn w1 d (freshN n)) := hD
  have HB1 := hid hB
  have HOp := hid (open_zero d (freshN n) size w1 HD.out (by show 0 ≤ 4096; decide) h1 (by rw [freshN_len]; exact hn2) (by rw [show ((0 : Int)) = ((0 : Nat) : Int) from rfl, freshN_seen n 0 (by omega)]; exact blank_zeros))
  clear hD hB HD
  go_wp2_with fail
  refine HOp.out.mono ?_
  clear HOp
  rintro e w2 ⟨hb2, p, d2, rfl, hp2, hL2⟩
  have hpl := lt_of_heap hL2.heap
  have HB2 := hid (HB1.out.trans (hb2.mono HB1.out.size))
  have HNw := hid (bnew_ok p d2 (freshN n) size (fun i => w1.heap.size ≤ i ∧ i < p) 8 (by omega) (by omega) w2 hL2 (fun i hi => by omega) (by rw [freshN_len]; omega))
  have hs1 := HB1.out.size
  have hs2 := hb2.size
  clear hb2 hL2
  go_wp2_with fail
  refine HNw.out.mono ?_
  clear HNw
  rintro e w3 ⟨hb3, c, L, rfl, hc3, hdv, hLF, hft, hC3⟩
  have HB3 := hid (HB2.out.trans (hb3.mono HB2.out.size))
  have HC3 := hid hC3
  have HFt := hid hft
  have Hlt := hid hC3.log
  clear hb3 hC3 hft hdv hLF
  go_wp2
  go_ret
  have hC := HC3.out
  rw [HNp.out] at hC
  have hz : ∀ k, k < pages → secL (freshN n) (1 + size + k) = zN 512 := fun k hk => by
    unfold secL
    rw [freshN_seen n (1 + size + k) (by have := HN.out; omega)]
    exact blank_zeros
  refine ⟨c, fun i => L.foot c i, rfl, fun i hi => ?_, ⟨L, _, ⟨hC, rfl, rfl, made_fresh _ (by simp; omega) (fun s hs => by rw [List.eq_of_mem_replicate hs]; exact blank_size), Nat.le_refl _, Nat.le_refl _, fun k hk => hz k hk, fun k hk => hz k hk, fun _ => rfl, by rw [CS.dirtyKeys_none rfl]; simp, fun i hi => hi, fun i hi => hC.footLt i hi, lt_of_heap Hlt.out.heap⟩⟩, HB3.out⟩
  rcases HFt.out i hi with h | h
  · omega
  · omega
end Go.Proofs.YtkkmbgjlmdddoaaGreat
