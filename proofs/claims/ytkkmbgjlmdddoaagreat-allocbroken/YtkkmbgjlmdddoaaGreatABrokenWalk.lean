/- AllocBroken: the walk. -/
import Derived.Test.YtkkmbgjlmdddoaaGreatAlOpen
import Derived.Test.YtkkmbgjlmdddoaaGreatAlLive
namespace Go.Proofs.YtkkmbgjlmdddoaaGreat
open Go.RowKit
theorem inoS_set (l : List UInt8) (k : Nat) (x : UInt8) (h : k < 8 ∨ 12 ≤ k) : inoS (l.set k x) = inoS l := by
  have e : ((l.set k x).drop 8).take 4 = (l.drop 8).take 4 := by
    apply List.ext_getElem?
    intro j
    rw [List.getElem?_take, List.getElem?_take, List.getElem?_drop, List.getElem?_drop]
    by_cases hj : j < 4
    · rw [if_pos hj, if_pos hj, List.getElem?_set_ne (by omega)]
    · rw [if_neg hj, if_neg hj]
  unfold inoS
  rw [e]
theorem inoS_16 : inoS (superL 60 16) = 16 := by decide +kernel
set_option maxRecDepth 100000 in
set_option maxHeartbeats 4000000 in
theorem allocBroken_walk (t : Int) (ht0 : 0 ≤ t) (ht1 : t < 65536) (x : UInt8) (w : World) : Calls Tryz.prog 8 #[.int .u16 t, .int .u8 (x.toNat : Int)] w fun e w' => e = .returned (.bool true) ∧ Below w.heap.size w w' := by
  have hma := made_at 60 16 2 (fun _ => zN 512)
  have hdk := dkD_putLD 60 (empK 60 16 2) (fun _ => false)
  rw [dkD_none, length_empK, List.length_nil] at hdk
  have HMa := hid hma.1
  have HDk := hid hdk
  obtain ⟨k, hk⟩ : ∃ k : Nat, k = (t % 512).toNat := ⟨_, rfl⟩
  have hkt : t % 512 = (k : Int) := by omega
  have hk5 : k < 512 := by omega
  have hk0 : (0 : Int) ≤ (k : Int) := by omega
  have hk5' : (k : Int) < 512 := by omega
  clear hma hdk hk
  go_enter Tryz.func8, Tryz.ntmps8
  go_wp2_with fail
  refine (cached_any 60 50 (by omega) (by omega) (by omega) w).mono ?_
  rintro e w1 ⟨c, F, rfl, hF, hp1, hb1⟩
  have HF := hid hF
  have HB1 := hid hb1
  have HMk := hid (amake_any 16 hp1)
  clear hF hp1 hb1
  go_wp2_with fail
  refine HMk.out.mono ?_
  clear HMk
  rintro e w2 ⟨hk2, hx⟩
  have hmay : mayP 60 16 := by decide
  rcases hx with ⟨h, -⟩ | ⟨k0, hn, -, hx⟩
  · exact absurd hmay h
  obtain rfl : k0 = 16 := by omega
  rcases hx with ⟨h, -⟩ | ⟨-, m, hm, hmF, hmb, rfl, hp2⟩
  · rw [dkD_none] at h; exact absurd h (by decide)
  have HB2 : Hid (Below w.heap.size w w2) := HB1.out.trans (hk2.below HB1.out.size HF.out)
  obtain ⟨Pg, hPg⟩ : ∃ Pg, Pg = putL (fun _ => zN 512) (empK 60 16 (16 / 8)) := ⟨_, rfl⟩
  obtain ⟨D, hD⟩ : ∃ D, D = putLD (fun _ => false) (empK 60 16 (16 / 8)) := ⟨_, rfl⟩
  have hd5 : (dkD 60 D).length ≤ 0 + (3 + 2) := by rw [hD]; exact HDk.out
  have HP0 : Hid (Pg 0 = superL 60 16) := by rw [hPg]; exact HMa.out
  rw [← hPg, ← hD] at hp2
  have HD5 := hid hd5
  have hrd := hp2.read (Below.refl _ w2) 0 (by omega) (by omega)
  rw [HP0.out] at hrd
  have HRd : Hid (Calls Tryz.prog 30 #[.pointer (some ⟨c, 0, none⟩), .int .i64 0] w2 _) := hrd
  clear hk2 hmb hp2 hmay hn hm hmF hPg hD hd5 hrd HMa HDk
  obtain ⟨L, hL⟩ : ∃ L, L = superL 60 16 := ⟨_, rfl⟩
  have hLl : L.length = 512 := by rw [hL]; exact length_superL _ _
  rw [← hL] at HRd HP0
  have HL := hid hL
  have HLl := hid hLl
  clear hL hLl
  go_wp2_with fail
  refine HRd.out.mono ?_
  clear HRd
  rintro e w3 ⟨g, cap, rfl, hcap, hg, hr3, hk3, hf3⟩
  have HB3 : Hid (Below w.heap.size w w3) := HB2.out.trans (hk3.below HB2.out.size HF.out)
  have HR3 := hid hr3
  have HF3 := hid hf3
  have HG := hid hg
  have HCap := hid hcap
  clear hr3 hk3 hf3 hg hcap
  go_wp2_with fail
  refine (l5live_any w3).mono ?_
  rintro e w4 ⟨rfl, hb4⟩
  have HB4 : Hid (Below w.heap.size w w4) := HB3.out.trans (hb4.mono HB3.out.size)
  have HR4 := hid (HR3.out.below hb4)
  have HK4 := hid hb4
  clear hb4 HR3
  have c0 := HR4.out.cell k (by rw [HLl.out]; exact hk5)
  have f0 := HR4.out.frozen k (by rw [HLl.out]; exact hk5)
  have HSt := hid (HR4.out.set k (by rw [HLl.out]; exact hk5) x)
  obtain ⟨y, hy⟩ : ∃ y, y = L[k]'(by rw [HLl.out]; exact hk5) := ⟨_, rfl⟩
  rw [← hy] at c0
  have HY := hid hy
  clear hy
  go_wp2_with fail
  obtain ⟨w5, hw5⟩ : ∃ w5, w5 = w4.setCell ⟨g, k, none⟩ (.int .u8 (x.toNat : Int)) := ⟨_, rfl⟩
  rw [← hw5] at HSt ⊢
  have hk5k : Keeps (fun i => i = g) w4 w5 := by rw [hw5]; exact (Keeps.refl _ w4).grown (grown_setCell (grown_refl _ _) _ _) (fun i e => .inl (Option.some.inj e).symm)
  have HB5 : Hid (Below w.heap.size w w5) := HB4.out.trans (hk5k.below HB4.out.size (fun i e => by have e' : i = g := e; have h1 := HG.out; have h2 := HB2.out.size; omega))
  have hp5 := HF3.out w5 ((Keeps.of_below HK4.out : Keeps (fun i => w2.heap.size ≤ i) w3 w4).trans hk5k (fun i e => .inl (by have e' : i = g := e; rw [e']; exact HG.out)))
  have hl5 : (L.set k x).length = 512 := by rw [List.length_set]; exact HLl.out
  have hwr := hp5.write 0 (by omega) (L.set k x) hl5 ⟨g, 0, none⟩ cap HSt.out.1 (.inr (by have := HD5.out; omega))
  have HWr : Hid (Calls Tryz.prog 29 #[.pointer (some ⟨c, 0, none⟩), .int .i64 0, .slice (some ⟨g, 0, none⟩) 512 cap] w5 _) := hwr
  clear hw5 hk5k hp5 hl5 hwr HF3 HK4 HB3 HB4 HR4 HSt c0 f0
  refine HWr.out.mono ?_
  clear HWr
  rintro e w6 ⟨rfl, hk6, hp6⟩
  have HB6 : Hid (Below w.heap.size w w6) := HB5.out.trans (hk6.below HB5.out.size HF.out)
  have hop := aOpen_any (by omega) (by omega) hp6
  have h00 : updP Pg 0 (L.set k x) 0 = L.set k x := rfl
  unfold AOpenTo at hop
  rw [h00] at hop
  have HOp := hid hop
  clear hk6 hp6 hop h00
  go_wp2_with fail
  refine HOp.out.mono ?_
  clear HOp
  rintro e w7 ⟨hk7, -, hx⟩
  have HB7 : Hid (Below w.heap.size w w7) := HB6.out.trans (hk7.below HB6.out.size HF.out)
  clear hk7
  by_cases hxy : x = y
  · have hset : L.set k x = L := by rw [hxy, HY.out]; exact List.set_getElem_self _
    have h16 : inoS L = 16 := by rw [HL.out]; exact inoS_16
    rw [hset, h16] at hx
    have hmy : mayP 60 ((16 : Nat) : Int) := by decide
    rcases hx with ⟨hno, -⟩ | ⟨-, -, m2, -, -, hmb, rfl⟩
    · exact absurd ⟨hmy, HL.out⟩ hno
    have HIn := hid (amInodes_any hmb)
    have heq : (x.toNat : Int) = (y.toNat : Int) := by rw [hxy]
    clear hset h16 hmy hmb
    go_wp2_with fail
    refine HIn.out.mono ?_
    clear HIn
    rintro e w8 ⟨rfl, h8⟩
    obtain rfl := h8.symm
    clear h8
    go_wp2
    go_ret
    exact ⟨rfl, HB7.out⟩
  · have hne : ¬ ((x.toNat : Int) = (y.toNat : Int)) := fun h => hxy (UInt8.toNat_inj.1 (by omega))
    have hset : L.set k x ≠ L := fun h => by
      have h1 : (L.set k x)[k]'(by rw [List.length_set, HLl.out]; exact hk5) = x := List.getElem_set_self _
      have h2 : (L.set k x)[k]'(by rw [List.length_set, HLl.out]; exact hk5) = y := by rw [HY.out]; simp only [h]
      exact hxy (h1.symm.trans h2)
    rcases hx with ⟨hno, rfl⟩ | ⟨hmy, hsu, m2, -, -, hmb, rfl⟩
    · clear hno hset
      go_wp2
      go_ret
      exact ⟨rfl, HB7.out⟩
    · have hin : ¬ (k < 8 ∨ 12 ≤ k) := fun h => by
        rw [inoS_set L k x h, show inoS L = 16 by rw [HL.out]; exact inoS_16] at hsu
        exact hset (hsu.trans HL.out.symm)
      have hn16 : inoS (L.set k x) ≠ 16 := fun h => by
        rw [h] at hsu
        exact hset (hsu.trans HL.out.symm)
      have HIn := hid (amInodes_any hmb)
      generalize inoS (L.set k x) = n at *
      have hn16' : ¬ ((n : Int) = 16) := by omega
      have hk8 : (8 : Int) ≤ (k : Int) := by omega
      have hk12 : (k : Int) < 12 := by omega
      clear hset hmb hsu hmy
      go_wp2_with fail
      refine HIn.out.mono ?_
      clear HIn
      rintro e w8 ⟨rfl, h8⟩
      obtain rfl := h8.symm
      clear h8
      go_wp2
      go_ret
      have hb16 : ((n : Int) != 16) = true := bne_iff_ne.2 hn16'
      rw [hb16]
      exact ⟨rfl, HB7.out⟩
end Go.Proofs.YtkkmbgjlmdddoaaGreat
