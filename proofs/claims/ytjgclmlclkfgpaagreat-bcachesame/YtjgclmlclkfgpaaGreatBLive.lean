/- law04's live. -/
import Derived.Test.YtjgclmlclkfgpaaGreatBPlain
namespace Go.Proofs.YtjgclmlclkfgpaaGreat
open Go.RowKit Go.Maps Go.Sort Go.Shelf
theorem live_use {u1 u2 : Int → Option Nat} (h1 : UseTo (fun _ => none) 1 11 1 0 u1) (h2 : UseTo u1 1 11 2 1 u2) : grpKeys (usedV u2) 11 = [1] := by
  have e1 : u1 = updN (fun _ => none) 0 1 := by
    rcases h1 with ⟨_, h⟩ | ⟨h, _⟩
    · exact h
    · exact absurd h (by decide)
  subst e1
  rcases h2 with ⟨h, _⟩ | ⟨_, x, ⟨k, hk, hmin⟩, rfl⟩
  · exact absurd h (by decide)
  · have h1 := hmin 0 1 rfl
    have hx : x = 0 := by
      unfold updN at hk
      split at hk
      · have := Option.some.inj hk; omega
      · split at hk
        · assumption
        · cases hk
    subst hx
    decide
theorem updD_keys (l : List UInt8) (C : CS) (hN : C.N = 11) (h : C.dirty = updD (fun _ => none) (2 : Nat) l) : C.dirtyKeys = [2] := by
  unfold CS.dirtyKeys
  rw [hN, h]
  rfl
set_option maxRecDepth 100000 in
set_option maxHeartbeats 4000000 in
theorem b4live_any (w : World) : Calls Tryz.prog 8 #[] w fun e w' => e = .returned (.bool true) ∧ Below w.heap.size w w' := by
  have HO := hid (b4open_ok 5 1 (by omega) (by omega) (by omega) (by omega) w)
  go_enter Tryz.func8, Tryz.ntmps8
  go_wp2_with fail
  refine HO.out.mono ?_
  clear HO
  rintro e w1 ⟨hb1, c, L1, q, m, r, fv, Rd, rfl, hc, hdv, hft, hC1, -, -, -, -⟩
  have hlen : (freshN (5 + 12)).safe.length = 17 := freshN_len _
  have hM : Made (freshN (5 + 12)) := made_fresh _ (by simp) (fun s hs => by rw [List.eq_of_mem_replicate hs]; exact blank_size)
  have hops : (freshN (5 + 12)).ops = [] := rfl
  have hpg : pagesS (freshN (5 + 12)) 5 = 11 := by unfold pagesS; rw [hlen]
  rw [hpg] at hC1
  generalize freshN (5 + 12) = S0 at *
  have H1 := hid hC1
  have HM := hid hM
  have HB1 := hid hb1
  have HF1 := hid hft
  have HOp := hid hops
  have HRd := hid (bread_any 0 (by omega) (by omega) w1 hC1 hM (show (0 : Nat) < 1000000 by omega))
  clear hb1 hdv hft hC1 hlen hM hops hpg
  go_wp2_with fail
  refine HRd.out.mono ?_
  clear HRd
  rintro e w2 (⟨h, -⟩ | ⟨bs, h, -⟩ | ⟨-, -, -, g2, cap2, rfl, -, -, u2, D2, hU2, hC2, hK2⟩)
  · exact absurd (show (0 : Int) ≤ 0 ∧ (0 : Int) < ((11 : Nat) : Int) by omega) h
  · cases h
  have H2 := hid hC2
  have HU2 := hid hU2
  have HK2 := hid hK2
  have HRd := hid (bread_any 1 (by omega) (by omega) w2 hC2 HM.out (show (1 : Nat) < 1000000 by omega))
  clear hU2 hC2 hK2
  go_wp2_with fail
  refine HRd.out.mono ?_
  clear HRd
  rintro e w3 (⟨h, -⟩ | ⟨bs, h, -⟩ | ⟨-, -, -, g3, cap3, rfl, -, -, u3, D3, hU3, hC3, hK3⟩)
  · exact absurd (show (0 : Int) ≤ 1 ∧ (1 : Int) < ((11 : Nat) : Int) by omega) h
  · cases h
  have hkey := live_use HU2.out hU3
  have hik : intKeys D3 = [1] := by
    have := hC3.used.perm
    rw [show grpKeys (usedV u3) 11 = [1] from hkey] at this
    exact List.perm_singleton.1 this.symm
  have hC3' : CacheAt w3 c { L1 with Du := D3 } ⟨S0, 5, 11, fun _ => none, 1, 2, u3⟩ := hC3
  have hdF : L1.F = ({ L1 with Du := D3 } : CLay).F := rfl
  have HB3 : Hid (Below w.heap.size w w3) := by
    have hf : ∀ i, (i = c ∨ i = L1.um) → w.heap.size ≤ i := fun i hi => hi.elim (fun e => HF1.out i (.inr (.inl e))) (fun e => HF1.out i (.inr (.inr (.inr e))))
    have hb2 := HB1.out.trans (HK2.out.below HB1.out.size hf)
    exact hb2.trans (hK3.below hb2.size hf)
  have HFt : Hid (∀ i, ({ L1 with Du := D3 } : CLay).foot c i → w.heap.size ≤ i) := HF1.out
  generalize ({ L1 with Du := D3 } : CLay) = L3 at *
  have hik3 : intKeys L3.Du = [1] := by
    have := hC3'.used.perm
    rw [show grpKeys (usedV u3) 11 = [1] from hkey] at this
    exact List.perm_singleton.1 this.symm
  have H3 := hid hC3'
  have HCa := hid (bcached_one 1 w3 hC3' hik3)
  clear hC3 hC3' hK3 hU3 hkey hik hik3 HK2 HU2 H2 H1 HB1 HF1 hdF
  go_wp2_with fail
  refine HCa.out.mono ?_
  clear HCa
  rintro e w4 ⟨g4, cap4, rfl, hg4, hc4, hb4⟩
  have H4 := hid (H3.out.below hb4)
  have HB4 := hid (HB3.out.trans (hb4.mono HB3.out.size))
  have hs3 := hb4.size
  have hg4' : g4 < w4.heap.size := World.block_lt_of_cell? w4 _ hc4
  have HC4 := hid hc4
  have hl3 := fun i (hi : L3.foot c i) => (show i < w3.heap.size from by
    obtain ⟨es, k, hm⟩ := H3.out.dmap
    obtain ⟨es', k', hm'⟩ := H3.out.umap
    rcases hi with hi | hi | hi | hi
    · exact H3.out.lt i hi
    · rw [hi]; exact lt_of_heap H3.out.heap
    · rw [hi]; exact lt_of_heap hm
    · rw [hi]; exact lt_of_heap hm')
  have HL3 := hid hl3
  have HBy := hid (b4bytes_any false 0 0 3 w4)
  clear hc4 hb4 HB3 H3 hl3
  go_wp2_with fail
  refine HBy.out.mono ?_
  clear HBy
  rintro e w5 ⟨hb5, rfl, hby5⟩
  have hl5 : (dbytes false 3).length = 512 := length_dbytes _ _
  have h95 : (dbytes false 3)[9]? = some 3 := by simp [dbytes, dlen]
  generalize dbytes false 3 = l at *
  have H5 := hid (H4.out.below hb5)
  have HB5 := hid (HB4.out.trans (hb5.mono HB4.out.size))
  have hs4 := hb5.size
  have HC5 := hid ((hb5.cell (p := ⟨g4, 0, none⟩) hg4').trans HC4.out)
  have HWr := hid (bwrite_ok 2 l ⟨w4.heap.size + 1, 0, none⟩ 512 w5 H5.out (show 2 < 11 by omega) hl5 hby5.at (.inr (by rw [CS.dirtyKeys_none rfl]; show 0 < min 5 100; omega)))
  have HL5 := hid hl5
  have H95 := hid h95
  clear hb5 hby5 hl5 h95 HC4 HB4 H4
  go_wp2_with fail
  refine HWr.out.mono ?_
  clear HWr
  rintro e w6 ⟨rfl, g6, cap6, Dd6, Du6, hg6, hC6, hK6⟩
  obtain ⟨u6, hC6'⟩ : ∃ u6, CacheAt w6 c { L3 with dv := updV L3.dv ((2 : Nat) : Int) (.slice (some ⟨g6, 0, none⟩) 512 cap6), Dd := Dd6, Du := Du6 } ⟨S0, 5, 11, updD (fun _ => none) ((2 : Nat) : Int) l, 1, 2, u6⟩ := ⟨_, hC6⟩
  have hk6 : (⟨S0, 5, 11, updD (fun _ => none) ((2 : Nat) : Int) l, 1, 2, u6⟩ : CS).dirtyKeys = [2] := updD_keys l _ rfl rfl
  have hr6 : (⟨S0, 5, 11, updD (fun _ => none) ((2 : Nat) : Int) l, 1, 2, u6⟩ : CS).dirtyKeys.length ≤ min 5 100 := by rw [hk6]; show 1 ≤ min 5 100; omega
  have HFt6 : Hid (∀ i, ({ L3 with dv := updV L3.dv ((2 : Nat) : Int) (.slice (some ⟨g6, 0, none⟩) 512 cap6), Dd := Dd6, Du := Du6 } : CLay).foot c i → w.heap.size ≤ i) := HFt.out
  have HL6 : Hid (∀ i, ({ L3 with dv := updV L3.dv ((2 : Nat) : Int) (.slice (some ⟨g6, 0, none⟩) 512 cap6), Dd := Dd6, Du := Du6 } : CLay).foot c i → i < w3.heap.size) := HL3.out
  have hC46 : w6.cell? ⟨g4, 0, none⟩ = some (.int .i64 1) := hK6.cell (ad := ⟨g4, 0, none⟩) HC5.out (fun e => by
    have h1 : ∀ i, (i = L3.dm ∨ i = L3.um) → i < w3.heap.size := fun i hi => HL3.out i (hi.elim (fun e => .inr (.inr (.inl e))) (fun e => .inr (.inr (.inr e))))
    have := h1 _ e
    have : g4 < w3.heap.size := this
    omega)
  have HC46 := hid hC46
  have HB6 : Hid (Below w.heap.size w w6) := HB5.out.trans (hK6.below HB5.out.size (fun i hi => HFt.out i (hi.elim (fun e => .inr (.inr (.inl e))) (fun e => .inr (.inr (.inr e))))))
  have hs5 := hK6.size
  have hg46 : g4 < w6.heap.size := by omega
  generalize ({ L3 with dv := updV L3.dv ((2 : Nat) : Int) (.slice (some ⟨g6, 0, none⟩) 512 cap6), Dd := Dd6, Du := Du6 } : CLay) = L6 at *
  have hcs := hC6'.comSee hr6 2 (show 2 < 11 by omega)
  have hsee : (⟨S0, 5, 11, updD (fun _ => none) ((2 : Nat) : Int) l, 1, 2, u6⟩ : CS).see 2 = l := by simp [CS.see, updD]
  have hmade := hC6'.comMade HM.out hr6
  have HCm := hid (bcommit_any w6 hC6' hr6 (by show S0.ops.length ≤ 800000; rw [HOp.out]; simp))
  rw [hsee] at hcs
  generalize hS7 : (⟨S0, 5, 11, updD (fun _ => none) ((2 : Nat) : Int) l, 1, 2, u6⟩ : CS).com = S7 at *
  have hcs' : secL S7 (1 + 5 + 2) = l := hcs
  have HCs := hid hcs'
  have HMd := hid hmade
  clear hC6 hC6' hK6 hk6 hr6 hC46 hcs hcs' hsee hmade hS7 HFt HL3 HB5 HC5 H5
  go_wp2_with fail
  refine HCm.out.mono ?_
  clear HCm
  rintro e w7 ⟨rfl, d7, F7, hF71, hF72, hC7, hK7⟩
  have hC7' : CacheAt w7 c { L6 with d := d7, F := F7, Dd := .map [], dv := fun _ => none } ⟨S7, 5, 11, fun _ => none, 1, 2, u6⟩ := hC7
  have hC47 : w7.cell? ⟨g4, 0, none⟩ = some (.int .i64 1) := hK7.cell (ad := ⟨g4, 0, none⟩) HC46.out (fun e => by
    have : g4 < w3.heap.size := HL6.out _ (e.elim .inl (fun e => .inr (.inr (.inl e))))
    omega)
  have HB7 : Hid (Below w.heap.size w w7) := HB6.out.trans (hK7.below HB6.out.size (fun i hi => HFt6.out i (hi.elim .inl (fun e => .inr (.inr (.inl e))))))
  have HF7 : Hid (∀ i, (i = c ∨ i = L6.um) → w.heap.size ≤ i ∧ i < w3.heap.size) := fun i hi => ⟨HFt6.out i (hi.elim (fun e => .inr (.inl e)) (fun e => .inr (.inr (.inr e)))), HL6.out i (hi.elim (fun e => .inr (.inl e)) (fun e => .inr (.inr (.inr e))))⟩
  have hs6 := hK7.size
  have HC47 := hid hC47
  have HRd := hid (bread_any 2 (by omega) (by omega) w7 hC7' HMd.out (show (2 : Nat) < 1000000 by omega))
  clear hC7 hC7' hK7 hC47 hF71 hF72 HB6 HC46 HFt6 HL6
  go_wp2_with fail
  refine HRd.out.mono ?_
  clear HRd
  rintro e w8 (⟨h, -⟩ | ⟨bs, h, -⟩ | ⟨-, -, -, g8, cap8, rfl, hg8, hby8, u8, D8, hU8, hC8, hK8⟩)
  · exact absurd (show (0 : Int) ≤ 2 ∧ (2 : Int) < ((11 : Nat) : Int) by omega) h
  · cases h
  have hby8' : bytesAt w8 ⟨g8, 0, none⟩ (secL S7 (1 + 5 + 2)) := hby8
  rw [HCs.out] at hby8'
  have hl9 : 9 < l.length := by rw [HL5.out]; omega
  have hc9 : w8.cell? ⟨g8, 9, none⟩ = some (.int .u8 3) := by
    have h1 := hby8' 9 hl9
    have h2 : l[9] = 3 := by have := H95.out; rw [List.getElem?_eq_getElem hl9] at this; exact Option.some.inj this
    rw [h2] at h1
    exact h1
  have hc4 : w8.cell? ⟨g4, 0, none⟩ = some (.int .i64 1) := hK8.cell (ad := ⟨g4, 0, none⟩) HC47.out (fun e => by
    have : g4 < w3.heap.size := (HF7.out _ e).2
    omega)
  have HB8 : Hid (Below w.heap.size w w8) := HB7.out.trans (hK8.below HB7.out.size (fun i hi => (HF7.out i hi).1))
  have hRm := broom_any w8 hC8
  rw [CS.dirtyKeys_none rfl] at hRm
  have HRm : Hid (Calls Tryz.prog 15 #[.pointer (some ⟨c, 0, none⟩)] w8 fun e w' => e = .returned (.int .i64 5) ∧ Below w8.heap.size w8 w') := hRm
  clear hC8 hK8 hU8 hby8 hby8' hRm hl9 HB7 HF7 HC47 HCs HMd HM HL5 H95
  go_wp2_with fail
  refine HRm.out.mono ?_
  clear HRm
  rintro e w9 ⟨rfl, hb9⟩
  have HB9 := hid (HB8.out.trans (hb9.mono HB8.out.size))
  clear hb9
  go_wp2
  go_ret
  exact ⟨rfl, HB9.out⟩
end Go.Proofs.YtjgclmlclkfgpaaGreat
