/- Cut of a Fork. -/
import Derived.Test.YtjgclmlclkfgpaaGreatBaseC
namespace Go.Proofs.YtjgclmlclkfgpaaGreat
open Go.RowKit Go.Maps
set_option maxRecDepth 100000 in
set_option maxHeartbeats 2000000 in
theorem cut_cut (d : DL) (S : DiskS) (k : Nat) (w : World) (h : CutIn w d S) (hk : k ≤ S.ops.length) (hB : S.ops.length ≤ 1000000) (hok : ∀ o ∈ S.ops, okOp S.first.length o) :
    Calls Tryz.prog 33 #[.pointer (some ⟨d.p, 0, none⟩), .int .i64 k] w fun e w' => Below w.heap.size w w' ∧ ∃ d', e = .returned (.tuple #[.pointer (some ⟨d'.p, 0, none⟩), .int .i64 0]) ∧ CutIn w' d' (cutS S k) ∧
      w.heap.size ≤ d'.p ∧ (∀ i, d'.L.foot (cutS S k).waits i → w.heap.size ≤ i) ∧ d'.fv = d.fv := by
  obtain ⟨ad, fc, hfv, hfc, hfn⟩ := h.first
  obtain ⟨oa, oc, hov, hoc, hoa⟩ : ∃ oa oc, d.ov = .slice oa S.ops.length oc ∧ (∀ j (hj : j < S.ops.length), ∃ g og, oa = some ⟨g, og, none⟩ ∧ g < w.heap.size ∧ w.cell? ⟨g, og + j, none⟩ = some (encOp S.ops[j])) ∧ ((oa = none ∧ oc = 0 ∧ S.ops.length = 0) ∨ ∃ g : Addr, oa = some g ∧ S.ops.length ≤ oc ∧ g.block < w.heap.size) := by
    obtain ⟨a, e1, e2, e3⟩ := h.ops
    cases a with
    | none =>
      have e4 := e2 rfl
      exact ⟨none, 0, by rw [e1, e4]; rfl, fun j hj => by rw [e4] at hj; simp at hj, .inl ⟨rfl, rfl, by rw [e4]; rfl⟩⟩
    | some b =>
      obtain ⟨h1, h2⟩ := e3 b rfl
      refine ⟨some b, S.ops.length, e1, fun j hj => ?_, .inr ⟨b, rfl, Nat.le_refl _, h2⟩⟩
      have cz := h1 0 (encOp (S.ops[0]'(by omega))) (by rw [List.getElem?_map, List.getElem?_eq_getElem (by omega)]; rfl)
      have hp := plain_addr cz
      rw [Addr.add, if_pos rfl] at hp
      have cj := h1 j (encOp S.ops[j]) (by simp [hj])
      rw [hp, Addr.add_mid] at cj
      exact ⟨b.block, b.off, by rw [← hp], h2, cj⟩
  have c0 : w.cell? ⟨d.p, 0, none⟩ = some (.slice (some ad) S.first.length fc) := by rw [cell_of_block h.rd.heap, ← hfv]; rfl
  have c1 : w.cell? ⟨d.p, 1, none⟩ = some (.slice oa S.ops.length oc) := by rw [cell_of_block h.rd.heap, ← hov]; rfl
  have hkl : (k : Int) ≤ (S.ops.length : Int) := by omega
  have hk0 : (0 : Int) ≤ (k : Int) := by omega
  have hpos := h.rd.plates.pos
  have hmost := h.rd.plates.most
  have hfl := h.flen
  have HFl := hid hfl
  have hm := made_any (strs S.first) ad fc (by simp; omega) (by simp; omega) (strs_one _) w (fun j u hu => by
    rw [List.getElem?_map] at hu
    cases e : S.first[j]? with
    | none => rw [e] at hu; cases hu
    | some s => rw [e] at hu; obtain rfl := Option.some.inj hu; exact hfc j s e)
  rw [show (strs S.first).length = S.first.length by simp] at hm
  have HM := hid hm
  have H := hid h
  have HOC := hid hoc
  have HFC := hid (And.intro hfc hfn)
  clear hm h hfc hfn hfl hoc
  go_enter Tryz.func33, Tryz.ntmps33
  go_wp2_with fail
  refine HM.out.mono ?_
  clear HM
  rintro e w1 ⟨p, rfl, hF⟩
  have HF := hid hF
  clear hF
  go_wp2_with fail
  obtain ⟨d0, hp0, hD0, hfv0, hov0, hft0⟩ : ∃ d0 : DL, d0.p = p ∧ DiskIn w1 d0 (freshS S.first) ∧ d0.fv = .slice (some ad) S.first.length fc ∧ d0.ov = .slice none 0 0 ∧ ∀ i, d0.foot (freshS S.first).waits i → w.heap.size ≤ i := by
    have hpos' : 0 < S.first.length := by rw [HFl.out]; exact hpos
    have hlt : ad.block < w.heap.size := by
      have h00 := HFC.out.1 0 (S.first[0]) (by simp)
      have := World.block_lt_of_cell? w _ h00
      rwa [add_block] at this
    obtain ⟨d0, e1, e2, e3, e4, e5⟩ := fresh_disk (w0 := w) (w := w1) (p := p) (xs := S.first) (ad := ad) (c := fc) (by have := HF.out; rwa [show S.first.length = (strs S.first).length by simp] at this) hpos' (by rw [HFl.out]; exact hmost) hlt (fun j u hu => by
      rw [List.getElem?_map] at hu
      cases e : S.first[j]? with
      | none => rw [e] at hu; cases hu
      | some s => rw [e] at hu; obtain rfl := Option.some.inj hu; exact HFC.out.1 j s e)
    obtain ⟨⟨g, cap, m, f1, -⟩, -, -⟩ := HF.out
    have hh := e1.heap
    rw [e2, f1] at hh
    simp only [Option.some.injEq, Obj.cells.injEq, Array.mk.injEq, List.cons.injEq, and_true] at hh
    exact ⟨d0, e2, e1, hh.1.symm, hh.2.1.symm, e4⟩
  have HNt : Hid (Calls Tryz.prog 65 #[.pointer (some ⟨d.p, 0, none⟩), .int .i64 k] w1 fun e w' => e = .returned (.slice oa k k) ∧ w' = w1) := by
    have cw := (HF.out.below.cell (p := ⟨d.p, 1, none⟩) (World.block_lt_of_cell? w _ c1)).trans c1
    rcases hoa with ⟨rfl, rfl, e⟩ | ⟨g, rfl, e, -⟩
    · obtain rfl : k = 0 := by omega
      rw [e] at cw
      exact noted_none d.p w1 cw
    · exact noted_some d.p g S.ops.length oc k w1 cw hk e
  refine HNt.out.mono ?_
  clear HNt
  rintro e w9 ⟨rfl, h9⟩
  obtain rfl := h9.symm
  have hb1 : w1.heap[p]? = some (.cells #[.slice (some ad) S.first.length fc, .slice none 0 0, .slice (some ⟨d0.L.g, 0, none⟩) S.first.length d0.L.cap, .map (some d0.L.m)] 101 (0, 0)) := by
    have := hD0.heap
    rw [hp0, hfv0, hov0] at this
    exact this
  have p1 : w1.cell? ⟨p, 1, none⟩ = some (.slice none 0 0) := by rw [cell_of_block hb1]; rfl
  have f1 : w1.frozen? ⟨p, 1, none⟩ = false := frozen_of_block hb1 _
  have Hb1 := hid hb1
  have HD0 := hid hD0
  have HFt0 := hid hft0
  have HE0 := hid (And.intro hp0 (And.intro hfv0 hov0))
  clear hb1 hD0 hft0 hp0 hfv0 hov0
  go_wp2
  have hs01 : w.heap.size ≤ w1.heap.size := HF.out.below.size
  have hpw : w.heap.size ≤ p := HF.out.new
  have HF0 := cutS_facts S 0
  have hK2 : Keeps (fun i => i = p) w1 (w1.setCell ⟨p, 1, none⟩ (.slice oa k k)) := Keeps.of_grown (r := some p) (grown_setCell (grown_refl _ _) _ _) (fun i e => (Option.some.inj e).symm)
  have HB2 := hid (HF.out.below.setCell (p := ⟨p, 1, none⟩) hpw (.slice oa k k))
  have Hb2 := hid (block_setCell Hb1.out 1 (.slice oa k k))
  have HP2 := hid (HD0.out.plates.keep hK2 (fun i hi e => by
    have e2 : i = p := e
    rw [e2, ← HE0.out.1] at hi
    exact HD0.out.p_off hi))
  clear hK2
  generalize hW : w1.setCell ⟨p, 1, none⟩ (.slice oa k k) = w2 at *
  clear hW
  go_loopw [38] (fun i wr => ∃ (j : Nat) (L : PL), j ≤ k ∧ i = .int .i64 j ∧ Hid (L.g = d0.L.g ∧ L.cap = d0.L.cap ∧ L.m = d0.L.m) ∧ Hid (wr.heap[p]? = some (.cells #[.slice (some ad) S.first.length fc, .slice oa k k, .slice (some ⟨d0.L.g, 0, none⟩) S.first.length d0.L.cap, .map (some d0.L.m)] 101 (0, 0))) ∧
    Hid (PlatesIn wr L (cutS S j).safe (cutS S j).waits j) ∧ Hid (∀ i, L.foot (cutS S j).waits i → w.heap.size ≤ i) ∧ Hid (Below w.heap.size w wr)) (fun i _ => k - (intOf i).toNat)
  case atStart => exact ⟨0, d0.L, by omega, rfl, ⟨rfl, rfl, rfl⟩, Hb2, HP2.out, fun i hi => HFt0.out i (.inr (.inr hi)), HB2⟩
  case round =>
    obtain ⟨j, L, hj, rfl, hE, hb, hP, hFt, hB9⟩ := hrel
    clear HP2 Hb2 HB2
    obtain ⟨-, hsl, -⟩ := cutS_facts S j
    have HSl := hid hsl
    have HPo := hid (hP.out.foot_other hb.out (by decide))
    clear hsl
    by_cases hjk : j < k
    · have hj0 : (0 : Int) ≤ (j : Int) := by omega
      have hj1 : (j : Int) < (k : Int) := by omega
      have hjo : j < S.ops.length := by omega
      obtain ⟨g, og, rfl, hgw, hcw⟩ := HOC.out j hjo
      have cj : wr.cell? ⟨g, og + j, none⟩ = some (encOp S.ops[j]) := (hB9.out.cell (p := ⟨g, og + j, none⟩) hgw).trans hcw
      have hoj := hok S.ops[j] (List.getElem_mem hjo)
      have HSt := hid (cutS_step S j hjo)
      have hjB : j < opsMax := by unfold opsMax; omega
      clear hcw
      generalize S.ops[j] = o at *
      cases o with
      | write n s =>
        obtain ⟨n0, n1, -⟩ := hoj
        have hdo := do_write p (.slice (some ad) S.first.length fc) (.slice (some ⟨g, og, none⟩) k k) L (cutS S j).safe (cutS S j).waits j n s wr (by rw [HSl.out, hE.out.1, hE.out.2.1, hE.out.2.2]; exact hb.out) hP.out hjB n0 (by rw [HSl.out]; exact n1)
        have HDo := hid hdo
        clear hdo hP
        simp only [encOp] at cj
        go_wp2_with fail
        refine HDo.out.mono ?_
        clear HDo
        rintro e w3 ⟨rfl, L', hP3, e1, e2, e3, hfoot, hK3⟩
        have HB3 := hid (hB9.out.trans (hK3.below hB9.out.size (fun i hi => hFt.out i hi)))
        have Hb3 := hid (hK3.heap hb.out (HPo.out))
        have HFt3 : Hid (∀ i, L'.foot (upd (cutS S j).waits n ((cutS S j).waits n ++ [s])) i → w.heap.size ≤ i) := fun i hi => by
          rcases hfoot i hi with e | e
          · exact hFt.out i e
          · exact Nat.le_trans hB9.out.size e
        have HE3 : Hid (L'.g = d0.L.g ∧ L'.cap = d0.L.cap ∧ L'.m = d0.L.m) := ⟨e1.trans hE.out.1, e2.trans hE.out.2.1, e3.trans hE.out.2.2⟩
        have HP3 := hid hP3
        clear hP3 e1 e2 e3 hfoot hK3 hb hFt hE hB9
        go_wp2
        refine ⟨⟨j + 1, L', by omega, by go_num, HE3, Hb3, ?_, ?_, HB3⟩, by simp [intOf]; omega⟩
        · rw [HSt.out]; exact HP3.out
        · rw [HSt.out]; exact HFt3.out
      | flush =>
        have hdo := do_flush p (.slice (some ad) S.first.length fc) (.slice (some ⟨g, og, none⟩) k k) L (cutS S j).safe (cutS S j).waits j wr (by rw [HSl.out, hE.out.1, hE.out.2.1, hE.out.2.2]; exact hb.out) hP.out
        have HDo := hid hdo
        clear hdo hP
        simp only [encOp] at cj
        go_wp2_with fail
        refine HDo.out.mono ?_
        clear HDo
        rintro e w3 ⟨rfl, hP3, hK3⟩
        have HB3 := hid (hB9.out.trans (hK3.below hB9.out.size (fun i hi => hFt.out i hi)))
        have Hb3 := hid (hK3.heap hb.out (HPo.out))
        have HFt3 : Hid (∀ i, ({ L with D := .map [] } : PL).foot (fun _ => []) i → w.heap.size ≤ i) := fun i hi => by
          rcases hi with e | e | ⟨n, hn, _⟩
          · exact hFt.out i (.inl e)
          · exact hFt.out i (.inr (.inl e))
          · exact absurd rfl hn
        have HP3 := hid (hP3.moreB (Nat.zero_le (j + 1)))
        clear hP3 hK3 hb hFt hB9
        go_wp2
        refine ⟨⟨j + 1, { L with D := .map [] }, by omega, by go_num, hE, Hb3, ?_, ?_, HB3⟩, by simp [intOf]; omega⟩
        · rw [HSt.out]; exact HP3.out
        · rw [HSt.out]; exact HFt3.out
    · obtain rfl : j = k := by omega
      have hge : ¬ ((j : Int) < (j : Int)) := by omega
      go_wp2
      go_returns
      obtain ⟨f1, f2, f3⟩ := cutS_facts S j
      have hlen : (cutS S j).ops.length = j := by rw [f3, List.length_take]; omega
      refine ⟨hB9.out, ⟨p, .slice (some ad) S.first.length fc, .slice oa j j, L⟩, rfl, ⟨⟨?_, ?_, ?_⟩, ?_, ?_, ?_⟩, hpw, hFt.out, by first | exact hfv.symm | rfl⟩
      · rw [HSl.out, hE.out.1, hE.out.2.1, hE.out.2.2]; exact hb.out
      · rw [hlen]; exact hP.out
      · exact ⟨oa, j, by rw [hlen]⟩
      · refine ⟨oa, by rw [hlen], fun e => ?_, fun b e => ?_⟩
        · rcases hoa with ⟨-, -, e2⟩ | ⟨g, e2, -⟩
          · rw [f3]; exact List.eq_nil_of_length_eq_zero (by rw [List.length_take]; omega)
          · rw [e] at e2; cases e2
        · rcases hoa with ⟨e2, -, -⟩ | ⟨g, e2, -, hg⟩
          · rw [e] at e2; cases e2
          · rw [e] at e2
            obtain rfl := Option.some.inj e2
            refine ⟨fun i u hu => ?_, Nat.lt_of_lt_of_le hg hB9.out.size⟩
            rw [f3, List.getElem?_map, List.getElem?_take] at hu
            split at hu
            · rename_i hij
              obtain ⟨g', og, e3, h3, h4⟩ := HOC.out i (by omega)
              rw [e] at e3
              have hbe := Option.some.inj e3
              rw [List.getElem?_eq_getElem (by omega)] at hu
              obtain rfl := Option.some.inj hu
              rw [hbe, Addr.add_mid]
              exact (hB9.out.cell (p := ⟨g', og + i, none⟩) h3).trans h4
            · cases hu
      · rw [f1]
        refine ⟨ad, fc, rfl, fun i u hu => ?_, fun e => ?_⟩
        · have hc := HFC.out.1 i u hu
          exact (hB9.out.cell (World.block_lt_of_cell? w _ hc)).trans hc
        · have hlt : ad.block < w.heap.size := by
            have h00 := HFC.out.1 0 (S.first[0]'(by rw [HFl.out]; exact hpos)) (by simp)
            have := World.block_lt_of_cell? w _ h00
            rwa [add_block] at this
          rcases e with e | e
          · have e' : ad.block = p := e; omega
          · have := hFt.out _ e; omega
      · rw [f1, f2]
end Go.Proofs.YtjgclmlclkfgpaaGreat
