/- Several of my texts in one: DRefJ, DRefS, DPathsW. -/
import Derived.Test.YtobnmldcabfmnaaGreatDoorJoined7
set_option maxRecDepth 100000
set_option maxHeartbeats 2000000
namespace Go.Proofs.YtobnmldcabfmnaaGreatDoor
section
open Go.RowKit
theorem joinTail_cons (ns : List (List UInt8)) (h : ns ≠ []) : Lib.joinTail [47] ns = 47 :: Lib.join ns [47] := by
 cases ns with
 | nil => exact absurd rfl h
 | cons x r => rw [Lib.join_cons]; simp [Lib.joinTail]
theorem joinTail_snoc (ns : List (List UInt8)) (x : List UInt8) : Lib.joinTail [47] (ns ++ [x]) = Lib.joinTail [47] ns ++ 47 :: x := by simp [Lib.joinTail]
theorem joinTail_len (ns : List (List UInt8)) (h : ∀ x ∈ ns, x.length <= 59) : (Lib.joinTail [47] ns).length <= 60 * ns.length := by
 induction ns with
 | nil => simp [Lib.joinTail]
 | cons y r ih =>
  have h1 := ih (fun z hz => h z (List.mem_cons_of_mem _ hz))
  have h2 := h y List.mem_cons_self
  unfold Lib.joinTail at h1 ⊢
  rw [List.map_cons, List.flatten_cons, List.length_append, List.length_append, List.length_cons, List.length_cons]
  simp only [List.length_nil]
  omega
theorem append_data (p q : ByteArray) : (p ++ q).data.toList = p.data.toList ++ q.data.toList := by simp
theorem v7Join_any (xs : List ByteArray) (v : Value) (w : World) (h : RdT w v xs) (hsz : ∀ x ∈ xs, (x.size : Int) <= 9223372036854775807) : Calls Tryz.prog 9 #[v] w fun e w' => e = .returned (joinV (joinL (xs.map (·.data.toList)))) /\ w' = w := by
 have HR := hid h
 have HSz := hid hsz
 clear hsz
 obtain ⟨a, c, rfl, hc, hcm, hx⟩ := h
 clear hx
 have hxl : (xs.length : Int) <= 9223372036854775807 := by omega
 go_enter Tryz.func9, Tryz.ntmps9
 go_wp2
 go_loopw [4, 5] (fun sv i wr => ∃ k p, k <= xs.length /\ k <= 17 /\ i = .int .i64 k /\ sv = .string p /\ Hid (p.data.toList = Lib.joinTail [47] ((xs.take k).map (·.data.toList))) /\ Hid (∀ x ∈ xs.take k, nameL x.data.toList = true) /\ wr = w) (fun _ i _ => xs.length - (intOf i).toNat)
 case atStart => exact ⟨0, _, by omega, by omega, rfl, rfl, rfl, fun x hx => by simp at hx, rfl⟩
 case round =>
  obtain ⟨k, p, hk, hk17, rfl, rfl, HP, HO, rfl⟩ := hrel
  by_cases hlt : k < xs.length /\ k <= 16
  ·obtain ⟨hlt, hk16⟩ := hlt
   obtain ⟨a', c', e1, -, -, f1⟩ := HR.out
   simp only [Value.slice.injEq] at e1
   obtain ⟨rfl, -, rfl⟩ := e1
   obtain ⟨b0, o0, rfl, -, d0⟩ := f1 k hlt
   clear f1
   have hi0 : (0 : Int) <= (k : Int) := by omega
   have hi1 : (k : Int) < (xs.length : Int) := by omega
   have hi2 : (k : Int) <= 16 := by omega
   have htk : xs.take (k + 1) = xs.take k ++ [xs[k]] := List.take_succ_eq_append_getElem hlt
   have HYes : Hid (nameL xs[k].data.toList = true -> ∀ x ∈ xs.take (k + 1), nameL x.data.toList = true) := fun h0 x hx => by
    rw [htk] at hx
    rcases List.mem_append.1 hx with hx | hx
    ·exact HO.out x hx
    ·rw [List.mem_singleton.1 hx]; exact h0
   have HNo : Hid (nameL xs[k].data.toList = false -> joinL (xs.map (·.data.toList)) = none) := fun h0 => by
    unfold joinL
    rw [if_neg]
    rintro ⟨-, h2, -⟩
    have := h2 xs[k].data.toList (List.mem_map.2 ⟨xs[k], List.getElem_mem hlt, rfl⟩)
    rw [h0] at this
    cases this
   have hpl : p.size <= 1020 := by
    rw [Lib.size_eq, HP.out]
    have := joinTail_len ((xs.take k).map (·.data.toList)) (fun x hx => by
     obtain ⟨y, hy, rfl⟩ := List.mem_map.1 hx
     exact (nameL_len (HO.out y hy)).2)
    rw [List.length_map, List.length_take] at this
    omega
   have HPn : Hid ((p ++ ((⟨#[47]⟩ : ByteArray) ++ xs[k])).data.toList = Lib.joinTail [47] ((xs.take (k + 1)).map (·.data.toList))) := by
    unfold Hid
    rw [append_data, append_data, HP.out, htk, List.map_append, List.map_cons, List.map_nil, joinTail_snoc]
    rfl
   have hxl9 : nameL xs[k].data.toList = true -> xs[k].size <= 59 := fun h0 => by rw [Lib.size_eq]; exact (nameL_len h0).2
   clear htk
   obtain ⟨x, hx⟩ : ∃ x, x = xs[k] := ⟨_, rfl⟩
   rw [<- hx] at d0 HYes HNo HPn hxl9
   have hxs : (x.size : Int) <= 9223372036854775807 := by rw [hx]; exact HSz.out _ (List.getElem_mem hlt)
   have HN := hid (v7IsName_any x hxs wr)
   clear hx hxs
   cases hnm : nameL x.data.toList
   ·rw [hnm] at HN
    have HNn := hid (HNo.out hnm)
    clear HNo HYes hnm hxl9 HPn
    go_wp2_with fail
    refine HN.out.mono ?_
    rintro e w1 ⟨rfl, h1⟩
    obtain rfl := h1.symm
    clear h1 HN
    go_wp2
    go_returns
    exact ⟨by rw [HNn.out]; rfl, rfl⟩
   ·rw [hnm] at HN
    have HY := hid (HYes.out hnm)
    have hx9 := hxl9 hnm
    have hcat1 : ¬ ((9223372036854775807 : Int) < ((1 + x.size : Nat) : Int)) := by omega
    have hcat2 : ¬ ((9223372036854775807 : Int) < ((p.size + (1 + x.size) : Nat) : Int)) := by omega
    clear HNo HYes hnm hxl9
    go_wp2_with fail
    refine HN.out.mono ?_
    rintro e w1 ⟨rfl, h1⟩
    obtain rfl := h1.symm
    clear h1 HN
    go_wp2
    exact ⟨⟨k + 1, _, by omega, by omega, by go_num, rfl, HPn, HY, trivial⟩, by simp [intOf]; omega⟩
  ·have hall : k = xs.length -> ∀ x ∈ xs.map (·.data.toList), nameL x = true := fun e x hx => by
    obtain ⟨y, hy, rfl⟩ := List.mem_map.1 hx
    refine HO.out y ?_
    rw [e, List.take_length]; exact hy
   have HAll := hid hall
   have hpe : p.toList = Lib.joinTail [47] ((xs.take k).map (·.data.toList)) := by rw [Lib.toList_data, HP.out]
   have hps : p.size = (Lib.joinTail [47] ((xs.take k).map (·.data.toList))).length := by rw [Lib.size_eq, HP.out]
   have hpl : p.size <= 1020 := by
    have := joinTail_len ((xs.take k).map (·.data.toList)) (fun x hx => by
     obtain ⟨y, hy, rfl⟩ := List.mem_map.1 hx
     exact (nameL_len (HO.out y hy)).2)
    rw [List.length_map, List.length_take] at this
    omega
   clear hall
   by_cases h0 : xs.length = 0
   ·have e0 : xs = [] := List.eq_nil_of_length_eq_zero h0
    subst e0
    have hk0 : k = 0 := by simpa using hk
    subst hk0
    have q0 : p.toList = [] := by rw [hpe]; rfl
    clear hpe hps hpl HP HO HAll
    go_wp2
    go_returns
    exact ⟨rfl, rfl⟩
   ·have hk1 : 1 <= k := by omega
    have hne : (xs.take k).map (·.data.toList) ≠ [] := fun e => by
     have := congrArg List.length e
     rw [List.length_map, List.length_take, List.length_nil] at this
     omega
    rw [joinTail_cons _ hne] at hpe hps
    have q0 : ¬ p.toList = [] := by rw [hpe]; simp
    have q0' : (p.toList == []) = false := by rw [hpe]; rfl
    by_cases h16 : xs.length <= 16
    ·obtain rfl : k = xs.length := by omega
     have q1 : ¬ (xs.length : Int) < (xs.length : Int) := by omega
     have q2 : ¬ (16 : Int) < (xs.length : Int) := by omega
     rw [List.take_length] at hpe hps
     rw [List.length_cons] at hps
     have HE : Hid (p = ⟨(47 :: Lib.join (xs.map (·.data.toList)) [47]).toArray⟩) := by
      unfold Hid
      rw [Lib.toList_data] at hpe
      rw [<- hpe]
     have HJ1 : Hid ((Lib.join (xs.map (·.data.toList)) [47]).length <= 254 -> joinL (xs.map (·.data.toList)) = some (47 :: Lib.join (xs.map (·.data.toList)) [47])) := fun h2 => by unfold joinL; rw [if_pos ⟨by simp; omega, HAll.out rfl, h2⟩]
     have HJ2 : Hid (¬ (Lib.join (xs.map (·.data.toList)) [47]).length <= 254 -> joinL (xs.map (·.data.toList)) = none) := fun h2 => by unfold joinL; rw [if_neg (fun hh => h2 hh.2.2)]
     clear HP HO HAll hne hpe
     generalize Lib.join (xs.map (·.data.toList)) [47] = z at *
     by_cases h2 : z.length <= 254
     ·have q3 : ¬ (255 : Int) < (p.size : Int) := by omega
      have HN := hid (HJ1.out h2)
      clear HJ1 HJ2
      go_wp2
      go_returns
      exact ⟨by rw [HN.out, HE.out]; rfl, rfl⟩
     ·have q3 : (255 : Int) < (p.size : Int) := by omega
      have HN := hid (HJ2.out h2)
      clear HJ1 HJ2
      go_wp2
      go_returns
      exact ⟨by rw [HN.out]; rfl, rfl⟩
    ·have q2 : (16 : Int) < (xs.length : Int) := by omega
     have HN : Hid (joinL (xs.map (·.data.toList)) = none) := by unfold Hid joinL; rw [if_neg (by simp; omega)]
     obtain rfl : k = 17 := by omega
     clear HP HO HAll hne hpe hps
     by_cases h17 : xs.length = 17
     ·have q1 : ¬ (17 : Int) < (xs.length : Int) := by omega
      go_wp2
      go_returns
      exact ⟨by rw [HN.out]; rfl, rfl⟩
     ·have q1 : (17 : Int) < (xs.length : Int) := by omega
      go_wp2
      go_returns
      exact ⟨by rw [HN.out]; rfl, rfl⟩
end
section
set_option maxRecDepth 100000
set_option maxHeartbeats 4000000
open Go.RowKit
theorem RdT_of_row {w : World} {base : Nat} {v : Value} {xs : List (List UInt8)} (h : rowT w base v xs) : RdT w v (xs.map fun l => ⟨l.toArray⟩) := by
 rcases h.1.2 with ⟨e, h0⟩ | ⟨g, cap, cur, e, hbs, hb, h1, h2, h3, h4⟩
 ·subst e
  exact ⟨none, 0, by rw [List.length_map, h0], by rw [List.length_map]; omega, by omega, fun k hk => by rw [List.length_map] at hk; omega⟩
 ·subst e
  refine ⟨some ⟨g, 0, none⟩, cap, by rw [List.length_map], by rw [List.length_map]; exact h1, by unfold maxLen at h2; omega, fun k hk => ⟨g, 0, rfl, lt_of_heap hb, ?_⟩⟩
  have hk' : k < xs.length := by rw [List.length_map] at hk; exact hk
  rw [Nat.zero_add, h.1.cellAt k (by rw [Nat.mul_one]; exact hk'), strsD, List.getElem?_map, List.getElem?_eq_getElem hk', List.getElem_map]; rfl
theorem run_slice_d (s : ByteArray) (f i : Nat) (hf : f <= i) (hi : i <= s.size) (w : World) : (Instr.slice 9 (.string s) (some (.int .i64 (f : Int))) (some (.int .i64 (i : Int))) none).run Tryz.prog w = .ok (strD ((s.data.toList.drop f).take (i - f))) w := by
 have e : s.extract f i = ⟨((s.data.toList.drop f).take (i - f)).toArray⟩ := by
  rw [<- Lib.extract_data]
 unfold strD
 rw [<- e]
 have ht := Tryz.underlying9
 simp [Instr.slice, run_underlying ht, Instr.sliceBounds, run_sliceBound, (by omega : (0 : Int) <= (f : Int)), (by omega : (0 : Int) <= (i : Int)), hf, hi]
theorem v7Split_any (s : ByteArray) (w : World) : Calls Tryz.prog 7 #[.string s] w (SplitTo w (splitL s.data.toList)) := by
 have hsz := Lib.size_eq s
 obtain ⟨l, hl⟩ : ∃ l, l = s.data.toList := ⟨_, rfl⟩
 have HL := hid hl
 rw [<- hl] at hsz ⊢
 by_cases h1 : s.size < 1
 ·have q1 : (s.size : Int) < 1 := by omega
  have HN : Hid (splitL l = none) := by
   cases l with
   | nil => rfl
   | cons _ _ => rw [List.length_cons] at hsz; omega
  clear hl
  go_enter Tryz.func7, Tryz.ntmps7
  go_wp2
  go_returns
  rw [HN.out]
  exact SplitTo.none (Below.refl _ _)
 ·have q1 : ¬ (s.size : Int) < 1 := by omega
  by_cases h2 : 255 < s.size
  ·have q2 : (255 : Int) < (s.size : Int) := by omega
   have HN : Hid (splitL l = none) := by
    unfold Hid splitL
    split
    ·rw [if_pos (by simp at hsz; omega)]
    ·rfl
   clear hl
   go_enter Tryz.func7, Tryz.ntmps7
   go_wp2
   go_returns
   rw [HN.out]
   exact SplitTo.none (Below.refl _ _)
  ·have q2 : ¬ (255 : Int) < (s.size : Int) := by omega
   have hix0 := fun W => run_index_d s 0 W (by omega)
   rw [<- hl] at hix0
   cases l with
   | nil => rw [List.length_nil] at hsz; omega
   | cons c r =>
    rw [show (c :: r).getD 0 0 = c from rfl] at hix0
    have hix : ∀ W, (Instr.index 9 (.string s) (.int .i64 0)).run Tryz.prog W = .ok (.int .u8 (c.toNat : Int)) W := hix0
    have HSZ := hid hsz
    have hr : r.length <= 254 := by rw [List.length_cons] at hsz; omega
    clear hix0 hsz
    by_cases hc : c = 47
    ·subst hc
     have q3 : ((((47 : UInt8).toNat : Nat) : Int) != 47) = false := by decide
     by_cases h0 : r = []
     ·subst h0
      have q4 : s.toList = [47] := by rw [Lib.toList_data, <- hl]
      clear hl
      go_enter Tryz.func7, Tryz.ntmps7
      go_wp2
      go_returns
      exact SplitTo.some (Below.refl _ _) ⟨none, 0, rfl, by simp, by simp, fun k hk => by simp at hk⟩
     ·have q4 : ¬ s.toList = [47] := by rw [Lib.toList_data, <- hl]; simpa using h0
      have q4' : (s.toList == [47]) = false := beq_false_of_ne q4
      have HS : Hid (splitL (47 :: r) = if (segs r).length <= 16 /\ ∀ x ∈ segs r, nameL x = true then some (segs r) else none) := by
       unfold Hid
       show (if 254 < r.length then none else if r = [] then some [] else _) = _
       rw [if_neg (by omega), if_neg h0]
      have hixk : ∀ k, k < s.size -> ∀ W, (Instr.index 9 (.string s) (.int .i64 (k : Int))).run Tryz.prog W = .ok (.int .u8 (((47 :: r).getD k 0).toNat : Int)) W := fun k hk W => by
       have := run_index_d s k W hk
       rw [<- hl] at this
       exact this
      have HIx := hid hixk
      clear hl hixk
      go_enter Tryz.func7, Tryz.ntmps7
      go_wp2
      clear hix
      go_loopw [4, 5, 6] (fun ov fv iv wr => ∃ (i fr n : Nat) (oa : Option Addr) (oc : Nat) (out : List (List UInt8)), ov = .slice oa n oc /\ fv = .int .i64 fr /\ iv = .int .i64 i /\ n = out.length /\ n < 300 /\ i <= s.size + 1 /\ fr <= s.size + 1 /\ Hid (rowT wr w.heap.size (.slice oa n oc) out) /\ Hid (Below w.heap.size w wr) /\ Hid (∀ x ∈ out, nameL x = true) /\
       Hid ((i <= s.size /\ 1 <= fr /\ fr <= i /\ segs r = out ++ segs ((47 :: r).drop fr) /\ 47 ∉ ((47 :: r).drop fr).take (i - fr)) \/ (i = s.size + 1 /\ out = segs r))) (fun _ _ iv _ => s.size + 1 - (intOf iv).toNat)
      case atStart => exact ⟨1, 1, 0, none, 0, [], rfl, rfl, rfl, rfl, by omega, by omega, by omega, rowT_nil _ _, Below.refl _ _, fun x hx => by simp at hx, .inl ⟨by omega, by omega, by omega, rfl, by simp⟩⟩
      case round =>
       obtain ⟨i, fr, n, oa, oc, out, rfl, rfl, rfl, hn, hn3, hi, hfr, HR, HB, HO, HI⟩ := hrel
       rcases HI.out with ⟨hi2, hf1, hfi, hsg, hno⟩ | ⟨rfl, hout⟩
       ·have qi : (i : Int) <= (s.size : Int) := by omega
        obtain ⟨sg, hsgd⟩ : ∃ sg, sg = ((47 :: r).drop fr).take (i - fr) := ⟨_, rfl⟩
        rw [<- hsgd] at hno
        have hln : (47 :: r).length = s.size := HSZ.out.symm
        by_cases hend : i = s.size
        ·have qe : ((i : Int) == (s.size : Int)) = true := by rw [hend]; simp
         have hdr : (47 :: r).drop fr = sg := by
          rw [hsgd, List.take_of_length_le]
          rw [List.length_drop]; omega
         have hsv : segs ((47 :: r).drop fr) = [sg] := by rw [hdr]; exact (segs_free sg [] hno).2
         have HNx : Hid (nameL sg = true -> (i + 1 <= s.size /\ 1 <= i + 1 /\ i + 1 <= i + 1 /\ segs r = (out ++ [sg]) ++ segs ((47 :: r).drop (i + 1)) /\ 47 ∉ ((47 :: r).drop (i + 1)).take (i + 1 - (i + 1))) \/ (i + 1 = s.size + 1 /\ out ++ [sg] = segs r)) := fun _ => .inr ⟨by omega, by rw [hsg, hsv]⟩
         clear hln hdr hend
         have hslice := fun W => run_slice_d s fr i hfi hi2 W
         rw [<- HL.out, <- hsgd] at hslice
         have hsgl : sg.length <= 300 := by rw [hsgd, List.length_take]; have := HSZ.out; rw [List.length_cons] at this; omega
         have HN := hid (v7IsName_any ⟨sg.toArray⟩ (by rw [size_strD]; omega) wr)
         rw [show (⟨sg.toArray⟩ : ByteArray).data.toList = sg from rfl] at HN
         unfold strD at hslice
         cases hnm : nameL sg
         ·have HNn : Hid (splitL (47 :: r) = none) := by
           unfold Hid
           rw [HS.out, if_neg]
           rintro ⟨-, hh⟩
           have := hh sg (by rw [hsg, hsv]; simp)
           rw [hnm] at this
           cases this
          rw [hnm] at HN
          clear HS HI HO hnm hsg hsv hno hsgd hsgl HIx HNx
          go_wp2_with fail
          refine HN.out.mono ?_
          rintro e w1 ⟨rfl, h1⟩
          obtain rfl := h1.symm
          clear h1 HN
          go_wp2
          go_returns
          rw [HNn.out]
          exact SplitTo.none HB.out
         ·have HX := hid (HNx.out hnm)
          have hs9 := (nameL_len hnm).2
          have HO1 : Hid (∀ x ∈ out ++ [sg], nameL x = true) := fun x hx => by
           rcases List.mem_append.1 hx with hx | hx
           ·exact HO.out x hx
           ·rw [List.mem_singleton.1 hx]; exact hnm
          rw [hnm] at HN
          have hb4 := (Below.refl wr.heap.size wr).alloc (Nat.le_refl _) (.cells #[.string ⟨sg.toArray⟩] 9)
          have HR4 := hid (HR.out.below hb4)
          have HB4 := hid (HB.out.trans (hb4.mono HB.out.size))
          have HX4 : Hid ((wr.alloc (.cells #[.string ⟨sg.toArray⟩] 9)).cell? ⟨wr.heap.size, 0, none⟩ = some (strD sg)) := cell_of_block (block_new wr _) 0
          have HV4 : Hid (w.heap.size <= (wr.alloc (.cells #[.string ⟨sg.toArray⟩] 9)).heap.size) := by have := HB.out.size; unfold Hid; rw [World.size_alloc]; omega
          have HS9 := hid hs9
          have HNl : Hid (out.length < 4096) := by unfold Hid; omega
          clear HS HI HO hnm hsg hsv hno hsgd hsgl HIx HNx hb4 HR HB hs9
          subst hn
          go_wp2_with fail
          refine HN.out.mono ?_
          rintro e w1 ⟨rfl, h1⟩
          obtain rfl := h1.symm
          clear h1 HN
          go_wp2_with (refine wpList_append_str rfl (.tmp 44) (.tmp 49) rfl rfl sg HS9.out wr.heap.size 1 rfl HR4.out HX4.out HNl.out HV4.out ?_; intro g9 cp9 w9 hr9 hgr9 _; have HR9 := hid hr9; have HB9 := hid (HB4.out.grown hgr9 HV4.out (fun k e => (HR4.out.1.lt k e).1)); clear hgr9 hr9)
          have hsl9 : (segs r).length <= 255 := by have := List.count_le_length (a := (47 : UInt8)) (l := r); rw [segs_length]; omega
          have hn9 : out.length + 1 < 300 := by
           rcases HX.out with hh | hh
           ·have := congrArg List.length hh.2.2.2.1
            rw [List.length_append, List.length_append, List.length_singleton] at this
            omega
           ·have := congrArg List.length hh.2
            rw [List.length_append, List.length_singleton] at this
            omega
          exact ⟨⟨i + 1, i + 1, _, _, _, out ++ [sg], rfl, by go_num, by go_num, by simp, hn9, by omega, by omega, HR9, HB9, HO1, HX⟩, by simp [intOf]; omega⟩
        ·have qe : ((i : Int) == (s.size : Int)) = false := beq_false_of_ne (by omega)
         have hilt : i < s.size := by omega
         have hixi := HIx.out i hilt
         have hil : i < (47 :: r).length := by rw [hln]; exact hilt
         have hgi : (47 :: r).getD i 0 = (47 :: r)[i] := by rw [List.getD_eq_getElem?_getD, List.getElem?_eq_getElem hil, Option.getD_some]
         have hdr : (47 :: r).drop fr = sg ++ (47 :: r)[i] :: (47 :: r).drop (i + 1) := by
          have e1 : (47 :: r).drop fr = ((47 :: r).drop fr).take (i - fr) ++ ((47 :: r).drop fr).drop (i - fr) := (List.take_append_drop _ _).symm
          rw [List.drop_drop, show fr + (i - fr) = i by omega, <- hsgd, List.drop_eq_getElem_cons hil] at e1
          exact e1
         rw [<- hgi] at hdr
         generalize (47 :: r).getD i 0 = x at *
         by_cases hx : x = 47
         ·have qx : ((x.toNat : Int) == 47) = true := by rw [hx]; rfl
          have hsv : segs ((47 :: r).drop fr) = sg :: segs ((47 :: r).drop (i + 1)) := by rw [hdr, hx]; exact (segs_free sg _ hno).1
          have HNx : Hid (nameL sg = true -> (i + 1 <= s.size /\ 1 <= i + 1 /\ i + 1 <= i + 1 /\ segs r = (out ++ [sg]) ++ segs ((47 :: r).drop (i + 1)) /\ 47 ∉ ((47 :: r).drop (i + 1)).take (i + 1 - (i + 1))) \/ (i + 1 = s.size + 1 /\ out ++ [sg] = segs r)) := fun _ => .inl ⟨by omega, by omega, by omega, by rw [hsg, hsv]; simp, by simp⟩
          clear hln hdr hend hgi hil hx
          have hslice := fun W => run_slice_d s fr i hfi hi2 W
          rw [<- HL.out, <- hsgd] at hslice
          have hsgl : sg.length <= 300 := by rw [hsgd, List.length_take]; have := HSZ.out; rw [List.length_cons] at this; omega
          have HN := hid (v7IsName_any ⟨sg.toArray⟩ (by rw [size_strD]; omega) wr)
          rw [show (⟨sg.toArray⟩ : ByteArray).data.toList = sg from rfl] at HN
          unfold strD at hslice
          cases hnm : nameL sg
          ·have HNn : Hid (splitL (47 :: r) = none) := by
            unfold Hid
            rw [HS.out, if_neg]
            rintro ⟨-, hh⟩
            have := hh sg (by rw [hsg, hsv]; simp)
            rw [hnm] at this
            cases this
           rw [hnm] at HN
           clear HS HI HO hnm hsg hsv hno hsgd hsgl HIx HNx
           go_wp2_with fail
           refine HN.out.mono ?_
           rintro e w1 ⟨rfl, h1⟩
           obtain rfl := h1.symm
           clear h1 HN
           go_wp2
           go_returns
           rw [HNn.out]
           exact SplitTo.none HB.out
          ·have HX := hid (HNx.out hnm)
           have hs9 := (nameL_len hnm).2
           have HO1 : Hid (∀ x ∈ out ++ [sg], nameL x = true) := fun x hx => by
            rcases List.mem_append.1 hx with hx | hx
            ·exact HO.out x hx
            ·rw [List.mem_singleton.1 hx]; exact hnm
           rw [hnm] at HN
           have hb4 := (Below.refl wr.heap.size wr).alloc (Nat.le_refl _) (.cells #[.string ⟨sg.toArray⟩] 9)
           have HR4 := hid (HR.out.below hb4)
           have HB4 := hid (HB.out.trans (hb4.mono HB.out.size))
           have HX4 : Hid ((wr.alloc (.cells #[.string ⟨sg.toArray⟩] 9)).cell? ⟨wr.heap.size, 0, none⟩ = some (strD sg)) := cell_of_block (block_new wr _) 0
           have HV4 : Hid (w.heap.size <= (wr.alloc (.cells #[.string ⟨sg.toArray⟩] 9)).heap.size) := by have := HB.out.size; unfold Hid; rw [World.size_alloc]; omega
           have HS9 := hid hs9
           have HNl : Hid (out.length < 4096) := by unfold Hid; omega
           clear HS HI HO hnm hsg hsv hno hsgd hsgl HIx HNx hb4 HR HB hs9
           subst hn
           go_wp2_with fail
           refine HN.out.mono ?_
           rintro e w1 ⟨rfl, h1⟩
           obtain rfl := h1.symm
           clear h1 HN
           go_wp2_with (refine wpList_append_str rfl (.tmp 44) (.tmp 49) rfl rfl sg HS9.out wr.heap.size 1 rfl HR4.out HX4.out HNl.out HV4.out ?_; intro g9 cp9 w9 hr9 hgr9 _; have HR9 := hid hr9; have HB9 := hid (HB4.out.grown hgr9 HV4.out (fun k e => (HR4.out.1.lt k e).1)); clear hgr9 hr9)
           have hsl9 : (segs r).length <= 255 := by have := List.count_le_length (a := (47 : UInt8)) (l := r); rw [segs_length]; omega
           have hn9 : out.length + 1 < 300 := by
            rcases HX.out with hh | hh
            ·have := congrArg List.length hh.2.2.2.1
             rw [List.length_append, List.length_append, List.length_singleton] at this
             omega
            ·have := congrArg List.length hh.2
             rw [List.length_append, List.length_singleton] at this
             omega
           exact ⟨⟨i + 1, i + 1, _, _, _, out ++ [sg], rfl, by go_num, by go_num, by simp, hn9, by omega, by omega, HR9, HB9, HO1, HX⟩, by simp [intOf]; omega⟩
         ·have qx : ((x.toNat : Int) == 47) = false := beq_false_of_ne (fun e => hx (by
           have e' : x.toNat = 47 := by omega
           exact UInt8.toNat_inj.1 (by rw [e']; rfl)))
          have hx47 : x ≠ 47 := hx
          have HI2 : Hid ((i + 1 <= s.size /\ 1 <= fr /\ fr <= i + 1 /\ segs r = out ++ segs ((47 :: r).drop fr) /\ 47 ∉ ((47 :: r).drop fr).take (i + 1 - fr)) \/ (i + 1 = s.size + 1 /\ out = segs r)) := by
           refine .inl ⟨by omega, hf1, by omega, hsg, ?_⟩
           have hsl : sg.length = i - fr := by rw [hsgd, List.length_take, List.length_drop]; omega
           rw [hdr, show i + 1 - fr = sg.length + 1 by omega, List.take_append, List.take_of_length_le (by omega), show sg.length + 1 - sg.length = 1 by omega, List.take_succ_cons, List.take_zero]
           simp only [List.mem_append, List.mem_singleton]
           rintro (h | h)
           ·exact hno h
           ·exact hx47 h.symm
          have HNn : Hid (n < 300 /\ n = out.length) := ⟨hn3, hn⟩
          clear HI hsg hno hsgd hdr hln hgi hil hx hx47 HIx
          go_wp2
          exact ⟨⟨i + 1, fr, n, oa, oc, out, rfl, rfl, by go_num, HNn.out.2, HNn.out.1, by omega, by omega, HR, HB, HO, HI2⟩, by simp [intOf]; omega⟩
       ·have qi : ¬ ((s.size + 1 : Nat) : Int) <= (s.size : Int) := by omega
        have qi' : ¬ ((s.size : Int) + 1) <= (s.size : Int) := by omega
        have HRd := hid (RdT_of_row (by rw [hn] at HR; exact HR.out))
        rw [<- hn] at HRd
        have hall : ∀ x ∈ segs r, nameL x = true := by rw [<- hout]; exact HO.out
        rw [hout] at HRd hn
        by_cases h16 : (segs r).length <= 16
        ·have q5 : ¬ (16 : Int) < (n : Int) := by omega
         have HN : Hid (splitL (47 :: r) = some (segs r)) := by unfold Hid; rw [HS.out, if_pos ⟨h16, hall⟩]
         clear HS hall hout hn HI HIx
         go_wp2
         go_returns
         rw [HN.out]
         exact SplitTo.some HB.out HRd.out
        ·have q5 : (16 : Int) < (n : Int) := by omega
         have HN : Hid (splitL (47 :: r) = none) := by unfold Hid; rw [HS.out, if_neg (fun hh => h16 hh.1)]
         clear HS hall hout hn HI HIx
         go_wp2
         go_returns
         rw [HN.out]
         exact SplitTo.none HB.out
    ·have q3 : ((c.toNat : Int) != 47) = true := bne_iff_ne.2 (fun e => hc (by
      have e' : c.toNat = 47 := by omega
      exact UInt8.toNat_inj.1 (by rw [e']; rfl)))
     have q3' : ((c.toNat : Int) == 47) = false := by rw [bne, Bool.not_eq_true'] at q3; exact q3
     have q3'' : ¬ (c.toNat : Int) = 47 := by simpa using q3'
     have HN : Hid (splitL (c :: r) = none) := by
      unfold Hid splitL
      split
      ·rename_i h; cases h; exact absurd rfl hc
      ·rfl
     clear hl
     go_enter Tryz.func7, Tryz.ntmps7
     go_wp2
     go_returns
     rw [HN.out]
     exact SplitTo.none (Below.refl _ _)
end
section
set_option maxRecDepth 100000
set_option maxHeartbeats 4000000
open Go.RowKit
theorem splitTo_form {w w' : World} {o : Option (List (List UInt8))} {e : Ending} (h : SplitTo w o e w') : Below w.heap.size w w' /\ ∃ a c, e = .returned (.tuple #[.slice a ((o.getD []).map fun l => (⟨l.toArray⟩ : ByteArray)).length c, .int .i64 (if o.isSome then 0 else 8)]) /\ RdT w' (.slice a ((o.getD []).map fun l => (⟨l.toArray⟩ : ByteArray)).length c) ((o.getD []).map fun l => ⟨l.toArray⟩) := by
 obtain ⟨hb, h⟩ := h
 refine ⟨hb, ?_⟩
 cases o with
 | none => exact ⟨none, 0, h, none, 0, rfl, by simp, by simp, fun k hk => by simp at hk⟩
 | some ns =>
  obtain ⟨v, rfl, hr⟩ := h
  have hr' := hr
  obtain ⟨a, c, rfl, -⟩ := hr
  exact ⟨a, c, rfl, hr'⟩
theorem joinV_form (o : Option (List UInt8)) : ∃ p k, joinV o = .tuple #[.string p, .int .i64 k] := by
 cases o with
 | none => exact ⟨_, _, rfl⟩
 | some p => exact ⟨_, _, rfl⟩
theorem dirPaths_walk (s : ByteArray) (hs : (s.size : Int) <= 9223372036854775807) (v : Value) (xs : List ByteArray) (w : World) (hr : RdT w v xs) (hsz : ∀ x ∈ xs, (x.size : Int) <= 9223372036854775807) (hV : ∃ m, w.cell? ⟨0, 0, none⟩ = some (.int .i64 m)) : Calls Tryz.prog 3 #[.string s, v] w fun e w' => e = .returned (.bool true) /\ Below w.heap.size w w' := by
 have HV : Hid (∀ W, Below w.heap.size w W -> ∃ m, W.cell? ⟨0, 0, none⟩ = some (.int .i64 m)) := fun W hb => hV.imp fun m hm => (World.cell?_of_block (w := w) (hb.block 0 (World.block_lt_of_cell? w _ hm))).trans hm
 have HR := hid hr
 have HSz := hid hsz
 obtain ⟨a, c, rfl, -⟩ := hr
 have HSp := hid (dSplit_any s hs w hV)
 have HS1 := hid (fun W => v7Split_any s W)
 have HN1 := hid (fun W => dIsName_all s W)
 have HN2 := hid (fun W => v7IsName_any s hs W)
 rw [nameOk_eq] at HN1
 generalize splitL s.data.toList = o at *
 generalize nameL s.data.toList = y at *
 obtain ⟨p, k, hpk⟩ := joinV_form (joinL (xs.map (·.data.toList)))
 have HPk := hid hpk
 have hk : (k == k) = true := by simp
 have hpp : (p.toList == p.toList) = true := by simp
 have hyy : (y == y) = true := by simp
 clear hV hsz hpk hs
 go_enter Tryz.func3, Tryz.ntmps3
 go_wp2_with fail
 refine HSp.out.mono ?_
 clear HSp
 rintro e w1 hto
 obtain ⟨hb1, a1, c1, rfl, hr1⟩ := splitTo_form hto
 have HR1 := hid hr1
 have HB1 := hid hb1
 have HS2 := hid (HS1.out w1)
 clear hto hr1 hb1 HS1
 obtain ⟨q, hq⟩ : ∃ q : Int, q = (if o.isSome then 0 else 8) := ⟨_, rfl⟩
 obtain ⟨n, hn⟩ : ∃ n, n = ((o.getD []).map fun l => (⟨l.toArray⟩ : ByteArray)).length := ⟨_, rfl⟩
 have HQ := hid hq
 have HN := hid hn
 have hqq : (q == q) = true := by simp
 rw [<- hq, <- hn]
 rw [<- hn] at HR1
 clear hq hn
 go_wp2_with fail
 refine HS2.out.mono ?_
 clear HS2
 rintro e w2 hto
 obtain ⟨hb2, a2, c2, rfl, hr2⟩ := splitTo_form hto
 rw [<- HQ.out, <- HN.out]
 rw [<- HN.out] at hr2
 have HR2 := hid hr2
 have HR1 := hid (HR1.out.up hb2)
 have HB2 := hid (HB1.out.trans (hb2.mono HB1.out.size))
 clear hto hr2 hb2 HB1
 have HJ := hid (dJoin_any xs _ w2 (HR.out.up HB2.out))
 rw [HPk.out] at HJ
 go_wp2_with fail
 refine HJ.out.mono ?_
 clear HJ
 rintro e w3 ⟨rfl, hb3⟩
 have HR1 := hid (HR1.out.up hb3)
 have HR2 := hid (HR2.out.up hb3)
 have HB3 := hid (HB2.out.trans (hb3.mono HB2.out.size))
 clear hb3 HB2
 have HJ := hid (v7Join_any xs _ w3 (HR.out.up HB3.out) HSz.out)
 rw [HPk.out] at HJ
 go_wp2_with fail
 refine HJ.out.mono ?_
 clear HJ
 rintro e w4 ⟨rfl, h4⟩
 obtain rfl := h4.symm
 clear h4
 go_wp2_with fail
 refine (l7live_any w3 (HV.out _ HB3.out)).mono ?_
 rintro e w5 ⟨rfl, hb5⟩
 have HR1 := hid (HR1.out.up hb5)
 have HR2 := hid (HR2.out.up hb5)
 have HB5 := hid (HB3.out.trans (hb5.mono HB3.out.size))
 clear hb5 HB3
 go_wp2_with fail
 refine (HN1.out w5).mono ?_
 clear HN1
 rintro e w6 ⟨rfl, hb6⟩
 have HR1 := hid (HR1.out.up hb6)
 have HR2 := hid (HR2.out.up hb6)
 have HB6 := hid (HB5.out.trans (hb6.mono HB5.out.size))
 clear hb6 HB5
 go_wp2_with fail
 refine (HN2.out w6).mono ?_
 clear HN2
 rintro e w7 ⟨rfl, h7⟩
 obtain rfl := h7.symm
 clear h7
 have HSt := hid (stexts_true _ _ _ w6 HR1.out HR2.out)
 go_wp2_with fail
 refine HSt.out.mono ?_
 clear HSt
 rintro e w8 ⟨rfl, hb8⟩
 have HB8 := hid (HB6.out.trans (hb8.mono HB6.out.size))
 clear hb8 HB6
 go_wp2
 go_ret
 exact ⟨rfl, HB8.out⟩
end
end Go.Proofs.YtobnmldcabfmnaaGreatDoor
