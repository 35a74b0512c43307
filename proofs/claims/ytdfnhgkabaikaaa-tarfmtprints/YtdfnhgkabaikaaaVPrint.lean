/- The reference: Print. -/
import Derived.Test.YtdfnhgkabaikaaaVHeadW
import Derived.Test.YtdfnhgkabaikaaaVRefB
import Derived.Test.YtdfnhgkabaikaaaVZero
namespace Go.Proofs.Ytdfnhgkabaikaaa
open Go.RowKit
theorem PrE.uniq {l : List (EN × Value)} {a b : Int} (ha : PrE l a) (hb : PrE l b) : a = b := by
  cases ha with
  | bad k hk hx hn =>
    cases hb with
    | bad k' hk' hx' hn' =>
      rcases Nat.lt_trichotomy k k' with h | h | h
      · exact absurd (hx' k hk h) hn
      · subst h; rfl
      · exact absurd (hx k' hk' h) hn'
    | long hr _ => exact absurd (hr k hk) hn
  | long hr h =>
    cases hb with
    | bad k' hk' hx' hn' => exact absurd (hr k' hk') hn'
    | long => rfl
theorem PrE.not {l : List (EN × Value)} {a : Int} (ha : PrE l a) (hr : ∀ i (hi : i < l.length), rightE l[i].1 = 0) (h1 : l.length ≤ 256) (h2 : sizeTo l l.length ≤ 60000) : False := by
  cases ha with
  | bad k hk hx hn => exact hn (hr k hk)
  | long _ h => omega
/-- An entry's bytes: header, data, noughts. -/
theorem blkE_parts {e : EN} (he : rightE e = 0) : blkE e = (blkE e).take 512 ++ (e.data ++ List.replicate (filledN e.data.length - e.data.length) 0) := by
  obtain ⟨p, r, s, hd, -⟩ := blkE_hd he []
  rw [List.append_nil] at hd
  have hl := blkE_len he
  have h1 := hd.f512
  have h2 := hd.fpad
  rw [Nat.zero_add] at h1 h2
  have hF : e.data.length ≤ filledN e.data.length := by unfold filledN; omega
  have h3 : (blkE e).drop 512 = fld (blkE e) 512 e.data.length ++ fld (blkE e) (512 + e.data.length) (filledN e.data.length - e.data.length) := by
    have st : ∀ o n, (blkE e).drop o = fld (blkE e) o n ++ (blkE e).drop (o + n) := fun o n => by
      unfold fld
      rw [← List.drop_drop, List.take_append_drop]
    rw [st 512 e.data.length, st (512 + e.data.length) (filledN e.data.length - e.data.length), List.drop_of_length_le (by rw [hl]; unfold bsz; omega), List.append_nil]
  conv => lhs; rw [← List.take_append_drop 512 (blkE e), h3, h1, h2]
/-- What the reference's Print tells. -/
def FPrintTo (w : World) (l : List (EN × Value)) (e : Ending) (w' : World) : Prop :=
  Below w.heap.size w w' ∧ ((∃ er, PrE l er ∧ e = .returned (.tuple #[.slice none 0 0, .int .i64 er])) ∨
    ((∀ i (hi : i < l.length), rightE l[i].1 = 0) ∧ l.length ≤ 256 ∧ sizeTo l l.length ≤ 60000 ∧ ∃ v, e = .returned (.tuple #[v, .int .i64 0]) ∧ Buf w.heap.size w w' v (tarB (l.map Prod.fst))))
theorem fheader_any (x : EN) (ao : Option Addr) (cap : Nat) (w : World) (he : rightE x = 0) :
    Calls Try.prog 22 #[.agg #[str x.name, .int .i64 x.kind, .int .i64 x.mode, str x.link, .slice ao x.data.length cap]] w fun e w' => ∃ g, e = .returned (.slice (some ⟨g, 0, none⟩) 512 512) ∧ Below w.heap.size w w' ∧ blkB w' g ((blkE x).take 512) := by
  obtain ⟨nm, kd, mo, lk, da⟩ := x
  have h1 := right_all he
  obtain ⟨⟨p, r⟩, hp⟩ := Option.isSome_iff_exists.1 h1.2.2.2.2.2.1
  obtain ⟨md, rfl⟩ : ∃ md : Nat, mo = (md : Int) := ⟨mo.toNat, by have := h1.2.2.1; simp only at this; omega⟩
  refine (fheader_go nm lk da kd md ao da.length cap w p r he hp rfl).mono ?_
  rintro e w' ⟨g, rfl, -, hB, hb⟩
  exact ⟨g, rfl, hB, hb⟩
/-- append of bytes, be it none, to bytes of one's own that are some. -/
theorem wpList_append_buf0 {w0 w : World} {ops : Array Oper} {rest : List Oper} {o : Oper} {a : Act} {Q : Exit → Act → World → Prop} (hwd : Region.wanted o (yielded ops a.tmps) = true) (s x : Operand)
    (ho : o.op = .call { callee := .builtin .append, args := #[s, x], argTypes := #[23, 23] }) (K : Nat) (v xv : Value) (bs cs : List UInt8) (hs : a.eval s = v) (hown : Buf K w0 w v bs) (hb0 : 0 < bs.length) (hx : a.eval x = xv) (hr : Rd w xv cs) (hn : bs.length + cs.length ≤ 1000000)
    (h : ∀ v' w', Buf K w0 w' v' (bs ++ cs) → Below K w w' → wpList Try.prog ops Q rest (a.put o.dst v') w') : wpList Try.prog ops Q (o :: rest) a w := by
  by_cases h0 : cs = []
  · subst h0
    obtain ⟨i0, hi, hz0, hz1, hz2⟩ := info_parts infoU
    obtain ⟨ao, cap, rfl, -⟩ := hr
    rw [List.append_nil] at h
    have hrun : (Builtin.append_ #[23, 23] o.type #[v, .slice ao ([] : List UInt8).length cap]).run Try.prog w = .ok v w := by
      rcases hown.1.2 with ⟨-, h1⟩ | ⟨g, cap, cur, fz, rfl, -, -, -, hle, -⟩
      · omega
      · exact run_append_more _ o.type _ i0 Try.underlying23 hi _ _ cap hle ao _
    unfold wpList
    rw [if_pos hwd]
    refine .inl ?_
    unfold Oper.wp execOp
    simp only [ho, resolve, invoke, builtin, Sem.run_bind, Sem.run_pure, Result.andThen_ok, List.map_toArray, List.map_cons, List.map_nil, hs, hx, hrun]
    exact h v w hown (Below.refl _ _)
  · exact wpList_append_buf hwd s x ho K v xv bs cs hs hown hx hr (List.length_pos_iff.2 h0) hn h
theorem buf_up {K : Nat} {w0 w w' : World} {v : Value} {bs : List UInt8} (h : Buf K w0 w v bs) (hB : Below w.heap.size w w') : Buf K w0 w' v bs := by
  refine ⟨⟨h.1.1, ?_⟩, h.2.1.trans (hB.mono h.2.2), Nat.le_trans h.2.2 hB.size⟩
  rcases h.1.2 with h1 | ⟨g, cap, cur, fz, e, hg, hh, r⟩
  · exact .inl h1
  · exact .inr ⟨g, cap, cur, fz, e, hg, (hB.block g (lt_of_heap hh)).trans hh, r⟩
def lenV : Value → Nat
  | .slice _ n _ => n
  | _ => 0
theorem Buf.slice {K : Nat} {w0 w : World} {v : Value} {bs : List UInt8} (h : Buf K w0 w v bs) : ∃ a c, v = .slice a bs.length c := by
  obtain ⟨ao, cap, e, -⟩ := Rd.of_buf h
  exact ⟨ao, cap, e⟩
theorem szs_mod (l : List EN) : szs l % 512 = 0 := by
  induction l with
  | nil => rfl
  | cons e l ih =>
    show (bsz e + szs l) % 512 = 0
    unfold bsz filledN
    omega
theorem flat_take_next {l : List (EN × Value)} {k : Nat} (hk : k < l.length) : flat ((l.take (k + 1)).map Prod.fst) = flat ((l.take k).map Prod.fst) ++ blkE l[k].1 := by
  rw [List.take_succ_eq_append_getElem hk, List.map_append, flat_append, List.map_cons, List.map_nil, flat_one]
set_option maxHeartbeats 4000000 in
set_option maxRecDepth 100000 in
theorem fprint_any (l : List (EN × Value)) (la : Option Addr) (lc : Nat) (w : World) (h : entsAt w la l) (hl : l.length ≤ 1954687338212) :
    Calls Try.prog 10 #[.slice la l.length lc] w (FPrintTo w l) := by
  have H := hid h
  have HL := hid hl
  have hmx : (l.length : Int) ≤ 9223372036854775000 := by omega
  clear h hl
  go_enter Try.func10, Try.ntmps10
  go_wp2
  go_loopw [5] (fun i wr => ∃ k : Nat, k ≤ l.length ∧ i = .int .i64 k ∧ Hid (∀ j (hj : j < l.length), j < k → rightE l[j].1 = 0) ∧ Hid (Below w.heap.size w wr)) (fun i _ => l.length - (intOf i).toNat)
  case atStart => exact ⟨0, by omega, rfl, (fun j _ hj => by omega), Below.refl _ _⟩
  case round =>
    obtain ⟨k, hk, rfl, hR, hB⟩ := hrel
    by_cases hlt : k < l.length
    · have hi0 : (0 : Int) ≤ (k : Int) := by omega
      have hi1 : (k : Int) < (l.length : Int) := by omega
      obtain ⟨b, o, rfl, -, hrg, hrd⟩ := (H.out.up hB.out) k hlt
      obtain ⟨c0, c1, c2, c3, c4⟩ := rangeAt5 hrg
      have HNx : Hid (rightE l[k].1 = 0 → ∀ j (hj : j < l.length), j < k + 1 → rightE l[j].1 = 0) := fun h0 j hj hjk => by
        by_cases e : j = k
        · subst e; exact h0
        · exact hR.out j hj (by omega)
      have HBad : Hid (rightE l[k].1 ≠ 0 → PrE l (rightE l[k].1)) := fun hn => .bad k hlt (fun i hi hik => hR.out i hi hik) hn
      obtain ⟨da, dc, hdv, hd1, hd2, -⟩ := hrd
      rw [hdv] at c4
      have HRt := hid (fRight_any l[k].1.name l[k].1.link l[k].1.data l[k].1.kind l[k].1.mode da l[k].1.data.length dc wr rfl (by omega))
      generalize l[k].1 = x at *
      clear hrg hdv hR
      go_wp2_with fail
      refine HRt.out.mono ?_
      rintro e w2 ⟨rfl, hB2⟩
      have HB2 : Hid (Below w.heap.size w w2) := hB.out.trans (hB2.mono hB.out.size)
      clear HRt hB2 c0 c1 c2 c3 c4 hB hd1 hd2
      by_cases h0 : rightE x = 0
      · have HN := hid (HNx.out h0)
        rw [h0]
        clear HNx HBad h0
        go_wp2
        exact ⟨⟨k + 1, by omega, by go_num, HN, HB2⟩, by simp [intOf]; omega⟩
      · have HN := hid (HBad.out h0)
        have hne : (rightE x != 0) = true := bne_iff_ne.2 h0
        generalize rightE x = rx at *
        clear HNx HBad h0
        go_wp2
        go_ret2
        exact ⟨HB2.out, .inl ⟨_, HN.out, rfl⟩⟩
    · have hge : ¬ ((k : Int) < (l.length : Int)) := by omega
      have HR : Hid (∀ j (hj : j < l.length), rightE l[j].1 = 0) := fun j hj => hR.out j hj (by omega)
      clear hR
      by_cases h256 : l.length > 256
      · have q1 : (l.length : Int) > 256 := by omega
        have HN : Hid (PrE l 6) := .long HR.out (.inl h256)
        go_wp2
        go_ret2
        exact ⟨hB.out, .inl ⟨_, HN.out, rfl⟩⟩
      · have q1 : ¬ ((l.length : Int) > 256) := by omega
        have H256 : Hid (l.length ≤ 256) := by unfold Hid; omega
        clear h256
        go_wp2
        go_loopw [4, 7] (fun s i wr => ∃ k : Nat, k ≤ l.length ∧ i = .int .i64 k ∧ s = .int .i64 (sizeTo l k : Nat) ∧ Hid (sizeTo l k ≤ 60000) ∧ Hid (Below w.heap.size w wr)) (fun _ i _ => l.length - (intOf i).toNat)
        case atStart => exact ⟨0, by omega, rfl, rfl, by show sizeTo l 0 ≤ 60000; unfold sizeTo; simp, hB⟩
        case round =>
          obtain ⟨k2, hk2, rfl, rfl, hS, hB2⟩ := hrel
          by_cases hlt2 : k2 < l.length
          · have hi0 : (0 : Int) ≤ (k2 : Int) := by omega
            have hi1 : (k2 : Int) < (l.length : Int) := by omega
            obtain ⟨b, o, rfl, -, hrg, hrd⟩ := (H.out.up hB2.out) k2 hlt2
            obtain ⟨-, -, -, -, c4⟩ := rangeAt5 hrg
            have hD : l[k2].1.data.length ≤ 70656 := right_data (HR.out k2 hlt2)
            obtain ⟨da, dc, hdv, -⟩ := hrd
            rw [hdv] at c4
            have HN := hid (sizeTo_next hlt2)
            have HMo := hid (sizeTo_mono (l := l) (k := k2 + 1) (m := l.length) (by omega) (Nat.le_refl _))
            have hsz : sizeTo l k2 ≤ 60000 := hS.out
            generalize sizeTo l k2 = sm at *
            generalize l[k2].1.data.length = D at *
            have hd0 : (0 : Int) ≤ (D : Int) + 511 := by omega
            have hE : ((D : Int) + 511) / 512 * 512 = (filledN D : Nat) := by unfold filledN; omega
            have hF : (filledN D : Nat) ≤ 71680 := by unfold filledN; omega
            have hmb : k2 < 300 := by have := H256.out; omega
            clear hrg hdv hS
            by_cases h6 : sm + (512 + filledN D) > 60000
            · have q6 : (sm : Int) + (512 + (filledN D : Int)) > 60000 := by omega
              have HP : Hid (PrE l 6) := .long HR.out (.inr (by have := HMo.out; have := HN.out; omega))
              clear h6
              go_wp2
              go_ret2
              exact ⟨hB2.out, .inl ⟨_, HP.out, rfl⟩⟩
            · have q6 : ¬ ((sm : Int) + (512 + (filledN D : Int)) > 60000) := by omega
              have H6 : Hid (sizeTo l (k2 + 1) ≤ 60000) := by unfold Hid; rw [HN.out]; omega
              clear h6
              go_wp2
              refine ⟨⟨k2 + 1, by omega, by go_num, ?_, H6, hB2⟩, by simp [intOf]; omega⟩
              rw [HN.out]
              congr 1
          · have hge2 : ¬ ((k2 : Int) < (l.length : Int)) := by omega
            obtain rfl : k2 = l.length := by omega
            have HSz := hid hS.out
            clear hS
            go_wp2
            go_loopw [8, 9] (fun out i wr => ∃ k : Nat, k ≤ l.length ∧ i = .int .i64 k ∧ Hid (Buf w.heap.size w wr out (flat ((l.take k).map Prod.fst)))) (fun _ i _ => l.length - (intOf i).toNat)
            case atStart => exact ⟨0, by omega, rfl, World.ownsRowF_nil _ _ _ _, hB2.out, hB2.out.size⟩
            case round =>
              obtain ⟨k3, hk3, rfl, hF⟩ := hrel
              obtain ⟨v, hv⟩ : ∃ v, v = u8 := ⟨_, rfl⟩
              rw [← hv] at hF ⊢
              clear hv
              by_cases hlt3 : k3 < l.length
              · have hi0 : (0 : Int) ≤ (k3 : Int) := by omega
                have hi1 : (k3 : Int) < (l.length : Int) := by omega
                have hx0 := HR.out k3 hlt3
                have HNx := hid (flat_take_next hlt3)
                have HFl : Hid ((flat ((l.take k3).map Prod.fst)).length = szs ((l.take k3).map Prod.fst)) := flat_len (fun e he => by
                  obtain ⟨y, hy, rfl⟩ := List.mem_map.1 he
                  obtain ⟨i, hi, rfl⟩ := List.getElem_of_mem (List.mem_of_mem_take hy)
                  exact HR.out i hi)
                have HMd := hid (szs_mod ((l.take k3).map Prod.fst))
                have HSm : Hid (szs ((l.take k3).map Prod.fst) + (512 + filledN l[k3].1.data.length) + 1024 ≤ 60000) := by
                  have h1 := sizeTo_next hlt3
                  have h2 := sizeTo_mono (l := l) (k := k3 + 1) (m := l.length) (by omega) (Nat.le_refl _)
                  have h3 := sizeTo_szs l k3
                  have h4 := HSz.out
                  unfold Hid
                  omega
                generalize flat ((l.take k3).map Prod.fst) = F at *
                generalize szs ((l.take k3).map Prod.fst) = sz at *
                obtain ⟨b, o, rfl, hbw, hrg, hrd⟩ := id (H.out k3 hlt3)
                obtain ⟨da, dc, hdv, -⟩ := id hrd
                have HU : Hid (∀ W, Below w.heap.size w W → W.rangeAt b (o + k3 * 5) [str l[k3].1.name, .int .i64 l[k3].1.kind, .int .i64 l[k3].1.mode, str l[k3].1.link, .slice da l[k3].1.data.length dc] ∧ Rd W (.slice da l[k3].1.data.length dc) l[k3].1.data) := fun W hW => by
                  rw [hdv] at hrg hrd
                  exact ⟨fun j v hj => (World.cell?_of_block (w := w) (hW.block b hbw)).trans (hrg j v hj), hrd.up hW⟩
                obtain ⟨c0, c1, c2, c3, c4⟩ := rangeAt5 (HU.out wr hF.out.2.1).1
                have HPa := hid (blkE_parts hx0)
                have HBl := hid (blkE_len hx0)
                have HHd := hid (fheader_any l[k3].1 da dc wr hx0)
                generalize l[k3].1 = x at *
                have hmb : k3 < 300 := by have := H256.out; omega
                clear hrg hdv hrd hx0 hbw
                go_wp2_with fail
                refine HHd.out.mono ?_
                clear HHd
                rintro e w4 ⟨g4, rfl, hB4, hb4⟩
                have hl4 : ((blkE x).take 512).length = 512 := by rw [List.length_take, HBl.out]; unfold bsz; omega
                have hR4 : Rd w4 (.slice (some ⟨g4, 0, none⟩) 512 512) ((blkE x).take 512) := by
                  have := rd_blk hb4 (by rw [hl4]; omega)
                  rw [hl4] at this
                  exact this
                have HF4 : Hid (Buf w.heap.size w w4 v F) := by
                  have := hF.out
                  exact buf_up this hB4
                have HR4 := hid hR4
                have HL4 := hid hl4
                clear hF c0 c1 c2 c3 c4 hB4 hb4 hR4 hl4
                generalize (blkE x).take 512 = hd at *
                have h512 : 0 < hd.length := by have := HL4.out; omega
                have HN4 : Hid (F.length + hd.length ≤ 1000000) := by unfold Hid; have := HFl.out; have := HL4.out; have := HSm.out; omega
                go_upto_region 21 with (refine wpList_append_buf (by rfl) (.tmp 53) (.tmp 58) rfl w.heap.size v (.slice (some ⟨g4, 0, none⟩) 512 512) F hd rfl HF4.out rfl HR4.out h512 HN4.out ?_; intro v5 w5 hb5 hB5; have HF5 := hid hb5; have HB5 := hid hB5; clear hb5 hB5)
                have hF5 : 0 < (F ++ hd).length := by rw [List.length_append]; omega
                obtain ⟨-, -, -, -, c4⟩ := rangeAt5 (HU.out w5 HF5.out.2.1).1
                have HRd := hid (HU.out w5 HF5.out.2.1).2
                have HN5 : Hid ((F ++ hd).length + x.data.length ≤ 1000000) := by
                  have h1 : x.data.length ≤ filledN x.data.length := by unfold filledN; omega
                  unfold Hid; rw [List.length_append]; have := HFl.out; have := HL4.out; have := HSm.out; omega
                clear HF4 HR4 h512 HN4 HB5
                go_upto_region 22 with (refine wpList_append_buf0 (by rfl) (.tmp 60) (.tmp 65) rfl w.heap.size v5 (.slice da x.data.length dc) (F ++ hd) x.data rfl HF5.out hF5 rfl HRd.out HN5.out ?_; intro v6 w6 hb6 hB6; have HF6 := hid hb6; clear hb6 hB6)
                obtain ⟨G, hG⟩ : ∃ G, G = F ++ hd ++ x.data := ⟨_, rfl⟩
                rw [← hG] at HF6
                have HGl : Hid (G.length = sz + 512 + x.data.length) := by unfold Hid; rw [hG, List.length_append, List.length_append, HFl.out, HL4.out]
                have HGf : Hid (G ++ List.replicate (filledN x.data.length - x.data.length) 0 = flat ((l.take (k3 + 1)).map Prod.fst)) := by
                  unfold Hid
                  rw [HNx.out, HPa.out, hG]
                  simp only [List.append_assoc]
                obtain ⟨i0, hi, hz0, hz1, hz2⟩ := info_parts infoU
                have HI := hid hi
                have HFD : Hid (x.data.length ≤ filledN x.data.length ∧ filledN x.data.length % 512 = 0 ∧ filledN x.data.length < x.data.length + 512) := by unfold Hid filledN; omega
                generalize x.data.length = D at *
                generalize filledN D = FD at *
                clear hG HPa HNx HF5 hF5 HN5 HRd c4 HL4 HFl HU hi
                go_loopw [8] (fun out wr => ∃ j : Nat, j ≤ FD - D ∧ Hid (Buf w.heap.size w wr out (G ++ List.replicate j 0))) (fun out _ => sz + 512 + FD - lenV out)
                case atStart => exact ⟨0, by omega, by unfold Hid; rw [List.replicate_zero, List.append_nil]; exact HF6.out⟩
                case round =>
                  obtain ⟨j, hj, hF⟩ := hrel
                  obtain ⟨a8, c8, he8⟩ := hF.out.slice
                  have hm : (G ++ List.replicate j 0).length = sz + 512 + D + j := by rw [List.length_append, List.length_replicate, HGl.out]
                  rw [hm] at he8
                  subst he8
                  have hsz := HMd.out
                  have hfd := HFD.out
                  have hsm := HSm.out
                  obtain ⟨M, hM⟩ : ∃ M, M = sz + 512 + D + j := ⟨_, rfl⟩
                  rw [← hM] at hF hm ⊢
                  by_cases hlt4 : j < FD - D
                  · have q1 : ((M : Int) % 512 != 0) = true := bne_iff_ne.2 (by omega)
                    have hM6 : M + 1 ≤ 140737488355328 := by omega
                    have HM2 : Hid (M + 1 ≤ sz + 512 + FD) := by unfold Hid; omega
                    have HM := hid hm
                    have HM6 := hid hM6
                    clear hsz hfd hsm hM hm hM6
                    go_wp2_with (refine Lib.wpList_append_byte rfl (.tmp 71) (.tmp 72) 23 rfl w.heap.size 5 i0 Try.underlying23 HI.out hz0 hz1 hz2 (.slice a8 M c8) M ((G ++ List.replicate j 0).map B) rfl w wr 0 (by have := hF.out; unfold Buf at this; rw [HM.out] at this; exact this) rfl HM6.out ?_; intro v7 w7 hb7; have HF7 := hid hb7; clear hb7)
                    have HF8 : Hid (Buf w.heap.size w w7 v7 (G ++ List.replicate (j + 1) 0)) := by
                      have := HF7.out
                      have e1 : (G ++ List.replicate (j + 1) (0 : UInt8)).length = M + 1 := by rw [List.replicate_succ', ← List.append_assoc, List.length_append, HM.out]; rfl
                      unfold Hid Buf
                      rw [e1, List.replicate_succ', ← List.append_assoc, List.map_append]
                      exact this
                    have hl7 : lenV v7 = M + 1 := by
                      obtain ⟨a7, c7, e7⟩ := HF8.out.slice
                      rw [e7]
                      show (G ++ List.replicate (j + 1) (0 : UInt8)).length = M + 1
                      rw [List.replicate_succ', ← List.append_assoc, List.length_append, HM.out]
                      rfl
                    refine ⟨⟨j + 1, by omega, HF8⟩, ?_⟩
                    have := HM2.out
                    show sz + 512 + FD - lenV v7 < sz + 512 + FD - M
                    omega
                  · have q1 : ((M : Int) % 512 != 0) = false := bne_eq_false_iff_eq.2 (by omega)
                    have HF9 : Hid (Buf w.heap.size w wr (.slice a8 M c8) (flat ((l.take (k3 + 1)).map Prod.fst))) := by
                      have := hF.out
                      rw [show j = FD - D by omega, HGf.out] at this
                      exact this
                    clear hsz hfd hsm hM hm hF HGf
                    go_wp2
                    exact ⟨⟨k3 + 1, by omega, by go_num, HF9⟩, by simp [intOf]; omega⟩
              · have hge3 : ¬ ((k3 : Int) < (l.length : Int)) := by omega
                obtain rfl : k3 = l.length := by omega
                have HF : Hid (Buf w.heap.size w wr v (flat (l.map Prod.fst))) := by
                  have := hF.out
                  rwa [List.take_length] at this
                have HFl : Hid ((flat (l.map Prod.fst)).length ≤ 60000) := by
                  unfold Hid
                  rw [flat_len (right_map HR.out)]
                  have h3 := sizeTo_szs l l.length
                  rw [List.take_length] at h3
                  have := HSz.out
                  omega
                clear hF
                go_wp2_with (refine wpList_append_zeros (by rfl) (.tmp 74) (.const (.int .i64 1024)) rfl w.heap.size 1024 v (flat (l.map Prod.fst)) rfl rfl HF.out (by omega) (by have := HFl.out; omega) ?_; intro v9 w9 hb9; have HF9 := hid hb9; clear hb9)
                go_ret2
                exact ⟨HF9.out.2.1, .inr ⟨HR.out, H256.out, HSz.out, _, rfl, HF9.out⟩⟩
end Go.Proofs.Ytdfnhgkabaikaaa
