/- Several of my texts in one: R4Kit, R4Call, R4Read, R4Write, R4Nil, R4Plain, R4Steps. -/
import Derived.Test.YtjgclmlclkfgpaaGreatBCached
import Derived.Test.YtjgclmlclkfgpaaGreatRCommit
import Derived.Test.YtjgclmlclkfgpaaGreatBSameQ
import Derived.Test.YtjgclmlclkfgpaaGreatWOrderP
import Derived.Test.YtjgclmlclkfgpaaGreatWPlayP
/- The reference's cache in memory, and its small calls. -/
namespace Go.Proofs.YtjgclmlclkfgpaaGreat
open Go.RowKit Go.Maps
/-- A cache of the reference: pages that were written, in the order of their last writes, their bytes by their numbers, and the pages in the cache. -/
structure R4 where
  most : Nat
  ps : List PageS
  by_ : Int → List UInt8
  cs : List Int
/-- Where it lies: all that is only read lies in B. -/
structure R4In (w : World) (q m : Nat) (B : Nat → Prop) (R : R4) : Prop where
  heap : ∃ pa pc ca cc, w.heap[q]? = some (.cells #[.pointer (some ⟨m, 0, none⟩), .int .i64 R.most, .slice pa R.ps.length pc, .slice ca R.cs.length cc] 46 (0, 0)) ∧ pagesAt w pa R.ps ∧ intsAt w ca R.cs ∧ (∀ ad, pa = some ad → B ad.block) ∧ (∀ ad, ca = some ad → B ad.block)
  rows : ∀ p ∈ R.ps, p.len = 512 ∧ ∃ g, p.a = some ⟨g, 0, none⟩ ∧ B g ∧ bytesAt w ⟨g, 0, none⟩ (R.by_ p.n) ∧ (R.by_ p.n).length = 512
  lt : ∀ i, B i → i < w.heap.size
  off : ¬ B q
  few : R.ps.length ≤ 4096 ∧ R.cs.length ≤ 4096
section
variable {w w' : World} {q m : Nat} {B G : Nat → Prop} {R : R4}
theorem pagesAt.keepA {pa : Option Addr} {ps : List PageS} (h : pagesAt w pa ps) (k : Keeps G w w') (hG : ∀ ad, pa = some ad → ¬ G ad.block) : pagesAt w' pa ps := fun j hj => by
  obtain ⟨b, o, e, hc⟩ := h j hj
  exact ⟨b, o, e, fun i hi => ⟨k.cell (ad := ⟨b, o + i * 2, none⟩) (hc i hi).1 (show ¬ G b from hG ⟨b, o, none⟩ e), k.cell (ad := ⟨b, o + i * 2 + 1, none⟩) (hc i hi).2 (show ¬ G b from hG ⟨b, o, none⟩ e)⟩⟩
theorem intsAt.keepA {a : Option Addr} {xs : List Int} (h : intsAt w a xs) (k : Keeps G w w') (hG : ∀ ad, a = some ad → ¬ G ad.block) : intsAt w' a xs := fun j hj => by
  obtain ⟨b, o, e, hc⟩ := h j hj
  exact ⟨b, o, e, fun i hi => k.cell (ad := ⟨b, o + i, none⟩) (hc i hi) (show ¬ G b from hG ⟨b, o, none⟩ e)⟩
theorem R4In.keep (h : R4In w q m B R) (k : Keeps G w w') (hq : ¬ G q) (hB : ∀ i, B i → ¬ G i) : R4In w' q m B R := by
  obtain ⟨pa, pc, ca, cc, h1, h2, h3, h4, h5⟩ := h.heap
  refine ⟨⟨pa, pc, ca, cc, k.heap h1 hq, h2.keepA k (fun ad e => hB _ (h4 ad e)), h3.keepA k (fun ad e => hB _ (h5 ad e)), h4, h5⟩, fun p hp => ?_, fun i hi => Nat.lt_of_lt_of_le (h.lt i hi) k.size, h.off, h.few⟩
  obtain ⟨e1, g, e2, e3, e4, e5⟩ := h.rows p hp
  exact ⟨e1, g, e2, e3, fun j hj => k.cell (e4 j hj) (by rw [add_block]; exact hB g e3), e5⟩
theorem R4In.below (h : R4In w q m B R) (hb : Below w.heap.size w w') : R4In w' q m B R := h.keep (G := fun _ => False) (Keeps.of_below hb) (fun h => h) (fun _ _ h => h)
end
/-- append of m numbers, be it none, to a row of one's own. -/
theorem wpList_append_ints {w : World} {ops : Array Oper} {rest : List Oper} {o : Oper} {a : Act} {Q : Exit → Act → World → Prop} (hgd : o.guard = none) (s x : Operand)
    (ho : o.op = .call { callee := .builtin .append, args := #[s, x], argTypes := #[32, 32] }) (base : Nat) (v : Value) (n : Nat) (xs : List Value) (hs : a.eval s = v) (hown : w.ownsRow base 3 1 v n xs)
    (sa : Option Addr) (m c : Nat) (news : List Value) (hx : a.eval x = .slice sa m c) (hl : news.length = m * 1) (hc : 0 < m → ∃ ad, sa = some ad ∧ ∀ j u, news[j]? = some u → w.cell? (ad.add j) = some u) (h1 : ∀ u ∈ news, u.oneCell' = true)
    (hn : n + m ≤ 4096) (hbase : base ≤ w.heap.size)
    (h : ∀ v' w', w'.ownsRow base 3 1 v' (n + m) (xs ++ news) → w.grownBy w' v.ownBlock → (v'.ownBlock = v.ownBlock ∨ v'.ownBlock = some w.heap.size) → wpList Tryz.prog ops Q rest (a.put o.dst v') w') : wpList Tryz.prog ops Q (o :: rest) a w := by
  obtain ⟨i0, hi, hz0, hz1, hz2⟩ := info_parts infoInt
  rcases Nat.eq_zero_or_pos m with rfl | hpos
  · obtain rfl : news = [] := List.eq_nil_of_length_eq_zero (by simpa using hl)
    rw [List.append_nil, Nat.add_zero] at h
    have hrun : (Builtin.append_ #[32, 32] o.type #[v, .slice sa 0 c]).run Tryz.prog w = .ok v w := by
      rcases hown.2 with ⟨rfl, -⟩ | ⟨g, cap, cur, rfl, -, -, hle, -⟩
      · exact run_append_noneP 32 o.type 3 i0 Tryz.underlying32 hi sa c
      · exact run_append_more 32 o.type 3 i0 Tryz.underlying32 hi _ n cap hle sa c
    refine wpList_plain hgd fun K hK => ?_
    unfold Oper.wp
    simp [execOp, ho, resolve, invoke, builtin, hs, hx, hrun, Result.andThen]
    exact hK _ _ (h v w hown (grown_refl _ _) (.inl rfl))
  · obtain ⟨ad, rfl, hcell⟩ := hc hpos
    refine wpList_append_lies _ hgd s x 32 ho base 3 i0 (.int .i64 0) 1 8 Tryz.underlying32 hi hz0 hz1 hz2 rfl (by omega) v n xs hs hown ad m c news hx hl hcell h1 hpos (by unfold maxLen; omega) (by omega) hbase w.heap.size rfl ?_
    intro g cap w1 hown1 hgr hat _
    refine h _ w1 hown1 hgr ?_
    rcases hat with e | e
    · exact .inl e.symm
    · exact .inr (by rw [e]; rfl)
/-- Numbers but one. -/
def woZ (l : List Int) (n : Int) : List Int := l.filter (fun x => decide (x ≠ n))
theorem woZ_snoc (l : List Int) (n x : Int) (h : x ≠ n) : woZ (l ++ [x]) n = woZ l n ++ [x] := by unfold woZ; rw [List.filter_append, List.filter_cons, if_pos (by simp [h]), List.filter_nil]
theorem woZ_same (l : List Int) (n : Int) : woZ (l ++ [n]) n = woZ l n := by unfold woZ; rw [List.filter_append, List.filter_cons, if_neg (by simp), List.filter_nil, List.append_nil]
theorem woZ_len (l : List Int) (n : Int) : (woZ l n).length ≤ l.length := List.length_filter_le _ _
theorem ints_cells {w : World} {ca : Option Addr} {cs : List Int} (h : intsAt w ca cs) (hp : 0 < cs.length) : ∃ ad, ca = some ad ∧ ∀ j u, (cs.map encZ)[j]? = some u → w.cell? (ad.add j) = some u := by
  obtain ⟨b, o, e, hc⟩ := h 0 hp
  refine ⟨⟨b, o, none⟩, e, fun j u hu => ?_⟩
  rw [List.getElem?_map] at hu
  cases hj : cs[j]? with
  | none => rw [hj] at hu; cases hu
  | some x =>
    rw [hj] at hu
    obtain ⟨hjl, hx⟩ := List.getElem?_eq_some_iff.1 hj
    obtain rfl := Option.some.inj hu
    rw [Addr.add_mid, hc j hjl, hx]
/-- The place of a page among them. -/
def posP (n : Int) : List PageS → Nat → Int
  | [], _ => -1
  | p :: l, k => if p.n = n then (k : Int) else posP n l (k + 1)
theorem posP_drop (n : Int) (ps : List PageS) (k : Nat) (hk : k < ps.length) : posP n (ps.drop k) k = if ps[k].n = n then (k : Int) else posP n (ps.drop (k + 1)) (k + 1) := by
  rw [List.drop_eq_getElem_cons hk, posP]
section
variable {q m : Nat} {B : Nat → Prop} {R : R4}
set_option maxRecDepth 100000 in
set_option maxHeartbeats 1000000 in
theorem r4at_any (n : Int) (w : World) (h : R4In w q m B R) : Calls Tryz.prog 51 #[.pointer (some ⟨q, 0, none⟩), .int .i64 n] w fun e w' => e = .returned (.int .i64 (posP n R.ps 0)) ∧ Below w.heap.size w w' := by
  obtain ⟨pa, pc, ca, cc, hh, hp, -, -, -⟩ := h.heap
  have hql := lt_of_heap hh
  have c2 : w.cell? ⟨q, 2, none⟩ = some (.slice pa R.ps.length pc) := cell_of_block hh 2
  have HP := hid hp
  have hfew := h.few.1
  clear h hh hp
  generalize R.ps = ps at *
  go_enter Tryz.func51, Tryz.ntmps51
  go_wp2
  go_loopw [5] (fun i wr => ∃ k : Nat, k ≤ ps.length ∧ i = .int .i64 k ∧ Hid (posP n ps 0 = posP n (ps.drop k) k) ∧ Hid (Below w.heap.size w wr)) (fun i _ => ps.length - (intOf i).toNat)
  case atStart => exact ⟨0, by omega, rfl, by unfold Hid; rw [List.drop_zero], Below.refl _ _⟩
  case round =>
    obtain ⟨k, hk, rfl, hpos, hB⟩ := hrel
    have c2r := (hB.out.cell (p := ⟨q, 2, none⟩) hql).trans c2
    by_cases hlt : k < ps.length
    · have hk0 : (0 : Int) ≤ (k : Int) := by omega
      have hk1 : (k : Int) < (ps.length : Int) := by omega
      obtain ⟨b, o, rfl, hc⟩ := HP.out k hlt
      have hck := (hc k hlt).1
      have ck := (hB.out.cell (p := ⟨b, o + k * 2, none⟩) (World.block_lt_of_cell? w _ hck)).trans hck
      have HD := hid (posP_drop n ps k hlt)
      have HB2 := hid (hB.out.drew)
      clear hc hck
      generalize ps[k].n = pn at *
      by_cases he : pn = n
      · subst he
        have hE : Hid (posP pn ps 0 = (k : Int)) := by unfold Hid; rw [hpos.out, HD.out, if_pos rfl]
        clear HD hpos
        have hbw := hid hB.out
        go_wp2
        go_ret
        exact ⟨congrArg (fun z => Ending.returned (.int .i64 z)) hE.out.symm, hbw.out⟩
      · have heb : (pn == n) = false := beq_eq_false_iff_ne.2 he
        have HE : Hid (posP n ps 0 = posP n (ps.drop (k + 1)) (k + 1)) := by unfold Hid; rw [hpos.out, HD.out, if_neg he]
        clear HD hpos
        go_wp2
        exact ⟨⟨k + 1, by omega, by go_num, HE, hB⟩, by simp [intOf]; omega⟩
    · obtain rfl : k = ps.length := by omega
      have hge : ¬ ((ps.length : Int) < (ps.length : Int)) := by omega
      have HE : Hid (posP n ps 0 = -1) := by unfold Hid; rw [hpos.out, List.drop_length, posP]
      clear hpos
      go_wp2
      go_ret
      exact ⟨congrArg (fun z => Ending.returned (.int .i64 z)) HE.out.symm, hB.out⟩
set_option maxRecDepth 100000 in
set_option maxHeartbeats 1000000 in
theorem r4without_any (l : List Int) (n : Int) (a : Option Addr) (c : Nat) (w : World) (h : intsAt w a l) (hl : l.length ≤ 4096) : Calls Tryz.prog 80 #[.slice a l.length c, .int .i64 n] w fun e w' => ∃ v, e = .returned v ∧ w'.ownsRow w.heap.size 3 1 v (woZ l n).length ((woZ l n).map encZ) ∧ Below w.heap.size w w' := by
  obtain ⟨i0, hi, hz0, hz1, hz2⟩ := info_parts infoInt
  have HI := hid hi
  have HA := hid h
  clear h hi
  go_enter Tryz.func80, Tryz.ntmps80
  go_wp2
  go_loopw [5, 6] (fun v i wr => ∃ k : Nat, k ≤ l.length ∧ i = .int .i64 k ∧ Hid (wr.ownsRow w.heap.size 3 1 v (woZ (l.take k) n).length ((woZ (l.take k) n).map encZ)) ∧ Hid (Below w.heap.size w wr)) (fun _ i _ => l.length - (intOf i).toNat)
  case atStart => exact ⟨0, by omega, rfl, World.ownsRow_nil _ _ _ _, Below.refl _ _⟩
  case round =>
    obtain ⟨k, hk, rfl, hO, hB⟩ := hrel
    by_cases hlt : k < l.length
    · have hk0 : (0 : Int) ≤ (k : Int) := by omega
      have hk1 : (k : Int) < (l.length : Int) := by omega
      obtain ⟨b, o, rfl, hc⟩ := HA.out k hlt
      have hck := hc k hlt
      have ck := (hB.out.cell (p := ⟨b, o + k, none⟩) (World.block_lt_of_cell? w _ hck)).trans hck
      have HT := hid (List.take_succ_eq_append_getElem hlt)
      have hF : Hid ((woZ (l.take k) n).length ≤ 4096) := Nat.le_trans (woZ_len _ _) (by simp; omega)
      have hsz := hB.out.size
      clear hc hck
      generalize l[k] = x at *
      by_cases he : x = n
      · have heb : (x == n) = true := by rw [he]; exact beq_self_eq_true _
        have hO2 : Hid (wr.ownsRow w.heap.size 3 1 u5 (woZ (l.take (k + 1)) n).length ((woZ (l.take (k + 1)) n).map encZ)) := by
          unfold Hid
          rw [HT.out, he, woZ_same]
          exact hO.out
        clear HT hO
        go_wp2
        exact ⟨⟨k + 1, by omega, by go_num, hO2, hB⟩, by simp [intOf]; omega⟩
      · have heb : (x == n) = false := beq_eq_false_iff_ne.2 he
        have HS : Hid (woZ (l.take (k + 1)) n = woZ (l.take k) n ++ [x]) := by
          unfold Hid
          rw [HT.out, woZ_snoc _ _ _ he]
        clear HT
        generalize woZ (l.take k) n = f at *
        go_wp2_with (refine wpList_append_lies _ rfl (.tmp 19) (.tmp 24) 32 rfl w.heap.size 3 i0 (.int .i64 0) 1 8 Tryz.underlying32 HI.out hz0 hz1 hz2 rfl (by omega) u5 f.length _ rfl (hO.out.alloc _) ⟨wr.heap.size, 0, none⟩ 1 1 [.int .i64 x] rfl rfl (World.news_of_block (cs := #[.int .i64 x]) (block_new wr _)) (by intro u hu; rw [List.mem_singleton.1 hu]; rfl) (by omega) (by have := hF.out; unfold maxLen; omega) (by have := hF.out; omega) (by simp; omega) (wr.heap.size + 1) (by simp) ?_; intro g2 cap2 w5 hown hgr hat hlt2; have HOw := hid hown; have HG := hid hgr; clear hown hgr hat hlt2)
        have hba := hB.out.trans (((Below.refl wr.heap.size wr).alloc (Nat.le_refl _) (.cells #[.int .i64 x] 3)).mono hB.out.size)
        refine ⟨⟨k + 1, by omega, by go_num, ?_, hba.trans (below_of_row HG.out hba.size (fun i e => (hO.out.lt i e).1))⟩, by simp [intOf]; omega⟩
        unfold Hid
        rw [HS.out, List.length_append, List.map_append]
        exact HOw.out
    · obtain rfl : k = l.length := by omega
      have hge : ¬ ((l.length : Int) < (l.length : Int)) := by omega
      have hOf := hO.out
      rw [List.take_length] at hOf
      have HO := hid hOf
      clear hOf hO
      go_wp2
      go_ret
      exact ⟨u5, rfl, HO.out, hB.out⟩
variable {r : Nat} {fv lv : Value} {vs : List Value} {Rd : Nat → Prop} {T : RefS} {size rec : Nat}
set_option maxRecDepth 100000 in
/-- Abort. -/
theorem r4abort_any (w : World) (h : R4In w q m B R) : Calls Tryz.prog 46 #[.pointer (some ⟨q, 0, none⟩)] w fun e w' => e = .returned (.int .i64 (R.ps.length : Int)) ∧ R4In w' q m B { R with ps := [] } ∧ Keeps (fun i => i = q) w w' := by
  obtain ⟨pa, pc, ca, cc, hh, hp, hc, hpb, hcb⟩ := h.heap
  have c2 : w.cell? ⟨q, 2, none⟩ = some (.slice pa R.ps.length pc) := cell_of_block hh 2
  have f2 : w.frozen? ⟨q, 2, none⟩ = false := frozen_of_block hh _
  have hset : (w.setCell ⟨q, 2, none⟩ (.slice none 0 0)).heap[q]? = some (.cells #[.pointer (some ⟨m, 0, none⟩), .int .i64 R.most, .slice none 0 0, .slice ca R.cs.length cc] 46 (0, 0)) := block_setCell hh 2 _
  have hK : Keeps (fun i => i = q) w (w.setCell ⟨q, 2, none⟩ (.slice none 0 0)) := (Keeps.refl _ _).grown (grown_setCell (grown_refl _ _) _ _) (fun i e => .inl (Option.some.inj e).symm)
  have HE : Hid (R4In (w.setCell ⟨q, 2, none⟩ (.slice none 0 0)) q m B { R with ps := [] } ∧ Keeps (fun i => i = q) w (w.setCell ⟨q, 2, none⟩ (.slice none 0 0))) := by
    refine ⟨⟨⟨none, 0, ca, cc, hset, fun j hj => absurd hj (Nat.not_lt_zero _), hc.keepA hK (fun ad e e2 => h.off (e2 ▸ hcb ad e)), fun _ e => (by cases e), hcb⟩, fun p hp => (by cases hp), fun i hi => Nat.lt_of_lt_of_le (h.lt i hi) hK.size, h.off, Nat.zero_le _, h.few.2⟩, hK⟩
  clear h hh hp hc hset hK
  generalize R.ps.length = pl at *
  go_enter Tryz.func46, Tryz.ntmps46
  go_wp2
  go_ret
  exact ⟨rfl, HE.out⟩
set_option maxRecDepth 100000 in
/-- Cached. -/
theorem r4cached_any (w : World) (h : R4In w q m B R) : Calls Tryz.prog 12 #[.pointer (some ⟨q, 0, none⟩)] w fun e w' => ∃ a c, e = .returned (.slice a R.cs.length c) ∧ intsAt w' a R.cs ∧ Below w.heap.size w w' := by
  obtain ⟨pa, pc, ca, cc, hh, hp, hc, hpb, hcb⟩ := h.heap
  have c3 : w.cell? ⟨q, 3, none⟩ = some (.slice ca R.cs.length cc) := cell_of_block hh 3
  have hfew := h.few.2
  have HC := hid hc
  clear h hh hp hc hpb hcb
  generalize R.cs = cs at *
  go_enter Tryz.func12, Tryz.ntmps12
  go_wp2_with (refine wpList_append_ints rfl (.tmp 6) (.tmp 10) rfl w.heap.size (.slice none 0 0) 0 [] rfl (World.ownsRow_nil _ _ _ _) ca cs.length cc (cs.map encZ) rfl (by simp) (fun hp => ints_cells HC.out hp) (fun u hu => by obtain ⟨x, -, rfl⟩ := List.mem_map.1 hu; rfl) (by omega) (Nat.le_refl _) ?_; intro v5 w5 hown hgr hat; have HO := hid hown; have HG := hid hgr; clear hown hgr hat)
  go_ret
  have hrow := HO.out
  rw [Nat.zero_add, List.nil_append] at hrow
  have hlm : cs.length = (cs.map encZ).length := by simp
  obtain ⟨p3, c3', rfl, hi3⟩ := ints_of_row hrow
  exact ⟨p3, c3', rfl, hi3, below_of_row HG.out (Nat.le_refl _) (fun i e => by cases e)⟩
end
end Go.Proofs.YtjgclmlclkfgpaaGreat
/- The reference's cache: Room, Dirty, Commit. -/
namespace Go.Proofs.YtjgclmlclkfgpaaGreat
open Go.RowKit Go.Maps
section
variable {q m : Nat} {B : Nat → Prop} {R : R4} {r : Nat} {fv lv : Value} {vs : List Value} {Rd : Nat → Prop} {T : RefS} {size : Nat}
set_option maxRecDepth 100000 in
/-- Room. -/
theorem r4room_any (w : World) (h : R4In w q m B R) (hl : RLogIn w m r fv lv vs Rd T size 0) : Calls Tryz.prog 16 #[.pointer (some ⟨q, 0, none⟩)] w fun e w' => e = .returned (.int .i64 (((min size 100 : Nat) : Int) - (R.ps.length : Int))) ∧ Below w.heap.size w w' := by
  obtain ⟨pa, pc, ca, cc, hh, -, -, -, -⟩ := h.heap
  have hql := lt_of_heap hh
  have c0 : w.cell? ⟨q, 0, none⟩ = some (.pointer (some ⟨m, 0, none⟩)) := cell_of_block hh 0
  have c2 : w.cell? ⟨q, 2, none⟩ = some (.slice pa R.ps.length pc) := cell_of_block hh 2
  have hfew := h.few.1
  have HCp := hid (rlcap_any w.drew (hl.below (Below.refl _ w).drew))
  have hm2 : min size 100 ≤ 100 := by omega
  clear h hl hh
  generalize R.ps.length = pl at *
  generalize min size 100 = mc at *
  go_enter Tryz.func16, Tryz.ntmps16
  go_wp2
  refine wp_region_noPanic ?_
  refine wp_region_held_drew (S := fun W => W.cell? ⟨q, 0, none⟩ = some (.pointer (some ⟨m, 0, none⟩)) ∧ W.cell? ⟨q, 2, none⟩ = some (.slice pa pl pc)) (by kernel_rfl) ⟨c0, c2⟩ (fun hHeld => ?_)
  refine wpAnyH_take (i := 0) (v := ?_) rfl (by kernel_rfl) (by kernel_rfl) (by kernel_rfl) (fun _ _ _ h => h) (Or.inl ⟨by rfl, ?_⟩) (by assumption) ?_
  rotate_left
  · (intro W hSw; (try dsimp only at hSw); obtain ⟨s1, s2⟩ := hSw; go_simp; try with_reducible rfl)
  try simp only [List.getElem_toArray, List.getElem_cons_zero, Act.put, List.setIfInBounds_toArray, List.set_cons_zero, List.set_cons_succ]
  refine wpAnyH_take (i := 1) (v := ?_) rfl (by kernel_rfl) (by kernel_rfl) (by kernel_rfl) (fun _ _ _ h => h) (Or.inl ⟨by rfl, ?_⟩) (by assumption) ?_
  rotate_left
  · (intro W hSw; (try dsimp only at hSw); obtain ⟨s1, s2⟩ := hSw; go_simp; try with_reducible rfl)
  try simp only [List.getElem_toArray, List.getElem_cons_succ, List.getElem_cons_zero, Act.put, List.setIfInBounds_toArray, List.set_cons_zero, List.set_cons_succ]
  refine wpAnyH_take (i := 2) (v := ?_) rfl (by kernel_rfl) (by kernel_rfl) (by kernel_rfl) (fun _ _ _ h => h) (Or.inl ⟨by rfl, ?_⟩) (by assumption) ?_
  rotate_left
  · (intro W hSw; (try dsimp only at hSw); obtain ⟨s1, s2⟩ := hSw; go_simp; try with_reducible rfl)
  try simp only [List.getElem_toArray, List.getElem_cons_succ, List.getElem_cons_zero, Act.put, List.setIfInBounds_toArray, List.set_cons_zero, List.set_cons_succ]
  refine wpAnyH_take (i := 3) (v := ?_) rfl (by kernel_rfl) (by kernel_rfl) (by kernel_rfl) (fun _ _ _ h => h) (Or.inl ⟨by rfl, ?_⟩) (by assumption) ?_
  rotate_left
  · (intro W hSw; (try dsimp only at hSw); obtain ⟨s1, s2⟩ := hSw; go_simp; try with_reducible rfl)
  try simp only [List.getElem_toArray, List.getElem_cons_succ, List.getElem_cons_zero, Act.put, List.setIfInBounds_toArray, List.set_cons_zero, List.set_cons_succ]
  refine wpAnyH_take (i := 5) (v := ?_) rfl (by kernel_rfl) (by kernel_rfl) (by kernel_rfl) (fun _ _ _ h => h) (Or.inl ⟨by rfl, ?_⟩) (by assumption) ?_
  rotate_left
  · (intro W hSw; (try dsimp only at hSw); obtain ⟨s1, s2⟩ := hSw; go_simp; try with_reducible rfl)
  try simp only [List.getElem_toArray, List.getElem_cons_succ, List.getElem_cons_zero, Act.put, List.setIfInBounds_toArray, List.set_cons_zero, List.set_cons_succ]
  refine wpAnyH_take (i := 6) (v := ?_) rfl (by kernel_rfl) (by kernel_rfl) (by kernel_rfl) (fun _ _ _ h => h) (Or.inl ⟨by rfl, ?_⟩) (by assumption) ?_
  rotate_left
  · (intro W hSw; (try dsimp only at hSw); obtain ⟨s1, s2⟩ := hSw; go_simp; try with_reducible rfl)
  try simp only [List.getElem_toArray, List.getElem_cons_succ, List.getElem_cons_zero, Act.put, List.setIfInBounds_toArray, List.set_cons_zero, List.set_cons_succ]
  refine wpAnyH_take (i := 7) (v := ?_) rfl (by kernel_rfl) (by kernel_rfl) (by kernel_rfl) (fun _ _ _ h => h) (Or.inl ⟨by rfl, ?_⟩) (by assumption) ?_
  rotate_left
  · (intro W hSw; (try dsimp only at hSw); obtain ⟨s1, s2⟩ := hSw; go_simp; try with_reducible rfl)
  try simp only [List.getElem_toArray, List.getElem_cons_succ, List.getElem_cons_zero, Act.put, List.setIfInBounds_toArray, List.set_cons_zero, List.set_cons_succ]
  refine wpAnyH_take (i := 8) (v := ?_) rfl (by kernel_rfl) (by kernel_rfl) (by kernel_rfl) (fun _ _ _ h => h) (Or.inl ⟨by rfl, ?_⟩) (by assumption) ?_
  rotate_left
  · (intro W hSw; (try dsimp only at hSw); obtain ⟨s1, s2⟩ := hSw; go_simp; try with_reducible rfl)
  try simp only [List.getElem_toArray, List.getElem_cons_succ, List.getElem_cons_zero, Act.put, List.setIfInBounds_toArray, List.set_cons_zero, List.set_cons_succ]
  refine wpAnyH_take (i := 9) (v := ?_) rfl (by kernel_rfl) (by kernel_rfl) (by kernel_rfl) (fun _ _ _ h => h) (Or.inl ⟨by rfl, ?_⟩) (by assumption) ?_
  rotate_left
  · (intro W hSw; (try dsimp only at hSw); obtain ⟨s1, s2⟩ := hSw; go_simp; try with_reducible rfl)
  try simp only [List.getElem_toArray, List.getElem_cons_succ, List.getElem_cons_zero, Act.put, List.setIfInBounds_toArray, List.set_cons_zero, List.set_cons_succ]
  refine wpAnyH_ready (rs := [4]) (by kernel_rfl) (by simp) (AllReadyH.cons rfl (fun K hK => ?_) AllReadyH.nil)
  rw [if_pos (by rfl)]
  go_simp
  refine HCp.out.mono ?_
  clear HCp
  rintro e w2 ⟨rfl, h9⟩
  obtain rfl := h9.symm
  clear h9
  go_wp2_with fail
  refine hK.out _ _ ⟨c0, c2⟩ (fun hHeld => ?_)
  clear hK K
  try simp only [List.getElem_toArray, List.getElem_cons_succ, List.getElem_cons_zero, Act.put, List.setIfInBounds_toArray, List.set_cons_zero, List.set_cons_succ]
  have hsub : IntKind.i64.wrap ((mc : Int) - (pl : Int)) = (mc : Int) - (pl : Int) := IntWalk.i64_in _ (by omega)
  refine wpAnyH_take (i := 10) (v := .int .i64 ((mc : Int) - (pl : Int))) rfl (by kernel_rfl) (by kernel_rfl) (by kernel_rfl) (fun _ _ _ h => h) (Or.inl ⟨by rfl, ?_⟩) (by assumption) ?_
  · (intro W hSw; (try dsimp only at hSw); obtain ⟨s1, s2⟩ := hSw; go_simp; try first | with_reducible rfl | go_num | (rw [if_pos (by assumption)]; simp only [*]) | simp only [*])
  try simp only [List.getElem_toArray, List.getElem_cons_succ, List.getElem_cons_zero, Act.put, List.setIfInBounds_toArray, List.set_cons_zero, List.set_cons_succ]
  refine wpAnyH_take (i := 11) (v := ?_) rfl (by kernel_rfl) (by kernel_rfl) (by kernel_rfl) (fun _ _ _ h => h) (Or.inl ⟨by rfl, ?_⟩) (by assumption) ?_
  rotate_left
  · (intro W hSw; (try dsimp only at hSw); obtain ⟨s1, s2⟩ := hSw; go_simp; try with_reducible rfl)
  try simp only [List.getElem_toArray, List.getElem_cons_succ, List.getElem_cons_zero, Act.put, List.setIfInBounds_toArray, List.set_cons_zero, List.set_cons_succ]
  refine wpAnyH_done (by kernel_rfl) ?_ _
  refine NoPanic.normal ?_
  go_wp2
  go_ret
  exact ⟨rfl, (Below.refl _ w).drew⟩
set_option maxRecDepth 100000 in
/-- Commit. -/
theorem r4commit_any (w : World) (h : R4In w q m B R) (hl : RLogIn w m r fv lv vs Rd T size 0) (hR : okR T) (hm : T.l.length ≤ 700000) (hs : size + 1 ≤ T.first.length) (hqr : q ≠ r) (hBr : ¬ B r) (hRq : ¬ Rd q) (he : comErr (pagesR T size) size R.ps = 0) :
    Calls Tryz.prog 45 #[.pointer (some ⟨q, 0, none⟩)] w fun e w' => e = .returned (.int .i64 0) ∧ R4In w' q m B { R with ps := [] } ∧ ∃ lv' vs' Rd', RLogIn w' m r fv lv' vs' Rd' (rcomR T size R.ps (fun j => R.by_ ((R.ps.map PageS.n).getD j 0))) size 0 ∧ (∀ i, Rd' i → Rd i ∨ w.heap.size ≤ i) ∧ Keeps (fun i => i = r ∨ i = q) w w' := by
  have hbd : Below w.heap.size w w.drew := (Below.refl _ w).drew
  have h0 := h.below hbd
  have hl0 := hl.below hbd
  obtain ⟨pa, pc, ca, cc, hh, hp, hc, hpb, hcb⟩ := h0.heap
  have hql := lt_of_heap hh
  have c0 : w.drew.cell? ⟨q, 0, none⟩ = some (.pointer (some ⟨m, 0, none⟩)) := cell_of_block hh 0
  have c2 : w.drew.cell? ⟨q, 2, none⟩ = some (.slice pa R.ps.length pc) := cell_of_block hh 2
  have hcm := rcommit_any R.ps pa pc (fun j => R.by_ ((R.ps.map PageS.n).getD j 0)) w.drew hl0 hR hm hs hp (fun j hj _ => by
    obtain ⟨e1, g, e2, e3, e4, e5⟩ := h0.rows R.ps[j] (List.getElem_mem hj)
    have e6 : (R.ps.map PageS.n).getD j 0 = R.ps[j].n := by simp [List.getD_eq_getElem?_getD, hj]
    rw [e6]
    exact ⟨⟨g, 0, none⟩, e2, e4, e5, fun e => hBr (by have e' : g = r := e; rw [← e']; exact e3)⟩)
  rw [he] at hcm
  have HCm := hid hcm
  have HH := hid h0
  have hmq : Hid (m ≠ q) := fun e => by
    have h9 := hl0.heap
    rw [e, hh] at h9
    simp at h9
  clear h hl hh hp hc hpb hcb hcm h0 hl0
  go_enter Tryz.func45, Tryz.ntmps45
  go_wp2
  refine wp_region_noPanic ?_
  refine wp_region_held_drew (S := fun W => W.cell? ⟨q, 0, none⟩ = some (.pointer (some ⟨m, 0, none⟩)) ∧ W.cell? ⟨q, 2, none⟩ = some (.slice pa R.ps.length pc)) (by kernel_rfl) ⟨c0, c2⟩ (fun hHeld => ?_)
  refine wpAnyH_take (i := 0) (v := ?_) rfl (by kernel_rfl) (by kernel_rfl) (by kernel_rfl) (fun _ _ _ h => h) (Or.inl ⟨by rfl, ?_⟩) (by assumption) ?_
  rotate_left
  · (intro W hSw; (try dsimp only at hSw); obtain ⟨s1, s2⟩ := hSw; go_simp; try with_reducible rfl)
  try simp only [List.getElem_toArray, List.getElem_cons_zero, Act.put, List.setIfInBounds_toArray, List.set_cons_zero, List.set_cons_succ]
  refine wpAnyH_take (i := 1) (v := ?_) rfl (by kernel_rfl) (by kernel_rfl) (by kernel_rfl) (fun _ _ _ h => h) (Or.inl ⟨by rfl, ?_⟩) (by assumption) ?_
  rotate_left
  · (intro W hSw; (try dsimp only at hSw); obtain ⟨s1, s2⟩ := hSw; go_simp; try with_reducible rfl)
  try simp only [List.getElem_toArray, List.getElem_cons_succ, List.getElem_cons_zero, Act.put, List.setIfInBounds_toArray, List.set_cons_zero, List.set_cons_succ]
  refine wpAnyH_take (i := 2) (v := ?_) rfl (by kernel_rfl) (by kernel_rfl) (by kernel_rfl) (fun _ _ _ h => h) (Or.inl ⟨by rfl, ?_⟩) (by assumption) ?_
  rotate_left
  · (intro W hSw; (try dsimp only at hSw); obtain ⟨s1, s2⟩ := hSw; go_simp; try with_reducible rfl)
  try simp only [List.getElem_toArray, List.getElem_cons_succ, List.getElem_cons_zero, Act.put, List.setIfInBounds_toArray, List.set_cons_zero, List.set_cons_succ]
  refine wpAnyH_take (i := 3) (v := ?_) rfl (by kernel_rfl) (by kernel_rfl) (by kernel_rfl) (fun _ _ _ h => h) (Or.inl ⟨by rfl, ?_⟩) (by assumption) ?_
  rotate_left
  · (intro W hSw; (try dsimp only at hSw); obtain ⟨s1, s2⟩ := hSw; go_simp; try with_reducible rfl)
  try simp only [List.getElem_toArray, List.getElem_cons_succ, List.getElem_cons_zero, Act.put, List.setIfInBounds_toArray, List.set_cons_zero, List.set_cons_succ]
  refine wpAnyH_take (i := 4) (v := ?_) rfl (by kernel_rfl) (by kernel_rfl) (by kernel_rfl) (fun _ _ _ h => h) (Or.inl ⟨by rfl, ?_⟩) (by assumption) ?_
  rotate_left
  · (intro W hSw; (try dsimp only at hSw); obtain ⟨s1, s2⟩ := hSw; go_simp; try with_reducible rfl)
  try simp only [List.getElem_toArray, List.getElem_cons_succ, List.getElem_cons_zero, Act.put, List.setIfInBounds_toArray, List.set_cons_zero, List.set_cons_succ]
  refine wpAnyH_take (i := 5) (v := ?_) rfl (by kernel_rfl) (by kernel_rfl) (by kernel_rfl) (fun _ _ _ h => h) (Or.inl ⟨by rfl, ?_⟩) (by assumption) ?_
  rotate_left
  · (intro W hSw; (try dsimp only at hSw); obtain ⟨s1, s2⟩ := hSw; go_simp; try with_reducible rfl)
  try simp only [List.getElem_toArray, List.getElem_cons_succ, List.getElem_cons_zero, Act.put, List.setIfInBounds_toArray, List.set_cons_zero, List.set_cons_succ]
  refine wpAnyH_take (i := 6) (v := ?_) rfl (by kernel_rfl) (by kernel_rfl) (by kernel_rfl) (fun _ _ _ h => h) (Or.inl ⟨by rfl, ?_⟩) (by assumption) ?_
  rotate_left
  · (intro W hSw; (try dsimp only at hSw); obtain ⟨s1, s2⟩ := hSw; go_simp; try with_reducible rfl)
  try simp only [List.getElem_toArray, List.getElem_cons_succ, List.getElem_cons_zero, Act.put, List.setIfInBounds_toArray, List.set_cons_zero, List.set_cons_succ]
  refine wpAnyH_take (i := 7) (v := ?_) rfl (by kernel_rfl) (by kernel_rfl) (by kernel_rfl) (fun _ _ _ h => h) (Or.inl ⟨by rfl, ?_⟩) (by assumption) ?_
  rotate_left
  · (intro W hSw; (try dsimp only at hSw); obtain ⟨s1, s2⟩ := hSw; go_simp; try with_reducible rfl)
  try simp only [List.getElem_toArray, List.getElem_cons_succ, List.getElem_cons_zero, Act.put, List.setIfInBounds_toArray, List.set_cons_zero, List.set_cons_succ]
  refine wpAnyH_ready (rs := [8]) (by kernel_rfl) (by simp) (AllReadyH.cons rfl (fun K hK => ?_) AllReadyH.nil)
  rw [if_pos (by rfl)]
  go_simp
  refine HCm.out.mono ?_
  clear HCm
  rintro e w1 ⟨rfl, lv', vs', hl1, hk1⟩
  have e0 := hk1.cell (ad := ⟨q, 0, none⟩) c0 hqr
  have e2' := hk1.cell (ad := ⟨q, 2, none⟩) c2 hqr
  have HL1 := hid hl1
  have HK1 := hid hk1
  clear hl1 hk1
  go_wp2_with fail
  refine hK.out _ _ ⟨e0, e2'⟩ (fun hHeld => ?_)
  clear hK K e0 e2'
  try simp only [List.getElem_toArray, List.getElem_cons_succ, List.getElem_cons_zero, Act.put, List.setIfInBounds_toArray, List.set_cons_zero, List.set_cons_succ]
  refine wpAnyH_take (i := 9) (v := ?_) rfl (by kernel_rfl) (by kernel_rfl) (by kernel_rfl) (fun _ _ _ h => h) (Or.inl ⟨by rfl, ?_⟩) (by assumption) ?_
  rotate_left
  · (intro W hSw; (try dsimp only at hSw); obtain ⟨s1, s2⟩ := hSw; go_simp; try with_reducible rfl)
  try simp only [List.getElem_toArray, List.getElem_cons_succ, List.getElem_cons_zero, Act.put, List.setIfInBounds_toArray, List.set_cons_zero, List.set_cons_succ]
  refine wpAnyH_done (by kernel_rfl) ?_ _
  refine NoPanic.normal ?_
  have hl1 := HL1.out
  have hk1 := HK1.out
  have h1 := HH.out.keep hk1 hqr (fun i hi e => hBr (by have e' : i = r := e; rw [← e']; exact hi))
  obtain ⟨pa1, pc1, ca1, cc1, hh1, hp1, hc1, hpb1, hcb1⟩ := h1.heap
  have d2 : w1.cell? ⟨q, 2, none⟩ = some (.slice pa1 R.ps.length pc1) := cell_of_block hh1 2
  have f2 : w1.frozen? ⟨q, 2, none⟩ = false := frozen_of_block hh1 _
  have hset : (w1.setCell ⟨q, 2, none⟩ (.slice none 0 0)).heap[q]? = some (.cells #[.pointer (some ⟨m, 0, none⟩), .int .i64 R.most, .slice none 0 0, .slice ca1 R.cs.length cc1] 46 (0, 0)) := block_setCell hh1 2 _
  have hK : Keeps (fun i => i = q) w1 (w1.setCell ⟨q, 2, none⟩ (.slice none 0 0)) := (Keeps.refl _ _).grown (grown_setCell (grown_refl _ _) _ _) (fun i e => .inl (Option.some.inj e).symm)
  have HE : Hid (R4In (w1.setCell ⟨q, 2, none⟩ (.slice none 0 0)) q m B { R with ps := [] } ∧ ∃ lv' vs' Rd', RLogIn (w1.setCell ⟨q, 2, none⟩ (.slice none 0 0)) m r fv lv' vs' Rd' (rcomR T size R.ps (fun j => R.by_ ((R.ps.map PageS.n).getD j 0))) size 0 ∧ (∀ i, Rd' i → Rd i ∨ w.heap.size ≤ i) ∧ Keeps (fun i => i = r ∨ i = q) w (w1.setCell ⟨q, 2, none⟩ (.slice none 0 0))) := by
    refine ⟨⟨⟨none, 0, ca1, cc1, hset, fun j hj => absurd hj (Nat.not_lt_zero _), hc1.keepA hK (fun ad e e2 => h1.off (e2 ▸ hcb1 ad e)), fun _ e => (by cases e), hcb1⟩, fun p hp => (by cases hp), fun i hi => Nat.lt_of_lt_of_le (h1.lt i hi) hK.size, h1.off, Nat.zero_le _, h1.few.2⟩, lv', vs', _, hl1.keepG hK ?_ (fun e => hqr e.symm) (fun i hi e => ?_), fun i hi => hi.imp id (fun h => h.1), ?_⟩
    · exact hmq.out
    · have e' : i = q := e
      subst e'
      rcases hi with h9 | h9
      · exact hRq h9
      · have h8 : w.drew.heap.size = w.heap.size := rfl
        omega
    · exact ((Keeps.of_below (F := fun i => i = r ∨ i = q) hbd).trans (hk1.mono (fun i e => .inl e)) (fun i hi => .inl hi)).trans (hK.mono (fun i e => .inr e)) (fun i hi => .inl hi)
  clear hset hK h1 hh1 hp1 hc1 hpb1 hcb1 hl1 hk1 HL1 HK1 hHeld c0 c2
  generalize R.ps.length = pl at *
  go_wp2
  go_ret
  exact ⟨rfl, HE.out⟩
/-- The pages that were written, rising, among the first so many. -/
def dkP (ps : List PageS) (k : Nat) : List Int := ((List.range k).map (fun j : Nat => (j : Int))).filter (fun n => decide (0 ≤ posP n ps 0))
theorem dkP_yes (ps : List PageS) (k : Nat) (h : 0 ≤ posP k ps 0) : dkP ps (k + 1) = dkP ps k ++ [(k : Int)] := by
  unfold dkP; rw [List.range_succ, List.map_append, List.filter_append]; simp [h]
theorem dkP_no (ps : List PageS) (k : Nat) (h : ¬ 0 ≤ posP k ps 0) : dkP ps (k + 1) = dkP ps k := by
  unfold dkP; rw [List.range_succ, List.map_append, List.filter_append]; simp [h]
theorem dkP_len (ps : List PageS) (k : Nat) : (dkP ps k).length ≤ k := Nat.le_trans (List.length_filter_le _ _) (by simp)
theorem posP_bound (n : Int) : ∀ (ps : List PageS) (k : Nat), -1 ≤ posP n ps k ∧ posP n ps k < (k : Int) + ps.length + 1
  | [], k => by unfold posP; simp; omega
  | p :: ps, k => by
    unfold posP
    have ih := posP_bound n ps (k + 1)
    split
    · simp; omega
    · simp only [List.length_cons]; omega
set_option maxRecDepth 100000 in
set_option maxHeartbeats 1000000 in
/-- Dirty. -/
theorem r4dirty_any (w : World) (h : R4In w q m B R) (hl : RLogIn w m r fv lv vs Rd T size 0) (hR : T.first.length ≤ 4096) (hs : size + 1 ≤ T.first.length) :
    Calls Tryz.prog 14 #[.pointer (some ⟨q, 0, none⟩)] w fun e w' => ∃ a c, e = .returned (.slice a (dkP R.ps (pagesR T size)).length c) ∧ intsAt w' a (dkP R.ps (pagesR T size)) ∧ Below w.heap.size w w' := by
  obtain ⟨i0, hi, hz0, hz1, hz2⟩ := info_parts infoInt
  have HI := hid hi
  obtain ⟨pa, pc, ca, cc, hh, -, -, -, -⟩ := h.heap
  have hql := lt_of_heap hh
  have c0 : w.cell? ⟨q, 0, none⟩ = some (.pointer (some ⟨m, 0, none⟩)) := cell_of_block hh 0
  have hNN : pagesR T size ≤ 4096 := by unfold pagesR; omega
  have HPg := hid (fun W (hW : Below w.heap.size w W) => rlpages_any W (hl.below hW) hR hs)
  have HAt := hid (fun n W (hW : Below w.heap.size w W) => r4at_any n W (h.below hW))
  clear h hl hh hi
  generalize R.ps = ps at *
  generalize pagesR T size = NN at *
  go_enter Tryz.func14, Tryz.ntmps14
  go_wp2
  go_loopw [3, 4] (fun v i wr => ∃ k : Nat, k ≤ NN ∧ i = .int .i64 k ∧ Hid (wr.ownsRow w.heap.size 3 1 v (dkP ps k).length ((dkP ps k).map encZ)) ∧ Hid (Below w.heap.size w wr)) (fun _ i _ => NN - (intOf i).toNat)
  case atStart => exact ⟨0, by omega, rfl, World.ownsRow_nil _ _ _ _, Below.refl _ _⟩
  case round =>
    obtain ⟨k, hk, rfl, hO, hB⟩ := hrel
    have c0r := (hB.out.cell (p := ⟨q, 0, none⟩) hql).trans c0
    have HPr := hid (HPg.out wr hB.out)
    by_cases hlt : k < NN
    · have hk0 : (0 : Int) ≤ (k : Int) := by omega
      have hk1 : (k : Int) < (NN : Int) := by omega
      go_wp2_with fail
      refine HPr.out.mono ?_
      clear HPr
      rintro e w1 ⟨rfl, hb1⟩
      have HB1 := hid (hB.out.trans (hb1.mono hB.out.size))
      have HO1 := hid ((Keeps.of_below (F := fun _ => False) hb1).row hO.out (fun _ _ h => h))
      have HA1 := hid (HAt.out (k : Int) w1 HB1.out)
      clear hb1 hO hB c0r
      go_wp2_with fail
      refine HA1.out.mono ?_
      clear HA1
      rintro e w2 ⟨rfl, hb2⟩
      have HB2 := hid (HB1.out.trans (hb2.mono HB1.out.size))
      have HO2 := hid ((Keeps.of_below (F := fun _ => False) hb2).row HO1.out (fun _ _ h => h))
      clear hb2 HO1 HB1
      obtain ⟨pz, hpz⟩ : ∃ pz, pz = posP (k : Int) ps 0 := ⟨_, rfl⟩
      rw [← hpz]
      by_cases hy : 0 ≤ pz
      · have HS : Hid (dkP ps (k + 1) = dkP ps k ++ [(k : Int)]) := dkP_yes ps k (by rw [← hpz]; exact hy)
        have HF := hid (dkP_len ps k)
        have hsz := HB2.out.size
        clear hpz
        generalize dkP ps k = f at *
        have hkf : f.length ≤ 4096 := by have := HF.out; omega
        go_wp2_with (refine wpList_append_lies _ rfl (.tmp 22) (.tmp 24) 32 rfl w.heap.size 3 i0 (.int .i64 0) 1 8 Tryz.underlying32 HI.out hz0 hz1 hz2 rfl (by omega) u3 f.length _ rfl (HO2.out.alloc _) ⟨w2.heap.size, 0, none⟩ 1 1 [.int .i64 (k : Int)] rfl rfl (World.news_of_block (cs := #[.int .i64 (k : Int)]) (block_new w2 _)) (by intro u hu; rw [List.mem_singleton.1 hu]; rfl) (by omega) (by unfold maxLen; omega) (by omega) (by simp; omega) (w2.heap.size + 1) (by simp) ?_; intro g2 cap2 w5 hown hgr hat hlt2; have HOw := hid hown; have HG := hid hgr; clear hown hgr hat hlt2)
        have hba := HB2.out.trans (((Below.refl w2.heap.size w2).alloc (Nat.le_refl _) (.cells #[.int .i64 (k : Int)] 3)).mono HB2.out.size)
        refine ⟨⟨k + 1, by omega, by go_num, ?_, hba.trans (below_of_row HG.out hba.size (fun i e => (HO2.out.lt i e).1))⟩, by simp [intOf]; omega⟩
        unfold Hid
        rw [HS.out, List.length_append, List.map_append]
        exact HOw.out
      · have HS : Hid (dkP ps (k + 1) = dkP ps k) := dkP_no ps k (by rw [← hpz]; exact hy)
        have HO3 : Hid (w2.ownsRow w.heap.size 3 1 u3 (dkP ps (k + 1)).length ((dkP ps (k + 1)).map encZ)) := by unfold Hid; rw [HS.out]; exact HO2.out
        clear hpz HO2
        go_wp2
        exact ⟨⟨k + 1, by omega, by go_num, HO3, HB2⟩, by simp [intOf]; omega⟩
    · obtain rfl : k = NN := by omega
      have hge : ¬ ((k : Int) < (k : Int)) := by omega
      obtain ⟨p3, c3, rfl, hi3⟩ := ints_of_row hO.out
      have HI3 := hid hi3
      clear hO hi3
      go_wp2_with fail
      refine HPr.out.mono ?_
      clear HPr
      rintro e w1 ⟨rfl, hb1⟩
      have HB1 := hid (hB.out.trans (hb1.mono hB.out.size))
      have HI4 := hid (HI3.out.below hb1)
      clear hb1 HI3
      go_wp2
      go_ret
      exact ⟨p3, c3, rfl, HI4.out, HB1.out⟩
end
end Go.Proofs.YtjgclmlclkfgpaaGreat
/- The reference's cache: Read. -/
namespace Go.Proofs.YtjgclmlclkfgpaaGreat
open Go.RowKit Go.Maps
/-- The cache behind a use. -/
def useC (cs : List Int) (n : Int) (most : Nat) : List Int := if most < (woZ cs n ++ [n]).length then (woZ cs n ++ [n]).tail else woZ cs n ++ [n]
section
variable {q m : Nat} {B : Nat → Prop} {R : R4} {r : Nat} {fv lv : Value} {vs : List Value} {Rd : Nat → Prop} {T : RefS} {size : Nat}
set_option maxRecDepth 100000 in
theorem r4read_no (n : Int) (w : World) (h : R4In w q m B R) (hl : RLogIn w m r fv lv vs Rd T size 0) (hR : T.first.length ≤ 4096) (hs : size + 1 ≤ T.first.length) (hn : ¬ (0 ≤ n ∧ n < (pagesR T size : Int))) :
    Calls Tryz.prog 43 #[.pointer (some ⟨q, 0, none⟩), .int .i64 n] w fun e w' => e = .returned (.tuple #[.slice none 0 0, .int .i64 2]) ∧ Below w.heap.size w w' := by
  obtain ⟨pa, pc, ca, cc, hh, -, -, -, -⟩ := h.heap
  have c0 : w.cell? ⟨q, 0, none⟩ = some (.pointer (some ⟨m, 0, none⟩)) := cell_of_block hh 0
  have HPg := hid (rlpages_any w hl hR hs)
  clear h hl hh
  generalize pagesR T size = NN at *
  by_cases h0 : n < 0
  · go_enter Tryz.func43, Tryz.ntmps43
    go_wp2
    go_returns
    exact ⟨rfl, Below.refl _ _⟩
  · have h1 : (NN : Int) ≤ n := by omega
    have h2 : ¬ (n < (NN : Int)) := by omega
    go_enter Tryz.func43, Tryz.ntmps43
    go_wp2_with fail
    refine HPg.out.mono ?_
    clear HPg
    rintro e w1 ⟨rfl, hb1⟩
    have HB1 := hid hb1
    clear hb1
    go_wp2
    go_returns
    exact ⟨rfl, HB1.out⟩
set_option maxRecDepth 100000 in
theorem r4read_dirty (n : Int) (w : World) (h : R4In w q m B R) (hl : RLogIn w m r fv lv vs Rd T size 0) (hR : T.first.length ≤ 4096) (hs : size + 1 ≤ T.first.length) (hn : 0 ≤ n ∧ n < (pagesR T size : Int)) (j : Nat) (hj : j < R.ps.length) (hpos : posP n R.ps 0 = (j : Int)) (hjn : R.ps[j].n = n) :
    Calls Tryz.prog 43 #[.pointer (some ⟨q, 0, none⟩), .int .i64 n] w fun e w' => Below w.heap.size w w' ∧ ∃ g cap, e = .returned (.tuple #[.slice (some ⟨g, 0, none⟩) 512 cap, .int .i64 0]) ∧ bytesIn w' (some ⟨g, 0, none⟩) (R.by_ n) := by
  obtain ⟨pa, pc, ca, cc, hh, hp, -, -, -⟩ := h.heap
  have hql := lt_of_heap hh
  have c0 : w.cell? ⟨q, 0, none⟩ = some (.pointer (some ⟨m, 0, none⟩)) := cell_of_block hh 0
  have c2 : w.cell? ⟨q, 2, none⟩ = some (.slice pa R.ps.length pc) := cell_of_block hh 2
  obtain ⟨b, o, rfl, hc⟩ := hp j hj
  obtain ⟨e1, g, e2, e3, e4, e5⟩ := h.rows R.ps[j] (List.getElem_mem hj)
  have hcj := (hc j hj).2
  have hval : R.ps[j].val = .slice (some ⟨g, 0, none⟩) 512 R.ps[j].cap := by unfold PageS.val; rw [e1, e2]
  rw [hval] at hcj
  rw [hjn] at e4 e5
  have HPg := hid (rlpages_any w hl hR hs)
  have HAt := hid (fun W (hW : Below w.heap.size w W) => r4at_any n W (h.below hW))
  rw [hpos] at HAt
  have HBy := hid e4
  have HLn := hid e5
  have hjl : (j : Int) < (R.ps.length : Int) := by omega
  have hj0 : (0 : Int) ≤ (j : Int) := by omega
  have hn0 : ¬ (n < 0) := by omega
  have hn1 : ¬ ((pagesR T size : Int) ≤ n) := by omega
  have hn2 : n < (pagesR T size : Int) := by omega
  have hbl : b < w.heap.size := World.block_lt_of_cell? w _ hcj
  clear h hl hh hc hp hval e1 e2 e3 e4 e5 hpos hjn
  generalize pagesR T size = NN at *
  generalize R.ps[j].cap = cp at *
  generalize R.ps.length = pl at *
  generalize R.by_ n = bs at *
  go_enter Tryz.func43, Tryz.ntmps43
  go_wp2_with fail
  refine HPg.out.mono ?_
  clear HPg
  rintro e w1 ⟨rfl, hb1⟩
  have HB1 := hid hb1
  have HA1 := hid (HAt.out w1 hb1)
  clear hb1 HAt
  go_wp2_with fail
  refine HA1.out.mono ?_
  clear HA1
  rintro e w2 ⟨rfl, hb2⟩
  have hb := HB1.out.trans (hb2.mono HB1.out.size)
  have HB2 := hid hb
  have d2 : w2.cell? ⟨q, 2, none⟩ = some (.slice (some ⟨b, o, none⟩) pl pc) := (hb.cell (p := ⟨q, 2, none⟩) hql).trans c2
  have dj : w2.cell? ⟨b, o + j * 2 + 1, none⟩ = some (.slice (some ⟨g, 0, none⟩) 512 cp) := (hb.cell (p := ⟨b, o + j * 2 + 1, none⟩) hbl).trans hcj
  have hby2 : bytesAt w2 ⟨g, 0, none⟩ bs := fun i hi => (hb.cell (World.block_lt_of_cell? w _ (HBy.out i hi))).trans (HBy.out i hi)
  have HCp := hid (copy_any bs (some ⟨g, 0, none⟩) cp w2 (bytesIn_of_at hby2) (by rw [HLn.out]; decide) (by rw [HLn.out]; decide))
  rw [HLn.out] at HCp
  clear hb2 hb c0 c2 hcj hby2 HB1
  go_wp2_with fail
  refine HCp.out.mono ?_
  clear HCp
  rintro e w3 ⟨g3, c3, rfl, hby3, -, -, hb3⟩
  have HE : Hid (Below w.heap.size w w3 ∧ bytesIn w3 (some ⟨g3, 0, none⟩) bs) := ⟨HB2.out.trans (hb3.mono HB2.out.size), hby3⟩
  clear hby3 hb3 d2 dj
  go_wp2
  go_returns
  exact ⟨HE.out.1, g3, c3, rfl, HE.out.2⟩
set_option maxRecDepth 100000 in
set_option maxHeartbeats 2000000 in
theorem r4read_clean (n : Nat) (bs : List UInt8) (w : World) (h : R4In w q m B R) (hl : RLogIn w m r fv lv vs Rd T size 0) (hR : okR T) (hm : T.l.length ≤ 1000000) (hs : size + 1 ≤ T.first.length) (hn : n < pagesR T size) (hbs : (atL T T.l.length)[size + 1 + n]? = some bs) (h5 : bs.length = 512) (hpos : posP n R.ps 0 = -1) (hcs : R.cs.length ≤ 64) (hqr : q ≠ r) (hRq : ¬ Rd q) :
    Calls Tryz.prog 43 #[.pointer (some ⟨q, 0, none⟩), .int .i64 n] w fun e w' => ∃ g cap B', e = .returned (.tuple #[.slice (some ⟨g, 0, none⟩) 512 cap, .int .i64 0]) ∧ bytesIn w' (some ⟨g, 0, none⟩) bs ∧ R4In w' q m B' { R with cs := useC R.cs n R.most } ∧ (∀ i, B' i → B i ∨ w.heap.size ≤ i) ∧ Keeps (fun i => i = q) w w' := by
  have hf := hR.1
  obtain ⟨pa, pc, ca, cc, hh, hp, hci, hpb, hcb⟩ := h.heap
  have hql := lt_of_heap hh
  have c0 : w.cell? ⟨q, 0, none⟩ = some (.pointer (some ⟨m, 0, none⟩)) := cell_of_block hh 0
  have c3 : w.cell? ⟨q, 3, none⟩ = some (.slice ca R.cs.length cc) := cell_of_block hh 3
  have HPg := hid (rlpages_any w hl hf hs)
  have HAt := hid (fun W (hW : Below w.heap.size w W) => r4at_any (n : Int) W (h.below hW))
  rw [hpos] at HAt
  have HWo := hid (fun W (hW : Below w.heap.size w W) => r4without_any R.cs (n : Int) ca cc W (hci.below hW) (by omega))
  have hn0 : ¬ ((n : Int) < 0) := by omega
  have hn1 : ¬ ((pagesR T size : Int) ≤ (n : Int)) := by omega
  have hn2 : (n : Int) < (pagesR T size : Int) := by omega
  have HH := hid h
  have HL := hid hl
  have HRdA := hid (fun W (hW : RLogIn W m r fv lv vs Rd T size 0) => rlread_ok n bs W hW hR hm hs hn hbs h5)
  clear h hl hh hp hci hpb hcb hpos hn
  generalize pagesR T size = NN at *
  go_enter Tryz.func43, Tryz.ntmps43
  go_wp2_with fail
  refine HPg.out.mono ?_
  clear HPg
  rintro e w1 ⟨rfl, hb1⟩
  have HB1 := hid hb1
  have HA1 := hid (HAt.out w1 hb1)
  clear hb1 HAt
  go_wp2_with fail
  refine HA1.out.mono ?_
  clear HA1
  rintro e w2 ⟨rfl, hb2⟩
  have hb := HB1.out.trans (hb2.mono HB1.out.size)
  have HB2 := hid hb
  have d0 := (hb.cell (p := ⟨q, 0, none⟩) hql).trans c0
  have d3 := (hb.cell (p := ⟨q, 3, none⟩) hql).trans c3
  have HW2 := hid (HWo.out w2 hb)
  clear hb2 hb HB1 HWo
  go_wp2_with fail
  refine HW2.out.mono ?_
  clear HW2
  rintro e w3 ⟨v3, rfl, hrow, hb3⟩
  have HO := hid hrow
  have hb' := HB2.out.trans (hb3.mono HB2.out.size)
  have HB3 := hid hb'
  have HS23 := hid hb3.size
  have g0 := (hb'.cell (p := ⟨q, 0, none⟩) hql).trans c0
  have g3 := (hb'.cell (p := ⟨q, 3, none⟩) hql).trans c3
  have hqv : ∀ i, v3.ownBlock = some i → w2.heap.size ≤ i := fun i e => (hrow.lt i e).1
  have hq2 : q < w2.heap.size := Nat.lt_of_lt_of_le hql HB2.out.size
  have HQV := hid hqv
  have hfl : (woZ R.cs (n : Int)).length ≤ 64 := Nat.le_trans (woZ_len _ _) hcs
  obtain ⟨wa, hwa⟩ : ∃ wa, wa = w3.alloc (.cells #[.int .i64 (n : Int)] 3) := ⟨_, rfl⟩
  have hka : Keeps (fun i => v3.ownBlock = some i) w3 wa := by rw [hwa]; exact Keeps.alloc (Keeps.refl _ w3) _
  have HKa : Hid (∀ W, wa.grownBy W v3.ownBlock → Keeps (fun i => v3.ownBlock = some i) w3 W) := fun W hW => hka.grown hW (fun i e => .inl e)
  have HCell : Hid (∀ W, wa.grownBy W v3.ownBlock → W.cell? ⟨q, 3, none⟩ = some (.slice ca R.cs.length cc) ∧ W.frozen? ⟨q, 3, none⟩ = false) := fun W hW => by
    have hk := HKa.out W hW
    obtain ⟨pa2, pc2, ca2, cc2, hh2, -, -, -, -⟩ := ((HH.out.below HB3.out).keep hk (fun e => by have := hqv q e; omega) (fun i hi e => by have h1 := hqv i e; have h2 := HH.out.lt i hi; have h3 := HB2.out.size; omega)).heap
    refine ⟨hk.cell (ad := ⟨q, 3, none⟩) g3 (fun e => by have := hqv q e; omega), frozen_of_block hh2 _⟩
  obtain ⟨i0, hi, hz0, hz1, hz2⟩ := info_parts infoInt
  have HI0 := hid hi
  have hsz3 := hb3.size
  have HWa := hid hwa
  obtain ⟨f, hfe⟩ : ∃ f, f = woZ R.cs (n : Int) := ⟨_, rfl⟩
  rw [← hfe] at HO hfl
  have HF := hid hfe
  clear hrow hb3 hb' d0 d3 hi hqv hka hfe
  go_upto_region 9 with (refine wpList_append_lies _ rfl (.tmp 42) (.tmp 44) 32 rfl w2.heap.size 3 i0 (.int .i64 0) 1 8 Tryz.underlying32 HI0.out hz0 hz1 hz2 rfl (by omega) v3 f.length _ rfl (HO.out.alloc _) ⟨w3.heap.size, 0, none⟩ 1 1 [.int .i64 (n : Int)] rfl rfl (World.news_of_block (cs := #[.int .i64 (n : Int)]) (block_new w3 _)) (by intro u hu; rw [List.mem_singleton.1 hu]; rfl) (by omega) (by unfold maxLen; omega) (by omega) (by simp; omega) (w3.heap.size + 1) (by simp) ?_; intro g5 cap5 w5 hown hgr hat hlt2; rw [← hwa] at hgr; have HOw := hid hown; have HG := hid hgr; obtain ⟨k3, kf⟩ := HCell.out w5 hgr; clear hown hgr hat hlt2)
  have hs2 := HB2.out.size
  have hk5 := HKa.out w5 HG.out
  have h5' := (HH.out.below HB3.out).keep hk5 (fun e => by have := HQV.out q e; omega) (fun i hi e => by have h1 := HQV.out i e; have h2 := HH.out.lt i hi; omega)
  obtain ⟨pa5, pc5, ca5, cc5, hh5, hp5, -, hpb5, -⟩ := h5'.heap
  have hown5 := HOw.out
  have hg5 : w2.heap.size ≤ g5 := (hown5.lt g5 rfl).1
  have hg5l : g5 < w5.heap.size := (hown5.lt g5 rfl).2
  have hin5 : intsAt w5 (some ⟨g5, 0, none⟩) (f ++ [(n : Int)]) := by
    have h9 : w5.ownsRow w2.heap.size 3 1 (.slice (some ⟨g5, 0, none⟩) (f.length + 1) cap5) (f ++ [(n : Int)]).length ((f ++ [(n : Int)]).map encZ) := by
      rw [List.length_append, List.map_append]; exact hown5
    obtain ⟨a9, c9, e9, hi9⟩ := ints_of_row h9
    simp only [Value.slice.injEq] at e9
    rw [e9.1]; exact hi9
  have hK6 : Keeps (fun i => i = q) w5 (w5.setCell ⟨q, 3, none⟩ (.slice (some ⟨g5, 0, none⟩) (f.length + 1) cap5)) := (Keeps.refl _ _).grown (grown_setCell (grown_refl _ _) _ _) (fun i e => .inl (Option.some.inj e).symm)
  have hh6 : (w5.setCell ⟨q, 3, none⟩ (.slice (some ⟨g5, 0, none⟩) (f.length + 1) cap5)).heap[q]? = some (.cells #[.pointer (some ⟨m, 0, none⟩), .int .i64 R.most, .slice pa5 R.ps.length pc5, .slice (some ⟨g5, 0, none⟩) (f.length + 1) cap5] 46 (0, 0)) := block_setCell hh5 3 _
  have hR6 : R4In (w5.setCell ⟨q, 3, none⟩ (.slice (some ⟨g5, 0, none⟩) (f.length + 1) cap5)) q m (fun i => B i ∨ i = g5) { R with cs := f ++ [(n : Int)] } := by
    refine ⟨⟨pa5, pc5, some ⟨g5, 0, none⟩, cap5, ?_, hp5.keepA hK6 (fun ad e e2 => HH.out.off (e2 ▸ hpb5 ad e)), hin5.keepA hK6 (fun ad e e2 => ?_), fun ad e => .inl (hpb5 ad e), fun ad e => ?_⟩, fun p hp => ?_, fun i hi => ?_, fun hi => ?_, HH.out.few.1, ?_⟩
    · rw [show ({ R with cs := f ++ [(n : Int)] } : R4).cs.length = f.length + 1 by simp]; exact hh6
    · obtain rfl := (Option.some.inj e)
      have e3 : g5 = q := e2
      omega
    · obtain rfl := (Option.some.inj e); exact .inr rfl
    · obtain ⟨x1, g, x2, x3, x4, x5⟩ := h5'.rows p hp
      exact ⟨x1, g, x2, .inl x3, fun j hj => hK6.cell (x4 j hj) (by rw [add_block]; exact fun e => HH.out.off (e ▸ x3)), x5⟩
    · have h8 := hK6.size
      rcases hi with hi | hi
      · exact Nat.lt_of_lt_of_le (h5'.lt i hi) h8
      · omega
    · rcases hi with hi | hi
      · exact HH.out.off hi
      · omega
    · show (f ++ [(n : Int)]).length ≤ 4096
      simp; omega
  have hKw : Keeps (fun i => i = q) w (w5.setCell ⟨q, 3, none⟩ (.slice (some ⟨g5, 0, none⟩) (f.length + 1) cap5)) := ((Keeps.of_below (F := fun i => i = q) HB3.out).trans hk5 (fun i e => .inr (by have := HQV.out i e; omega))).trans hK6 (fun i e => .inl e)
  have HR6 := hid hR6
  have HKw := hid hKw
  have HHh6 := hid hh6
  have HIn := hid (hin5.keepA hK6 (fun ad e e2 => by
    obtain rfl := (Option.some.inj e)
    have e3 : g5 = q := e2
    omega))
  have HPA := hid (hp5.keepA hK6 (fun ad e e2 => HH.out.off (e2 ▸ hpb5 ad e)))
  have HPB := hid hpb5
  have hcap : f.length + 1 ≤ cap5 := by
    rcases hown5.2 with ⟨h9, _⟩ | ⟨g9, cap9, cur9, h9, _, _, h8, _⟩
    · cases h9
    · simp only [Value.slice.injEq] at h9; omega
  clear hk5 h5' hh5 hp5 hpb5 hown5 hin5 hK6 hR6 hKw HOw HG HCell HKa k3 kf hh6
  generalize w5.setCell ⟨q, 3, none⟩ (.slice (some ⟨g5, 0, none⟩) (f.length + 1) cap5) = w6 at *
  have y0 : w6.cell? ⟨q, 0, none⟩ = some (.pointer (some ⟨m, 0, none⟩)) := cell_of_block HHh6.out 0
  have y1 : w6.cell? ⟨q, 1, none⟩ = some (.int .i64 R.most) := cell_of_block HHh6.out 1
  have y3 : w6.cell? ⟨q, 3, none⟩ = some (.slice (some ⟨g5, 0, none⟩) (f.length + 1) cap5) := cell_of_block HHh6.out 3
  have yf : w6.frozen? ⟨q, 3, none⟩ = false := frozen_of_block HHh6.out _
  have hmq : m ≠ q := fun e => by
    have h9 := HL.out.heap
    obtain ⟨pa9, pc9, ca9, cc9, hh9, -⟩ := HH.out.heap
    rw [e, hh9] at h9
    simp at h9
  have HRl : Hid (∀ W, Keeps (fun i => i = q) w W → RLogIn W m r fv lv vs Rd T size 0) := fun W hW => HL.out.keepG hW hmq (fun e => hqr e.symm) (fun i hi e => hRq (by have e' : i = q := e; rw [← e']; exact hi))
  by_cases hgt : R.most < f.length + 1
  · have hgt1 : ((R.most : Nat) : Int) < (f.length : Int) + 1 := by omega
    have hc1 : (1 : Int) ≤ (f.length : Int) + 1 := by omega
    have hc2 : (f.length : Int) + 1 ≤ (cap5 : Int) := by omega
    refine wp_region_noPanic ?_
    refine wp_region_held_drew (S := fun W => W.cell? ⟨q, 1, none⟩ = some (.int .i64 R.most) ∧ W.cell? ⟨q, 3, none⟩ = some (.slice (some ⟨g5, 0, none⟩) (f.length + 1) cap5)) (by kernel_rfl) ⟨y1, y3⟩ (fun hHeld => ?_)
    refine wpAnyH_take (i := 0) (v := ?_) rfl (by kernel_rfl) (by kernel_rfl) (by kernel_rfl) (fun _ _ _ h => h) (Or.inl ⟨by rfl, ?_⟩) (by assumption) ?_
    rotate_left
    · (intro W hSw; (try dsimp only at hSw); obtain ⟨s1, s3⟩ := hSw; go_simp; try with_reducible rfl)
    try simp only [List.getElem_toArray, List.getElem_cons_zero, Act.put, List.setIfInBounds_toArray, List.set_cons_zero, List.set_cons_succ]
    refine wpAnyH_take (i := 1) (v := ?_) rfl (by kernel_rfl) (by kernel_rfl) (by kernel_rfl) (fun _ _ _ h => h) (Or.inl ⟨by rfl, ?_⟩) (by assumption) ?_
    rotate_left
    · (intro W hSw; (try dsimp only at hSw); obtain ⟨s1, s3⟩ := hSw; go_simp; try with_reducible rfl)
    try simp only [List.getElem_toArray, List.getElem_cons_succ, List.getElem_cons_zero, Act.put, List.setIfInBounds_toArray, List.set_cons_zero, List.set_cons_succ]
    refine wpAnyH_take (i := 2) (v := ?_) rfl (by kernel_rfl) (by kernel_rfl) (by kernel_rfl) (fun _ _ _ h => h) (Or.inl ⟨by rfl, ?_⟩) (by assumption) ?_
    rotate_left
    · (intro W hSw; (try dsimp only at hSw); obtain ⟨s1, s3⟩ := hSw; go_simp; try with_reducible rfl)
    try simp only [List.getElem_toArray, List.getElem_cons_succ, List.getElem_cons_zero, Act.put, List.setIfInBounds_toArray, List.set_cons_zero, List.set_cons_succ]
    refine wpAnyH_take (i := 3) (v := ?_) rfl (by kernel_rfl) (by kernel_rfl) (by kernel_rfl) (fun _ _ _ h => h) (Or.inl ⟨by rfl, ?_⟩) (by assumption) ?_
    rotate_left
    · (intro W hSw; (try dsimp only at hSw); obtain ⟨s1, s3⟩ := hSw; go_simp; try with_reducible rfl)
    try simp only [List.getElem_toArray, List.getElem_cons_succ, List.getElem_cons_zero, Act.put, List.setIfInBounds_toArray, List.set_cons_zero, List.set_cons_succ]
    refine wpAnyH_take (i := 4) (v := ?_) rfl (by kernel_rfl) (by kernel_rfl) (by kernel_rfl) (fun _ _ _ h => h) (Or.inl ⟨by rfl, ?_⟩) (by assumption) ?_
    rotate_left
    · (intro W hSw; (try dsimp only at hSw); obtain ⟨s1, s3⟩ := hSw; go_simp; try with_reducible rfl)
    try simp only [List.getElem_toArray, List.getElem_cons_succ, List.getElem_cons_zero, Act.put, List.setIfInBounds_toArray, List.set_cons_zero, List.set_cons_succ]
    refine wpAnyH_take (i := 5) (v := ?_) rfl (by kernel_rfl) (by kernel_rfl) (by kernel_rfl) (fun _ _ _ h => h) (Or.inl ⟨by rfl, ?_⟩) (by assumption) ?_
    rotate_left
    · (intro W hSw; (try dsimp only at hSw); obtain ⟨s1, s3⟩ := hSw; go_simp; try with_reducible rfl)
    try simp only [List.getElem_toArray, List.getElem_cons_succ, List.getElem_cons_zero, Act.put, List.setIfInBounds_toArray, List.set_cons_zero, List.set_cons_succ]
    refine wpAnyH_take (i := 6) (v := ?_) rfl (by kernel_rfl) (by kernel_rfl) (by kernel_rfl) (fun _ _ _ h => h) (Or.inl ⟨by rfl, ?_⟩) (by assumption) ?_
    rotate_left
    · (intro W hSw; (try dsimp only at hSw); obtain ⟨s1, s3⟩ := hSw; go_simp; try with_reducible rfl)
    try simp only [List.getElem_toArray, List.getElem_cons_succ, List.getElem_cons_zero, Act.put, List.setIfInBounds_toArray, List.set_cons_zero, List.set_cons_succ]
    refine wpAnyH_take (i := 7) (v := ?_) rfl (by kernel_rfl) (by kernel_rfl) (by kernel_rfl) (fun _ _ _ h => h) (Or.inl ⟨by rfl, ?_⟩) (by assumption) ?_
    rotate_left
    · (intro W hSw; (try dsimp only at hSw); obtain ⟨s1, s3⟩ := hSw; go_simp; try with_reducible rfl)
    try simp only [List.getElem_toArray, List.getElem_cons_succ, List.getElem_cons_zero, Act.put, List.setIfInBounds_toArray, List.set_cons_zero, List.set_cons_succ]
    refine wpAnyH_take (i := 8) (v := ?_) rfl (by kernel_rfl) (by kernel_rfl) (by kernel_rfl) (fun _ _ _ h => h) (Or.inl ⟨by rfl, ?_⟩) (by assumption) ?_
    rotate_left
    · (intro W hSw; (try dsimp only at hSw); obtain ⟨s1, s3⟩ := hSw; go_simp; try with_reducible rfl)
    try simp only [List.getElem_toArray, List.getElem_cons_succ, List.getElem_cons_zero, Act.put, List.setIfInBounds_toArray, List.set_cons_zero, List.set_cons_succ]
    refine wpAnyH_take (i := 9) (v := ?_) rfl (by kernel_rfl) (by kernel_rfl) (by kernel_rfl) (fun _ _ _ h => h) (Or.inl ⟨by rfl, ?_⟩) (by assumption) ?_
    rotate_left
    · (intro W hSw; (try dsimp only at hSw); obtain ⟨s1, s3⟩ := hSw; go_simp; try with_reducible rfl)
    try simp only [List.getElem_toArray, List.getElem_cons_succ, List.getElem_cons_zero, Act.put, List.setIfInBounds_toArray, List.set_cons_zero, List.set_cons_succ]
    refine wpAnyH_done (by kernel_rfl) ?_ _
    refine NoPanic.normal ?_
    clear hHeld
    have z3 : w6.drew.cell? ⟨q, 3, none⟩ = some (.slice (some ⟨g5, 0, none⟩) (f.length + 1) cap5) := y3
    have zf : w6.drew.frozen? ⟨q, 3, none⟩ = false := yf
    have z0 : w6.drew.cell? ⟨q, 0, none⟩ = some (.pointer (some ⟨m, 0, none⟩)) := y0
    go_upto_region 11 with fail
    obtain ⟨a7, ha7⟩ : ∃ a7, a7 = (if cap5 = 1 then some (⟨g5, 0, none⟩ : Addr) else some ⟨g5, 1, none⟩) := ⟨_, rfl⟩
    rw [← ha7]
    have htl : (f ++ [(n : Int)]).tail.length = f.length := by simp
    have hin7 : intsAt w6 a7 (f ++ [(n : Int)]).tail := fun j hj => by
      rw [htl] at hj
      have hc7 : ¬ cap5 = 1 := by omega
      rw [if_neg hc7] at ha7
      refine ⟨g5, 1, ha7, fun i hi => ?_⟩
      rw [htl] at hi
      obtain ⟨b9, o9, e9, hc9⟩ := HIn.out 0 (by simp)
      simp only [Option.some.injEq, Addr.mk.injEq, and_true] at e9
      have h9 := hc9 (i + 1) (by simp; omega)
      rw [← e9.1, ← e9.2] at h9
      rw [List.getElem_tail, show 1 + i = 0 + (i + 1) by omega]
      exact h9
    have hab : ∀ ad, a7 = some ad → ad.block = g5 := fun ad e => by
      rw [ha7] at e
      split at e <;> (obtain rfl := Option.some.inj e; rfl)
    have hK7 : Keeps (fun i => i = q) w6 (w6.setCell ⟨q, 3, none⟩ (.slice a7 f.length (cap5 - 1))) := (Keeps.refl _ _).grown (grown_setCell (grown_refl _ _) _ _) (fun i e => .inl (Option.some.inj e).symm)
    have hh7 : (w6.setCell ⟨q, 3, none⟩ (.slice a7 f.length (cap5 - 1))).heap[q]? = some (.cells #[.pointer (some ⟨m, 0, none⟩), .int .i64 R.most, .slice pa5 R.ps.length pc5, .slice a7 f.length (cap5 - 1)] 46 (0, 0)) := block_setCell HHh6.out 3 _
    have hR7 : R4In (w6.setCell ⟨q, 3, none⟩ (.slice a7 f.length (cap5 - 1))) q m (fun i => B i ∨ i = g5) { R with cs := (f ++ [(n : Int)]).tail } := by
      refine ⟨⟨pa5, pc5, a7, cap5 - 1, ?_, HPA.out.keepA hK7 (fun ad e e2 => HH.out.off (e2 ▸ HPB.out ad e)), hin7.keepA hK7 (fun ad e e2 => ?_), fun ad e => .inl (HPB.out ad e), fun ad e => .inr (hab ad e)⟩, fun p hp => ?_, fun i hi => Nat.lt_of_lt_of_le (HR6.out.lt i hi) hK7.size, HR6.out.off, HH.out.few.1, ?_⟩
      · rw [show ({ R with cs := (f ++ [(n : Int)]).tail } : R4).cs.length = f.length from htl]; exact hh7
      · have e3 : ad.block = q := e2
        rw [hab ad e] at e3
        omega
      · obtain ⟨x1, g, x2, x3, x4, x5⟩ := HR6.out.rows p hp
        exact ⟨x1, g, x2, x3, fun j hj => hK7.cell (x4 j hj) (by rw [add_block]; exact fun e => HR6.out.off (e ▸ x3)), x5⟩
      · show (f ++ [(n : Int)]).tail.length ≤ 4096
        rw [htl]; omega
    have hbd : Below (w6.setCell ⟨q, 3, none⟩ (.slice a7 f.length (cap5 - 1))).heap.size (w6.setCell ⟨q, 3, none⟩ (.slice a7 f.length (cap5 - 1))) (w6.setCell ⟨q, 3, none⟩ (.slice a7 f.length (cap5 - 1))).drew := (Below.refl _ _).drew
    have hkd : Keeps (fun i => i = q) w (w6.setCell ⟨q, 3, none⟩ (.slice a7 f.length (cap5 - 1))).drew := (HKw.out.trans hK7 (fun i e => .inl e)).trans (Keeps.of_below (F := fun _ => False) hbd) (fun _ h => h.elim)
    have HR7 := hid (hR7.below hbd)
    have HKd := hid hkd
    have HRd := hid (HRdA.out _ (HRl.out _ hkd))
    have x0 : (w6.setCell ⟨q, 3, none⟩ (.slice a7 f.length (cap5 - 1))).drew.cell? ⟨q, 0, none⟩ = some (.pointer (some ⟨m, 0, none⟩)) := cell_of_block hh7 0
    clear hR7 hkd hbd hh7 hK7 hin7 ha7 y0 y1 y3 yf z3 zf z0 HIn HHh6
    generalize (w6.setCell ⟨q, 3, none⟩ (.slice a7 f.length (cap5 - 1))).drew = w7 at *
    go_wp2_with fail
    refine HRd.out.mono ?_
    clear HRd
    rintro e w8 ⟨hb8, g8, c8, rfl, hby8⟩
    have HE : Hid (bytesIn w8 (some ⟨g8, 0, none⟩) bs ∧ R4In w8 q m (fun i => B i ∨ i = g5) { R with cs := useC R.cs (n : Int) R.most } ∧ (∀ i, (B i ∨ i = g5) → B i ∨ w.heap.size ≤ i) ∧ Keeps (fun i => i = q) w w8) := by
      have hE : useC R.cs (n : Int) R.most = (f ++ [(n : Int)]).tail := by unfold useC; rw [← HF.out, if_pos (by simp; omega)]
      rw [hE]
      exact ⟨hby8, HR7.out.below hb8, fun i hi => hi.imp id (fun e => by omega), HKd.out.trans (Keeps.of_below (F := fun _ => False) hb8) (fun _ h => h.elim)⟩
    clear hb8 hby8 HR7 HKd x0
    go_wp2
    go_returns
    exact ⟨g8, c8, _, rfl, HE.out⟩
  · have hgt1 : ¬ (((R.most : Nat) : Int) < (f.length : Int) + 1) := by omega
    refine wp_region_noPanic ?_
    refine wp_region_held_drew (S := fun W => W.cell? ⟨q, 1, none⟩ = some (.int .i64 R.most) ∧ W.cell? ⟨q, 3, none⟩ = some (.slice (some ⟨g5, 0, none⟩) (f.length + 1) cap5)) (by kernel_rfl) ⟨y1, y3⟩ (fun hHeld => ?_)
    refine wpAnyH_take (i := 0) (v := ?_) rfl (by kernel_rfl) (by kernel_rfl) (by kernel_rfl) (fun _ _ _ h => h) (Or.inl ⟨by rfl, ?_⟩) (by assumption) ?_
    rotate_left
    · (intro W hSw; (try dsimp only at hSw); obtain ⟨s1, s3⟩ := hSw; go_simp; try with_reducible rfl)
    try simp only [List.getElem_toArray, List.getElem_cons_zero, Act.put, List.setIfInBounds_toArray, List.set_cons_zero, List.set_cons_succ]
    refine wpAnyH_take (i := 1) (v := ?_) rfl (by kernel_rfl) (by kernel_rfl) (by kernel_rfl) (fun _ _ _ h => h) (Or.inl ⟨by rfl, ?_⟩) (by assumption) ?_
    rotate_left
    · (intro W hSw; (try dsimp only at hSw); obtain ⟨s1, s3⟩ := hSw; go_simp; try with_reducible rfl)
    try simp only [List.getElem_toArray, List.getElem_cons_succ, List.getElem_cons_zero, Act.put, List.setIfInBounds_toArray, List.set_cons_zero, List.set_cons_succ]
    refine wpAnyH_take (i := 2) (v := ?_) rfl (by kernel_rfl) (by kernel_rfl) (by kernel_rfl) (fun _ _ _ h => h) (Or.inl ⟨by rfl, ?_⟩) (by assumption) ?_
    rotate_left
    · (intro W hSw; (try dsimp only at hSw); obtain ⟨s1, s3⟩ := hSw; go_simp; try with_reducible rfl)
    try simp only [List.getElem_toArray, List.getElem_cons_succ, List.getElem_cons_zero, Act.put, List.setIfInBounds_toArray, List.set_cons_zero, List.set_cons_succ]
    refine wpAnyH_take (i := 3) (v := ?_) rfl (by kernel_rfl) (by kernel_rfl) (by kernel_rfl) (fun _ _ _ h => h) (Or.inl ⟨by rfl, ?_⟩) (by assumption) ?_
    rotate_left
    · (intro W hSw; (try dsimp only at hSw); obtain ⟨s1, s3⟩ := hSw; go_simp; try with_reducible rfl)
    try simp only [List.getElem_toArray, List.getElem_cons_succ, List.getElem_cons_zero, Act.put, List.setIfInBounds_toArray, List.set_cons_zero, List.set_cons_succ]
    refine wpAnyH_take (i := 4) (v := ?_) rfl (by kernel_rfl) (by kernel_rfl) (by kernel_rfl) (fun _ _ _ h => h) (Or.inl ⟨by rfl, ?_⟩) (by assumption) ?_
    rotate_left
    · (intro W hSw; (try dsimp only at hSw); obtain ⟨s1, s3⟩ := hSw; go_simp; try with_reducible rfl)
    try simp only [List.getElem_toArray, List.getElem_cons_succ, List.getElem_cons_zero, Act.put, List.setIfInBounds_toArray, List.set_cons_zero, List.set_cons_succ]
    refine wpAnyH_take (i := 5) (v := ?_) rfl (by kernel_rfl) (by kernel_rfl) (by kernel_rfl) (fun _ _ _ h => h) (Or.inl ⟨by rfl, ?_⟩) (by assumption) ?_
    rotate_left
    · (intro W hSw; (try dsimp only at hSw); obtain ⟨s1, s3⟩ := hSw; go_simp; try with_reducible rfl)
    try simp only [List.getElem_toArray, List.getElem_cons_succ, List.getElem_cons_zero, Act.put, List.setIfInBounds_toArray, List.set_cons_zero, List.set_cons_succ]
    refine wpAnyH_take (i := 6) (v := ?_) rfl (by kernel_rfl) (by kernel_rfl) (by kernel_rfl) (fun _ _ _ h => h) (Or.inl ⟨by rfl, ?_⟩) (by assumption) ?_
    rotate_left
    · (intro W hSw; (try dsimp only at hSw); obtain ⟨s1, s3⟩ := hSw; go_simp; try with_reducible rfl)
    try simp only [List.getElem_toArray, List.getElem_cons_succ, List.getElem_cons_zero, Act.put, List.setIfInBounds_toArray, List.set_cons_zero, List.set_cons_succ]
    refine wpAnyH_take (i := 7) (v := ?_) rfl (by kernel_rfl) (by kernel_rfl) (by kernel_rfl) (fun _ _ _ h => h) (Or.inl ⟨by rfl, ?_⟩) (by assumption) ?_
    rotate_left
    · (intro W hSw; (try dsimp only at hSw); obtain ⟨s1, s3⟩ := hSw; go_simp; try with_reducible rfl)
    try simp only [List.getElem_toArray, List.getElem_cons_succ, List.getElem_cons_zero, Act.put, List.setIfInBounds_toArray, List.set_cons_zero, List.set_cons_succ]
    refine wpAnyH_take (i := 8) (v := ?_) rfl (by kernel_rfl) (by kernel_rfl) (by kernel_rfl) (fun _ _ _ h => h) (Or.inl ⟨by rfl, ?_⟩) (by assumption) ?_
    rotate_left
    · (intro W hSw; (try dsimp only at hSw); obtain ⟨s1, s3⟩ := hSw; go_simp; try with_reducible rfl)
    try simp only [List.getElem_toArray, List.getElem_cons_succ, List.getElem_cons_zero, Act.put, List.setIfInBounds_toArray, List.set_cons_zero, List.set_cons_succ]
    refine wpAnyH_take (i := 9) (v := ?_) rfl (by kernel_rfl) (by kernel_rfl) (by kernel_rfl) (fun _ _ _ h => h) (Or.inl ⟨by rfl, ?_⟩) (by assumption) ?_
    rotate_left
    · (intro W hSw; (try dsimp only at hSw); obtain ⟨s1, s3⟩ := hSw; go_simp; try with_reducible rfl)
    try simp only [List.getElem_toArray, List.getElem_cons_succ, List.getElem_cons_zero, Act.put, List.setIfInBounds_toArray, List.set_cons_zero, List.set_cons_succ]
    refine wpAnyH_done (by kernel_rfl) ?_ _
    refine NoPanic.normal ?_
    clear hHeld
    have hkd : Keeps (fun i => i = q) w w6.drew := HKw.out.trans (Keeps.of_below (F := fun _ => False) ((Below.refl w6.heap.size w6).drew)) (fun _ h => h.elim)
    have hl6 := HRl.out _ hkd
    have HRd := hid (HRdA.out w6.drew hl6)
    have z0 : w6.drew.cell? ⟨q, 0, none⟩ = some (.pointer (some ⟨m, 0, none⟩)) := y0
    have HR7 := hid (HR6.out.below ((Below.refl w6.heap.size w6).drew))
    have HKd := hid hkd
    clear hkd hl6 y0 y1 y3 yf
    go_wp2_with fail
    refine HRd.out.mono ?_
    clear HRd
    rintro e w7 ⟨hb7, g7, c7, rfl, hby7⟩
    have HE : Hid (bytesIn w7 (some ⟨g7, 0, none⟩) bs ∧ R4In w7 q m (fun i => B i ∨ i = g5) { R with cs := useC R.cs (n : Int) R.most } ∧ (∀ i, (B i ∨ i = g5) → B i ∨ w.heap.size ≤ i) ∧ Keeps (fun i => i = q) w w7) := by
      have hE : useC R.cs (n : Int) R.most = f ++ [(n : Int)] := by unfold useC; rw [← HF.out, if_neg (by simp; omega)]
      rw [hE]
      exact ⟨hby7, HR7.out.below hb7, fun i hi => hi.imp id (fun e => by omega), HKd.out.trans (Keeps.of_below (F := fun _ => False) hb7) (fun _ h => h.elim)⟩
    clear hb7 hby7 HR7 HKd z0
    go_wp2
    go_returns
    exact ⟨g7, c7, _, rfl, HE.out⟩
end
end Go.Proofs.YtjgclmlclkfgpaaGreat
/- The reference's cache: Write. -/
namespace Go.Proofs.YtjgclmlclkfgpaaGreat
open Go.RowKit Go.Maps
/-- Pages but one. -/
def woP (l : List PageS) (n : Int) : List PageS := l.filter (fun p => decide (p.n ≠ n))
theorem woP_snoc (l : List PageS) (n : Int) (p : PageS) (h : p.n ≠ n) : woP (l ++ [p]) n = woP l n ++ [p] := by unfold woP; rw [List.filter_append, List.filter_cons, if_pos (by simp [h]), List.filter_nil]
theorem woP_same (l : List PageS) (n : Int) (p : PageS) (h : p.n = n) : woP (l ++ [p]) n = woP l n := by unfold woP; rw [List.filter_append, List.filter_cons, if_neg (by simp [h]), List.filter_nil, List.append_nil]
theorem woP_len (l : List PageS) (n : Int) : (woP l n).length ≤ l.length := List.length_filter_le _ _
theorem rows_pages {W : World} {K : Nat} {v : Value} {l : List PageS} (h : W.ownsRow K 114 2 v l.length (rowCells l)) : ∃ pa cap, v = .slice pa l.length cap ∧ pagesAt W pa l ∧ ∀ ad, pa = some ad → v.ownBlock = some ad.block := by
  rcases h.2 with ⟨rfl, h0⟩ | ⟨g, cap, cur, rfl, hg, hb, h1, h2, h3, h4⟩
  · exact ⟨none, 0, by rw [h0], fun j hj => by omega, fun ad e => by cases e⟩
  · refine ⟨some ⟨g, 0, none⟩, cap, rfl, fun j hj => ⟨g, 0, rfl, fun i hi => ?_⟩, fun ad e => by obtain rfl := Option.some.inj e; rfl⟩
    obtain ⟨e1, e2⟩ := rowCells_at l i hi
    rw [← h4] at e1 e2
    rw [List.getElem?_take_of_lt (by omega), Array.getElem?_toList] at e1 e2
    exact ⟨by rw [cell_of_block hb, Nat.zero_add]; exact e1, by rw [cell_of_block hb, Nat.zero_add]; exact e2⟩
theorem row_addr {W : World} {lo : Nat} {e : TypeId} {k : Nat} {a : Option Addr} {n c : Nat} {xs : List Value} (h : W.ownsRow lo e k (.slice a n c) n xs) : ∀ ad, a = some ad → lo ≤ ad.block ∧ ad.block < W.heap.size := fun ad hd => by
  subst hd
  rcases h.2 with ⟨h1, _⟩ | ⟨g, cap, cur, h1, hg, hb, _⟩
  · cases h1
  · simp only [Value.slice.injEq, Option.some.injEq] at h1
    rw [h1.1]
    exact ⟨hg, lt_of_heap hb⟩
theorem bytesIn_at {W : World} {g : Nat} {l : List UInt8} (h : bytesIn W (some ⟨g, 0, none⟩) l) : bytesAt W ⟨g, 0, none⟩ l := fun j hj => by
  obtain ⟨b, o, e, hc⟩ := h j hj
  simp only [Option.some.injEq, Addr.mk.injEq, and_true] at e
  have := hc j hj
  rw [← e.1, ← e.2] at this
  rw [Addr.add_mid]
  exact this
section
variable {q m : Nat} {B : Nat → Prop} {R : R4} {r : Nat} {fv lv : Value} {vs : List Value} {Rd : Nat → Prop} {T : RefS} {size : Nat}
set_option maxRecDepth 100000 in
theorem r4write_range (n : Int) (v : Value) (w : World) (h : R4In w q m B R) (hl : RLogIn w m r fv lv vs Rd T size 0) (hR : T.first.length ≤ 4096) (hs : size + 1 ≤ T.first.length) (hn : ¬ (0 ≤ n ∧ n < (pagesR T size : Int))) :
    Calls Tryz.prog 44 #[.pointer (some ⟨q, 0, none⟩), .int .i64 n, v] w fun e w' => e = .returned (.int .i64 2) ∧ Below w.heap.size w w' := by
  obtain ⟨pa, pc, ca, cc, hh, -, -, -, -⟩ := h.heap
  have c0 : w.cell? ⟨q, 0, none⟩ = some (.pointer (some ⟨m, 0, none⟩)) := cell_of_block hh 0
  have HPg := hid (rlpages_any w hl hR hs)
  clear h hl hh
  generalize pagesR T size = NN at *
  by_cases h0 : n < 0
  · go_enter Tryz.func44, Tryz.ntmps44
    go_wp2
    go_ret
    exact ⟨rfl, Below.refl _ _⟩
  · have h1 : (NN : Int) ≤ n := by omega
    have h2 : ¬ (n < (NN : Int)) := by omega
    go_enter Tryz.func44, Tryz.ntmps44
    go_wp2_with fail
    refine HPg.out.mono ?_
    clear HPg
    rintro e w1 ⟨rfl, hb1⟩
    have HB1 := hid hb1
    clear hb1
    go_wp2
    go_ret
    exact ⟨rfl, HB1.out⟩
set_option maxRecDepth 100000 in
theorem r4write_form (n : Int) (a : Option Addr) (ln cp : Nat) (w : World) (h : R4In w q m B R) (hl : RLogIn w m r fv lv vs Rd T size 0) (hR : T.first.length ≤ 4096) (hs : size + 1 ≤ T.first.length) (hn : 0 ≤ n ∧ n < (pagesR T size : Int)) (hln : ¬ ((ln : Int) = 512)) :
    Calls Tryz.prog 44 #[.pointer (some ⟨q, 0, none⟩), .int .i64 n, .slice a ln cp] w fun e w' => e = .returned (.int .i64 3) ∧ Below w.heap.size w w' := by
  obtain ⟨pa, pc, ca, cc, hh, -, -, -, -⟩ := h.heap
  have c0 : w.cell? ⟨q, 0, none⟩ = some (.pointer (some ⟨m, 0, none⟩)) := cell_of_block hh 0
  have HPg := hid (rlpages_any w hl hR hs)
  have hn0 : ¬ (n < 0) := by omega
  have hn1 : ¬ ((pagesR T size : Int) ≤ n) := by omega
  have hlb : ((ln : Int) == 512) = false := beq_eq_false_iff_ne.2 hln
  clear h hl hh hn
  generalize pagesR T size = NN at *
  go_enter Tryz.func44, Tryz.ntmps44
  go_wp2_with fail
  refine HPg.out.mono ?_
  clear HPg
  rintro e w1 ⟨rfl, hb1⟩
  have HB1 := hid hb1
  clear hb1
  go_wp2
  go_ret
  exact ⟨rfl, HB1.out⟩
set_option maxRecDepth 100000 in
theorem r4write_full (n : Int) (a : Option Addr) (cp : Nat) (w : World) (h : R4In w q m B R) (hl : RLogIn w m r fv lv vs Rd T size 0) (hR : T.first.length ≤ 4096) (hs : size + 1 ≤ T.first.length) (hn : 0 ≤ n ∧ n < (pagesR T size : Int)) (hpos : posP n R.ps 0 = -1) (hfull : min size 100 ≤ R.ps.length) :
    Calls Tryz.prog 44 #[.pointer (some ⟨q, 0, none⟩), .int .i64 n, .slice a 512 cp] w fun e w' => e = .returned (.int .i64 7) ∧ Below w.heap.size w w' := by
  obtain ⟨pa, pc, ca, cc, hh, -, -, -, -⟩ := h.heap
  have hql := lt_of_heap hh
  have c0 : w.cell? ⟨q, 0, none⟩ = some (.pointer (some ⟨m, 0, none⟩)) := cell_of_block hh 0
  have c2 : w.cell? ⟨q, 2, none⟩ = some (.slice pa R.ps.length pc) := cell_of_block hh 2
  have HPg := hid (rlpages_any w hl hR hs)
  have HAt := hid (fun W (hW : Below w.heap.size w W) => r4at_any n W (h.below hW))
  rw [hpos] at HAt
  have HCp := hid (fun W (hW : Below w.heap.size w W) => rlcap_any W (hl.below hW))
  have hn0 : ¬ (n < 0) := by omega
  have hn1 : ¬ ((pagesR T size : Int) ≤ n) := by omega
  have hf1 : ((min size 100 : Nat) : Int) ≤ (R.ps.length : Int) := by omega
  clear h hl hh hn hpos hfull
  generalize pagesR T size = NN at *
  generalize R.ps.length = pl at *
  generalize min size 100 = mc at *
  go_enter Tryz.func44, Tryz.ntmps44
  go_wp2_with fail
  refine HPg.out.mono ?_
  clear HPg
  rintro e w1 ⟨rfl, hb1⟩
  have HB1 := hid hb1
  have HA1 := hid (HAt.out w1.drew hb1.drew)
  have d0 := (hb1.cell (p := ⟨q, 0, none⟩) hql).trans c0
  have d2 := (hb1.cell (p := ⟨q, 2, none⟩) hql).trans c2
  clear hb1 HAt
  go_wp2
  refine wp_region_noPanic ?_
  refine wp_region_held_drew (S := fun W => W.cell? ⟨q, 0, none⟩ = some (.pointer (some ⟨m, 0, none⟩)) ∧ W.cell? ⟨q, 2, none⟩ = some (.slice pa pl pc)) (by kernel_rfl) ⟨d0, d2⟩ (fun hHeld => ?_)
  refine wpAnyH_take (i := 0) (v := ?_) rfl (by kernel_rfl) (by kernel_rfl) (by kernel_rfl) (fun _ _ _ h => h) (Or.inl ⟨by rfl, ?_⟩) (by assumption) ?_
  rotate_left
  · (intro W hSw; (try dsimp only at hSw); obtain ⟨s0, s2⟩ := hSw; go_simp; try with_reducible rfl)
  try simp only [List.getElem_toArray, List.getElem_cons_zero, Act.put, List.setIfInBounds_toArray, List.set_cons_zero, List.set_cons_succ]
  refine wpAnyH_take (i := 1) (v := ?_) rfl (by kernel_rfl) (by kernel_rfl) (by kernel_rfl) (fun _ _ _ h => h) (Or.inl ⟨by rfl, ?_⟩) (by assumption) ?_
  rotate_left
  · (intro W hSw; (try dsimp only at hSw); obtain ⟨s0, s2⟩ := hSw; go_simp; try with_reducible rfl)
  try simp only [List.getElem_toArray, List.getElem_cons_succ, List.getElem_cons_zero, Act.put, List.setIfInBounds_toArray, List.set_cons_zero, List.set_cons_succ]
  refine wpAnyH_ready (rs := [2]) (by kernel_rfl) (by simp) (AllReadyH.cons rfl (fun K hK => ?_) AllReadyH.nil)
  rw [if_pos (by rfl)]
  go_simp
  refine HA1.out.mono ?_
  clear HA1
  rintro e w2 ⟨rfl, hb2⟩
  have hb := HB1.out.drew.trans (hb2.mono HB1.out.size)
  have HB2 := hid hb
  have x0 := (hb.cell (p := ⟨q, 0, none⟩) hql).trans c0
  have x2 := (hb.cell (p := ⟨q, 2, none⟩) hql).trans c2
  have HC2 := hid (HCp.out w2 hb)
  clear hb2 hb HCp HB1
  go_wp2_with fail
  refine hK.out _ _ ⟨x0, x2⟩ (fun hHeld => ?_)
  clear hK K
  try simp only [List.getElem_toArray, List.getElem_cons_succ, List.getElem_cons_zero, Act.put, List.setIfInBounds_toArray, List.set_cons_zero, List.set_cons_succ]
  refine wpAnyH_take (i := 3) (v := ?_) rfl (by kernel_rfl) (by kernel_rfl) (by kernel_rfl) (fun _ _ _ h => h) (Or.inl ⟨by rfl, ?_⟩) (by assumption) ?_
  rotate_left
  · (intro W hSw; (try dsimp only at hSw); obtain ⟨s0, s2⟩ := hSw; go_simp; try with_reducible rfl)
  try simp only [List.getElem_toArray, List.getElem_cons_succ, List.getElem_cons_zero, Act.put, List.setIfInBounds_toArray, List.set_cons_zero, List.set_cons_succ]
  refine wpAnyH_take (i := 4) (v := ?_) rfl (by kernel_rfl) (by kernel_rfl) (by kernel_rfl) (fun _ _ _ h => h) (Or.inl ⟨by rfl, ?_⟩) (by assumption) ?_
  rotate_left
  · (intro W hSw; (try dsimp only at hSw); obtain ⟨s0, s2⟩ := hSw; go_simp; try with_reducible rfl)
  try simp only [List.getElem_toArray, List.getElem_cons_succ, List.getElem_cons_zero, Act.put, List.setIfInBounds_toArray, List.set_cons_zero, List.set_cons_succ]
  refine wpAnyH_take (i := 5) (v := ?_) rfl (by kernel_rfl) (by kernel_rfl) (by kernel_rfl) (fun _ _ _ h => h) (Or.inl ⟨by rfl, ?_⟩) (by assumption) ?_
  rotate_left
  · (intro W hSw; (try dsimp only at hSw); obtain ⟨s0, s2⟩ := hSw; go_simp; try with_reducible rfl)
  try simp only [List.getElem_toArray, List.getElem_cons_succ, List.getElem_cons_zero, Act.put, List.setIfInBounds_toArray, List.set_cons_zero, List.set_cons_succ]
  refine wpAnyH_take (i := 6) (v := ?_) rfl (by kernel_rfl) (by kernel_rfl) (by kernel_rfl) (fun _ _ _ h => h) (Or.inl ⟨by rfl, ?_⟩) (by assumption) ?_
  rotate_left
  · (intro W hSw; (try dsimp only at hSw); obtain ⟨s0, s2⟩ := hSw; go_simp; try with_reducible rfl)
  try simp only [List.getElem_toArray, List.getElem_cons_succ, List.getElem_cons_zero, Act.put, List.setIfInBounds_toArray, List.set_cons_zero, List.set_cons_succ]
  refine wpAnyH_take (i := 7) (v := ?_) rfl (by kernel_rfl) (by kernel_rfl) (by kernel_rfl) (fun _ _ _ h => h) (Or.inl ⟨by rfl, ?_⟩) (by assumption) ?_
  rotate_left
  · (intro W hSw; (try dsimp only at hSw); obtain ⟨s0, s2⟩ := hSw; go_simp; try with_reducible rfl)
  try simp only [List.getElem_toArray, List.getElem_cons_succ, List.getElem_cons_zero, Act.put, List.setIfInBounds_toArray, List.set_cons_zero, List.set_cons_succ]
  refine wpAnyH_take (i := 8) (v := ?_) rfl (by kernel_rfl) (by kernel_rfl) (by kernel_rfl) (fun _ _ _ h => h) (Or.inl ⟨by rfl, ?_⟩) (by assumption) ?_
  rotate_left
  · (intro W hSw; (try dsimp only at hSw); obtain ⟨s0, s2⟩ := hSw; go_simp; try with_reducible rfl)
  try simp only [List.getElem_toArray, List.getElem_cons_succ, List.getElem_cons_zero, Act.put, List.setIfInBounds_toArray, List.set_cons_zero, List.set_cons_succ]
  refine wpAnyH_take (i := 9) (v := ?_) rfl (by kernel_rfl) (by kernel_rfl) (by kernel_rfl) (fun _ _ _ h => h) (Or.inl ⟨by rfl, ?_⟩) (by assumption) ?_
  rotate_left
  · (intro W hSw; (try dsimp only at hSw); obtain ⟨s0, s2⟩ := hSw; go_simp; try with_reducible rfl)
  try simp only [List.getElem_toArray, List.getElem_cons_succ, List.getElem_cons_zero, Act.put, List.setIfInBounds_toArray, List.set_cons_zero, List.set_cons_succ]
  refine wpAnyH_take (i := 10) (v := ?_) rfl (by kernel_rfl) (by kernel_rfl) (by kernel_rfl) (fun _ _ _ h => h) (Or.inl ⟨by rfl, ?_⟩) (by assumption) ?_
  rotate_left
  · (intro W hSw; (try dsimp only at hSw); obtain ⟨s0, s2⟩ := hSw; go_simp; try with_reducible rfl)
  try simp only [List.getElem_toArray, List.getElem_cons_succ, List.getElem_cons_zero, Act.put, List.setIfInBounds_toArray, List.set_cons_zero, List.set_cons_succ]
  refine wpAnyH_take (i := 11) (v := ?_) rfl (by kernel_rfl) (by kernel_rfl) (by kernel_rfl) (fun _ _ _ h => h) (Or.inl ⟨by rfl, ?_⟩) (by assumption) ?_
  rotate_left
  · (intro W hSw; (try dsimp only at hSw); obtain ⟨s0, s2⟩ := hSw; go_simp; try with_reducible rfl)
  try simp only [List.getElem_toArray, List.getElem_cons_succ, List.getElem_cons_zero, Act.put, List.setIfInBounds_toArray, List.set_cons_zero, List.set_cons_succ]
  refine wpAnyH_take (i := 12) (v := ?_) rfl (by kernel_rfl) (by kernel_rfl) (by kernel_rfl) (fun _ _ _ h => h) (Or.inl ⟨by rfl, ?_⟩) (by assumption) ?_
  rotate_left
  · (intro W hSw; (try dsimp only at hSw); obtain ⟨s0, s2⟩ := hSw; go_simp; try with_reducible rfl)
  try simp only [List.getElem_toArray, List.getElem_cons_succ, List.getElem_cons_zero, Act.put, List.setIfInBounds_toArray, List.set_cons_zero, List.set_cons_succ]
  refine wpAnyH_take (i := 13) (v := ?_) rfl (by kernel_rfl) (by kernel_rfl) (by kernel_rfl) (fun _ _ _ h => h) (Or.inl ⟨by rfl, ?_⟩) (by assumption) ?_
  rotate_left
  · (intro W hSw; (try dsimp only at hSw); obtain ⟨s0, s2⟩ := hSw; go_simp; try with_reducible rfl)
  try simp only [List.getElem_toArray, List.getElem_cons_succ, List.getElem_cons_zero, Act.put, List.setIfInBounds_toArray, List.set_cons_zero, List.set_cons_succ]
  refine wpAnyH_ready (rs := [14]) (by kernel_rfl) (by simp) (AllReadyH.cons rfl (fun K hK => ?_) AllReadyH.nil)
  rw [if_pos (by rfl)]
  go_simp
  refine HC2.out.mono ?_
  clear HC2
  rintro e w9 ⟨rfl, h9⟩
  obtain rfl := h9.symm
  clear h9
  go_wp2_with fail
  refine hK.out _ _ ⟨x0, x2⟩ (fun hHeld => ?_)
  clear hK K
  try simp only [List.getElem_toArray, List.getElem_cons_succ, List.getElem_cons_zero, Act.put, List.setIfInBounds_toArray, List.set_cons_zero, List.set_cons_succ]
  refine wpAnyH_take (i := 15) (v := ?_) rfl (by kernel_rfl) (by kernel_rfl) (by kernel_rfl) (fun _ _ _ h => h) (Or.inl ⟨by rfl, ?_⟩) (by assumption) ?_
  rotate_left
  · (intro W hSw; (try dsimp only at hSw); obtain ⟨s0, s2⟩ := hSw; go_simp; try with_reducible rfl)
  try simp only [List.getElem_toArray, List.getElem_cons_succ, List.getElem_cons_zero, Act.put, List.setIfInBounds_toArray, List.set_cons_zero, List.set_cons_succ]
  refine wpAnyH_take (i := 16) (v := ?_) rfl (by kernel_rfl) (by kernel_rfl) (by kernel_rfl) (fun _ _ _ h => h) (Or.inl ⟨by rfl, ?_⟩) (by assumption) ?_
  rotate_left
  · (intro W hSw; (try dsimp only at hSw); obtain ⟨s0, s2⟩ := hSw; go_simp; try with_reducible rfl)
  try simp only [List.getElem_toArray, List.getElem_cons_succ, List.getElem_cons_zero, Act.put, List.setIfInBounds_toArray, List.set_cons_zero, List.set_cons_succ]
  refine wpAnyH_take (i := 17) (v := ?_) rfl (by kernel_rfl) (by kernel_rfl) (by kernel_rfl) (fun _ _ _ h => h) (Or.inl ⟨by rfl, ?_⟩) (by assumption) ?_
  rotate_left
  · (intro W hSw; (try dsimp only at hSw); obtain ⟨s0, s2⟩ := hSw; go_simp; try with_reducible rfl)
  try simp only [List.getElem_toArray, List.getElem_cons_succ, List.getElem_cons_zero, Act.put, List.setIfInBounds_toArray, List.set_cons_zero, List.set_cons_succ]
  refine wpAnyH_done (by kernel_rfl) ?_ _
  refine NoPanic.normal ?_
  clear hHeld
  clear x0 x2 d0 d2
  go_wp2
  go_ret
  exact ⟨rfl, HB2.out⟩
/-- The bytes of pages, one of them written. -/
def updB (f : Int → List UInt8) (n : Int) (l : List UInt8) : Int → List UInt8 := fun k => if k = n then l else f k
set_option maxRecDepth 100000 in
set_option maxHeartbeats 4000000 in
theorem r4write_ok (n : Int) (bs : List UInt8) (ba : Option Addr) (cp : Nat) (w : World) (h : R4In w q m B R) (hl : RLogIn w m r fv lv vs Rd T size 0) (hR : T.first.length ≤ 4096) (hs : size + 1 ≤ T.first.length) (hn : 0 ≤ n ∧ n < (pagesR T size : Int)) (hroom : 0 ≤ posP n R.ps 0 ∨ (posP n R.ps 0 = -1 ∧ R.ps.length < min size 100)) (h5 : bs.length = 512) (hb : bytesIn w ba bs) (hcs : R.cs.length ≤ 64) (hpl : R.ps.length ≤ 200) :
    Calls Tryz.prog 44 #[.pointer (some ⟨q, 0, none⟩), .int .i64 n, .slice ba 512 cp] w fun e w' => e = .returned (.int .i64 0) ∧ ∃ B' g cap, R4In w' q m B' { R with ps := woP R.ps n ++ [⟨n, some ⟨g, 0, none⟩, 512, cap⟩], by_ := updB R.by_ n bs, cs := woZ R.cs n } ∧ (∀ i, B' i → B i ∨ w.heap.size ≤ i) ∧ Keeps (fun i => i = q) w w' := by
  obtain ⟨pa, pc, ca, cc, hh, hp, hci, hpb, hcb⟩ := h.heap
  have hql := lt_of_heap hh
  have c0 : w.cell? ⟨q, 0, none⟩ = some (.pointer (some ⟨m, 0, none⟩)) := cell_of_block hh 0
  have c2 : w.cell? ⟨q, 2, none⟩ = some (.slice pa R.ps.length pc) := cell_of_block hh 2
  have c3 : w.cell? ⟨q, 3, none⟩ = some (.slice ca R.cs.length cc) := cell_of_block hh 3
  have HPg := hid (rlpages_any w hl hR hs)
  have HAt := hid (fun W (hW : Below w.heap.size w W) => r4at_any n W (h.below hW))
  have HCp := hid (fun W (hW : Below w.heap.size w W) => rlcap_any W (hl.below hW))
  have HH := hid h
  have HP := hid hp
  have HBy := hid hb
  have HCi := hid hci
  have hfew := h.few.1
  have hn0 : ¬ (n < 0) := by omega
  have hn1 : ¬ ((pagesR T size : Int) ≤ n) := by omega
  obtain ⟨i0, hi, hz0, hz1, hz2⟩ := info_parts infoPage
  have HI := hid hi
  obtain ⟨ps, hps⟩ : ∃ ps, ps = R.ps := ⟨_, rfl⟩
  rw [← hps] at c2 HAt HP hfew hroom hpl ⊢
  have HPs := hid hps
  clear h hl hh hn hp hb hci hpb hcb hi hps
  generalize pagesR T size = NN at *
  generalize min size 100 = mc at *
  rcases hroom with hj | ⟨hpos, hroom⟩
  · obtain ⟨pz, hpz⟩ : ∃ pz, pz = posP n ps 0 := ⟨_, rfl⟩
    rw [← hpz] at HAt hj
    have hj1 : ¬ (pz < 0) := by omega
    have hjd : decide (pz < 0) = false := decide_eq_false hj1
    clear hpz
    go_enter Tryz.func44, Tryz.ntmps44
    go_wp2_with fail
    refine HPg.out.mono ?_
    clear HPg
    rintro e w1 ⟨rfl, hb1⟩
    have HB1 := hid hb1
    have HA1 := hid (HAt.out w1.drew hb1.drew)
    have d0 := (hb1.cell (p := ⟨q, 0, none⟩) hql).trans c0
    have d2 := (hb1.cell (p := ⟨q, 2, none⟩) hql).trans c2
    clear hb1 HAt
    go_wp2
    refine wp_region_noPanic ?_
    refine wp_region_held_drew (S := fun W => W.cell? ⟨q, 0, none⟩ = some (.pointer (some ⟨m, 0, none⟩)) ∧ W.cell? ⟨q, 2, none⟩ = some (.slice pa ps.length pc)) (by kernel_rfl) ⟨d0, d2⟩ (fun hHeld => ?_)
    refine wpAnyH_take (i := 0) (v := ?_) rfl (by kernel_rfl) (by kernel_rfl) (by kernel_rfl) (fun _ _ _ h => h) (Or.inl ⟨by rfl, ?_⟩) (by assumption) ?_
    rotate_left
    · (intro W hSw; (try dsimp only at hSw); obtain ⟨s0, s2⟩ := hSw; go_simp; try with_reducible rfl)
    try simp only [List.getElem_toArray, List.getElem_cons_zero, Act.put, List.setIfInBounds_toArray, List.set_cons_zero, List.set_cons_succ]
    refine wpAnyH_take (i := 1) (v := ?_) rfl (by kernel_rfl) (by kernel_rfl) (by kernel_rfl) (fun _ _ _ h => h) (Or.inl ⟨by rfl, ?_⟩) (by assumption) ?_
    rotate_left
    · (intro W hSw; (try dsimp only at hSw); obtain ⟨s0, s2⟩ := hSw; go_simp; try with_reducible rfl)
    try simp only [List.getElem_toArray, List.getElem_cons_succ, List.getElem_cons_zero, Act.put, List.setIfInBounds_toArray, List.set_cons_zero, List.set_cons_succ]
    refine wpAnyH_ready (rs := [2]) (by kernel_rfl) (by simp) (AllReadyH.cons rfl (fun K hK => ?_) AllReadyH.nil)
    rw [if_pos (by rfl)]
    go_simp
    refine HA1.out.mono ?_
    clear HA1
    rintro e w2 ⟨rfl, hb2⟩
    have hb := HB1.out.drew.trans (hb2.mono HB1.out.size)
    have HB2 := hid hb
    have x0 := (hb.cell (p := ⟨q, 0, none⟩) hql).trans c0
    have x2 := (hb.cell (p := ⟨q, 2, none⟩) hql).trans c2
    clear hb2 hb HCp HB1
    go_wp2_with fail
    refine hK.out _ _ ⟨x0, x2⟩ (fun hHeld => ?_)
    clear hK K
    try simp only [List.getElem_toArray, List.getElem_cons_succ, List.getElem_cons_zero, Act.put, List.setIfInBounds_toArray, List.set_cons_zero, List.set_cons_succ]
    refine wpAnyH_take (i := 3) (v := .bool false) rfl (by kernel_rfl) (by kernel_rfl) (by kernel_rfl) (fun _ _ _ h => h) (Or.inl ⟨by rfl, ?_⟩) (by assumption) ?_
    · (intro W hSw; (try dsimp only at hSw); obtain ⟨s0, s2⟩ := hSw; go_simp; try first | with_reducible rfl | go_num | (rw [if_pos (by assumption)]; simp only [*]) | simp only [*])
    try simp only [List.getElem_toArray, List.getElem_cons_succ, List.getElem_cons_zero, Act.put, List.setIfInBounds_toArray, List.set_cons_zero, List.set_cons_succ]
    refine wpAnyH_take (i := 4) (v := ?_) rfl (by kernel_rfl) (by kernel_rfl) (by kernel_rfl) (fun _ _ _ h => h) (Or.inl ⟨by rfl, ?_⟩) (by assumption) ?_
    rotate_left
    · (intro W hSw; (try dsimp only at hSw); obtain ⟨s0, s2⟩ := hSw; go_simp; try with_reducible rfl)
    try simp only [List.getElem_toArray, List.getElem_cons_succ, List.getElem_cons_zero, Act.put, List.setIfInBounds_toArray, List.set_cons_zero, List.set_cons_succ]
    refine wpAnyH_take (i := 5) (v := undef) rfl (by kernel_rfl) (by kernel_rfl) (by kernel_rfl) (fun _ _ _ h => h) (Or.inr ⟨by rfl, rfl⟩) (by assumption) ?_
    try simp only [List.getElem_toArray, List.getElem_cons_succ, List.getElem_cons_zero, Act.put, List.setIfInBounds_toArray, List.set_cons_zero, List.set_cons_succ]
    refine wpAnyH_take (i := 6) (v := undef) rfl (by kernel_rfl) (by kernel_rfl) (by kernel_rfl) (fun _ _ _ h => h) (Or.inr ⟨by rfl, rfl⟩) (by assumption) ?_
    try simp only [List.getElem_toArray, List.getElem_cons_succ, List.getElem_cons_zero, Act.put, List.setIfInBounds_toArray, List.set_cons_zero, List.set_cons_succ]
    refine wpAnyH_take (i := 7) (v := undef) rfl (by kernel_rfl) (by kernel_rfl) (by kernel_rfl) (fun _ _ _ h => h) (Or.inr ⟨by rfl, rfl⟩) (by assumption) ?_
    try simp only [List.getElem_toArray, List.getElem_cons_succ, List.getElem_cons_zero, Act.put, List.setIfInBounds_toArray, List.set_cons_zero, List.set_cons_succ]
    refine wpAnyH_take (i := 8) (v := undef) rfl (by kernel_rfl) (by kernel_rfl) (by kernel_rfl) (fun _ _ _ h => h) (Or.inr ⟨by rfl, rfl⟩) (by assumption) ?_
    try simp only [List.getElem_toArray, List.getElem_cons_succ, List.getElem_cons_zero, Act.put, List.setIfInBounds_toArray, List.set_cons_zero, List.set_cons_succ]
    refine wpAnyH_take (i := 9) (v := undef) rfl (by kernel_rfl) (by kernel_rfl) (by kernel_rfl) (fun _ _ _ h => h) (Or.inr ⟨by rfl, rfl⟩) (by assumption) ?_
    try simp only [List.getElem_toArray, List.getElem_cons_succ, List.getElem_cons_zero, Act.put, List.setIfInBounds_toArray, List.set_cons_zero, List.set_cons_succ]
    refine wpAnyH_take (i := 10) (v := undef) rfl (by kernel_rfl) (by kernel_rfl) (by kernel_rfl) (fun _ _ _ h => h) (Or.inr ⟨by rfl, rfl⟩) (by assumption) ?_
    try simp only [List.getElem_toArray, List.getElem_cons_succ, List.getElem_cons_zero, Act.put, List.setIfInBounds_toArray, List.set_cons_zero, List.set_cons_succ]
    refine wpAnyH_take (i := 11) (v := undef) rfl (by kernel_rfl) (by kernel_rfl) (by kernel_rfl) (fun _ _ _ h => h) (Or.inr ⟨by rfl, rfl⟩) (by assumption) ?_
    try simp only [List.getElem_toArray, List.getElem_cons_succ, List.getElem_cons_zero, Act.put, List.setIfInBounds_toArray, List.set_cons_zero, List.set_cons_succ]
    refine wpAnyH_take (i := 12) (v := undef) rfl (by kernel_rfl) (by kernel_rfl) (by kernel_rfl) (fun _ _ _ h => h) (Or.inr ⟨by rfl, rfl⟩) (by assumption) ?_
    try simp only [List.getElem_toArray, List.getElem_cons_succ, List.getElem_cons_zero, Act.put, List.setIfInBounds_toArray, List.set_cons_zero, List.set_cons_succ]
    refine wpAnyH_take (i := 13) (v := undef) rfl (by kernel_rfl) (by kernel_rfl) (by kernel_rfl) (fun _ _ _ h => h) (Or.inr ⟨by rfl, rfl⟩) (by assumption) ?_
    try simp only [List.getElem_toArray, List.getElem_cons_succ, List.getElem_cons_zero, Act.put, List.setIfInBounds_toArray, List.set_cons_zero, List.set_cons_succ]
    refine wpAnyH_take (i := 14) (v := undef) rfl (by kernel_rfl) (by kernel_rfl) (by kernel_rfl) (fun _ _ _ h => h) (Or.inr ⟨by rfl, rfl⟩) (by assumption) ?_
    try simp only [List.getElem_toArray, List.getElem_cons_succ, List.getElem_cons_zero, Act.put, List.setIfInBounds_toArray, List.set_cons_zero, List.set_cons_succ]
    refine wpAnyH_take (i := 15) (v := undef) rfl (by kernel_rfl) (by kernel_rfl) (by kernel_rfl) (fun _ _ _ h => h) (Or.inr ⟨by rfl, rfl⟩) (by assumption) ?_
    try simp only [List.getElem_toArray, List.getElem_cons_succ, List.getElem_cons_zero, Act.put, List.setIfInBounds_toArray, List.set_cons_zero, List.set_cons_succ]
    refine wpAnyH_take (i := 16) (v := ?_) rfl (by kernel_rfl) (by kernel_rfl) (by kernel_rfl) (fun _ _ _ h => h) (Or.inl ⟨by rfl, ?_⟩) (by assumption) ?_
    rotate_left
    · (intro W hSw; (try dsimp only at hSw); obtain ⟨s0, s2⟩ := hSw; go_simp; try with_reducible rfl)
    try simp only [List.getElem_toArray, List.getElem_cons_succ, List.getElem_cons_zero, Act.put, List.setIfInBounds_toArray, List.set_cons_zero, List.set_cons_succ]
    refine wpAnyH_take (i := 17) (v := ?_) rfl (by kernel_rfl) (by kernel_rfl) (by kernel_rfl) (fun _ _ _ h => h) (Or.inl ⟨by rfl, ?_⟩) (by assumption) ?_
    rotate_left
    · (intro W hSw; (try dsimp only at hSw); obtain ⟨s0, s2⟩ := hSw; go_simp; try with_reducible rfl)
    try simp only [List.getElem_toArray, List.getElem_cons_succ, List.getElem_cons_zero, Act.put, List.setIfInBounds_toArray, List.set_cons_zero, List.set_cons_succ]
    refine wpAnyH_done (by kernel_rfl) ?_ _
    refine NoPanic.normal ?_
    clear hHeld
    have HH2 := hid (HH.out.below HB2.out)
    have hq2 : q < w2.heap.size := Nat.lt_of_lt_of_le hql HB2.out.size
    clear d0 d2
    go_wp2
    go_loopw [7, 8] (fun v i wr => ∃ k : Nat, k ≤ ps.length ∧ i = .int .i64 k ∧ Hid (wr.ownsRow w2.heap.size 114 2 v (woP (ps.take k) n).length (rowCells (woP (ps.take k) n))) ∧ Hid (Below w2.heap.size w2 wr)) (fun _ i _ => ps.length - (intOf i).toNat)
    case atStart => exact ⟨0, by omega, rfl, World.ownsRow_nil _ _ _ _, Below.refl _ _⟩
    case round =>
      obtain ⟨k, hk, rfl, hO, hB⟩ := hrel
      have x2r := (hB.out.cell (p := ⟨q, 2, none⟩) hq2).trans x2
      by_cases hlt : k < ps.length
      · have hk0 : (0 : Int) ≤ (k : Int) := by omega
        have hk1 : (k : Int) < (ps.length : Int) := by omega
        obtain ⟨b, o, rfl, hc⟩ := HP.out k hlt
        have hBw := HB2.out.trans (hB.out.mono HB2.out.size)
        have ck := (hBw.cell (p := ⟨b, o + k * 2, none⟩) (World.block_lt_of_cell? w _ (hc k hlt).1)).trans (hc k hlt).1
        have ck1 := (hBw.cell (p := ⟨b, o + k * 2 + 1, none⟩) (World.block_lt_of_cell? w _ (hc k hlt).2)).trans (hc k hlt).2
        have HT := hid (List.take_succ_eq_append_getElem hlt)
        have hF : Hid ((woP (ps.take k) n).length ≤ 4096) := Nat.le_trans (woP_len _ _) (by simp; omega)
        have hsz := hB.out.size
        clear hc hBw
        generalize hpk : ps[k] = pk at *
        clear hpk
        obtain ⟨pn, pv, pl, pcap⟩ := pk
        simp only [PageS.val] at ck1
        dsimp only at ck
        by_cases he : pn = n
        · have heb : (pn == n) = true := by rw [he]; exact beq_self_eq_true _
          have hO2 : Hid (wr.ownsRow w2.heap.size 114 2 u7 (woP (ps.take (k + 1)) n).length (rowCells (woP (ps.take (k + 1)) n))) := by
            unfold Hid
            rw [HT.out, woP_same _ _ _ he]
            exact hO.out
          clear HT hO
          go_wp2
          exact ⟨⟨k + 1, by omega, by go_num, hO2, hB⟩, by simp [intOf]; omega⟩
        · have heb : (pn == n) = false := beq_eq_false_iff_ne.2 he
          have HS : Hid (woP (ps.take (k + 1)) n = woP (ps.take k) n ++ [⟨pn, pv, pl, pcap⟩]) := by
            unfold Hid
            rw [HT.out, woP_snoc _ _ _ he]
          clear HT
          generalize woP (ps.take k) n = f at *
          have hkf : f.length ≤ 4096 := hF.out
          go_wp2_with (refine wpList_append_lies _ rfl (.tmp 65) (.tmp 73) 44 rfl w2.heap.size 114 i0 (.agg #[.int .i64 0, .slice none 0 0]) 2 32 Tryz.underlying44 HI.out hz0 hz1 hz2 rfl (by omega) u7 f.length _ rfl (hO.out.alloc _) ⟨wr.heap.size, 0, none⟩ 1 1 [.int .i64 pn, .slice pv pl pcap] rfl rfl (World.news_of_block (cs := #[.int .i64 pn, .slice pv pl pcap]) (block_new wr _)) (by intro u hu; rcases List.mem_cons.1 hu with rfl | hu; rfl; rw [List.mem_singleton.1 hu]; rfl) (by omega) (by unfold maxLen; omega) (by omega) (by simp; omega) (wr.heap.size + 1) (by simp) ?_; intro g9 cap9 w9 hown hgr hat hlt2; have HOw := hid hown; have HG := hid hgr; clear hown hgr hat hlt2)
          have hba := hB.out.trans (((Below.refl wr.heap.size wr).alloc (Nat.le_refl _) (.cells #[.int .i64 pn, .slice pv pl pcap] 114)).mono hB.out.size)
          refine ⟨⟨k + 1, by omega, by go_num, ?_, hba.trans (below_of_row HG.out hba.size (fun i e => (hO.out.lt i e).1))⟩, by simp [intOf]; omega⟩
          unfold Hid
          rw [HS.out, List.length_append, rowCells_append]
          exact HOw.out
      · obtain rfl : k = ps.length := by omega
        have hge : ¬ ((ps.length : Int) < (ps.length : Int)) := by omega
        have hOf := hO.out
        rw [List.take_length] at hOf
        have HO := hid hOf
        have hbw := HB2.out.trans (hB.out.mono HB2.out.size)
        have HBw := hid hbw
        have hfl : (woP ps n).length ≤ 4096 := Nat.le_trans (woP_len _ _) hfew
        have HCy := hid (copy_any bs ba cp wr (HBy.out.below hbw) (by omega) (by omega))
        rw [h5] at HCy
        clear hOf hO hbw
        go_wp2_with fail
        refine HCy.out.mono ?_
        clear HCy
        rintro e w3 ⟨g3, cap3, rfl, hby3, hg3, hg3l, hb3⟩
        have hs2 := HB2.out.size
        have hsr := hB.out.size
        have hs3 := hb3.size
        have hO3 := (Keeps.of_below (F := fun _ => False) hb3).row HO.out (fun _ _ h => h)
        have HO3 := hid hO3
        have HB3 := hid (HBw.out.trans (hb3.mono HBw.out.size))
        have HBy3 := hid hby3
        have HQV := hid (fun i e => (hO3.lt i e).1)
        have HQL := hid (fun i e => (hO3.lt i e).2)
        obtain ⟨wa, hwa⟩ : ∃ wa, wa = w3.alloc (.cells #[.int .i64 n, .slice (some ⟨g3, 0, none⟩) 512 cap3] 114) := ⟨_, rfl⟩
        have hka : Keeps (fun i => u7.ownBlock = some i) w3 wa := by rw [hwa]; exact Keeps.alloc (Keeps.refl _ w3) _
        have HKa : Hid (∀ W, wa.grownBy W u7.ownBlock → Keeps (fun i => u7.ownBlock = some i) w3 W) := fun W hW => hka.grown hW (fun i e => .inl e)
        have HCell : Hid (∀ W, wa.grownBy W u7.ownBlock → W.cell? ⟨q, 2, none⟩ = some (.slice pa ps.length pc) ∧ W.frozen? ⟨q, 2, none⟩ = false) := fun W hW => by
          have hk := HKa.out W hW
          have h4 := (HH.out.below HB3.out).keep hk (fun e => by have := HQV.out q e; omega) (fun i hi e => by have h1 := HQV.out i e; have h2 := HH.out.lt i hi; omega)
          obtain ⟨pa2, pc2, ca2, cc2, hh2, -, -, -, -⟩ := h4.heap
          exact ⟨hk.cell (ad := ⟨q, 2, none⟩) ((HB3.out.cell (p := ⟨q, 2, none⟩) hql).trans c2) (fun e => by have := HQV.out q e; omega), frozen_of_block hh2 _⟩
        have x2s := (HB3.out.cell (p := ⟨q, 2, none⟩) hql).trans c2
        have HWa := hid hwa
        have HUt : Hid (∀ i, u7.ownBlock = some i → i ≠ g3) := fun i e e2 => by
          have h8 := (HO.out.lt i e).2
          omega
        clear hby3 hb3 hO3 HO hka
        generalize hfe : woP ps n = f at *
        have HFe := hid hfe
        clear hfe
        go_upto_region 16 with (refine wpList_append_lies _ rfl (.tmp 76) (.tmp 81) 44 rfl w2.heap.size 114 i0 (.agg #[.int .i64 0, .slice none 0 0]) 2 32 Tryz.underlying44 HI.out hz0 hz1 hz2 rfl (by omega) u7 f.length _ rfl (HO3.out.alloc _) ⟨w3.heap.size, 0, none⟩ 1 1 [.int .i64 n, .slice (some ⟨g3, 0, none⟩) 512 cap3] rfl rfl (World.news_of_block (cs := #[.int .i64 n, .slice (some ⟨g3, 0, none⟩) 512 cap3]) (block_new w3 _)) (by intro u hu; rcases List.mem_cons.1 hu with rfl | hu; rfl; rw [List.mem_singleton.1 hu]; rfl) (by omega) (by unfold maxLen; omega) (by omega) (by simp; omega) (w3.heap.size + 1) (by simp) ?_; intro g5 cap5 w5 hown hgr hat hlt2; rw [← hwa] at hgr; have HOw := hid hown; have HG := hid hgr; obtain ⟨k3, kf⟩ := HCell.out w5 hgr; clear hown hgr hat hlt2)
        have hk5 := HKa.out w5 HG.out
        have h5' := (HH.out.below HB3.out).keep hk5 (fun e => by have := HQV.out q e; omega) (fun i hi e => by have h1 := HQV.out i e; have h2 := HH.out.lt i hi; omega)
        obtain ⟨pa5, pc5, ca5, cc5, hh5, -, hci5, -, hcb5⟩ := h5'.heap
        have hown5 := HOw.out
        obtain ⟨hg5, hg5l⟩ := row_addr hown5 ⟨g5, 0, none⟩ rfl
        have hg5' : w2.heap.size ≤ g5 := hg5
        have hg5l' : g5 < w5.heap.size := hg5l
        have hp9 : pagesAt w5 (some ⟨g5, 0, none⟩) (f ++ [⟨n, some ⟨g3, 0, none⟩, 512, cap3⟩]) := by
          have h9 : w5.ownsRow w2.heap.size 114 2 (.slice (some ⟨g5, 0, none⟩) (f.length + 1) cap5) (f ++ [(⟨n, some ⟨g3, 0, none⟩, 512, cap3⟩ : PageS)]).length (rowCells (f ++ [(⟨n, some ⟨g3, 0, none⟩, 512, cap3⟩ : PageS)])) := by
            rw [List.length_append, rowCells_append]; exact hown5
          obtain ⟨a9, c9, e9, hi9, -⟩ := rows_pages h9
          simp only [Value.slice.injEq] at e9
          rw [e9.1]; exact hi9
        have hby5 : bytesAt w5 ⟨g3, 0, none⟩ bs := fun j hj => hk5.cell (bytesIn_at HBy3.out j hj) (fun e => HUt.out _ e (by rw [add_block]))
        have hK6 : Keeps (fun i => i = q) w5 (w5.setCell ⟨q, 2, none⟩ (.slice (some ⟨g5, 0, none⟩) (f.length + 1) cap5)) := (Keeps.refl _ _).grown (grown_setCell (grown_refl _ _) _ _) (fun i e => .inl (Option.some.inj e).symm)
        have hh6 : (w5.setCell ⟨q, 2, none⟩ (.slice (some ⟨g5, 0, none⟩) (f.length + 1) cap5)).heap[q]? = some (.cells #[.pointer (some ⟨m, 0, none⟩), .int .i64 R.most, .slice (some ⟨g5, 0, none⟩) (f.length + 1) cap5, .slice ca5 R.cs.length cc5] 46 (0, 0)) := block_setCell hh5 2 _
        have hs5 := hk5.size
        have hR6 : R4In (w5.setCell ⟨q, 2, none⟩ (.slice (some ⟨g5, 0, none⟩) (f.length + 1) cap5)) q m (fun i => B i ∨ i = g5 ∨ i = g3) { R with ps := f ++ [⟨n, some ⟨g3, 0, none⟩, 512, cap3⟩], by_ := updB R.by_ n bs } := by
          refine ⟨⟨some ⟨g5, 0, none⟩, cap5, ca5, cc5, ?_, hp9.keepA hK6 (fun ad e e2 => ?_), hci5.keepA hK6 (fun ad e e2 => HH.out.off (e2 ▸ hcb5 ad e)), fun ad e => ?_, fun ad e => .inl (hcb5 ad e)⟩, fun p hp => ?_, fun i hi => ?_, fun hi => ?_, ?_, HH.out.few.2⟩
          · rw [show ({ R with ps := f ++ [⟨n, some ⟨g3, 0, none⟩, 512, cap3⟩], by_ := updB R.by_ n bs } : R4).ps.length = f.length + 1 by simp]; exact hh6
          · obtain rfl := (Option.some.inj e)
            have e3 : g5 = q := e2
            omega
          · obtain rfl := (Option.some.inj e); exact .inr (.inl rfl)
          · rcases List.mem_append.1 hp with hp | hp
            · have hpf : p ∈ woP ps n := by rw [HFe.out]; exact hp
              obtain ⟨hp1, hp2⟩ := List.mem_filter.1 hpf
              rw [HPs.out] at hp1
              have hpn : p.n ≠ n := by simpa using hp2
              obtain ⟨x1, g, x2, x3, x4, x5⟩ := h5'.rows p hp1
              have e7 : updB R.by_ n bs p.n = R.by_ p.n := by unfold updB; rw [if_neg hpn]
              refine ⟨x1, g, x2, .inl x3, ?_, by show (updB R.by_ n bs p.n).length = 512; rw [e7]; exact x5⟩
              show bytesAt _ _ (updB R.by_ n bs p.n)
              rw [e7]
              exact fun j hj => hK6.cell (x4 j hj) (by rw [add_block]; exact fun e => HH.out.off (e ▸ x3))
            · obtain rfl := List.mem_singleton.1 hp
              have e7 : updB R.by_ n bs n = bs := by unfold updB; rw [if_pos rfl]
              refine ⟨rfl, g3, rfl, .inr (.inr rfl), ?_, by show (updB R.by_ n bs n).length = 512; rw [e7]; exact h5⟩
              show bytesAt _ _ (updB R.by_ n bs n)
              rw [e7]
              exact fun j hj => hK6.cell (hby5 j hj) (by rw [add_block]; exact fun e => by have e' : g3 = q := e; omega)
          · have h8 := hK6.size
            rcases hi with hi | hi | hi
            · exact Nat.lt_of_lt_of_le (h5'.lt i hi) h8
            · omega
            · omega
          · rcases hi with hi | hi | hi
            · exact HH.out.off hi
            · omega
            · omega
          · show (f ++ [(⟨n, some ⟨g3, 0, none⟩, 512, cap3⟩ : PageS)]).length ≤ 4096
            have h8 : f.length ≤ ps.length := by rw [← HFe.out]; exact woP_len _ _
            simp; omega
        have hKw : Keeps (fun i => i = q) w (w5.setCell ⟨q, 2, none⟩ (.slice (some ⟨g5, 0, none⟩) (f.length + 1) cap5)) := ((Keeps.of_below (F := fun i => i = q) HB3.out).trans hk5 (fun i e => .inr (by have := HQV.out i e; omega))).trans hK6 (fun i e => .inl e)
        have HR6 := hid hR6
        have HKw := hid hKw
        have HHh6 := hid hh6
        have HCi6 := hid (hci5.keepA hK6 (fun ad e e2 => HH.out.off (e2 ▸ hcb5 ad e)))
        clear hk5 h5' hh5 hci5 hcb5 hown5 hp9 hby5 hK6 hR6 hKw HOw HG HCell HKa k3 kf hh6 x2s HBy3
        generalize w5.setCell ⟨q, 2, none⟩ (.slice (some ⟨g5, 0, none⟩) (f.length + 1) cap5) = w6 at *
        have y3 : w6.cell? ⟨q, 3, none⟩ = some (.slice ca5 R.cs.length cc5) := cell_of_block HHh6.out 3
        have HWo := hid (r4without_any R.cs n ca5 cc5 w6 HCi6.out (by omega))
        go_wp2_with fail
        refine HWo.out.mono ?_
        clear HWo
        rintro e w7 ⟨v7, rfl, hrow7, hb7⟩
        obtain ⟨a7, c7, rfl, hi7⟩ := ints_of_row hrow7
        have hab := row_addr hrow7
        have hq6 : q < w6.heap.size := lt_of_heap HHh6.out
        have hh7 := below_block hb7 HHh6.out hq6
        have y7 : w7.cell? ⟨q, 3, none⟩ = some (.slice ca5 R.cs.length cc5) := cell_of_block hh7 3
        have yf : w7.frozen? ⟨q, 3, none⟩ = false := frozen_of_block hh7 _
        have HE : Hid (R4In (w7.setCell ⟨q, 3, none⟩ (.slice a7 (woZ R.cs n).length c7)) q m (fun i => (B i ∨ i = g5 ∨ i = g3) ∨ ∃ ad, a7 = some ad ∧ i = ad.block) { R with ps := f ++ [⟨n, some ⟨g3, 0, none⟩, 512, cap3⟩], by_ := updB R.by_ n bs, cs := woZ R.cs n } ∧ (∀ i, ((B i ∨ i = g5 ∨ i = g3) ∨ ∃ ad, a7 = some ad ∧ i = ad.block) → B i ∨ w.heap.size ≤ i) ∧ Keeps (fun i => i = q) w (w7.setCell ⟨q, 3, none⟩ (.slice a7 (woZ R.cs n).length c7))) := by
          have hR7 := HR6.out.below hb7
          obtain ⟨pa8, pc8, ca8, cc8, hh8, hp8, -, hpb8, -⟩ := hR7.heap
          have hK8 : Keeps (fun i => i = q) w7 (w7.setCell ⟨q, 3, none⟩ (.slice a7 (woZ R.cs n).length c7)) := (Keeps.refl _ _).grown (grown_setCell (grown_refl _ _) _ _) (fun i e => .inl (Option.some.inj e).symm)
          have hs7 := hb7.size
          have hsw := HKw.out.size
          refine ⟨⟨⟨pa8, pc8, a7, c7, block_setCell hh8 3 _, hp8.keepA hK8 (fun ad e e2 => hR7.off (e2 ▸ hpb8 ad e)), hi7.keepA hK8 (fun ad e e2 => ?_), fun ad e => .inl (hpb8 ad e), fun ad e => .inr ⟨ad, e, rfl⟩⟩, fun p hp => ?_, fun i hi => ?_, fun hi => ?_, hR7.few.1, Nat.le_trans (woZ_len _ _) (by omega)⟩, fun i hi => ?_, (HKw.out.trans (Keeps.of_below (F := fun _ => False) hb7) (fun _ h => h.elim)).trans hK8 (fun i e => .inl e)⟩
          · have h9 := hab ad e
            have e3 : ad.block = q := e2
            omega
          · obtain ⟨x1, g, x2, x3, x4, x5⟩ := hR7.rows p hp
            exact ⟨x1, g, x2, .inl x3, fun j hj => hK8.cell (x4 j hj) (by rw [add_block]; exact fun e => hR7.off (e ▸ x3)), x5⟩
          · have h8 := hK8.size
            rcases hi with hi | ⟨ad, e, rfl⟩
            · exact Nat.lt_of_lt_of_le (hR7.lt i hi) h8
            · have h9 := hab ad e
              omega
          · rcases hi with hi | ⟨ad, e, e2⟩
            · exact hR7.off hi
            · have h9 := hab ad e
              omega
          · rcases hi with (hi | hi | hi) | ⟨ad, e, rfl⟩
            · exact .inl hi
            · exact .inr (by omega)
            · exact .inr (by omega)
            · have h9 := hab ad e
              exact .inr (by omega)
        clear hrow7 hb7 hi7 hab hh7 HR6 HKw HHh6 HCi6 y3
        go_wp2
        go_ret
        have hE := HE.out
        rw [← HFe.out] at hE
        exact ⟨rfl, _, g3, cap3, hE⟩
  · rw [hpos] at HAt
    have hf1 : ¬ (((mc : Nat) : Int) ≤ (ps.length : Int)) := by omega
    have hfd : decide (((mc : Nat) : Int) ≤ (ps.length : Int)) = false := decide_eq_false hf1
    have hfn : decide (mc ≤ ps.length) = false := decide_eq_false (by omega)
    clear hpos
    go_enter Tryz.func44, Tryz.ntmps44
    go_wp2_with fail
    refine HPg.out.mono ?_
    clear HPg
    rintro e w1 ⟨rfl, hb1⟩
    have HB1 := hid hb1
    have HA1 := hid (HAt.out w1.drew hb1.drew)
    have d0 := (hb1.cell (p := ⟨q, 0, none⟩) hql).trans c0
    have d2 := (hb1.cell (p := ⟨q, 2, none⟩) hql).trans c2
    clear hb1 HAt
    go_wp2
    refine wp_region_noPanic ?_
    refine wp_region_held_drew (S := fun W => W.cell? ⟨q, 0, none⟩ = some (.pointer (some ⟨m, 0, none⟩)) ∧ W.cell? ⟨q, 2, none⟩ = some (.slice pa ps.length pc)) (by kernel_rfl) ⟨d0, d2⟩ (fun hHeld => ?_)
    refine wpAnyH_take (i := 0) (v := ?_) rfl (by kernel_rfl) (by kernel_rfl) (by kernel_rfl) (fun _ _ _ h => h) (Or.inl ⟨by rfl, ?_⟩) (by assumption) ?_
    rotate_left
    · (intro W hSw; (try dsimp only at hSw); obtain ⟨s0, s2⟩ := hSw; go_simp; try with_reducible rfl)
    try simp only [List.getElem_toArray, List.getElem_cons_zero, Act.put, List.setIfInBounds_toArray, List.set_cons_zero, List.set_cons_succ]
    refine wpAnyH_take (i := 1) (v := ?_) rfl (by kernel_rfl) (by kernel_rfl) (by kernel_rfl) (fun _ _ _ h => h) (Or.inl ⟨by rfl, ?_⟩) (by assumption) ?_
    rotate_left
    · (intro W hSw; (try dsimp only at hSw); obtain ⟨s0, s2⟩ := hSw; go_simp; try with_reducible rfl)
    try simp only [List.getElem_toArray, List.getElem_cons_succ, List.getElem_cons_zero, Act.put, List.setIfInBounds_toArray, List.set_cons_zero, List.set_cons_succ]
    refine wpAnyH_ready (rs := [2]) (by kernel_rfl) (by simp) (AllReadyH.cons rfl (fun K hK => ?_) AllReadyH.nil)
    rw [if_pos (by rfl)]
    go_simp
    refine HA1.out.mono ?_
    clear HA1
    rintro e w2 ⟨rfl, hb2⟩
    have hb := HB1.out.drew.trans (hb2.mono HB1.out.size)
    have HB2 := hid hb
    have x0 := (hb.cell (p := ⟨q, 0, none⟩) hql).trans c0
    have x2 := (hb.cell (p := ⟨q, 2, none⟩) hql).trans c2
    have HC2 := hid (HCp.out w2 hb)
    clear hb2 hb HCp HB1
    go_wp2_with fail
    refine hK.out _ _ ⟨x0, x2⟩ (fun hHeld => ?_)
    clear hK K
    try simp only [List.getElem_toArray, List.getElem_cons_succ, List.getElem_cons_zero, Act.put, List.setIfInBounds_toArray, List.set_cons_zero, List.set_cons_succ]
    refine wpAnyH_take (i := 3) (v := ?_) rfl (by kernel_rfl) (by kernel_rfl) (by kernel_rfl) (fun _ _ _ h => h) (Or.inl ⟨by rfl, ?_⟩) (by assumption) ?_
    rotate_left
    · (intro W hSw; (try dsimp only at hSw); obtain ⟨s0, s2⟩ := hSw; go_simp; try with_reducible rfl)
    try simp only [List.getElem_toArray, List.getElem_cons_succ, List.getElem_cons_zero, Act.put, List.setIfInBounds_toArray, List.set_cons_zero, List.set_cons_succ]
    refine wpAnyH_take (i := 4) (v := ?_) rfl (by kernel_rfl) (by kernel_rfl) (by kernel_rfl) (fun _ _ _ h => h) (Or.inl ⟨by rfl, ?_⟩) (by assumption) ?_
    rotate_left
    · (intro W hSw; (try dsimp only at hSw); obtain ⟨s0, s2⟩ := hSw; go_simp; try with_reducible rfl)
    try simp only [List.getElem_toArray, List.getElem_cons_succ, List.getElem_cons_zero, Act.put, List.setIfInBounds_toArray, List.set_cons_zero, List.set_cons_succ]
    refine wpAnyH_take (i := 5) (v := ?_) rfl (by kernel_rfl) (by kernel_rfl) (by kernel_rfl) (fun _ _ _ h => h) (Or.inl ⟨by rfl, ?_⟩) (by assumption) ?_
    rotate_left
    · (intro W hSw; (try dsimp only at hSw); obtain ⟨s0, s2⟩ := hSw; go_simp; try with_reducible rfl)
    try simp only [List.getElem_toArray, List.getElem_cons_succ, List.getElem_cons_zero, Act.put, List.setIfInBounds_toArray, List.set_cons_zero, List.set_cons_succ]
    refine wpAnyH_take (i := 6) (v := ?_) rfl (by kernel_rfl) (by kernel_rfl) (by kernel_rfl) (fun _ _ _ h => h) (Or.inl ⟨by rfl, ?_⟩) (by assumption) ?_
    rotate_left
    · (intro W hSw; (try dsimp only at hSw); obtain ⟨s0, s2⟩ := hSw; go_simp; try with_reducible rfl)
    try simp only [List.getElem_toArray, List.getElem_cons_succ, List.getElem_cons_zero, Act.put, List.setIfInBounds_toArray, List.set_cons_zero, List.set_cons_succ]
    refine wpAnyH_take (i := 7) (v := ?_) rfl (by kernel_rfl) (by kernel_rfl) (by kernel_rfl) (fun _ _ _ h => h) (Or.inl ⟨by rfl, ?_⟩) (by assumption) ?_
    rotate_left
    · (intro W hSw; (try dsimp only at hSw); obtain ⟨s0, s2⟩ := hSw; go_simp; try with_reducible rfl)
    try simp only [List.getElem_toArray, List.getElem_cons_succ, List.getElem_cons_zero, Act.put, List.setIfInBounds_toArray, List.set_cons_zero, List.set_cons_succ]
    refine wpAnyH_take (i := 8) (v := ?_) rfl (by kernel_rfl) (by kernel_rfl) (by kernel_rfl) (fun _ _ _ h => h) (Or.inl ⟨by rfl, ?_⟩) (by assumption) ?_
    rotate_left
    · (intro W hSw; (try dsimp only at hSw); obtain ⟨s0, s2⟩ := hSw; go_simp; try with_reducible rfl)
    try simp only [List.getElem_toArray, List.getElem_cons_succ, List.getElem_cons_zero, Act.put, List.setIfInBounds_toArray, List.set_cons_zero, List.set_cons_succ]
    refine wpAnyH_take (i := 9) (v := ?_) rfl (by kernel_rfl) (by kernel_rfl) (by kernel_rfl) (fun _ _ _ h => h) (Or.inl ⟨by rfl, ?_⟩) (by assumption) ?_
    rotate_left
    · (intro W hSw; (try dsimp only at hSw); obtain ⟨s0, s2⟩ := hSw; go_simp; try with_reducible rfl)
    try simp only [List.getElem_toArray, List.getElem_cons_succ, List.getElem_cons_zero, Act.put, List.setIfInBounds_toArray, List.set_cons_zero, List.set_cons_succ]
    refine wpAnyH_take (i := 10) (v := ?_) rfl (by kernel_rfl) (by kernel_rfl) (by kernel_rfl) (fun _ _ _ h => h) (Or.inl ⟨by rfl, ?_⟩) (by assumption) ?_
    rotate_left
    · (intro W hSw; (try dsimp only at hSw); obtain ⟨s0, s2⟩ := hSw; go_simp; try with_reducible rfl)
    try simp only [List.getElem_toArray, List.getElem_cons_succ, List.getElem_cons_zero, Act.put, List.setIfInBounds_toArray, List.set_cons_zero, List.set_cons_succ]
    refine wpAnyH_take (i := 11) (v := ?_) rfl (by kernel_rfl) (by kernel_rfl) (by kernel_rfl) (fun _ _ _ h => h) (Or.inl ⟨by rfl, ?_⟩) (by assumption) ?_
    rotate_left
    · (intro W hSw; (try dsimp only at hSw); obtain ⟨s0, s2⟩ := hSw; go_simp; try with_reducible rfl)
    try simp only [List.getElem_toArray, List.getElem_cons_succ, List.getElem_cons_zero, Act.put, List.setIfInBounds_toArray, List.set_cons_zero, List.set_cons_succ]
    refine wpAnyH_take (i := 12) (v := ?_) rfl (by kernel_rfl) (by kernel_rfl) (by kernel_rfl) (fun _ _ _ h => h) (Or.inl ⟨by rfl, ?_⟩) (by assumption) ?_
    rotate_left
    · (intro W hSw; (try dsimp only at hSw); obtain ⟨s0, s2⟩ := hSw; go_simp; try with_reducible rfl)
    try simp only [List.getElem_toArray, List.getElem_cons_succ, List.getElem_cons_zero, Act.put, List.setIfInBounds_toArray, List.set_cons_zero, List.set_cons_succ]
    refine wpAnyH_take (i := 13) (v := ?_) rfl (by kernel_rfl) (by kernel_rfl) (by kernel_rfl) (fun _ _ _ h => h) (Or.inl ⟨by rfl, ?_⟩) (by assumption) ?_
    rotate_left
    · (intro W hSw; (try dsimp only at hSw); obtain ⟨s0, s2⟩ := hSw; go_simp; try with_reducible rfl)
    try simp only [List.getElem_toArray, List.getElem_cons_succ, List.getElem_cons_zero, Act.put, List.setIfInBounds_toArray, List.set_cons_zero, List.set_cons_succ]
    refine wpAnyH_ready (rs := [14]) (by kernel_rfl) (by simp) (AllReadyH.cons rfl (fun K hK => ?_) AllReadyH.nil)
    rw [if_pos (by rfl)]
    go_simp
    refine HC2.out.mono ?_
    clear HC2
    rintro e w9 ⟨rfl, h9⟩
    obtain rfl := h9.symm
    clear h9
    go_wp2_with fail
    refine hK.out _ _ ⟨x0, x2⟩ (fun hHeld => ?_)
    clear hK K
    try simp only [List.getElem_toArray, List.getElem_cons_succ, List.getElem_cons_zero, Act.put, List.setIfInBounds_toArray, List.set_cons_zero, List.set_cons_succ]
    refine wpAnyH_take (i := 15) (v := .bool false) rfl (by kernel_rfl) (by kernel_rfl) (by kernel_rfl) (fun _ _ _ h => h) (Or.inl ⟨by rfl, ?_⟩) (by assumption) ?_
    · (intro W hSw; (try dsimp only at hSw); obtain ⟨s0, s2⟩ := hSw; go_simp; try first | with_reducible rfl | go_num | (rw [if_pos (by assumption)]; simp only [*]) | simp only [*])
    try simp only [List.getElem_toArray, List.getElem_cons_succ, List.getElem_cons_zero, Act.put, List.setIfInBounds_toArray, List.set_cons_zero, List.set_cons_succ]
    refine wpAnyH_take (i := 16) (v := ?_) rfl (by kernel_rfl) (by kernel_rfl) (by kernel_rfl) (fun _ _ _ h => h) (Or.inl ⟨by rfl, ?_⟩) (by assumption) ?_
    rotate_left
    · (intro W hSw; (try dsimp only at hSw); obtain ⟨s0, s2⟩ := hSw; go_simp; try with_reducible rfl)
    try simp only [List.getElem_toArray, List.getElem_cons_succ, List.getElem_cons_zero, Act.put, List.setIfInBounds_toArray, List.set_cons_zero, List.set_cons_succ]
    refine wpAnyH_take (i := 17) (v := ?_) rfl (by kernel_rfl) (by kernel_rfl) (by kernel_rfl) (fun _ _ _ h => h) (Or.inl ⟨by rfl, ?_⟩) (by assumption) ?_
    rotate_left
    · (intro W hSw; (try dsimp only at hSw); obtain ⟨s0, s2⟩ := hSw; go_simp; try with_reducible rfl)
    try simp only [List.getElem_toArray, List.getElem_cons_succ, List.getElem_cons_zero, Act.put, List.setIfInBounds_toArray, List.set_cons_zero, List.set_cons_succ]
    refine wpAnyH_done (by kernel_rfl) ?_ _
    refine NoPanic.normal ?_
    clear hHeld
    have HH2 := hid (HH.out.below HB2.out)
    have hq2 : q < w2.heap.size := Nat.lt_of_lt_of_le hql HB2.out.size
    clear d0 d2
    go_wp2
    go_loopw [7, 8] (fun v i wr => ∃ k : Nat, k ≤ ps.length ∧ i = .int .i64 k ∧ Hid (wr.ownsRow w2.heap.size 114 2 v (woP (ps.take k) n).length (rowCells (woP (ps.take k) n))) ∧ Hid (Below w2.heap.size w2 wr)) (fun _ i _ => ps.length - (intOf i).toNat)
    case atStart => exact ⟨0, by omega, rfl, World.ownsRow_nil _ _ _ _, Below.refl _ _⟩
    case round =>
      obtain ⟨k, hk, rfl, hO, hB⟩ := hrel
      have x2r := (hB.out.cell (p := ⟨q, 2, none⟩) hq2).trans x2
      by_cases hlt : k < ps.length
      · have hk0 : (0 : Int) ≤ (k : Int) := by omega
        have hk1 : (k : Int) < (ps.length : Int) := by omega
        obtain ⟨b, o, rfl, hc⟩ := HP.out k hlt
        have hBw := HB2.out.trans (hB.out.mono HB2.out.size)
        have ck := (hBw.cell (p := ⟨b, o + k * 2, none⟩) (World.block_lt_of_cell? w _ (hc k hlt).1)).trans (hc k hlt).1
        have ck1 := (hBw.cell (p := ⟨b, o + k * 2 + 1, none⟩) (World.block_lt_of_cell? w _ (hc k hlt).2)).trans (hc k hlt).2
        have HT := hid (List.take_succ_eq_append_getElem hlt)
        have hF : Hid ((woP (ps.take k) n).length ≤ 4096) := Nat.le_trans (woP_len _ _) (by simp; omega)
        have hsz := hB.out.size
        clear hc hBw
        generalize hpk : ps[k] = pk at *
        clear hpk
        obtain ⟨pn, pv, pl, pcap⟩ := pk
        simp only [PageS.val] at ck1
        dsimp only at ck
        by_cases he : pn = n
        · have heb : (pn == n) = true := by rw [he]; exact beq_self_eq_true _
          have hO2 : Hid (wr.ownsRow w2.heap.size 114 2 u7 (woP (ps.take (k + 1)) n).length (rowCells (woP (ps.take (k + 1)) n))) := by
            unfold Hid
            rw [HT.out, woP_same _ _ _ he]
            exact hO.out
          clear HT hO
          go_wp2
          exact ⟨⟨k + 1, by omega, by go_num, hO2, hB⟩, by simp [intOf]; omega⟩
        · have heb : (pn == n) = false := beq_eq_false_iff_ne.2 he
          have HS : Hid (woP (ps.take (k + 1)) n = woP (ps.take k) n ++ [⟨pn, pv, pl, pcap⟩]) := by
            unfold Hid
            rw [HT.out, woP_snoc _ _ _ he]
          clear HT
          generalize woP (ps.take k) n = f at *
          have hkf : f.length ≤ 4096 := hF.out
          go_wp2_with (refine wpList_append_lies _ rfl (.tmp 65) (.tmp 73) 44 rfl w2.heap.size 114 i0 (.agg #[.int .i64 0, .slice none 0 0]) 2 32 Tryz.underlying44 HI.out hz0 hz1 hz2 rfl (by omega) u7 f.length _ rfl (hO.out.alloc _) ⟨wr.heap.size, 0, none⟩ 1 1 [.int .i64 pn, .slice pv pl pcap] rfl rfl (World.news_of_block (cs := #[.int .i64 pn, .slice pv pl pcap]) (block_new wr _)) (by intro u hu; rcases List.mem_cons.1 hu with rfl | hu; rfl; rw [List.mem_singleton.1 hu]; rfl) (by omega) (by unfold maxLen; omega) (by omega) (by simp; omega) (wr.heap.size + 1) (by simp) ?_; intro g9 cap9 w9 hown hgr hat hlt2; have HOw := hid hown; have HG := hid hgr; clear hown hgr hat hlt2)
          have hba := hB.out.trans (((Below.refl wr.heap.size wr).alloc (Nat.le_refl _) (.cells #[.int .i64 pn, .slice pv pl pcap] 114)).mono hB.out.size)
          refine ⟨⟨k + 1, by omega, by go_num, ?_, hba.trans (below_of_row HG.out hba.size (fun i e => (hO.out.lt i e).1))⟩, by simp [intOf]; omega⟩
          unfold Hid
          rw [HS.out, List.length_append, rowCells_append]
          exact HOw.out
      · obtain rfl : k = ps.length := by omega
        have hge : ¬ ((ps.length : Int) < (ps.length : Int)) := by omega
        have hOf := hO.out
        rw [List.take_length] at hOf
        have HO := hid hOf
        have hbw := HB2.out.trans (hB.out.mono HB2.out.size)
        have HBw := hid hbw
        have hfl : (woP ps n).length ≤ 4096 := Nat.le_trans (woP_len _ _) hfew
        have HCy := hid (copy_any bs ba cp wr (HBy.out.below hbw) (by omega) (by omega))
        rw [h5] at HCy
        clear hOf hO hbw
        go_wp2_with fail
        refine HCy.out.mono ?_
        clear HCy
        rintro e w3 ⟨g3, cap3, rfl, hby3, hg3, hg3l, hb3⟩
        have hs2 := HB2.out.size
        have hsr := hB.out.size
        have hs3 := hb3.size
        have hO3 := (Keeps.of_below (F := fun _ => False) hb3).row HO.out (fun _ _ h => h)
        have HO3 := hid hO3
        have HB3 := hid (HBw.out.trans (hb3.mono HBw.out.size))
        have HBy3 := hid hby3
        have HQV := hid (fun i e => (hO3.lt i e).1)
        have HQL := hid (fun i e => (hO3.lt i e).2)
        obtain ⟨wa, hwa⟩ : ∃ wa, wa = w3.alloc (.cells #[.int .i64 n, .slice (some ⟨g3, 0, none⟩) 512 cap3] 114) := ⟨_, rfl⟩
        have hka : Keeps (fun i => u7.ownBlock = some i) w3 wa := by rw [hwa]; exact Keeps.alloc (Keeps.refl _ w3) _
        have HKa : Hid (∀ W, wa.grownBy W u7.ownBlock → Keeps (fun i => u7.ownBlock = some i) w3 W) := fun W hW => hka.grown hW (fun i e => .inl e)
        have HCell : Hid (∀ W, wa.grownBy W u7.ownBlock → W.cell? ⟨q, 2, none⟩ = some (.slice pa ps.length pc) ∧ W.frozen? ⟨q, 2, none⟩ = false) := fun W hW => by
          have hk := HKa.out W hW
          have h4 := (HH.out.below HB3.out).keep hk (fun e => by have := HQV.out q e; omega) (fun i hi e => by have h1 := HQV.out i e; have h2 := HH.out.lt i hi; omega)
          obtain ⟨pa2, pc2, ca2, cc2, hh2, -, -, -, -⟩ := h4.heap
          exact ⟨hk.cell (ad := ⟨q, 2, none⟩) ((HB3.out.cell (p := ⟨q, 2, none⟩) hql).trans c2) (fun e => by have := HQV.out q e; omega), frozen_of_block hh2 _⟩
        have x2s := (HB3.out.cell (p := ⟨q, 2, none⟩) hql).trans c2
        have HWa := hid hwa
        have HUt : Hid (∀ i, u7.ownBlock = some i → i ≠ g3) := fun i e e2 => by
          have h8 := (HO.out.lt i e).2
          omega
        clear hby3 hb3 hO3 HO hka
        generalize hfe : woP ps n = f at *
        have HFe := hid hfe
        clear hfe
        go_upto_region 16 with (refine wpList_append_lies _ rfl (.tmp 76) (.tmp 81) 44 rfl w2.heap.size 114 i0 (.agg #[.int .i64 0, .slice none 0 0]) 2 32 Tryz.underlying44 HI.out hz0 hz1 hz2 rfl (by omega) u7 f.length _ rfl (HO3.out.alloc _) ⟨w3.heap.size, 0, none⟩ 1 1 [.int .i64 n, .slice (some ⟨g3, 0, none⟩) 512 cap3] rfl rfl (World.news_of_block (cs := #[.int .i64 n, .slice (some ⟨g3, 0, none⟩) 512 cap3]) (block_new w3 _)) (by intro u hu; rcases List.mem_cons.1 hu with rfl | hu; rfl; rw [List.mem_singleton.1 hu]; rfl) (by omega) (by unfold maxLen; omega) (by omega) (by simp; omega) (w3.heap.size + 1) (by simp) ?_; intro g5 cap5 w5 hown hgr hat hlt2; rw [← hwa] at hgr; have HOw := hid hown; have HG := hid hgr; obtain ⟨k3, kf⟩ := HCell.out w5 hgr; clear hown hgr hat hlt2)
        have hk5 := HKa.out w5 HG.out
        have h5' := (HH.out.below HB3.out).keep hk5 (fun e => by have := HQV.out q e; omega) (fun i hi e => by have h1 := HQV.out i e; have h2 := HH.out.lt i hi; omega)
        obtain ⟨pa5, pc5, ca5, cc5, hh5, -, hci5, -, hcb5⟩ := h5'.heap
        have hown5 := HOw.out
        obtain ⟨hg5, hg5l⟩ := row_addr hown5 ⟨g5, 0, none⟩ rfl
        have hg5' : w2.heap.size ≤ g5 := hg5
        have hg5l' : g5 < w5.heap.size := hg5l
        have hp9 : pagesAt w5 (some ⟨g5, 0, none⟩) (f ++ [⟨n, some ⟨g3, 0, none⟩, 512, cap3⟩]) := by
          have h9 : w5.ownsRow w2.heap.size 114 2 (.slice (some ⟨g5, 0, none⟩) (f.length + 1) cap5) (f ++ [(⟨n, some ⟨g3, 0, none⟩, 512, cap3⟩ : PageS)]).length (rowCells (f ++ [(⟨n, some ⟨g3, 0, none⟩, 512, cap3⟩ : PageS)])) := by
            rw [List.length_append, rowCells_append]; exact hown5
          obtain ⟨a9, c9, e9, hi9, -⟩ := rows_pages h9
          simp only [Value.slice.injEq] at e9
          rw [e9.1]; exact hi9
        have hby5 : bytesAt w5 ⟨g3, 0, none⟩ bs := fun j hj => hk5.cell (bytesIn_at HBy3.out j hj) (fun e => HUt.out _ e (by rw [add_block]))
        have hK6 : Keeps (fun i => i = q) w5 (w5.setCell ⟨q, 2, none⟩ (.slice (some ⟨g5, 0, none⟩) (f.length + 1) cap5)) := (Keeps.refl _ _).grown (grown_setCell (grown_refl _ _) _ _) (fun i e => .inl (Option.some.inj e).symm)
        have hh6 : (w5.setCell ⟨q, 2, none⟩ (.slice (some ⟨g5, 0, none⟩) (f.length + 1) cap5)).heap[q]? = some (.cells #[.pointer (some ⟨m, 0, none⟩), .int .i64 R.most, .slice (some ⟨g5, 0, none⟩) (f.length + 1) cap5, .slice ca5 R.cs.length cc5] 46 (0, 0)) := block_setCell hh5 2 _
        have hs5 := hk5.size
        have hR6 : R4In (w5.setCell ⟨q, 2, none⟩ (.slice (some ⟨g5, 0, none⟩) (f.length + 1) cap5)) q m (fun i => B i ∨ i = g5 ∨ i = g3) { R with ps := f ++ [⟨n, some ⟨g3, 0, none⟩, 512, cap3⟩], by_ := updB R.by_ n bs } := by
          refine ⟨⟨some ⟨g5, 0, none⟩, cap5, ca5, cc5, ?_, hp9.keepA hK6 (fun ad e e2 => ?_), hci5.keepA hK6 (fun ad e e2 => HH.out.off (e2 ▸ hcb5 ad e)), fun ad e => ?_, fun ad e => .inl (hcb5 ad e)⟩, fun p hp => ?_, fun i hi => ?_, fun hi => ?_, ?_, HH.out.few.2⟩
          · rw [show ({ R with ps := f ++ [⟨n, some ⟨g3, 0, none⟩, 512, cap3⟩], by_ := updB R.by_ n bs } : R4).ps.length = f.length + 1 by simp]; exact hh6
          · obtain rfl := (Option.some.inj e)
            have e3 : g5 = q := e2
            omega
          · obtain rfl := (Option.some.inj e); exact .inr (.inl rfl)
          · rcases List.mem_append.1 hp with hp | hp
            · have hpf : p ∈ woP ps n := by rw [HFe.out]; exact hp
              obtain ⟨hp1, hp2⟩ := List.mem_filter.1 hpf
              rw [HPs.out] at hp1
              have hpn : p.n ≠ n := by simpa using hp2
              obtain ⟨x1, g, x2, x3, x4, x5⟩ := h5'.rows p hp1
              have e7 : updB R.by_ n bs p.n = R.by_ p.n := by unfold updB; rw [if_neg hpn]
              refine ⟨x1, g, x2, .inl x3, ?_, by show (updB R.by_ n bs p.n).length = 512; rw [e7]; exact x5⟩
              show bytesAt _ _ (updB R.by_ n bs p.n)
              rw [e7]
              exact fun j hj => hK6.cell (x4 j hj) (by rw [add_block]; exact fun e => HH.out.off (e ▸ x3))
            · obtain rfl := List.mem_singleton.1 hp
              have e7 : updB R.by_ n bs n = bs := by unfold updB; rw [if_pos rfl]
              refine ⟨rfl, g3, rfl, .inr (.inr rfl), ?_, by show (updB R.by_ n bs n).length = 512; rw [e7]; exact h5⟩
              show bytesAt _ _ (updB R.by_ n bs n)
              rw [e7]
              exact fun j hj => hK6.cell (hby5 j hj) (by rw [add_block]; exact fun e => by have e' : g3 = q := e; omega)
          · have h8 := hK6.size
            rcases hi with hi | hi | hi
            · exact Nat.lt_of_lt_of_le (h5'.lt i hi) h8
            · omega
            · omega
          · rcases hi with hi | hi | hi
            · exact HH.out.off hi
            · omega
            · omega
          · show (f ++ [(⟨n, some ⟨g3, 0, none⟩, 512, cap3⟩ : PageS)]).length ≤ 4096
            have h8 : f.length ≤ ps.length := by rw [← HFe.out]; exact woP_len _ _
            simp; omega
        have hKw : Keeps (fun i => i = q) w (w5.setCell ⟨q, 2, none⟩ (.slice (some ⟨g5, 0, none⟩) (f.length + 1) cap5)) := ((Keeps.of_below (F := fun i => i = q) HB3.out).trans hk5 (fun i e => .inr (by have := HQV.out i e; omega))).trans hK6 (fun i e => .inl e)
        have HR6 := hid hR6
        have HKw := hid hKw
        have HHh6 := hid hh6
        have HCi6 := hid (hci5.keepA hK6 (fun ad e e2 => HH.out.off (e2 ▸ hcb5 ad e)))
        clear hk5 h5' hh5 hci5 hcb5 hown5 hp9 hby5 hK6 hR6 hKw HOw HG HCell HKa k3 kf hh6 x2s HBy3
        generalize w5.setCell ⟨q, 2, none⟩ (.slice (some ⟨g5, 0, none⟩) (f.length + 1) cap5) = w6 at *
        have y3 : w6.cell? ⟨q, 3, none⟩ = some (.slice ca5 R.cs.length cc5) := cell_of_block HHh6.out 3
        have HWo := hid (r4without_any R.cs n ca5 cc5 w6 HCi6.out (by omega))
        go_wp2_with fail
        refine HWo.out.mono ?_
        clear HWo
        rintro e w7 ⟨v7, rfl, hrow7, hb7⟩
        obtain ⟨a7, c7, rfl, hi7⟩ := ints_of_row hrow7
        have hab := row_addr hrow7
        have hq6 : q < w6.heap.size := lt_of_heap HHh6.out
        have hh7 := below_block hb7 HHh6.out hq6
        have y7 : w7.cell? ⟨q, 3, none⟩ = some (.slice ca5 R.cs.length cc5) := cell_of_block hh7 3
        have yf : w7.frozen? ⟨q, 3, none⟩ = false := frozen_of_block hh7 _
        have HE : Hid (R4In (w7.setCell ⟨q, 3, none⟩ (.slice a7 (woZ R.cs n).length c7)) q m (fun i => (B i ∨ i = g5 ∨ i = g3) ∨ ∃ ad, a7 = some ad ∧ i = ad.block) { R with ps := f ++ [⟨n, some ⟨g3, 0, none⟩, 512, cap3⟩], by_ := updB R.by_ n bs, cs := woZ R.cs n } ∧ (∀ i, ((B i ∨ i = g5 ∨ i = g3) ∨ ∃ ad, a7 = some ad ∧ i = ad.block) → B i ∨ w.heap.size ≤ i) ∧ Keeps (fun i => i = q) w (w7.setCell ⟨q, 3, none⟩ (.slice a7 (woZ R.cs n).length c7))) := by
          have hR7 := HR6.out.below hb7
          obtain ⟨pa8, pc8, ca8, cc8, hh8, hp8, -, hpb8, -⟩ := hR7.heap
          have hK8 : Keeps (fun i => i = q) w7 (w7.setCell ⟨q, 3, none⟩ (.slice a7 (woZ R.cs n).length c7)) := (Keeps.refl _ _).grown (grown_setCell (grown_refl _ _) _ _) (fun i e => .inl (Option.some.inj e).symm)
          have hs7 := hb7.size
          have hsw := HKw.out.size
          refine ⟨⟨⟨pa8, pc8, a7, c7, block_setCell hh8 3 _, hp8.keepA hK8 (fun ad e e2 => hR7.off (e2 ▸ hpb8 ad e)), hi7.keepA hK8 (fun ad e e2 => ?_), fun ad e => .inl (hpb8 ad e), fun ad e => .inr ⟨ad, e, rfl⟩⟩, fun p hp => ?_, fun i hi => ?_, fun hi => ?_, hR7.few.1, Nat.le_trans (woZ_len _ _) (by omega)⟩, fun i hi => ?_, (HKw.out.trans (Keeps.of_below (F := fun _ => False) hb7) (fun _ h => h.elim)).trans hK8 (fun i e => .inl e)⟩
          · have h9 := hab ad e
            have e3 : ad.block = q := e2
            omega
          · obtain ⟨x1, g, x2, x3, x4, x5⟩ := hR7.rows p hp
            exact ⟨x1, g, x2, .inl x3, fun j hj => hK8.cell (x4 j hj) (by rw [add_block]; exact fun e => hR7.off (e ▸ x3)), x5⟩
          · have h8 := hK8.size
            rcases hi with hi | ⟨ad, e, rfl⟩
            · exact Nat.lt_of_lt_of_le (hR7.lt i hi) h8
            · have h9 := hab ad e
              omega
          · rcases hi with hi | ⟨ad, e, e2⟩
            · exact hR7.off hi
            · have h9 := hab ad e
              omega
          · rcases hi with (hi | hi | hi) | ⟨ad, e, rfl⟩
            · exact .inl hi
            · exact .inr (by omega)
            · exact .inr (by omega)
            · have h9 := hab ad e
              exact .inr (by omega)
        clear hrow7 hb7 hi7 hab hh7 HR6 HKw HHh6 HCi6 y3
        go_wp2
        go_ret
        have hE := HE.out
        rw [← HFe.out] at hE
        exact ⟨rfl, _, g3, cap3, hE⟩
end
end Go.Proofs.YtjgclmlclkfgpaaGreat
/- The reference's cache: nil ones; and caches that are refused. -/
namespace Go.Proofs.YtjgclmlclkfgpaaGreat
open Go.RowKit
set_option maxRecDepth 100000 in
theorem r4read_nil (n : Int) (w : World) : Calls Tryz.prog 43 #[.pointer none, .int .i64 n] w fun e w' => e = .returned (.tuple #[.slice none 0 0, .int .i64 1]) ∧ w' = w := by
  go_enter Tryz.func43, Tryz.ntmps43
  go_wp2
  go_returns
  exact ⟨rfl, rfl⟩
set_option maxRecDepth 100000 in
theorem r4write_nil (n : Int) (v : Value) (w : World) : Calls Tryz.prog 44 #[.pointer none, .int .i64 n, v] w fun e w' => e = .returned (.int .i64 1) ∧ w' = w := by
  go_enter Tryz.func44, Tryz.ntmps44
  go_wp2
  go_ret
  exact ⟨rfl, rfl⟩
set_option maxRecDepth 100000 in
theorem r4commit_nil (w : World) : Calls Tryz.prog 45 #[.pointer none] w fun e w' => e = .returned (.int .i64 1) ∧ w' = w := by
  go_enter Tryz.func45, Tryz.ntmps45
  go_wp2
  go_ret
  exact ⟨rfl, rfl⟩
set_option maxRecDepth 100000 in
theorem r4abort_nil (w : World) : Calls Tryz.prog 46 #[.pointer none] w fun e w' => e = .returned (.int .i64 0) ∧ w' = w := by
  go_enter Tryz.func46, Tryz.ntmps46
  go_wp2
  go_ret
  exact ⟨rfl, rfl⟩
set_option maxRecDepth 100000 in
theorem r4room_nil (w : World) : Calls Tryz.prog 16 #[.pointer none] w fun e w' => e = .returned (.int .i64 0) ∧ w' = w := by
  go_enter Tryz.func16, Tryz.ntmps16
  go_wp2
  go_ret
  exact ⟨rfl, rfl⟩
set_option maxRecDepth 100000 in
theorem r4cached_nil (w : World) : Calls Tryz.prog 12 #[.pointer none] w fun e w' => e = .returned (.slice none 0 0) ∧ w' = w := by
  go_enter Tryz.func12, Tryz.ntmps12
  go_wp2
  go_ret
  exact ⟨rfl, rfl⟩
set_option maxRecDepth 100000 in
theorem r4dirty_nil (w : World) : Calls Tryz.prog 14 #[.pointer none] w fun e w' => e = .returned (.slice none 0 0) ∧ w' = w := by
  go_enter Tryz.func14, Tryz.ntmps14
  go_wp2
  go_loopw [3, 4] (fun v i wr => v = .slice none 0 0 ∧ i = .int .i64 0 ∧ wr = w) (fun _ _ _ => 0)
  case atStart => exact ⟨rfl, rfl, rfl⟩
  case round =>
    obtain ⟨rfl, rfl, rfl⟩ := hrel
    go_wp2
    go_ret
    exact ⟨rfl, rfl⟩
set_option maxRecDepth 100000 in
theorem r4new_range (l : Nat) (most : Int) (h : ¬ (1 ≤ most ∧ most ≤ 64)) (w : World) : Calls Tryz.prog 42 #[.pointer (some ⟨l, 0, none⟩), .int .i64 most] w fun e w' => e = .returned (.tuple #[.pointer none, .int .i64 2]) ∧ w' = w := by
  by_cases h1 : most < 1
  · go_enter Tryz.func42, Tryz.ntmps42
    go_wp2
    go_returns
    exact ⟨rfl, rfl⟩
  · have h2 : 64 < most := by omega
    go_enter Tryz.func42, Tryz.ntmps42
    go_wp2
    go_returns
    exact ⟨rfl, rfl⟩
set_option maxRecDepth 100000 in
theorem bnew_range (l : Nat) (most : Int) (h : ¬ (1 ≤ most ∧ most ≤ 64)) (w : World) : Calls Tryz.prog 38 #[.pointer (some ⟨l, 0, none⟩), .int .i64 most] w fun e w' => e = .returned (.tuple #[.pointer none, .int .i64 2]) ∧ w' = w := by
  by_cases h1 : most < 1
  · go_enter Tryz.func38, Tryz.ntmps38
    go_wp2
    go_returns
    exact ⟨rfl, rfl⟩
  · have h2 : 64 < most := by omega
    go_enter Tryz.func38, Tryz.ntmps38
    go_wp2
    go_returns
    exact ⟨rfl, rfl⟩
end Go.Proofs.YtjgclmlclkfgpaaGreat
/- A cache and the reference's, alike in what they hold: plain facts. -/
namespace Go.Proofs.YtjgclmlclkfgpaaGreat
open Go.RowKit Go.Maps
theorem posP_none (n : Int) : ∀ (ps : List PageS) (k : Nat), n ∉ ps.map PageS.n → posP n ps k = -1
  | [], _, _ => rfl
  | p :: ps, k, h => by
    simp only [List.map_cons, List.mem_cons, not_or] at h
    unfold posP
    rw [if_neg (fun e => h.1 e.symm)]
    exact posP_none n ps (k + 1) h.2
theorem posP_some (n : Int) : ∀ (ps : List PageS) (k : Nat), n ∈ ps.map PageS.n → ∃ j, ∃ hj : j < ps.length, posP n ps k = ((k + j : Nat) : Int) ∧ ps[j].n = n
  | [], _, h => by cases h
  | p :: ps, k, h => by
    unfold posP
    by_cases e : p.n = n
    · rw [if_pos e]; exact ⟨0, by simp, by simp, e⟩
    · rw [if_neg e]
      simp only [List.map_cons, List.mem_cons] at h
      obtain ⟨j, hj, h1, h2⟩ := posP_some n ps (k + 1) (h.resolve_left (fun x => e x.symm))
      exact ⟨j + 1, by simpa using hj, by rw [h1]; omega, by simpa using h2⟩
theorem posP_iff (n : Int) (ps : List PageS) : 0 ≤ posP n ps 0 ↔ n ∈ ps.map PageS.n := by
  constructor
  · intro h
    by_cases hm : n ∈ ps.map PageS.n
    · exact hm
    · rw [posP_none n ps 0 hm] at h; omega
  · intro h
    obtain ⟨j, hj, h1, -⟩ := posP_some n ps 0 h
    rw [h1]; omega
/-- Alike. -/
structure BLike (C : CS) (R : R4) : Prop where
  most : C.most = R.most
  nd : (R.ps.map PageS.n).Nodup
  dom : ∀ p ∈ R.ps, 0 ≤ p.n ∧ p.n < (C.N : Int)
  dirty : ∀ n, C.dirty n = if n ∈ R.ps.map PageS.n then some (R.by_ n) else none
  cs : R.cs.Pairwise (fun a b => uOf C.used a < uOf C.used b)
  mem : ∀ n, n ∈ R.cs ↔ (C.used n).isSome = true
  cdom : ∀ n ∈ R.cs, 0 ≤ n ∧ n < (C.N : Int)
  few : R.cs.length ≤ R.most
section
variable {C : CS} {R : R4}
theorem BLike.keys (h : BLike C R) : dkP R.ps C.N = C.dirtyKeys := by
  unfold dkP CS.dirtyKeys
  refine List.filter_congr (fun n _ => ?_)
  rw [h.dirty n]
  by_cases hm : n ∈ R.ps.map PageS.n
  · rw [if_pos hm, decide_eq_true ((posP_iff n R.ps).2 hm)]; rfl
  · rw [if_neg hm, decide_eq_false (fun hh => hm ((posP_iff n R.ps).1 hh))]; rfl
theorem dirtyKeys_sorted (C : CS) : C.dirtyKeys.Pairwise (fun a b => a < b) := (range_sorted C.N).filter _
theorem BLike.perm (h : BLike C R) : (R.ps.map PageS.n).Perm C.dirtyKeys := by
  refine (List.perm_ext_iff_of_nodup h.nd ((dirtyKeys_sorted C).imp (fun hh e => by omega))).2 (fun n => ?_)
  rw [CS.mem_dirtyKeys, h.dirty n]
  constructor
  · intro hm
    obtain ⟨p, hp, rfl⟩ := List.mem_map.1 hm
    obtain ⟨h1, h2⟩ := h.dom p hp
    exact ⟨h1, h2, by rw [if_pos hm]; rfl⟩
  · rintro ⟨-, -, h3⟩
    by_cases hm : n ∈ R.ps.map PageS.n
    · exact hm
    · rw [if_neg hm] at h3; cases h3
theorem BLike.len (h : BLike C R) : R.ps.length = C.dirtyKeys.length := by rw [← h.perm.length_eq, List.length_map]
/-- Lists that rise by a key, with the same members, the one strictly, are one. -/
theorem rise_one (u : Int → Int) : ∀ (l m : List Int), l.Perm m → l.Pairwise (fun a b => u a ≤ u b) → m.Pairwise (fun a b => u a < u b) → l = m
  | [], m, hp, _, _ => (List.nil_perm.1 hp).symm
  | a :: l, m, hp, hl, hm => by
    cases m with
    | nil => exact absurd hp.length_eq (by simp)
    | cons b m =>
      obtain ⟨hl1, hl2⟩ := List.pairwise_cons.1 hl
      obtain ⟨hm1, hm2⟩ := List.pairwise_cons.1 hm
      have hab : a = b := by
        have h1 : b ∈ a :: l := hp.mem_iff.2 List.mem_cons_self
        have h2 : a ∈ b :: m := hp.mem_iff.1 List.mem_cons_self
        rcases List.mem_cons.1 h2 with e | h2
        · exact e
        · rcases List.mem_cons.1 h1 with e | h1
          · exact e.symm
          · have x1 := hl1 b h1
            have x2 := hm1 a h2
            omega
      subst hab
      rw [rise_one u l m (hp.cons_inv) hl2 hm2]
theorem BLike.cached (h : BLike C R) {ts : List Int} (hp : ts.Perm (grpKeys (usedV C.used) C.N)) (hr : RiseU C.used ts) : ts = R.cs := by
  refine rise_one (uOf C.used) ts R.cs (hp.trans ?_) hr h.cs
  refine (List.perm_ext_iff_of_nodup ((sorted_grpKeys _ _).imp (fun hh e => by omega)) (h.cs.imp (fun hh e => by rw [e] at hh; omega))).2 (fun n => ?_)
  rw [mem_grpKeys, usedV_isSome, h.mem n]
  exact ⟨fun hh => hh.2.2, fun hh => ⟨(h.cdom n ((h.mem n).2 hh)).1, (h.cdom n ((h.mem n).2 hh)).2, hh⟩⟩
end
end Go.Proofs.YtjgclmlclkfgpaaGreat
/- A cache and the reference's stay alike: each call. -/
namespace Go.Proofs.YtjgclmlclkfgpaaGreat
open Go.RowKit Go.Maps
section
variable {C : CS} {R : R4}
theorem uOf_some {u : Int → Option Nat} {n : Int} {k : Nat} (h : u n = some k) : uOf u n = (k : Int) := by unfold uOf; rw [h]; rfl
theorem mem_woZ {l : List Int} {n x : Int} : x ∈ woZ l n ↔ x ∈ l ∧ x ≠ n := by unfold woZ; rw [List.mem_filter]; simp
theorem mem_woP {l : List PageS} {n : Int} {p : PageS} : p ∈ woP l n ↔ p ∈ l ∧ p.n ≠ n := by unfold woP; rw [List.mem_filter]; simp
theorem BLike.cleared (h : BLike C R) (S : DiskS) : BLike { C with S := S, dirty := fun _ => none } { R with ps := [] } :=
  ⟨h.most, List.nodup_nil, fun p hp => by (cases hp), fun n => by simp, h.cs, h.mem, h.cdom, h.few⟩
theorem BLike.wrote (h : BLike C R) (n : Int) (hn : 0 ≤ n ∧ n < (C.N : Int)) (l : List UInt8) (g cap : Nat) : BLike { C with dirty := updD C.dirty n l, used := delN C.used n } { R with ps := woP R.ps n ++ [⟨n, some ⟨g, 0, none⟩, 512, cap⟩], by_ := updB R.by_ n l, cs := woZ R.cs n } where
  most := h.most
  nd := by
    show ((woP R.ps n ++ [_]).map PageS.n).Nodup
    rw [List.map_append]
    refine List.nodup_append.2 ⟨?_, by simp, fun a ha b hb => ?_⟩
    · exact h.nd.sublist ((List.filter_sublist).map _)
    · obtain ⟨p, hp, rfl⟩ := List.mem_map.1 ha
      simp only [List.map_cons, List.map_nil, List.mem_singleton] at hb
      rw [hb]; exact (mem_woP.1 hp).2
  dom := fun p hp => by
    rcases List.mem_append.1 hp with hp | hp
    · exact h.dom p (mem_woP.1 hp).1
    · rw [List.mem_singleton.1 hp]; exact hn
  dirty := fun k => by
    show updD C.dirty n l k = if k ∈ (woP R.ps n ++ [(⟨n, some ⟨g, 0, none⟩, 512, cap⟩ : PageS)]).map PageS.n then some (updB R.by_ n l k) else none
    unfold updD updB
    by_cases e : k = n
    · rw [if_pos e, if_pos (by rw [List.map_append]; exact List.mem_append.2 (.inr (by simp [e]))), if_pos e]
    · rw [if_neg e, if_neg e, h.dirty k]
      have hiff : k ∈ R.ps.map PageS.n ↔ k ∈ (woP R.ps n ++ [(⟨n, some ⟨g, 0, none⟩, 512, cap⟩ : PageS)]).map PageS.n := by
        rw [List.map_append, List.mem_append]
        constructor
        · intro hk
          obtain ⟨p, hp, rfl⟩ := List.mem_map.1 hk
          exact .inl (List.mem_map.2 ⟨p, mem_woP.2 ⟨hp, e⟩, rfl⟩)
        · rintro (hk | hk)
          · obtain ⟨p, hp, rfl⟩ := List.mem_map.1 hk
            exact List.mem_map.2 ⟨p, (mem_woP.1 hp).1, rfl⟩
          · simp at hk; exact absurd hk e
      by_cases hk : k ∈ R.ps.map PageS.n
      · rw [if_pos hk, if_pos (hiff.1 hk)]
      · rw [if_neg hk, if_neg (fun hh => hk (hiff.2 hh))]
  cs := by
    show (woZ R.cs n).Pairwise (fun a b => uOf (delN C.used n) a < uOf (delN C.used n) b)
    have h1 : (woZ R.cs n).Pairwise (fun a b => uOf C.used a < uOf C.used b) := h.cs.filter _
    refine h1.imp_of_mem (fun {a b} ha hb hh => ?_)
    have ea : uOf (delN C.used n) a = uOf C.used a := by unfold uOf delN; rw [if_neg (mem_woZ.1 ha).2]
    have eb : uOf (delN C.used n) b = uOf C.used b := by unfold uOf delN; rw [if_neg (mem_woZ.1 hb).2]
    rw [ea, eb]; exact hh
  mem := fun k => by
    show k ∈ woZ R.cs n ↔ (delN C.used n k).isSome = true
    rw [mem_woZ, h.mem k]
    unfold delN
    by_cases e : k = n
    · rw [if_pos e]; simp [e]
    · rw [if_neg e]; simp [e]
  cdom := fun k hk => h.cdom k (mem_woZ.1 hk).1
  few := Nat.le_trans (woZ_len _ _) h.few
theorem BLike.used (h : BLike C R) (n : Int) (hn : 0 ≤ n ∧ n < (C.N : Int)) (hub : ∀ y j, C.used y = some j → j ≤ C.uses) {u' : Int → Option Nat} (hU : UseTo C.used C.most C.N (C.uses + 1) n u') : BLike { C with uses := C.uses + 1, used := u' } { R with cs := useC R.cs n R.most } := by
  obtain ⟨v, hv⟩ : ∃ v, v = updN C.used n (C.uses + 1) := ⟨_, rfl⟩
  obtain ⟨l, hl⟩ : ∃ l, l = woZ R.cs n ++ [n] := ⟨_, rfl⟩
  have vn : v n = some (C.uses + 1) := by rw [hv]; unfold updN; rw [if_pos rfl]
  have vo : ∀ k, k ≠ n → v k = C.used k := fun k e => by rw [hv]; unfold updN; rw [if_neg e]
  have hmem : ∀ k, k ∈ l ↔ (v k).isSome = true := fun k => by
    rw [hl, List.mem_append, mem_woZ, List.mem_singleton]
    by_cases e : k = n
    · subst e; rw [vn]; simp
    · rw [vo k e, h.mem k]; simp [e]
  have hpw : l.Pairwise (fun a b => uOf v a < uOf v b) := by
    rw [hl]
    refine List.pairwise_append.2 ⟨?_, List.pairwise_singleton _ _, fun a ha b hb => ?_⟩
    · have h1 : (woZ R.cs n).Pairwise (fun a b => uOf C.used a < uOf C.used b) := h.cs.filter _
      refine h1.imp_of_mem (fun {a b} ha hb hh => ?_)
      have ea : uOf v a = uOf C.used a := by unfold uOf; rw [vo a (mem_woZ.1 ha).2]
      have eb : uOf v b = uOf C.used b := by unfold uOf; rw [vo b (mem_woZ.1 hb).2]
      rw [ea, eb]; exact hh
    · rw [List.mem_singleton.1 hb, uOf_some vn]
      obtain ⟨ha1, ha2⟩ := mem_woZ.1 ha
      obtain ⟨j, hj⟩ := Option.isSome_iff_exists.1 ((h.mem a).1 ha1)
      have := hub a j hj
      rw [uOf_some (show v a = some j by rw [vo a ha2, hj])]
      omega
  have hdom : ∀ k ∈ l, 0 ≤ k ∧ k < (C.N : Int) := fun k hk => by
    rw [hl] at hk
    rcases List.mem_append.1 hk with hk | hk
    · exact h.cdom k (mem_woZ.1 hk).1
    · rw [List.mem_singleton.1 hk]; exact hn
  have hcnt : usedCount v C.N = l.length := by
    unfold usedCount
    refine ((List.perm_ext_iff_of_nodup ((sorted_grpKeys _ _).imp (fun hh e => by omega)) (hpw.imp (fun hh e => by rw [e] at hh; omega))).2 (fun k => ?_)).length_eq
    rw [mem_grpKeys, usedV_isSome, hmem k]
    exact ⟨fun hh => hh.2.2, fun hh => ⟨(hdom k ((hmem k).2 hh)).1, (hdom k ((hmem k).2 hh)).2, hh⟩⟩
  have hlen : l.length ≤ R.most + 1 := by
    rw [hl, List.length_append]
    have h1 := woZ_len R.cs n
    have h2 := h.few
    simp; omega
  unfold UseTo at hU
  rw [← hv, hcnt, h.most] at hU
  have hC : useC R.cs n R.most = if R.most < l.length then l.tail else l := by unfold useC; rw [← hl]
  rw [hC]
  rcases hU with ⟨h1, rfl⟩ | ⟨h1, x, ⟨k, hxk, hold⟩, rfl⟩
  · rw [if_neg (by omega)]
    exact ⟨h.most, h.nd, h.dom, h.dirty, hpw, hmem, hdom, h1⟩
  · rw [if_pos h1]
    obtain ⟨a, t, hat⟩ : ∃ a t, l = a :: t := by
      cases l with
      | nil => simp at h1
      | cons a t => exact ⟨a, t, rfl⟩
    rw [hat] at hpw hmem hdom hlen
    rw [hat]
    obtain ⟨hp1, hp2⟩ := List.pairwise_cons.1 hpw
    have hxa : x = a := by
      have hx : x ∈ a :: t := (hmem x).2 (by rw [hxk]; rfl)
      rcases List.mem_cons.1 hx with e | hx
      · exact e
      · have h3 := hp1 x hx
        obtain ⟨j, hj⟩ := Option.isSome_iff_exists.1 ((hmem a).1 List.mem_cons_self)
        have h4 := hold a j hj
        rw [uOf_some hj, uOf_some hxk] at h3
        omega
    subst hxa
    have hne : ∀ b ∈ t, b ≠ x := fun b hb e => by have := hp1 b hb; rw [e] at this; omega
    refine ⟨h.most, h.nd, h.dom, h.dirty, ?_, fun y => ?_, fun y hy => hdom y (List.mem_cons_of_mem _ hy), ?_⟩
    · refine hp2.imp_of_mem (fun {a b} ha hb hh => ?_)
      have ea : uOf (delN v x) a = uOf v a := by unfold uOf delN; rw [if_neg (hne a ha)]
      have eb : uOf (delN v x) b = uOf v b := by unfold uOf delN; rw [if_neg (hne b hb)]
      show uOf (delN v x) a < uOf (delN v x) b
      rw [ea, eb]; exact hh
    · show y ∈ t ↔ (delN v x y).isSome = true
      unfold delN
      by_cases e : y = x
      · rw [if_pos e]
        constructor
        · intro hy; exact absurd e (hne y hy)
        · intro hh; cases hh
      · rw [if_neg e, ← hmem y, List.mem_cons]
        constructor
        · exact .inr
        · exact fun hh => hh.resolve_left e
    · show t.length ≤ R.most
      simp only [List.length_cons] at hlen; omega
theorem likeP_refl (ps : List PageS) : LikeP ps ps := ⟨rfl, rfl⟩
theorem BLike.right (h : BLike C R) (h5 : ∀ p ∈ R.ps, p.len = 512) : rightPs R.ps := by
  refine ⟨fun j hj => h5 _ (List.getElem_mem hj), fun i j hi hj e => ?_⟩
  have h1 := (List.nodup_iff_pairwise_ne.1 h.nd)
  rcases Nat.lt_trichotomy i j with hl | hl | hl
  · have := List.pairwise_iff_getElem.1 h1 i j (by simpa using hi) (by simpa using hj) hl
    simp only [List.getElem_map] at this
    exact absurd e this
  · exact hl
  · have := List.pairwise_iff_getElem.1 h1 j i (by simpa using hj) (by simpa using hi) hl
    simp only [List.getElem_map] at this
    exact absurd e.symm this
theorem BLike.com (h : BLike C R) (hN : C.N = pagesS C.S C.size) (h5 : ∀ p ∈ R.ps, p.len = 512) (hr : R.ps.length ≤ min C.size 100) : comErr (pagesS C.S C.size) C.size R.ps = 0 ∧ comS C.S C.size R.ps (fun j => R.by_ ((R.ps.map PageS.n).getD j 0)) = C.com := by
  have hR := h.right h5
  have he : comErr (pagesS C.S C.size) C.size R.ps = 0 := by
    unfold comErr
    by_cases h0 : R.ps.length = 0
    · rw [if_pos h0]
    · rw [if_neg h0, if_neg (by omega), if_pos, (grpErr_right R.ps).2 hR]
      rw [inPages_map, List.all_eq_true]
      intro n hn
      obtain ⟨p, hp, rfl⟩ := List.mem_map.1 hn
      rw [← hN]
      exact decide_eq_true (h.dom p hp)
  refine ⟨he, ?_⟩
  unfold comS CS.com
  by_cases h0 : R.ps.length = 0
  · have hk : C.dirtyKeys = [] := List.length_eq_zero_iff.1 (by rw [← h.len]; exact h0)
    rw [if_neg (fun hh => hh.2 h0), if_pos hk]
  · have hk : ¬ C.dirtyKeys = [] := fun e => h0 (by rw [h.len, e]; rfl)
    rw [if_pos ⟨he, h0⟩, if_neg hk]
    have hkeys : grpKeys (grpVal R.ps R.ps.length) (pagesS C.S C.size) = C.dirtyKeys := by
      refine rise_eq _ _ (sorted_grpKeys _ _) (dirtyKeys_sorted C) (fun x => ?_)
      rw [mem_grpKeys, grpVal_isSome R.ps x R.ps.length (Nat.le_refl _), ← h.perm.mem_iff, ← hN]
      constructor
      · rintro ⟨-, -, j, hj, -, e⟩
        exact List.mem_map.2 ⟨R.ps[j], List.getElem_mem hj, e⟩
      · intro hx
        obtain ⟨p, hp, e⟩ := List.mem_map.1 hx
        obtain ⟨j, hj, rfl⟩ := List.mem_iff_getElem.1 hp
        obtain ⟨d1, d2⟩ := h.dom _ hp
        rw [e] at d1 d2
        exact ⟨d1, d2, j, hj, hj, e⟩
    have hl : grpL R.ps (fun j => R.by_ ((R.ps.map PageS.n).getD j 0)) R.ps.length = fun n => (C.dirty n).getD [] := by
      funext n
      rw [h.dirty n]
      by_cases hm : n ∈ R.ps.map PageS.n
      · obtain ⟨p, hp, rfl⟩ := List.mem_map.1 hm
        obtain ⟨j, hj, rfl⟩ := List.mem_iff_getElem.1 hp
        rw [grpL_one R.ps _ hR j hj R.ps.length hj (Nat.le_refl _), if_pos hm]
        simp [List.getD_eq_getElem?_getD, hj]
      · rw [grpL_out R.ps _ n (fun j hj e => hm (List.mem_map.2 ⟨_, List.getElem_mem hj, e⟩)) R.ps.length (Nat.le_refl _), if_neg hm]
        rfl
    rw [hkeys, hl]
theorem BLike.rcom (h : BLike C R) (hM : Made C.S) (hN : C.N = pagesS C.S C.size) (h5 : ∀ p ∈ R.ps, p.len = 512) (hr : R.ps.length ≤ min C.size 100) : comErr (pagesR (refOf C.S) C.size) C.size R.ps = 0 ∧ rcomR (refOf C.S) C.size R.ps (fun j => R.by_ ((R.ps.map PageS.n).getD j 0)) = refOf C.com := by
  obtain ⟨h1, h2⟩ := h.com hN h5 hr
  refine ⟨by rw [hM.pagesR]; exact h1, ?_⟩
  rw [rcom_of hM C.size (likeP_refl R.ps), h2]
end
end Go.Proofs.YtjgclmlclkfgpaaGreat
