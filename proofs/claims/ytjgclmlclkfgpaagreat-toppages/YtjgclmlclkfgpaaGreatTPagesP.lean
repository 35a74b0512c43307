/- Caches that are closed and opened again behind crashes: what is kept of them. -/
import Derived.Test.YtjgclmlclkfgpaaGreatBCrashP
import Derived.Test.YtjgclmlclkfgpaaGreatBOwnWalk
import Derived.Test.YtjgclmlclkfgpaaGreatTCrashed
namespace Go.Proofs.YtjgclmlclkfgpaaGreat
open Go.RowKit
/-- A crash behind the last op, where nothing waits, leaves all as it was. -/
theorem crash_quiet {T : DiskS} (hM : Made T) (hw : T.waits = fun _ => []) (hh : headOk T) (ch : List UInt8) (h0 : 0 < T.safe.length) :
    (crashedS T T.ops.length ch).safe.length = T.safe.length ∧ (∀ n, n < T.safe.length → secL (crashedS T T.ops.length ch) n = secL T n) ∧ headOk (crashedS T T.ops.length ch) ∧ (crashedS T T.ops.length ch).waits = (fun _ => []) ∧ (crashedS T T.ops.length ch).ops = [] ∧ Made (crashedS T T.ops.length ch) := by
  have hL := crashed_left T T.ops.length ch
  have hl := crashed_len hM T.ops.length ch
  have hm := crashed_made hM T.ops.length ch
  have hcut : cutS T T.ops.length = T := cut_more hM [] 0
  rw [hcut] at hL
  have hq : ∀ n, n < T.safe.length → seenAt (crashedS T T.ops.length ch) n = seenAt T n := fun n hn => cand_quiet hw (hL.cand n hn)
  exact ⟨hl, fun n hn => congrArg (fun s : ByteArray => s.data.toList) (hq n hn), headOk_congr hh (hq 0 h0), rfl, rfl, hm⟩
theorem see_upd (C : CS) (n : Nat) (l : List UInt8) (u : Int → Option Nat) (m : Nat) : ({ C with dirty := updD C.dirty n l, used := u } : CS).see m = if m = n then l else C.see m := by
  unfold CS.see
  show (updD C.dirty n l (m : Int)).getD _ = _
  unfold updD
  by_cases e : m = n
  · rw [if_pos (by omega), if_pos e]; rfl
  · rw [if_neg (by omega), if_neg e]
/-- A cache over a log of twenty, with 39 pages: so many of them written since the last Commit, at most so many ops and uses; a block of bytes, and the eighth byte of each page. -/
def PgAt (w0 w : World) (c WB k o u : Nat) (wl sl : List UInt8) : Prop := Below w0.heap.size w0 w ∧ ∃ L C, CacheAt w c L C ∧ C.size = 20 ∧ C.N = 39 ∧ Made C.S ∧ C.S.waits = (fun _ => []) ∧ headOk C.S ∧ C.S.ops.length ≤ o ∧ C.dirtyKeys.length ≤ k ∧ C.uses ≤ u ∧ (∀ i, L.foot c i → w0.heap.size ≤ i) ∧ ¬ L.foot c WB ∧ w0.heap.size ≤ WB ∧ (∀ n g cap, L.dv n = some (.slice (some ⟨g, 0, none⟩) 512 cap) → g ≠ WB) ∧ ownB w WB wl ∧ wl.length = 39 ∧ sl.length = 39 ∧ ∀ n, n < 39 → (C.see n)[7]? = sl[n]?
section
variable {w0 w w' : World} {c WB k o u : Nat} {wl sl : List UInt8}
theorem PgAt.below (h : PgAt w0 w c WB k o u wl sl) (hb : Below w.heap.size w w') : PgAt w0 w' c WB k o u wl sl := by
  obtain ⟨h2, L, C, h3, h4, h5, h6, h7, h8, h9, h10, h11, h12, h13, h14, h15, h16, h17⟩ := h
  exact ⟨h2.trans (hb.mono h2.size), L, C, h3.below hb, h4, h5, h6, h7, h8, h9, h10, h11, h12, h13, h14, h15, h16.below hb, h17⟩
theorem PgAt.own (h : PgAt w0 w c WB k o u wl sl) : ownB w WB wl ∧ wl.length = 39 ∧ sl.length = 39 := by
  obtain ⟨h2, L, C, h3, h4, h5, h6, h7, h8, h9, h10, h11, h12, h13, h14, h15, h16, h17, h18, -⟩ := h
  exact ⟨h16, h17, h18⟩
theorem PgAt.store (h : PgAt w0 w c WB k o u wl sl) (n : Nat) (y : UInt8) : PgAt w0 (w.setCell ⟨WB, n, none⟩ (.int .u8 (y.toNat : Int))) c WB k o u (wl.set n y) sl := by
  obtain ⟨h2, L, C, h3, h4, h5, h6, h7, h8, h9, h10, h11, h12, h13, h14, h15, h16, h17, h18, h19⟩ := h
  have hK : Keeps (fun i => i = WB) w (w.setCell ⟨WB, n, none⟩ (.int .u8 (y.toNat : Int))) := (Keeps.refl _ _).grown (grown_setCell (grown_refl _ _) _ _) (fun i e => .inl (Option.some.inj e).symm)
  exact ⟨h2.trans (hK.below h2.size (fun i hi => by rw [hi]; exact h14)), L, C, h3.keepB h16 (fun hf => h13 (.inl hf)) h15 hK, h4, h5, h6, h7, h8, h9, h10, h11, h12, h13, h14, h15, h16.set n y, by rw [List.length_set]; exact h17, h18, h19⟩
/-- The same, and a block of bytes besides that is nobody else's. -/
def PgX (w0 w : World) (c WB k o u : Nat) (wl sl : List UInt8) (b : Nat) (l : List UInt8) : Prop := Below w0.heap.size w0 w ∧ ∃ L C, CacheAt w c L C ∧ C.size = 20 ∧ C.N = 39 ∧ Made C.S ∧ C.S.waits = (fun _ => []) ∧ headOk C.S ∧ C.S.ops.length ≤ o ∧ C.dirtyKeys.length ≤ k ∧ C.uses ≤ u ∧ (∀ i, L.foot c i → w0.heap.size ≤ i) ∧ ¬ L.foot c WB ∧ w0.heap.size ≤ WB ∧ (∀ n g cap, L.dv n = some (.slice (some ⟨g, 0, none⟩) 512 cap) → g ≠ WB) ∧ ownB w WB wl ∧ wl.length = 39 ∧ sl.length = 39 ∧ (∀ n, n < 39 → (C.see n)[7]? = sl[n]?) ∧ ¬ L.foot c b ∧ ownB w b l ∧ b ≠ WB
theorem PgAt.make {w4 : World} (h : PgAt w0 w c WB k o u wl sl) (hb : Below w.heap.size w w4) {l : List UInt8} (hl : ownB w4 w.heap.size l) (y : UInt8) : PgX w0 (w4.setCell ⟨w.heap.size, 7, none⟩ (.int .u8 (y.toNat : Int))) c WB k o u wl sl w.heap.size (l.set 7 y) := by
  obtain ⟨h2, L, C, h3, h4, h5, h6, h7, h8, h9, h10, h11, h12, h13, h14, h15, h16, h17, h18, h19⟩ := h
  have hK : Keeps (fun i => i = w.heap.size) w4 (w4.setCell ⟨w.heap.size, 7, none⟩ (.int .u8 (y.toNat : Int))) := (Keeps.refl _ _).grown (grown_setCell (grown_refl _ _) _ _) (fun i e => .inl (Option.some.inj e).symm)
  have hf : ¬ L.foot c w.heap.size := fun hi => Nat.lt_irrefl _ (h3.footLt _ hi)
  have hWl := h16.lt
  refine ⟨(h2.trans (hb.mono h2.size)).trans (hK.below (Nat.le_trans h2.size hb.size) (fun i hi => by rw [hi]; exact h2.size)), L, C, (h3.below hb).keepB hl (fun hi => hf (.inl hi)) (fun n g cap hn e => ?_) hK, h4, h5, h6, h7, h8, h9, h10, h11, h12, h13, h14, h15, (h16.below hb).keep hK (fun e => by have e' : WB = w.heap.size := e; omega), h17, h18, h19, hf, hl.set 7 y, fun e => by omega⟩
  obtain ⟨g2, cap2, bs, -, e2, hby, hbl, -⟩ := h3.bytes n _ hn
  simp only [Value.slice.injEq, Option.some.injEq, Addr.mk.injEq] at e2
  have h0 := hby 0 (by omega)
  have := World.block_lt_of_cell? w _ h0
  rw [Addr.add_mid] at this
  have h1 : g2 < w.heap.size := this
  omega
theorem PgX.write {b : Nat} {l : List UInt8} (h : PgX w0 w c WB k o u wl sl b l) (hk : k < 20) (n : Nat) (hn : n < 39) (y : UInt8) (cp : Nat) (hl : l.length = 512) (hy : l[7]? = some y) :
    Calls Tryz.prog 27 #[.pointer (some ⟨c, 0, none⟩), .int .i64 n, .slice (some ⟨b, 0, none⟩) 512 cp] w fun e w' => e = .returned (.int .i64 0) ∧ PgAt w0 w' c WB (k + 1) o u wl (sl.set n y) ∧ ownB w' b l := by
  obtain ⟨h2, L, C, h3, h4, h5, h6, h7, h8, h9, h10, h11, h12, h13, h14, h15, h16, h17, h18, h19, hbn, hb, hbW⟩ := h
  refine (bwrite_ok n l ⟨b, 0, none⟩ cp w h3 (by omega) hl hb.at (.inr (by rw [h4]; omega))).mono ?_
  rintro e w' ⟨rfl, g, cap, Dd, Du, hg, hC, hK⟩
  have hf : ∀ i, (i = L.dm ∨ i = L.um) → L.foot c i := fun i hi => hi.elim (fun e => .inr (.inr (.inl e))) (fun e => .inr (.inr (.inr e)))
  refine ⟨rfl, ⟨h2.trans (hK.below h2.size (fun i hi => h12 i (hf i hi))), _, _, hC, h4, h5, h6, h7, h8, h9, keys_upd C n l _ _ (Nat.le_succ_of_le h10) (.inr (by omega)), h11, h12, h13, h14, ?_, h16.keep hK (fun hi => h13 (hf WB hi)), h17, by rw [List.length_set]; exact h18, fun m hm => ?_⟩, hb.keep hK (fun hi => hbn (hf b hi))⟩
  · intro m g' cap' hm
    have hm' : updV L.dv n (.slice (some ⟨g, 0, none⟩) 512 cap) m = some (.slice (some ⟨g', 0, none⟩) 512 cap') := hm
    unfold updV at hm'
    by_cases e : m = (n : Int)
    · rw [if_pos e] at hm'
      have := h16.lt
      simp only [Option.some.injEq, Value.slice.injEq, Addr.mk.injEq] at hm'
      omega
    · rw [if_neg e] at hm'
      exact h15 m g' cap' hm'
  · rw [see_upd]
    by_cases e : m = n
    · rw [if_pos e, hy, e, List.getElem?_set_self (by omega)]
    · rw [if_neg e, List.getElem?_set_ne (fun h => e h.symm)]
      exact h19 m hm
theorem PgAt.commit (h : PgAt w0 w c WB k o u wl sl) (hk : k ≤ 20) (ho : o ≤ 1000) :
    Calls Tryz.prog 29 #[.pointer (some ⟨c, 0, none⟩)] w fun e w' => e = .returned (.int .i64 0) ∧ PgAt w0 w' c WB 0 (o + 46) u wl sl := by
  obtain ⟨h2, L, C, h3, h4, h5, h6, h7, h8, h9, h10, h11, h12, h13, h14, h15, h16, h17, h18, h19⟩ := h
  have hr : C.dirtyKeys.length ≤ min C.size 100 := by rw [h4]; omega
  have hco := (h3.comOps hr).1
  rw [h4] at hco
  refine (bcommit_any w h3 hr (by omega)).mono ?_
  rintro e w' ⟨rfl, d', F', hF1, hF2, hC, hK⟩
  have hft : ∀ i, L.F i ∨ i = L.dm → L.foot c i := fun i hi => hi.elim .inl (fun e => .inr (.inr (.inl e)))
  have hk2 : Below w0.heap.size w0 w' := h2.trans (hK.below h2.size (fun i hi => h12 i (hft i hi)))
  refine ⟨rfl, hk2, _, _, hC, h4, h5, h3.comMade h6 hr, h3.comWaits hr h7, h3.comHead hr h8, Nat.le_trans hco (by omega), by rw [CS.dirtyKeys_none rfl]; simp, h11, fun i hi => ?_, fun hi => ?_, h14, fun m g cap hm => (by cases hm), h16.keep hK (fun hi => h13 (hft WB hi)), h17, h18, fun m hm => ?_⟩
  · rcases hi with hi | hi | hi | hi
    · rcases hF2 i hi with h | h
      · exact h12 i (.inl h)
      · exact Nat.le_trans h2.size h
    · exact h12 i (.inr (.inl hi))
    · exact h12 i (.inr (.inr (.inl hi)))
    · exact h12 i (.inr (.inr (.inr hi)))
  · rcases hi with hi | hi | hi | hi
    · rcases hF2 WB hi with h | h
      · exact h13 (.inl h)
      · have := h16.lt; omega
    · exact h13 (.inr (.inl hi))
    · exact h13 (.inr (.inr (.inl hi)))
    · exact h13 (.inr (.inr (.inr hi)))
  · rw [← h19 m hm, ← h3.comSee hr m (by omega)]
    rfl
/-- Log, Disk, Ops, the crash, Open and New, one behind the other. -/
theorem PgAt.again (h : PgAt w0 w c WB 0 o u wl sl) (ho : o ≤ 2000) (ch : List UInt8) (ca : Option Addr) (cc : Nat) (hch : ch.length ≤ 9223372036854775807) (hcb : bytesIn w0 ca ch) :
    ∃ p oT, oT ≤ 2000 ∧ Calls Tryz.prog 18 #[.pointer (some ⟨c, 0, none⟩)] w (fun e w2 => e = .returned (.pointer (some ⟨p, 0, none⟩)) ∧ w2 = w) ∧
      Calls Tryz.prog 19 #[.pointer (some ⟨p, 0, none⟩)] w fun e w2 => Below w0.heap.size w0 w2 ∧ ∃ q, e = .returned (.pointer (some ⟨q, 0, none⟩)) ∧
        (∀ W, Below w2.heap.size w2 W → Calls Tryz.prog 23 #[.pointer (some ⟨q, 0, none⟩)] W (fun e w3 => e = .returned (.int .i64 (oT : Nat)) ∧ w3 = W)) ∧
        ∀ W, Below w2.heap.size w2 W → Calls Tryz.prog 39 #[.pointer (some ⟨q, 0, none⟩), .int .i64 (oT : Nat), .slice ca ch.length cc] W fun e w3 => ∃ r, e = .returned (.pointer (some ⟨r, 0, none⟩)) ∧
          Calls Tryz.prog 36 #[.pointer (some ⟨r, 0, none⟩), .int .i64 20] w3 fun e w4 => ∃ s, e = .returned (.tuple #[.pointer (some ⟨s, 0, none⟩), .int .i64 0]) ∧
            Calls Tryz.prog 38 #[.pointer (some ⟨s, 0, none⟩), .int .i64 2] w4 fun e w5 => ∃ c5, e = .returned (.tuple #[.pointer (some ⟨c5, 0, none⟩), .int .i64 0]) ∧ PgAt w0 w5 c5 WB 0 0 0 wl sl := by
  obtain ⟨h2, L, C, h3, h4, h5, h6, h7, h8, h9, h10, h11, h12, h13, h14, h15, h16, h17, h18, h19⟩ := h
  have hp := h3.pages
  have hfi := h3.fits
  have hl60 : C.S.safe.length = 60 := by unfold pagesS at hp; omega
  have hd0 : C.dirtyKeys = [] := List.length_eq_zero_iff.1 (by omega)
  have hsee : ∀ m, m < 39 → C.see m = secL C.S (1 + C.size + m) := fun m hm => by
    have := h3.comSee (by rw [hd0]; simp) m (by omega)
    unfold CS.com at this
    rw [if_pos hd0] at this
    exact this.symm
  obtain ⟨x1, x2, x3, x4, x5, x6⟩ := crash_quiet h6 h7 h8 ch (by omega)
  refine ⟨L.p, C.S.ops.length, by omega, blog_any w h3, (log_disk w h3.log (by omega)).mono ?_⟩
  rintro e w2 ⟨hb2, d2, rfl, hC2, -⟩
  have hB2 := h2.trans (hb2.mono h2.size)
  refine ⟨hB2, d2.p, rfl, fun W hW => ops_disk_rd d2 C.S W (hC2.rd.below hW), fun W hW => ?_⟩
  have hBW := hB2.trans (hW.mono hB2.size)
  refine (tcrashed_any d2 C.S C.S.ops.length ch ca cc W (hC2.below hW) (Nat.le_refl _) (by omega) h6.ok hch (hcb.below hBW)).mono ?_
  rintro e w3 ⟨hb3, d3, rfl, hD3⟩
  have hB3 := hBW.trans (hb3.mono hBW.size)
  refine ⟨d3.p, rfl, (open_any d3 _ (fun i => d3.foot (crashedS C.S C.S.ops.length ch).waits i) 20 w3 (.inr ⟨hD3, fun _ h => h⟩) (by rw [x5]; decide) (by decide) (by rw [x1, hl60]; decide) (fun n hn => x6.sec n hn)).mono ?_⟩
  rintro e w4 ⟨hb4, ho4⟩
  have hns := headNums_ok (size := 20) (N := pagesS (crashedS C.S C.S.ops.length ch) 20) x3 (by unfold pagesS; omega)
  rcases ho4 with ⟨hno, -⟩ | ⟨ns, s, d4, hso, rfl, hs4, hL4⟩
  · rw [hns] at hno; cases hno
  obtain rfl : [] = ns := Option.some.inj (hns.symm.trans hso)
  have hoS : openS (crashedS C.S C.S.ops.length ch) 20 [] = crashedS C.S C.S.ops.length ch := rfl
  rw [hoS] at hL4
  have hB4 := hB3.trans (hb4.mono hB3.size)
  have hsl := lt_of_heap hL4.heap
  refine ⟨s, rfl, (bnew_ok s d4 _ 20 _ 2 (by omega) (by omega) w4 hL4 (fun i hi => Nat.lt_trans hi.2 hsl) (by rw [x1, hl60]; decide)).mono ?_⟩
  rintro e w5 ⟨hb5, c5, L5, rfl, hc5, hdv5, hF5, hft5, hC5⟩
  have hW2 := hb2.size
  have hW3 := hW.size
  have hW4 := hb3.size
  have hW5 := hb4.size
  have hWB := h16.lt
  have hfo : ∀ i, L5.foot c5 i → w3.heap.size ≤ i := fun i hi => by
    rcases hft5 i hi with h | h
    · exact h.1
    · omega
  refine ⟨c5, rfl, hB4.trans (hb5.mono hB4.size), L5, _, hC5, rfl, ?_, x6, x4, x3, by rw [x5]; exact Nat.le_refl _, by rw [CS.dirtyKeys_none rfl]; simp, Nat.le_refl _, fun i hi => Nat.le_trans hB3.size (hfo i hi), fun hi => (by have := hfo _ hi; omega), h14, fun m g cap hm => (by rw [hdv5] at hm; cases hm), ((((h16.below hb2).below hW).below hb3).below hb4).below hb5, h17, h18, fun m hm => ?_⟩
  · show pagesS _ 20 = 39
    unfold pagesS; rw [x1, hl60]
  · rw [← h19 m hm, hsee m hm, h4, ← x2 (1 + 20 + m) (by omega)]
    rfl
/-- Read of a page: its eighth byte, and the one that is held against it. -/
theorem PgAt.read (h : PgAt w0 w c WB 0 o u wl sl) (hu : u ≤ 1000) (n : Nat) (hn : n < 39) : Calls Tryz.prog 25 #[.pointer (some ⟨c, 0, none⟩), .int .i64 n] w fun e w' => ∃ g cap y z, e = .returned (.tuple #[.slice (some ⟨g, 0, none⟩) 512 cap, .int .i64 0]) ∧ w'.cell? ⟨g, 7, none⟩ = some (.int .u8 ((y : UInt8).toNat : Int)) ∧ w'.cell? ⟨WB, n, none⟩ = some (.int .u8 ((z : UInt8).toNat : Int)) ∧ sl[n]? = some y ∧ wl[n]? = some z ∧ PgAt w0 w' c WB 0 o (u + 1) wl sl := by
  obtain ⟨h2, L, C, h3, h4, h5, h6, h7, h8, h9, h10, h11, h12, h13, h14, h15, h16, h17, h18, h19⟩ := h
  have hd0 : C.dirtyKeys = [] := List.length_eq_zero_iff.1 (by omega)
  refine (bread_any (n : Int) (by omega) (by omega) w h3 h6 (by omega)).mono ?_
  have hsee : C.see n = secL C.S (1 + C.size + n) := by
    have := h3.comSee (by rw [hd0]; simp) n (by omega)
    unfold CS.com at this
    rw [if_pos hd0] at this
    exact this.symm
  rintro e w' (⟨h, -⟩ | ⟨bs, h, -⟩ | ⟨-, -, hdn, g, cap, rfl, hg, hby, u', D', hU, hC, hK⟩)
  · exact absurd (show (0 : Int) ≤ (n : Int) ∧ (n : Int) < (C.N : Int) by rw [h5]; omega) h
  · have : (n : Int) ∈ C.dirtyKeys := CS.mem_dirtyKeys.2 ⟨by omega, by omega, by rw [h]; rfl⟩
    rw [hd0] at this
    cases this
  have hf : ∀ i, (i = c ∨ i = L.um) → L.foot c i := fun i hi => hi.elim (fun e => .inr (.inl e)) (fun e => .inr (.inr (.inr e)))
  have hW := h16.keep hK (fun hi => h13 (hf WB hi))
  have hnw : n < wl.length := by omega
  have hns : n < sl.length := by omega
  have hs7 := h19 n hn
  rw [hsee, List.getElem?_eq_getElem hns] at hs7
  have hby7 := hby 7 (by
    have := (List.getElem?_eq_some_iff.1 hs7).1
    exact this)
  rw [Addr.add_mid, Nat.zero_add] at hby7
  have hv : (secL C.S (1 + C.size + n))[7]? = some sl[n] := hs7
  obtain ⟨h7l, hv7⟩ := List.getElem?_eq_some_iff.1 hv
  refine ⟨g, cap, sl[n], wl[n], rfl, ?_, hW.cell n hnw, List.getElem?_eq_getElem hns, List.getElem?_eq_getElem hnw, h2.trans (hK.below h2.size (fun i hi => h12 i (hf i hi))), _, _, hC, h4, h5, h6, h7, h8, h9, by rw [show ({ C with uses := C.uses + 1, used := u' } : CS).dirtyKeys = C.dirtyKeys from rfl]; exact h10, Nat.succ_le_succ h11, h12, h13, h14, h15, hW, h17, h18, h19⟩
  rw [← hv7]
  exact hby7
end
end Go.Proofs.YtjgclmlclkfgpaaGreat
