/- Several of my texts in one: InSt, InStW, InMake, InFree, SrSt, SrW, InStZ, InStY, SrD, AlApp, InPgs, InRd, InRead, SrR, FilesP, FilesW. -/
import Derived.Test.YthdcloaaahhnaaaGreatJoined6
import Derived.Test.YthdcloaaahhnaaaGreatJoined5
import Derived.Test.YthdcloaaahhnaaaGreatJoined3
import Derived.Test.YthdcloaaahhnaaaGreatJoined4
/- A store whose inodes are known: Get, Write. -/
namespace Go.Proofs.YthdcloaaahhnaaaGreat
open Go.RowKit
/-- A store of at most 100 pages: its files are known. -/
structure St (w : World) (s m c : Nat) (F : Nat → Prop) (N ino : Nat) (Pg Cm : Nat → List UInt8) (fs : Nat → Option FileA) (o u : Nat) : Prop where
  map : mapB w m c ino
  store : storeB w s m
  mF : ¬ F m
  sF : ¬ F s
  few : N ≤ 100
  pc : ∃ D, Pc w c F 100 N Pg Cm D o u
  good : GoodX noSk N ino Pg fs
section
variable {w w' : World} {s m c ino : Nat} {F : Nat → Prop} {N : Nat} {Pg Cm : Nat → List UInt8} {fs : Nat → Option FileA} {o u : Nat} {i : Nat} {f : FileA}
theorem St.below (h : St w s m c F N ino Pg Cm fs o u) (hb : Below w.heap.size w w') : St w' s m c F N ino Pg Cm fs o u := by
  obtain ⟨D, hp⟩ := h.pc
  exact ⟨h.map.below hb, h.store.below hb, h.mF, h.sF, h.few, ⟨D, hp.below hb⟩, h.good⟩
theorem St.lt (h : St w s m c F N ino Pg Cm fs o u) : ∀ i, F i → i < w.heap.size := by
  obtain ⟨D, hp⟩ := h.pc
  exact hp.lt
theorem St.more {u' : Nat} (h : St w s m c F N ino Pg Cm fs o u) (hu : u ≤ u') : St w s m c F N ino Pg Cm fs o u' := by
  obtain ⟨D, hp⟩ := h.pc
  exact ⟨h.map, h.store, h.mF, h.sF, h.few, ⟨D, hp.more (Nat.le_refl _) hu⟩, h.good⟩
/-- open of a file. -/
theorem iopen_good {D : Int → Bool} (h : mapB w m c ino) (hp : Pc w c F 100 N Pg Cm D o u) (hg : GoodX noSk N ino Pg fs) (hf : fs i = some f) (hu : u < 1000000) : Calls Tryz.prog 41 #[gV m, .int .i64 i, nodeV f.node] w fun e w' => ∃ p, e = .returned (.pointer (some ⟨p, 0, none⟩)) ∧ w.heap.size ≤ p ∧ fileB w' p m (f.S i f.data.length) ∧ Keeps F w w' ∧ Pc w' c F 100 N Pg Cm D o (u + 1) := by
  have hok := hg.file i f hf
  obtain ⟨-, h2, h3⟩ := hg.node i f hf (fun e => e)
  have hnf := hg.nf
  have hno := hok.node (by omega) hg.n4
  by_cases hs : f.data.length ≤ 5120
  · refine (iopen_near i f.node hno hs w).mono ?_
    rintro e w' ⟨p, rfl, hp1, hf1, hb1⟩
    refine ⟨p, rfl, hp1, ?_, Keeps.of_below hb1, (hp.below hb1).more (Nat.le_refl _) (by omega)⟩
    have e1 : f.node.pages ++ List.replicate 128 0 = f.slots := near_slots hok.len (fun j hj => hok.zero j (by
      rw [h2]; unfold needN fillN; rw [if_neg (by omega), if_neg (by omega)]; omega))
    rw [e1] at hf1
    exact hf1
  · have h10 : f.node.pages.getD 10 0 = f.slot 10 := by
      show (f.slots.take 11).getD 10 0 = f.slots.getD 10 0
      rw [List.getD_eq_getElem?_getD, List.getElem?_take_of_lt (by omega), ← List.getD_eq_getElem?_getD]
    refine (iopen_far h hp hu i f.node hno (by show 5120 < f.data.length; omega) (by rw [h10]; exact hok.lt (by omega) 10)).mono ?_
    rintro e w' ⟨p, rfl, hp1, hf1, hk1, hq1⟩
    refine ⟨p, rfl, hp1, ?_, hk1, hq1⟩
    rw [h10, h3 (by omega)] at hf1
    have e1 : slotsTo f.node.pages (namesTo (f.slots.drop 11) 128) 128 = f.slots := far_slots hok.len (hok.each (by omega) hg.n4)
    rw [e1] at hf1
    exact hf1
end
theorem wrD_rsz {d : List UInt8} {a z s : Nat} {l : List UInt8} (hz : a + l.length = z) (hs : max z d.length = s) : wrD (rsz d s) a l = wrD d a l := by
  have h1 : (wrD (rsz d s) a l).length = s := by rw [length_wrD, length_rsz]; omega
  have h2 : (wrD d a l).length = s := by rw [length_wrD]; omega
  refine List.ext_getElem (by rw [h1, h2]) (fun j h3 h4 => ?_)
  have e1 := getD_wrD (rsz d s) a l j (by rw [length_rsz]; omega)
  have e2 := getD_wrD d a l j (by omega)
  rw [List.getD_eq_getElem?_getD, List.getElem?_eq_getElem h3] at e1
  rw [List.getD_eq_getElem?_getD, List.getElem?_eq_getElem h4] at e2
  rw [getD_rsz d (by omega)] at e1
  exact e1.trans e2.symm
section
variable {w w' : World} {m c ino p : Nat} {F : Nat → Prop} {size N : Nat} {Pg Cm : Nat → List UInt8} {fs : Nat → Option FileA} {o u k kk : Nat} {i : Nat} {f : FileA}
/-- save of a file that is known. -/
theorem isave_good {W : World} {f2 : FileA} {z : Nat} {Pg2 : Nat → List UInt8} (hmF : ¬ F m) (hg3 : GoodX (fun k => k = i) N ino Pg2 fs) (hf2 : fs i = some f2) (hd2 : f2.data.length = z) (hc2 : f2.cnt = needN z) (hpF : ¬ F p) (hu : u < 999980) (hfW : fileB W p m (f2.S i z)) (hmW : mapB W m c ino) (hpW : Pe W c F size N Pg2 Cm o u (k + 2)) :
    Calls Tryz.prog 95 #[.pointer (some ⟨p, 0, none⟩)] W fun e w' => e = .returned (.int .i64 0) ∧ Keeps F W w' ∧ Pe w' c F size N (tabP (farP Pg2 (f2.S i f2.data.length)) i f2.node) Cm o (u + 3) k := by
  have hok2 := hg3.file i f2 hf2
  have hi := hg3.out i f2 hf2
  have hnf := hg3.nf
  have hnode : (f2.S i z).node = f2.node := by unfold FileA.S FileS.node FileA.node; rw [hd2]
  have hea := hok2.each (by omega) hg3.n4
  have htb := hg3.tabLt hi.2
  refine (isave_pe (n1 := k) hmW hmF hg3.i5 hi.2 (show 3 + i / 8 < N by omega) hfW hpF hok2.len (by rw [hnode]; exact hok2.node (by omega) hg3.n4) (fun hb => ?_) hea (hg3.tab i f2 hf2) hu hpW).mono ?_
  · have hb' : 5120 < z := hb
    have hn := need_far hb' (by have := hok2.size; omega)
    have h1 := hok2.in_ 10 (by rw [hc2]; omega)
    exact ⟨h1.2, fun e => by have e' : 3 + i / 8 = f2.slot 10 := e; omega⟩
  · rintro e w' ⟨rfl, hk, hp'⟩
    rw [hnode] at hp'
    rw [hd2]
    exact ⟨rfl, hk, hp'⟩
/-- write of a file that is known. -/
theorem ifwrite_good (hm : mapB w m c ino) (hmF : ¬ F m) (hp : Pe w c F size N Pg Cm o u (k + kk)) (hg : GoodX noSk N ino Pg fs) (hf : fs i = some f) (hfi : fileB w p m (f.S i f.data.length)) (hpF : ¬ F p) (hu : u < 880000)
    (a z s : Nat) (l : List UInt8) (blk of cp : Nat) (hl : bytesAt w ⟨blk, of, none⟩ l) (hcp : l.length ≤ cp) (hbF : ¬ F blk) (hbp : blk ≠ p) (hbl : blk < w.heap.size) (haz : a + l.length = z) (h0 : 0 < l.length) (hz7 : z ≤ 70656) (hs : max z f.data.length = s)
    (hkk : 1 + 2 * (needN s - f.cnt) + (fillN z - a / 512) + 2 ≤ kk) :
    Calls Tryz.prog 42 #[.pointer (some ⟨p, 0, none⟩), .int .i64 a, .slice (some ⟨blk, of, none⟩) l.length cp] w fun e w' => Keeps (fun i => F i ∨ i = p) w w' ∧
      ((needN s - f.cnt ≤ (frL Pg N ino).length ∧ e = .returned (.int .i64 0) ∧ ∃ Pg' f', f'.kind = f.kind ∧ f'.mode = f.mode ∧ f'.links = f.links ∧ f'.data = wrD f.data a l ∧ GoodX noSk N ino Pg' (updA fs i (some f')) ∧ Pe w' c F size N Pg' Cm o (u + 300) k) ∨
      ((frL Pg N ino).length < needN s - f.cnt ∧ e = .returned (.int .i64 7) ∧ ∃ Pg' D', Pc w' c F size N Pg' Cm D' o (u + 300))) := by
  have hok := hg.file i f hf
  have hnf := hg.nf
  have hs7 : s ≤ 70656 := by have := hok.size; omega
  have hFl : ∀ i, F i → i < w.heap.size := by obtain ⟨D, -, hp⟩ := hp; exact hp.lt
  have hM : fillN z - a / 512 ≤ 138 := by unfold fillN; omega
  obtain ⟨-, hcn, -⟩ := hg.node i f hf (fun e => e)
  have hcs : f.cnt ≤ needN s := by rw [hcn]; exact need_mono (by omega) hs7
  have hho : ∀ W, Below w.heap.size w W → Calls Tryz.prog 93 #[.pointer (some ⟨p, 0, none⟩), .int .i64 s] W fun e w' => Keeps (fun i => F i ∨ i = p) W w' ∧
      ((needN s - f.cnt ≤ (frL Pg N ino).length ∧ e = .returned (.int .i64 0) ∧ fileB w' p m ((hoF Pg N ino f s).S i s) ∧ Pe w' c F size N (hoP Pg N ino f s) Cm o (u + 140) (k + 2 + (fillN z - a / 512))) ∨
      ((frL Pg N ino).length < needN s - f.cnt ∧ e = .returned (.int .i64 7) ∧ ∃ Pg' D', Pc w' c F size N Pg' Cm D' o (u + 140))) := fun W hW => by
    refine ihold_good (k := k + 2 + (fillN z - a / 512)) (kk := 1 + 2 * (needN s - f.cnt)) (hm.below hW) hmF ?_ hg hf (hfi.below hW) hpF (by omega) s hs7 (by omega)
    obtain ⟨D, h1, h2⟩ := hp
    exact ⟨D, h1.le (by omega), h2.below hW⟩
  obtain ⟨f1, hf1⟩ : ∃ f1, f1 = hoF Pg N ino f s := ⟨_, rfl⟩
  obtain ⟨Pg1, hPg1⟩ : ∃ Pg1, Pg1 = hoP Pg N ino f s := ⟨_, rfl⟩
  obtain ⟨f2, hf2⟩ : ∃ f2 : FileA, f2 = { f1 with data := wrD f1.data a l } := ⟨_, rfl⟩
  rw [← hf1, ← hPg1] at hho
  have hY : needN s - f.cnt ≤ (frL Pg N ino).length → f1.kind = f.kind ∧ f1.mode = f.mode ∧ f1.links = f.links ∧ f1.data = rsz f.data s ∧ f1.cnt = needN s ∧ f1.slots.length = 139 ∧ (∀ j, j < fillN z → f1.slots.getD (dslot j) 0 < N) ∧ f2.data.length = s ∧ f2.cnt = needN s ∧ f1.S i s = f2.S i s ∧ GoodX (fun k => k = i) N ino (wPs f1.slots a z Pg1 l (upTo (a / 512) (fillN z))).1 (updA fs i (some f2)) := fun hfr => by
    obtain ⟨q1, q2, q3, q4, q5, q6⟩ := hg.hold hf s hs7 hfr
    rw [← hf1] at q1 q2 q3 q4 q5 q6
    rw [← hPg1] at q6
    have hd1 : f1.data.length = s := by rw [q4, length_rsz]
    have hok1 := q6.file i f1 (updA_self _ _ _)
    have g3 := q6.over (updA_self _ _ _) rfl a z (fun hh => absurd hh (by omega)) l (by omega) (by omega) hz7 (by rw [hd1, q5, show max s z = s by omega]; exact Nat.le_refl _)
    rw [updA_twice, ← hf2] at g3
    refine ⟨q1, q2, q3, q4, q5, hok1.len, fun j hj => (hok1.in_ _ (by rw [q5]; exact Nat.lt_of_lt_of_le (fill_need hj hz7) (need_mono (by omega) hs7))).2, ?_, by rw [hf2]; exact q5, by rw [hf2]; rfl, g3⟩
    rw [hf2]; show (wrD f1.data a l).length = s; rw [length_wrD, hd1]; omega
  refine (ifwrite_any (Y := needN s - f.cnt ≤ (frL Pg N ino).length) (X := (frL Pg N ino).length < needN s - f.cnt) (Pg1 := Pg1) (Pg := tabP (farP (wPs f1.slots a z Pg1 l (upTo (a / 512) (fillN z))).1 (f2.S i f2.data.length)) i f2.node) (S1 := f1.S i s) (u1 := u + 140) (u := u + 300) (n1 := k + 2) (k := k) (Cm := Cm) (N := N) (size := size) (o := o) (c := c) (ino := ino)
    a l.length z l rfl haz.symm blk of cp hm hmF hfi hpF hok.len (fun y => (hY y).2.2.2.2.2.1) hFl hl hcp hbF hbp hbl hz7 (by omega) (fun y j _ hj => (hY y).2.2.2.2.2.2.1 j hj) (fun W hW => ?_) (fun y W hfW hmW hpW => ?_)).mono ?_
  · have hS : (f.S i f.data.length).size = f.data.length := rfl
    rw [hS, hs]
    refine (hho W hW).mono ?_
    rintro e w' ⟨hk, ⟨y, rfl, h1, h2⟩ | ⟨h1, rfl, Pg', D', h2⟩⟩
    · exact ⟨hk, .inl ⟨y, rfl, h1, h2⟩⟩
    · exact ⟨hk, .inr ⟨h1, rfl, Pg', D', h2.more (Nat.le_refl _) (by omega)⟩⟩
  · obtain ⟨-, -, -, -, -, -, -, hd2, hc2, hS2, g3⟩ := hY y
    rw [hS2] at hfW
    refine (isave_good (z := s) hmF g3 (updA_self _ _ _) hd2 hc2 hpF (by omega) hfW hmW hpW).mono ?_
    rintro e w' ⟨rfl, hk, D, h1, h2⟩
    exact ⟨rfl, hk, D, h1, h2.more (Nat.le_refl _) (by omega)⟩
  · rintro e w' ⟨hk, ⟨y, rfl, hp'⟩ | ⟨x, rfl, hp'⟩⟩
    · obtain ⟨q1, q2, q3, q4, q5, -, -, hd2, hc2, hS2, g3⟩ := hY y
      refine ⟨hk, .inl ⟨y, rfl, _, f2, by rw [hf2]; exact q1, by rw [hf2]; exact q2, by rw [hf2]; exact q3, ?_, g3.save (updA_self _ _ _) (by rw [hd2]; exact hc2), hp'⟩⟩
      rw [hf2]
      show wrD f1.data a l = wrD f.data a l
      rw [q4]
      exact wrD_rsz haz hs
    · exact ⟨hk, .inr ⟨x, rfl, hp'⟩⟩
end
end Go.Proofs.YthdcloaaahhnaaaGreat
/- The store's Write. -/
namespace Go.Proofs.YthdcloaaahhnaaaGreat
open Go.RowKit
end Go.Proofs.YthdcloaaahhnaaaGreat
/- Make: a new inode. -/
namespace Go.Proofs.YthdcloaaahhnaaaGreat
open Go.RowKit
theorem clr_at : ∀ (n : Nat) (l : List UInt8) (o k : Nat), k < o ∨ o + n ≤ k → (clr l o n)[k]? = l[k]?
  | 0, _, _, _, _ => rfl
  | n + 1, l, o, k, h => by
    show (clr (l.set o 0) (o + 1) n)[k]? = l[k]?
    rw [clr_at n _ _ k (by omega), List.getElem?_set_ne (by omega)]
theorem inoL_clr {L : List UInt8} {q k : Nat} (h : k % 8 ≠ q % 8) : inoL (clr L (q % 8 * 64) 64) k = inoL L k := by
  unfold inoL
  refine List.ext_getElem? (fun j => ?_)
  by_cases hj : j < 64
  · rw [List.getElem?_take_of_lt hj, List.getElem?_take_of_lt hj, List.getElem?_drop, List.getElem?_drop]
    exact clr_at 64 L _ _ (by omega)
  · rw [List.getElem?_eq_none (by rw [List.length_take]; omega), List.getElem?_eq_none (by rw [List.length_take]; omega)]
def newA (k mode : Nat) : FileA := ⟨k, mode, 1, List.replicate 139 0, 0, []⟩
theorem newA_slot (k mode j : Nat) : (newA k mode).slot j = 0 := by
  unfold newA FileA.slot
  rw [List.getD_eq_getElem?_getD]
  by_cases h : j < 139
  · rw [List.getElem?_eq_getElem (by rw [List.length_replicate]; exact h), List.getElem_replicate]; rfl
  · rw [List.getElem?_eq_none (by rw [List.length_replicate]; omega)]; rfl
theorem needN_zero : needN 0 = 0 := rfl
theorem newA_ok {k mode a N : Nat} (hk : k ≤ 3) (hm : mode ≤ 4095) : (newA k mode).ok a N :=
  ⟨hk, hm, by show 1 ≤ 65535; omega, by show 0 ≤ 70656; omega, rfl, by show 0 ≤ 139; omega, by show needN 0 ≤ 0; rw [needN_zero]; exact Nat.le_refl _, fun j hj => absurd hj (Nat.not_lt_zero j), fun j _ => newA_slot k mode j⟩
section
variable {N ino : Nat} {Pg : Nat → List UInt8} {fs : Nat → Option FileA}
theorem inoP_one (q : Nat) : inoP Pg q 1 = flipL (Pg 1) q := by
  unfold inoP
  split
  · unfold updP; exact if_pos rfl
  · unfold updP; rw [if_neg (by omega)]; exact if_pos rfl
theorem inoP_other {q p : Nat} (h1 : p ≠ 1) (h2 : p ≠ 3 + q / 8) : inoP Pg q p = Pg p := by
  unfold inoP
  split
  · unfold updP; exact if_neg h1
  · unfold updP; rw [if_neg h2]; exact if_neg h1
theorem inoP_tab (q : Nat) : inoP Pg q (3 + q / 8) = clr (Pg (3 + q / 8)) (q % 8 * 64) 64 := by
  unfold inoP
  split
  · rename_i e
    unfold updP
    rw [if_neg (by omega)]
    exact e.symm
  · unfold updP
    rw [if_pos rfl]; rfl
theorem inoP_ino {q k : Nat} (h : k ≠ q) : inoL (inoP Pg q (3 + k / 8)) k = inoL (Pg (3 + k / 8)) k := by
  by_cases e : k / 8 = q / 8
  · rw [e, inoP_tab, inoL_clr (by omega)]
  · rw [inoP_other (by omega) (by omega)]
theorem makP_two {q k mode : Nat} : makP Pg q k mode 2 = Pg 2 := by
  have hmk : makP Pg q k mode = tabP (inoP Pg q) q (newN k mode) := rfl
  rw [hmk, tabP_other (by omega), inoP_other (by omega) (by omega)]
theorem GoodX.make (h : GoodX noSk N ino Pg fs) {q : Nat} {rest : List Nat} (hq : freeTo (Pg 1) 1 ino 4096 = q :: rest) {k mode : Nat} (hk : k ≤ 3) (hm : mode ≤ 4095) : GoodX noSk N ino (makP Pg q k mode) (updA fs q (some (newA k mode))) := by
  obtain ⟨q1, q2, q3⟩ := freeTo_first hq
  have hnf := h.nf
  have hn4 := h.n4
  have hi5 := h.i5
  have hl1 := h.len 1 (by omega)
  have hnone : ∀ g, fs q ≠ some g := fun g hg => by
    have := (h.ibit q q2).2 (.inr (by rw [hg]; rfl))
    rw [q3] at this; cases this
  have htq := h.tabLt q2
  have hmk : makP Pg q k mode = tabP (inoP Pg q) q (newN k mode) := rfl
  have hno : (newN k mode).ok := newN_ok k mode hk hm
  have hL : (inoP Pg q (3 + q / 8)).length = 512 := by rw [inoP_tab, length_clr]; exact h.len _ (by omega)
  have hup : ∀ p, 3 + ino / 8 ≤ p → makP Pg q k mode p = Pg p := fun p hp => by rw [hmk, tabP_other (by omega), inoP_other (by omega) (by omega)]
  have h2 : makP Pg q k mode 2 = Pg 2 := makP_two
  have h1 : makP Pg q k mode 1 = flipL (Pg 1) q := by rw [hmk, tabP_other (by omega), inoP_one]
  have hino : ∀ j, inoL (makP Pg q k mode (3 + j / 8)) j = if j = q then encL (newN k mode) else inoL (Pg (3 + j / 8)) j := fun j => by
    rw [hmk, tabP_ino hno hL]
    by_cases e : j = q
    · rw [if_pos e, if_pos e]
    · rw [if_neg e, if_neg e, inoP_ino e]
  refine ⟨h.n4, h.nf, h.h8, h.i5, fun p hp => ?_, fun j hj => ?_, fun j g hg => ?_, fun j g hg => ?_, fun j g hg => ?_, fun j g hg hns => ?_, fun j g hg x hx => ?_, fun p hp1 hp2 => ?_, fun j g x j' g' x' hg hg' hx hx' e => ?_⟩
  · rw [hmk]
    by_cases e : p = 3 + q / 8
    · rw [e, tabP_self]; exact length_putT hL q (length_encTo _ 11 (Nat.le_refl _) hno.pages)
    · rw [tabP_other e]
      by_cases e1 : p = 1
      · rw [e1, inoP_one, length_flipL]; exact hl1
      · rw [inoP_other e1 e]; exact h.len p hp
  · rw [h1, bitL_flipL _ _ _ (by omega)]
    by_cases e : j = q
    · rw [if_pos e, q3, e, updA_self]; simp
    · rw [if_neg e, updA_ne e]; exact h.ibit j hj
  · rcases updA_cases hg with ⟨rfl, -⟩ | ⟨-, hg⟩
    · exact ⟨q1, q2⟩
    · exact h.out j g hg
  · rcases updA_cases hg with ⟨rfl, e⟩ | ⟨-, hg⟩
    · cases e; exact newA_ok hk hm
    · exact h.file j g hg
  · unfold tabOk
    rw [hino j]
    rcases updA_cases hg with ⟨rfl, -⟩ | ⟨hne, hg⟩
    · rw [if_pos rfl]; exact ⟨_, hno, rfl⟩
    · rw [if_neg hne]; exact h.tab j g hg
  · rw [hino j]
    rcases updA_cases hg with ⟨rfl, e⟩ | ⟨hne, hg⟩
    · cases e
      rw [if_pos rfl]
      exact ⟨rfl, needN_zero.symm, fun hb => absurd hb (by show ¬ 5120 < 0; omega)⟩
    · obtain ⟨a1, a2, a3⟩ := h.node j g hg hns
      rw [if_neg hne]
      refine ⟨a1, a2, fun hb => ?_⟩
      have := need_far hb (h.file j g hg).size
      rw [hup _ ((h.file j g hg).in_ 10 (by omega)).1]
      exact a3 hb
  · rcases updA_cases hg with ⟨rfl, e⟩ | ⟨-, hg⟩
    · cases e; exact absurd hx (Nat.not_lt_zero x)
    · rw [hup _ ((h.file j g hg).in_ _ (h.at_ hg hx).1).1]
      exact h.data j g hg x hx
  · rw [h2, h.pbit p hp1 hp2]
    constructor
    · rintro ⟨j, g, x, hg, hx, e⟩
      exact ⟨j, g, x, (updA_ne (fun e' => hnone g (by rw [← e']; exact hg))).trans hg, hx, e⟩
    · rintro ⟨j, g, x, hg, hx, e⟩
      rcases updA_cases hg with ⟨rfl, e'⟩ | ⟨-, hg⟩
      · cases e'; exact absurd hx (Nat.not_lt_zero x)
      · exact ⟨j, g, x, hg, hx, e⟩
  · rcases updA_cases hg with ⟨rfl, e'⟩ | ⟨-, hg⟩
    · cases e'; exact absurd hx (Nat.not_lt_zero x)
    · rcases updA_cases hg' with ⟨rfl, e'⟩ | ⟨-, hg'⟩
      · cases e'; exact absurd hx' (Nat.not_lt_zero x')
      · exact h.apart j g x j' g' x' hg hg' hx hx' e
end
end Go.Proofs.YthdcloaaahhnaaaGreat
/- How many pages and inodes are free. -/
namespace Go.Proofs.YthdcloaaahhnaaaGreat
open Go.RowKit
def cntO : Option FileA → Nat
  | some f => f.cnt
  | none => 0
def slotsO : Option FileA → List Nat
  | some f => (List.range f.cnt).map f.slot
  | none => []
/-- How many pages all files have. -/
def sumC (fs : Nat → Option FileA) (n : Nat) : Nat := ((List.range n).map (fun i => cntO (fs i))).sum
def allS (fs : Nat → Option FileA) (n : Nat) : List Nat := (List.range n).flatMap (fun i => slotsO (fs i))
theorem length_slotsO (a : Option FileA) : (slotsO a).length = cntO a := by cases a <;> simp [slotsO, cntO]
theorem mem_slotsO {a : Option FileA} {p : Nat} : p ∈ slotsO a ↔ ∃ f j, a = some f ∧ j < f.cnt ∧ f.slot j = p := by
  cases a with
  | none => simp [slotsO]
  | some f => simp [slotsO]
theorem length_allS (fs : Nat → Option FileA) (n : Nat) : (allS fs n).length = sumC fs n := by
  unfold allS sumC
  rw [List.length_flatMap]
  congr 1
  exact List.map_congr_left (fun i _ => length_slotsO _)
theorem mem_freeTo {L : List UInt8} {a z p : Nat} (hz : z ≤ 4096) : p ∈ freeTo L a z 4096 ↔ a ≤ p ∧ p < z ∧ bitL L p = false := by
  unfold freeTo isFree
  rw [List.mem_filter, List.mem_range]
  simp
  constructor
  · intro h; exact ⟨h.2.1.1, h.2.1.2, h.2.2⟩
  · intro h; exact ⟨by omega, ⟨h.1, h.2.1⟩, h.2.2⟩
theorem nodup_freeTo (L : List UInt8) (a z : Nat) : (freeTo L a z 4096).Nodup := List.Pairwise.filter _ List.nodup_range
section
variable {sk : Nat → Prop} {N ino : Nat} {Pg : Nat → List UInt8} {fs : Nat → Option FileA} {i : Nat} {f : FileA}
theorem GoodX.nodupS (h : GoodX sk N ino Pg fs) : (allS fs ino).Nodup := by
  unfold allS List.Nodup
  rw [List.pairwise_flatMap]
  constructor
  · intro i _
    unfold slotsO
    split
    · rename_i f hf
      rw [List.pairwise_map]
      refine (List.nodup_range (n := f.cnt)).imp_of_mem (fun {a b} ha hb hab e => hab ?_)
      exact (h.apart i f a i f b hf hf (List.mem_range.1 ha) (List.mem_range.1 hb) e).2
    · exact List.Pairwise.nil
  · refine (List.nodup_range (n := ino)).imp (fun {a b} hab => ?_)
    intro p hp q hq e
    obtain ⟨f, j, h1, h2, h3⟩ := mem_slotsO.1 hp
    obtain ⟨g, k, h4, h5, h6⟩ := mem_slotsO.1 hq
    exact hab (h.apart a f j b g k h1 h4 h2 h5 (by rw [h3, h6, e])).1
theorem GoodX.free (h : GoodX sk N ino Pg fs) : (frL Pg N ino).length + sumC fs ino + (3 + ino / 8) = N := by
  have hnf := h.nf
  have hn4 := h.n4
  have hmem : ∀ p, p ∈ allS fs ino ↔ 3 + ino / 8 ≤ p ∧ p < N ∧ bitL (Pg 2) p = true := fun p => by
    unfold allS
    rw [List.mem_flatMap]
    constructor
    · rintro ⟨i, -, hp⟩
      obtain ⟨f, j, h1, h2, h3⟩ := mem_slotsO.1 hp
      have h4 := (h.file i f h1).in_ j h2
      rw [h3] at h4
      exact ⟨h4.1, h4.2, (h.pbit p h4.1 h4.2).2 ⟨i, f, j, h1, h2, h3⟩⟩
    · rintro ⟨h1, h2, h3⟩
      obtain ⟨i, f, j, h4, h5, h6⟩ := (h.pbit p h1 h2).1 h3
      exact ⟨i, List.mem_range.2 (h.out i f h4).2, mem_slotsO.2 ⟨f, j, h4, h5, h6⟩⟩
  have hnd : (allS fs ino ++ frL Pg N ino).Nodup := by
    rw [List.nodup_append]
    refine ⟨h.nodupS, nodup_freeTo _ _ _, fun p hp q hq e => ?_⟩
    have h1 := (hmem p).1 hp
    have h2 := (mem_freeTo hn4).1 hq
    rw [← e] at h2
    rw [h1.2.2] at h2
    cases h2.2.2
  have hp : List.Perm (allS fs ino ++ frL Pg N ino) (List.range' (3 + ino / 8) (N - (3 + ino / 8))) := (List.perm_ext_iff_of_nodup hnd (List.nodup_range' (step := 1))).2 (fun p => by
    rw [List.mem_append, hmem, List.mem_range'_1]
    unfold frL
    rw [mem_freeTo hn4]
    constructor
    · rintro (h1 | h1) <;> omega
    · intro h1
      cases hb : bitL (Pg 2) p
      · exact .inr ⟨by omega, by omega, rfl⟩
      · exact .inl ⟨by omega, by omega, rfl⟩)
  have hl := hp.length_eq
  rw [List.length_append, length_allS, List.length_range'] at hl
  omega
end
end Go.Proofs.YthdcloaaahhnaaaGreat
/- A store of many pages whose files are known, with room for k pages more in the cache. -/
namespace Go.Proofs.YthdcloaaahhnaaaGreat
open Go.RowKit
structure Sr (w : World) (s m c : Nat) (F : Nat → Prop) (N ino : Nat) (Pg Cm : Nat → List UInt8) (fs : Nat → Option FileA) (o u k : Nat) : Prop where
  map : mapB w m c ino
  store : storeB w s m
  mF : ¬ F m
  sF : ¬ F s
  few : N ≤ 639
  pc : Pe w c F 100 N Pg Cm o u k
  good : GoodX noSk N ino Pg fs
section
variable {w w' : World} {s m c ino : Nat} {F : Nat → Prop} {N : Nat} {Pg Cm : Nat → List UInt8} {fs : Nat → Option FileA} {o u k : Nat} {i : Nat} {f : FileA}
theorem Sr.below (h : Sr w s m c F N ino Pg Cm fs o u k) (hb : Below w.heap.size w w') : Sr w' s m c F N ino Pg Cm fs o u k := by
  obtain ⟨D, hr, hp⟩ := h.pc
  exact ⟨h.map.below hb, h.store.below hb, h.mF, h.sF, h.few, ⟨D, hr, hp.below hb⟩, h.good⟩
theorem Sr.lt (h : Sr w s m c F N ino Pg Cm fs o u k) : ∀ i, F i → i < w.heap.size := by
  obtain ⟨D, -, hp⟩ := h.pc
  exact hp.lt
theorem Sr.more {u' : Nat} (h : Sr w s m c F N ino Pg Cm fs o u k) (hu : u ≤ u') : Sr w s m c F N ino Pg Cm fs o u' k := by
  obtain ⟨D, hr, hp⟩ := h.pc
  exact ⟨h.map, h.store, h.mF, h.sF, h.few, ⟨D, hr, hp.more (Nat.le_refl _) hu⟩, h.good⟩
theorem Sr.less {k' : Nat} (h : Sr w s m c F N ino Pg Cm fs o u k) (hk : k' ≤ k) : Sr w s m c F N ino Pg Cm fs o u k' := by
  obtain ⟨D, hr, hp⟩ := h.pc
  exact ⟨h.map, h.store, h.mF, h.sF, h.few, ⟨D, hr.le hk, hp⟩, h.good⟩
/-- Get of a file. -/
theorem iGet_sr (h : Sr w s m c F N ino Pg Cm fs o u k) (hf : fs i = some f) (hu : u < 999990) : Calls Tryz.prog 40 #[.pointer (some ⟨s, 0, none⟩), .int .i64 i] w fun e w' => e = .returned (.tuple #[nodeV f.node, .int .i64 0]) ∧ Keeps F w w' ∧ Sr w' s m c F N ino Pg Cm fs o (u + 2) k := by
  obtain ⟨D, hr, hp⟩ := h.pc
  have hi := h.good.out i f hf
  have hok := h.good.file i f hf
  have hnf := h.good.nf
  have ht := h.good.tabLt hi.2
  refine (iGet_ok h.map h.mF h.store h.sF h.good.i5 i hi.1 hi.2 ((h.good.ibit i hi.2).2 (.inr (by rw [hf]; rfl))) (by omega) hu hp).mono ?_
  rintro e w' ⟨rfl, hk, hp'⟩
  rw [(h.good.node i f hf (fun e => e)).1, decL_encL f.node (hok.node (by omega) h.good.n4)]
  exact ⟨rfl, hk, h.map.keep hk h.mF, h.store.keep hk h.sF, h.mF, h.sF, h.few, ⟨D, hr, hp'⟩, h.good⟩
/-- Make. -/
theorem rMake_ok (h : Sr w s m c F N ino Pg Cm fs o u (k + 3)) (h1 : 100 < N) (kd mode q : Nat) (rest : List Nat) (hk1 : 1 ≤ kd) (hk3 : kd ≤ 3) (hm : mode ≤ 4095) (hq : freeTo (Pg 1) 1 ino 4096 = q :: rest) (hu : u < 900000) :
    Calls Tryz.prog 11 #[.pointer (some ⟨s, 0, none⟩), .int .i64 kd, .int .i64 mode] w fun e w' => e = .returned (.tuple #[.int .i64 q, .int .i64 0]) ∧ Keeps F w w' ∧ Sr w' s m c F N ino (makP Pg q kd mode) Cm (updA fs q (some (newA kd mode))) o (u + 3) k := by
  obtain ⟨D, hr, hp⟩ := h.pc
  have hr' : (dkD N D).length + (k + 3) ≤ min 100 100 := by
    rcases hr with hr | hr
    · exact hr
    · omega
  refine (iMake_ok h.map h.mF h.store h.sF h.good.i5 h.good.h8 h.good.nf kd mode q rest hk1 hk3 hm hq (by omega) (by omega) hp).mono ?_
  rintro e w' ⟨rfl, hk, hp'⟩
  refine ⟨rfl, hk, h.map.keep hk h.mF, h.store.keep hk h.sF, h.mF, h.sF, h.few, ⟨_, .inl ?_, hp'⟩, h.good.make hq hk3 hm⟩
  have d1 := dkD_upd1 N (inoD Pg D q) (3 + q / 8)
  have d2 := dkD_ino2 N Pg D q
  omega
/-- Free. -/
theorem rFree_any (h : Sr w s m c F N ino Pg Cm fs o u k) (hu : u < 900000) : Calls Tryz.prog 10 #[.pointer (some ⟨m, 0, none⟩)] w fun e w' => e = .returned (.tuple #[.int .i64 (frL Pg N ino).length, .int .i64 (freeTo (Pg 1) 1 ino 4096).length]) ∧ Keeps F w w' ∧ Sr w' s m c F N ino Pg Cm fs o (u + 2) k := by
  obtain ⟨D, hr, hp⟩ := h.pc
  have h1 := h.good.nf
  have h2 := h.few
  refine (aFree_any h.map h.mF (by omega) (by omega) h.good.i5 (by omega) hp).mono ?_
  rintro e w' ⟨rfl, hk, hp'⟩
  exact ⟨rfl, hk, h.map.keep hk h.mF, h.store.keep hk h.sF, h.mF, h.sF, h.few, ⟨D, hr, hp'⟩, h.good⟩
/-- Commit. -/
theorem rCommit_ok (h : Sr w s m c F N ino Pg Cm fs o u k) (ho : o ≤ 800000) : Calls Tryz.prog 9 #[.pointer (some ⟨c, 0, none⟩)] w fun e w' => e = .returned (.int .i64 0) ∧ Keeps F w w' ∧ ∃ F', (∀ i, F i → F' i) ∧ (∀ i, F' i → F i ∨ w.heap.size ≤ i) ∧ Sr w' s m c F' N ino Pg Pg fs (o + 206) u 100 := by
  obtain ⟨D, -, hp⟩ := h.pc
  refine (hp.commit ho).mono ?_
  rintro e w' ⟨rfl, hk, F', h1, h2, hp'⟩
  have hmF : ¬ F' m := fun hh => (h2 m hh).elim h.mF (fun e => by have := lt_of_heap h.map; omega)
  have hsF : ¬ F' s := fun hh => (h2 s hh).elim h.sF (fun e => by have := lt_of_heap h.store; omega)
  exact ⟨rfl, hk, F', h1, h2, h.map.keep hk h.mF, h.store.keep hk h.sF, hmF, hsF, h.few, ⟨_, .inl (by rw [dkD_none]; decide), hp'⟩, h.good⟩
end
end Go.Proofs.YthdcloaaahhnaaaGreat
/- Write of a store of many pages (written by mk_sr.py). -/
namespace Go.Proofs.YthdcloaaahhnaaaGreat
open Go.RowKit
section
variable {w w' : World} {s m c ino : Nat} {F : Nat → Prop} {N : Nat} {Pg Cm : Nat → List UInt8} {fs : Nat → Option FileA} {o u k : Nat} {i : Nat} {f : FileA}
set_option maxRecDepth 100000 in
theorem rWrite_by (h : Sr w s m c F N ino Pg Cm fs o u k) (hf : fs i = some f) (hu : u < 900000) (a n blk of cp : Nat) (h0 : 0 < n) (haz : a + n ≤ 70656) (R Q : Int → World → Prop)
    (hw : ∀ W p D, Rm N 100 D k → Keeps F w W → Pc W c F 100 N Pg Cm D o (u + 3) → mapB W m c ino → fileB W p m (f.S i f.data.length) → w.heap.size ≤ p →
      Calls Tryz.prog 42 #[.pointer (some ⟨p, 0, none⟩), .int .i64 a, .slice (some ⟨blk, of, none⟩) n cp] W fun e w' => ∃ r : Int, e = .returned (.int .i64 r) ∧ Keeps (fun i => F i ∨ i = p) W w' ∧ R r w')
    (hen : ∀ W r, storeB W s m → mapB W m c ino → R r W → Calls Tryz.prog 39 #[.pointer (some ⟨s, 0, none⟩), .int .i64 r] W fun e w' => e = .returned (.int .i64 r) ∧ Keeps F W w' ∧ Q r w') :
    Calls Tryz.prog 12 #[.pointer (some ⟨s, 0, none⟩), .int .i64 i, .int .i64 a, .slice (some ⟨blk, of, none⟩) n cp] w fun e w' => ∃ r : Int, e = .returned (.int .i64 r) ∧ Keeps F w w' ∧ Q r w' := by
  have HGt := hid (iGet_sr h hf (by omega))
  have HOp := hid (fun W D (hm : mapB W m c ino) (hp : Pc W c F 100 N Pg Cm D o (u + 2)) => iopen_good hm hp h.good hf (by omega))
  have HWr := hid hw
  have HEn0 := hid hen
  have hok := h.good.file i f hf
  have hnf := h.good.nf
  have HNl : Hid ((nodeC f.node).length = 15) := by unfold Hid nodeC; rw [List.length_append, List.length_map, (hok.node (by omega) h.good.n4).pages]; rfl
  have ha0 : ¬ ((a : Int) < 0) := by omega
  have hn0 : ¬ (n = 0) := by omega
  have hn0' : ¬ ((n : Int) = 0) := by omega
  have han : ¬ ((70656 : Int) - (n : Int) < (a : Int)) := by omega
  have hn7 : (n : Int) ≤ 70656 := by omega
  have HFl := hid h.lt
  have HSl : Hid (s < w.heap.size) := lt_of_heap h.store
  have HMl : Hid (m < w.heap.size) := lt_of_heap h.map
  unfold nodeV at HGt HOp
  unfold gV at HOp
  clear hw h hf hok hnf haz h0 hen
  have hnc1 := nodeC_one f.node
  generalize nodeC f.node = nc at *
  have HN1 := hid hnc1
  clear hnc1
  go_enter Tryz.func12, Tryz.ntmps12
  go_wp2_with fail
  refine HGt.out.mono ?_
  clear HGt
  rintro e w1 ⟨rfl, hk1, hs1⟩
  have c1 := hs1.store.cell
  have HS1 := hid hs1
  have HK1 := hid hk1
  clear hk1 hs1
  go_wp2_with (refine wpList_store_block rfl 100 (.tmp 9) (.tmp 15) rfl w1.heap.size nc.toArray rfl rfl _ _ (block_new w1 _) (by rw [List.size_toArray, HNl.out]; rfl) (by rw [List.size_toArray, HNl.out]; kernel_rfl) HN1.out ?_; intro w2 hg2 hb2 hz2)
  have hb12 : Below w1.heap.size w1 w2 := ((Below.refl _ w1).alloc (Nat.le_refl _) _).grown hg2 (by simp) (fun k e => by cases e; exact Nat.le_refl _)
  have hs2 := HS1.out.below hb12
  have HB12 := hid hb12
  have HS2 := hid hs2
  have HR2 := hid hb2
  have hbd : Below w2.heap.size w2 w2.drew := (Below.refl _ w2).drew
  have hs3 := hs2.below hbd
  have hr3 := below_block hbd hb2 (lt_of_heap hb2)
  have d0 := hs3.store.cell
  have HBd := hid hbd
  have HS3 := hid hs3
  have HR3 := hid hr3
  obtain ⟨D, hrm3, hp3⟩ := hs3.pc
  have HRm := hid hrm3
  clear hrm3
  have HO3 := hid (HOp.out w2.drew D hs3.map hp3)
  clear hg2 hz2 hbd hs2 hb12 hs3 hp3 HOp c1
  refine wp_region_noPanic ?_
  refine wp_region_held_drew (S := fun W => W.cell? ⟨s, 0, none⟩ = some (.pointer (some ⟨m, 0, none⟩)) ∧ W.heap[w1.heap.size]? = some (.cells nc.toArray 100 (0, 0))) (by kernel_rfl) ⟨d0, hr3⟩ (fun hHeld => ?_)
  clear hb2 hr3
  generalize w2.drew = wd at *
  refine tk 0 ?_ rfl (by kernel_rfl) (fun _ _ _ h => h) (by rfl) (by assumption) ?_ ?_
  rotate_left
  · (intro W h; (try dsimp only at h); obtain ⟨s0, s1⟩ := h; go_simp; try with_reducible rfl)
  try simp only [tS]
  refine tk 1 ?_ rfl (by kernel_rfl) (fun _ _ _ h => h) (by rfl) (by assumption) ?_ ?_
  rotate_left
  · (intro W h; (try dsimp only at h); obtain ⟨s0, s1⟩ := h; go_simp; try with_reducible rfl)
  try simp only [tS]
  refine tk 2 ?_ rfl (by kernel_rfl) (fun _ _ _ h => h) (by rfl) (by assumption) ?_ ?_
  rotate_left
  · (intro W h; (try dsimp only at h); obtain ⟨s0, s1⟩ := h; go_simp; try with_reducible rfl)
  try simp only [tS]
  refine tk 3 ?_ rfl (by kernel_rfl) (fun _ _ _ h => h) (by rfl) (by assumption) ?_ ?_
  rotate_left
  · (intro W h; (try dsimp only at h); obtain ⟨s0, s1⟩ := h; go_simp; try with_reducible rfl)
  try simp only [tS]
  refine tk 4 ?_ rfl (by kernel_rfl) (fun _ _ _ h => h) (by rfl) (by assumption) ?_ ?_
  rotate_left
  · (intro W h; (try dsimp only at h); obtain ⟨s0, s1⟩ := h; go_simp; try with_reducible rfl)
  try simp only [tS]
  refine tk 5 ?_ rfl (by kernel_rfl) (fun _ _ _ h => h) (by rfl) (by assumption) ?_ ?_
  rotate_left
  · (intro W h; (try dsimp only at h); obtain ⟨s0, s1⟩ := h; go_simp; try with_reducible rfl)
  try simp only [tS]
  refine wpAnyH_take (i := 6) (v := .agg nc.toArray) rfl (by kernel_rfl) (by kernel_rfl) (by kernel_rfl) (fun _ _ _ h => h) (yieldsIf_load_mid (by rfl) 100 (.tmp 9) rfl w1.heap.size 0 rfl nc _ (fun W hW => by have := range_of_block hW.2; exact this) Tryz.underlying100 rfl (by rw [HNl.out]; kernel_rfl)) (by assumption) ?_
  try simp only [tS]
  refine tk 8 ?_ rfl (by kernel_rfl) (fun _ _ _ h => h) (by rfl) (by assumption) ?_ ?_
  rotate_left
  · (intro W h; (try dsimp only at h); obtain ⟨s0, s1⟩ := h; go_simp; try with_reducible rfl)
  try simp only [tS]
  refine tk 9 ?_ rfl (by kernel_rfl) (fun _ _ _ h => h) (by rfl) (by assumption) ?_ ?_
  rotate_left
  · (intro W h; (try dsimp only at h); obtain ⟨s0, s1⟩ := h; go_simp; try with_reducible rfl)
  try simp only [tS]
  refine wpAnyH_ready (rs := [7]) (by kernel_rfl) (by simp) (AllReadyH.cons rfl (fun K hK => ?_) AllReadyH.nil)
  rw [if_pos (by rfl)]
  go_simp
  refine HO3.out.mono ?_
  clear HO3
  rintro e w4 ⟨p, rfl, hp4, hf4, hk4, hq4⟩
  have hwl := HB12.out.size
  have hwk := HK1.out.size
  have hwd := HBd.out.size
  have kw4 : Keeps F w w4 := ((HK1.out.trans (Keeps.of_below HB12.out : Keeps F w1 w2) (fun i e => .inl e)).trans (Keeps.of_below HBd.out : Keeps F w2 wd) (fun i e => .inl e)).trans hk4 (fun i e => .inl e)
  have hnF : ∀ j, w.heap.size ≤ j → ¬ F j := fun j hj hh => by have := HFl.out j hh; omega
  have HW4 := hid (HWr.out w4 p D HRm.out kw4 hq4 (HS3.out.map.keep hk4 HS3.out.mF) hf4 (by omega))
  have hst4 := HS3.out.store.keep hk4 HS3.out.sF
  have e0 := hst4.cell
  have r4 := hk4.heap HR3.out (hnF _ (by omega))
  have HST4 := hid hst4
  have HMp4 := hid (HS3.out.map.keep hk4 HS3.out.mF)
  have HR4 := hid r4
  have HK4 := hid kw4
  have HNF := hid hnF
  have HP4 := hid hp4
  clear hf4 hk4 hq4 kw4 hst4 hnF HWr HR3 d0
  go_wp2_with fail
  refine hK.out _ _ ⟨e0, r4⟩ (fun hHeld => ?_)
  clear hK K r4
  try simp only [tS]
  refine wpAnyH_ready (rs := [10]) (by kernel_rfl) (by simp) (AllReadyH.cons rfl (fun K hK => ?_) AllReadyH.nil)
  rw [if_pos (by rfl)]
  go_simp
  refine HW4.out.mono ?_
  clear HW4
  rintro e w5 ⟨r, rfl, hk5, hR5⟩
  have hp4 := HP4.out
  have hsl := HSl.out
  have hbl := lt_of_heap HR2.out
  have hst5 := HST4.out.keep hk5 (fun hh => hh.elim HS3.out.sF (fun e => by omega))
  have r5 := hk5.heap HR4.out (fun hh => hh.elim (HNF.out _ (by omega)) (fun e => by omega))
  have g0 := hst5.cell
  have hm5 := HMp4.out.keep hk5 (fun hh => hh.elim HS3.out.mF (fun e => by have := HMl.out; omega))
  have HEn := hid (HEn0.out w5 r hst5 hm5 hR5)
  have HK5 : Hid (Keeps F w w5) := HK4.out.trans hk5 (fun i e => e.elim .inl (fun e => .inr (by omega)))
  have HST5 := hid hst5
  have HR5 := hid r5
  clear hk5 hR5 hst5 hp4 hsl hbl e0 hm5
  go_wp2_with fail
  refine hK.out _ _ ⟨g0, r5⟩ (fun hHeld => ?_)
  clear hK K
  try simp only [tS]
  refine wpAnyH_ready (rs := [11]) (by kernel_rfl) (by simp) (AllReadyH.cons rfl (fun K hK => ?_) AllReadyH.nil)
  rw [if_pos (by rfl)]
  go_simp
  refine HEn.out.mono ?_
  clear HEn
  rintro e w6 ⟨rfl, hk6, hQ6⟩
  have g6 := (HST5.out.keep hk6 HS3.out.sF).cell
  have r6 := hk6.heap HR5.out (HNF.out _ (by have := HB12.out.size; have := HK1.out.size; omega))
  have HK6 := hid (HK5.out.trans hk6 (fun i e => .inl e))
  have HQ6 := hid hQ6
  clear hk6 hQ6 g0 r5
  go_wp2_with fail
  refine hK.out _ _ ⟨g6, r6⟩ (fun hHeld => ?_)
  clear hK K
  try simp only [tS]
  refine tk 12 ?_ rfl (by kernel_rfl) (fun _ _ _ h => h) (by rfl) (by assumption) ?_ ?_
  rotate_left
  · (intro W h; (try dsimp only at h); obtain ⟨s0, s1⟩ := h; go_simp; try with_reducible rfl)
  try simp only [tS]
  refine wpAnyH_done (by kernel_rfl) ?_ _
  refine NoPanic.normal ?_
  clear hHeld
  go_wp2_with fail
  go_ret
  exact ⟨r, rfl, HK6.out, HQ6.out⟩
theorem rWrite_grow {a z : Nat} (h : Sr w s m c F N ino Pg Cm fs o u (k + (1 + 2 * (needN z - f.cnt) + (fillN z - a / 512) + 2))) (hf : fs i = some f) (hu : u < 800000) (hfd : f.data.length ≤ z) (l : List UInt8) (blk of cp : Nat) (hl : bytesAt w ⟨blk, of, none⟩ l) (hcp : l.length ≤ cp) (hbF : ¬ F blk) (hbl : blk < w.heap.size) (haz : a + l.length = z) (h0 : 0 < l.length) (hz7 : z ≤ 70656)
    (hfr : needN z - f.cnt ≤ (freeTo (Pg 2) (3 + ino / 8) N 4096).length) :
    Calls Tryz.prog 12 #[.pointer (some ⟨s, 0, none⟩), .int .i64 i, .int .i64 a, .slice (some ⟨blk, of, none⟩) l.length cp] w fun e w' => e = .returned (.int .i64 0) ∧ Keeps F w w' ∧
      ∃ Pg' f', f'.kind = f.kind ∧ f'.mode = f.mode ∧ f'.links = f.links ∧ f'.data = wrD f.data a l ∧ Sr w' s m c F N ino Pg' Cm (updA fs i (some f')) o (u + 303) k := by
  have hmx : max z f.data.length = z := by omega
  refine (rWrite_by h hf (by omega) a l.length blk of cp h0 (by omega)
    (fun r W => r = 0 ∧ ∃ Pg' f', f'.kind = f.kind ∧ f'.mode = f.mode ∧ f'.links = f.links ∧ f'.data = wrD f.data a l ∧ GoodX noSk N ino Pg' (updA fs i (some f')) ∧ Pe W c F 100 N Pg' Cm o (u + 303) k)
    (fun r W => r = 0 ∧ ∃ Pg' f', f'.kind = f.kind ∧ f'.mode = f.mode ∧ f'.links = f.links ∧ f'.data = wrD f.data a l ∧ GoodX noSk N ino Pg' (updA fs i (some f')) ∧ Pe W c F 100 N Pg' Cm o (u + 303) k)
    (fun W p D hrm hk hp hm hfi hpl => ?_) (fun W r hs hm hR => ?_)).mono ?_
  · refine (ifwrite_good (k := k) (kk := 1 + 2 * (needN z - f.cnt) + (fillN z - a / 512) + 2) hm h.mF ⟨D, hrm, hp⟩ h.good hf hfi (fun hh => by have := h.lt _ hh; omega) (by omega) a z z l blk of cp (fun j hj => hk.cell (hl j hj) (by rw [Addr.add_mid]; exact hbF)) hcp hbF (by omega) (by have := hk.size; omega) haz h0 hz7 hmx (Nat.le_refl _)).mono ?_
    rintro e w' ⟨hk', ⟨hy, rfl, Pg', f', h1, h2, h3, h4, h5, h6⟩ | ⟨hx, -⟩⟩
    · exact ⟨0, rfl, hk', rfl, Pg', f', h1, h2, h3, h4, h5, h6⟩
    · exact absurd hfr (Nat.not_le.2 hx)
  · obtain ⟨rfl, hR⟩ := hR
    refine (iend_ok s W).mono ?_
    rintro e w' ⟨rfl, rfl⟩
    exact ⟨rfl, Keeps.refl _ _, rfl, hR⟩
  · rintro e w' ⟨r, rfl, hk, rfl, Pg', f', h1, h2, h3, h4, h5, h6⟩
    exact ⟨rfl, hk, Pg', f', h1, h2, h3, h4, h.map.keep hk h.mF, h.store.keep hk h.sF, h.mF, h.sF, h.few, h6, h5⟩
set_option maxRecDepth 100000 in
/-- Write of no bytes. -/
theorem rWrite_zero (h : Sr w s m c F N ino Pg Cm fs o u k) (hf : fs i = some f) (hu : u < 900000) (a cp : Nat) (ad : Option Addr) :
    Calls Tryz.prog 12 #[.pointer (some ⟨s, 0, none⟩), .int .i64 i, .int .i64 a, .slice ad 0 cp] w fun e w' => e = .returned (.int .i64 0) ∧ Keeps F w w' ∧ Sr w' s m c F N ino Pg Cm fs o (u + 2) k := by
  have HGt := hid (iGet_sr h hf (by omega))
  have hok := h.good.file i f hf
  have hnf := h.good.nf
  have HNl : Hid ((nodeC f.node).length = 15) := by unfold Hid nodeC; rw [List.length_append, List.length_map, (hok.node (by omega) h.good.n4).pages]; rfl
  have ha0 : ¬ ((a : Int) < 0) := by omega
  unfold nodeV at HGt
  clear h hf hok hnf
  have hnc1 := nodeC_one f.node
  generalize nodeC f.node = nc at *
  have HN1 := hid hnc1
  clear hnc1
  go_enter Tryz.func12, Tryz.ntmps12
  go_wp2_with fail
  refine HGt.out.mono ?_
  clear HGt
  rintro e w1 ⟨rfl, hk1, hs1⟩
  have HS1 := hid hs1
  have HK1 := hid hk1
  clear hk1 hs1
  go_wp2_with (refine wpList_store_block rfl 100 (.tmp 9) (.tmp 15) rfl w1.heap.size nc.toArray rfl rfl _ _ (block_new w1 _) (by rw [List.size_toArray, HNl.out]; rfl) (by rw [List.size_toArray, HNl.out]; kernel_rfl) HN1.out ?_; intro w2 hg2 hb2 hz2; have hb12 : Below w1.heap.size w1 w2 := ((Below.refl _ w1).alloc (Nat.le_refl _) _).grown hg2 (by simp) (fun k e => by cases e; exact Nat.le_refl _); have HB12 := hid hb12; clear hg2 hb2 hz2 hb12)
  go_ret
  exact ⟨rfl, HK1.out.trans (Keeps.of_below HB12.out : Keeps F w1 w2) (fun i e => .inl e), HS1.out.below HB12.out⟩
end
theorem wrD_nil (l : List UInt8) : wrD [] 0 l = l := by
  refine List.ext_getElem (by rw [length_wrD]; simp) (fun j h1 h2 => ?_)
  have h3 := getD_wrD [] 0 l j (by simpa using h2)
  rw [List.getD_eq_getElem?_getD, List.getElem?_eq_getElem h1, if_pos ⟨by omega, by omega⟩, List.getD_eq_getElem?_getD, Nat.sub_zero, List.getElem?_eq_getElem h2] at h3
  exact h3
section
variable {w w' : World} {s m c ino : Nat} {F : Nat → Prop} {N : Nat} {Pg Cm : Nat → List UInt8} {fs : Nat → Option FileA} {o u k : Nat} {i : Nat} {f : FileA}
/-- Write to a new file. -/
theorem rWrite_new {kd mode : Nat} (h : Sr w s m c F N ino Pg Cm fs o u 97) (hf : fs i = some (newA kd mode)) (hu : u < 800000) (l : List UInt8) (g : Nat) (hl : ownB w g l) (hgF : ¬ F g) (hL : l.length ≤ 9000) (hfr : 20 ≤ (freeTo (Pg 2) (3 + ino / 8) N 4096).length) :
    Calls Tryz.prog 12 #[.pointer (some ⟨s, 0, none⟩), .int .i64 i, .int .i64 0, .slice (some ⟨g, 0, none⟩) l.length l.length] w fun e w' => e = .returned (.int .i64 0) ∧ Keeps F w w' ∧
      ∃ Pg' f', f'.kind = kd ∧ f'.mode = mode ∧ f'.links = 1 ∧ f'.data = l ∧ Sr w' s m c F N ino Pg' Cm (updA fs i (some f')) o (u + 303) 0 := by
  by_cases h0 : l.length = 0
  · have hz := rWrite_zero h hf (by omega) 0 0 (some ⟨g, 0, none⟩)
    rw [h0]
    refine hz.mono ?_
    rintro e w' ⟨rfl, hk, hst⟩
    have hln : l = [] := List.eq_nil_of_length_eq_zero h0
    exact ⟨rfl, hk, Pg, newA kd mode, rfl, rfl, rfl, hln.symm, by rw [updA_id hf]; exact (hst.more (by omega)).less (Nat.zero_le _)⟩
  · have hnd : needN l.length ≤ 19 := by unfold needN fillN; split; omega; split <;> omega
    have hfl : fillN l.length ≤ 18 := by unfold fillN; omega
    have hc0 : (newA kd mode).cnt = 0 := rfl
    have hw := rWrite_grow (k := 0) (a := 0) (z := l.length) (h.less (by rw [hc0]; omega)) hf (by omega) (Nat.zero_le _) l g 0 l.length hl.at (Nat.le_refl _) hgF hl.lt (Nat.zero_add _) (by omega) (by omega) (by rw [hc0]; omega)
    refine hw.mono ?_
    rintro e w' ⟨rfl, hk, Pg', f', h1, h2, h3, h4, hst⟩
    refine ⟨rfl, hk, Pg', f', h1, h2, h3, ?_, hst⟩
    rw [h4]
    exact wrD_nil l
end
end Go.Proofs.YthdcloaaahhnaaaGreat
/- The store's Resize and Drop. -/
namespace Go.Proofs.YthdcloaaahhnaaaGreat
open Go.RowKit
end Go.Proofs.YthdcloaaahhnaaaGreat
/- Files that are resized, or go. -/
namespace Go.Proofs.YthdcloaaahhnaaaGreat
open Go.RowKit
def node0 : NodeS := ⟨0, 0, 0, 0, List.replicate 11 0⟩
theorem node0_ok : node0.ok := ⟨by decide, by decide, by decide, by decide, rfl, by intro p hp; have := List.eq_of_mem_replicate hp; omega⟩
section
variable {w w' : World} {m c ino p : Nat} {F : Nat → Prop} {size N : Nat} {Pg Cm : Nat → List UInt8} {fs : Nat → Option FileA} {o u k kk : Nat} {i : Nat} {f : FileA}
set_option maxRecDepth 100000 in
theorem ifdrop_good (hm : mapB w m c ino) (hmF : ¬ F m) (hp : Pe w c F size N Pg Cm o u (k + kk)) (hg : GoodX noSk N ino Pg fs) (hf : fs i = some f) (hfi : fileB w p m (f.S i f.data.length)) (hpF : ¬ F p) (hmp : m ≠ p) (hu : u < 880000) (hkk : 1 + f.cnt + 2 ≤ kk) :
    Calls Tryz.prog 44 #[.pointer (some ⟨p, 0, none⟩)] w fun e w' => Keeps (fun i => F i ∨ i = p) w w' ∧ e = .returned (.int .i64 0) ∧ ∃ Pg', GoodX noSk N ino Pg' (updA fs i none) ∧ Pe w' c F size N Pg' Cm o (u + 150) k := by
  have hn0 : needN 0 = 0 := by decide
  have HHo := hid (ihold_good (k := k + 2) (kk := kk - 2) hm hmF (by obtain ⟨D, h1, h2⟩ := hp; exact ⟨D, h1.le (by omega), h2⟩) hg hf hfi hpF (by omega) 0 (by omega) (by rw [hn0]; omega))
  have hnf := hg.nf
  have hi := hg.out i f hf
  have htb := hg.tabLt hi.2
  have HG := hid hg
  have HFs := hid hf
  have HMp := hid hm
  clear hp hg hf hfi hm hkk
  go_enter Tryz.func44, Tryz.ntmps44
  go_wp2_with fail
  refine HHo.out.mono ?_
  clear HHo
  rintro e w1 ⟨hk1, ⟨hy, rfl, hf1, hp1⟩ | ⟨hx, rfl, Pg', D', hp1⟩⟩
  rotate_left
  · rw [hn0] at hx; omega
  obtain ⟨q1, q2, q3, q4, q5, q6⟩ := HG.out.hold HFs.out 0 (by omega) hy
  obtain ⟨D, hr1, hpD⟩ := hp1
  have hbd : Below w1.heap.size w1 w1.drew := (Below.refl _ w1).drew
  have hfd := hf1.below hbd
  obtain ⟨d0, d1, -⟩ := hfd.head
  have hm1 := HMp.out.keep hk1 (fun hh => hh.elim hmF hmp)
  have HPt := hid (iput_any (hm1.below hbd) hmF HG.out.i5 i hi.2 node0 node0_ok (by omega) (by omega) (hr1.use _ (by omega)) (hpD.below hbd))
  have HK1 := hid (hk1.trans (Keeps.of_below hbd : Keeps (fun _ => False) w1 w1.drew) (fun i e => e.elim))
  have HM1 := hid (hm1.below hbd)
  have HF1 := hid hfd
  have HR1 := hid hr1
  have hQ := And.intro q4 (And.intro q5 q6)
  have HQ := hid hQ
  have hfm : (w1.drew).heap[p]? ≠ none := by rw [hfd]; simp
  unfold gV nodeV at HPt
  have hnd : (FileA.S (hoF Pg N ino f 0) i 0).num = i := rfl
  rw [hnd] at d1
  clear hk1 hm1 hf1 hr1 hpD q1 q2 q3 q4 q5 q6 hQ hfm hfd hnd hbd
  go_wp2_with fail
  refine wp_region_noPanic ?_
  refine wp_region_held_drew (S := fun W => W.cell? ⟨p, 0, none⟩ = some (.pointer (some ⟨m, 0, none⟩)) ∧ W.cell? ⟨p, 1, none⟩ = some (.int .i64 i)) (by kernel_rfl) ⟨d0, d1⟩ (fun hHeld => ?_)
  generalize w1.drew = wd at *
  refine tk 0 ?_ rfl (by kernel_rfl) (fun _ _ _ h => h) (by rfl) (by assumption) ?_ ?_
  rotate_left
  · (intro W h; (try dsimp only at h); obtain ⟨s0, s1⟩ := h; go_simp; try with_reducible rfl)
  try simp only [tS]
  refine tk 1 ?_ rfl (by kernel_rfl) (fun _ _ _ h => h) (by rfl) (by assumption) ?_ ?_
  rotate_left
  · (intro W h; (try dsimp only at h); obtain ⟨s0, s1⟩ := h; go_simp; try with_reducible rfl)
  try simp only [tS]
  refine tk 2 ?_ rfl (by kernel_rfl) (fun _ _ _ h => h) (by rfl) (by assumption) ?_ ?_
  rotate_left
  · (intro W h; (try dsimp only at h); obtain ⟨s0, s1⟩ := h; go_simp; try with_reducible rfl)
  try simp only [tS]
  refine tk 3 ?_ rfl (by kernel_rfl) (fun _ _ _ h => h) (by rfl) (by assumption) ?_ ?_
  rotate_left
  · (intro W h; (try dsimp only at h); obtain ⟨s0, s1⟩ := h; go_simp; try with_reducible rfl)
  try simp only [tS]
  refine tk 4 ?_ rfl (by kernel_rfl) (fun _ _ _ h => h) (by rfl) (by assumption) ?_ ?_
  rotate_left
  · (intro W h; (try dsimp only at h); obtain ⟨s0, s1⟩ := h; go_simp; try with_reducible rfl)
  try simp only [tS]
  refine tk 5 ?_ rfl (by kernel_rfl) (fun _ _ _ h => h) (by rfl) (by assumption) ?_ ?_
  rotate_left
  · (intro W h; (try dsimp only at h); obtain ⟨s0, s1⟩ := h; go_simp; try with_reducible rfl)
  try simp only [tS]
  refine tk 6 ?_ rfl (by kernel_rfl) (fun _ _ _ h => h) (by rfl) (by assumption) ?_ ?_
  rotate_left
  · (intro W h; (try dsimp only at h); obtain ⟨s0, s1⟩ := h; go_simp; try with_reducible rfl)
  try simp only [tS]
  refine tk 7 ?_ rfl (by kernel_rfl) (fun _ _ _ h => h) (by rfl) (by assumption) ?_ ?_
  rotate_left
  · (intro W h; (try dsimp only at h); obtain ⟨s0, s1⟩ := h; go_simp; try with_reducible rfl)
  try simp only [tS]
  refine wpAnyH_take (i := 8) (v := .agg (nodeC node0).toArray) rfl (by kernel_rfl) (by kernel_rfl) (by kernel_rfl) (fun _ _ _ h => h) (Or.inl ⟨by rfl, fun W hSw => by kernel_rfl⟩) (by assumption) ?_
  try simp only [tS]
  generalize (nodeC node0).toArray = n0 at *
  refine wpAnyH_ready (rs := [9]) (by kernel_rfl) (by simp) (AllReadyH.cons rfl (fun K hK => ?_) AllReadyH.nil)
  rw [if_pos (by rfl)]
  go_simp
  refine HPt.out.mono ?_
  clear HPt
  rintro e w2 ⟨rfl, hk2, hp2⟩
  have hf2 := HF1.out.keep hk2 hpF
  obtain ⟨e0, e1, -⟩ := hf2.head
  have hnd : (FileA.S (hoF Pg N ino f 0) i 0).num = i := rfl
  rw [hnd] at e1
  have hm2 := HM1.out.keep hk2 hmF
  have HK2 := hid (HK1.out.trans hk2 (fun i e => .inl (.inl e)))
  have HM2 := hid hm2
  have HP2 := hid hp2
  have HF2 := hid hf2
  clear hk2 hp2 hf2 hm2 hnd d0 d1
  go_wp2_with fail
  refine hK.out _ _ ⟨e0, e1⟩ (fun hHeld => ?_)
  clear hK K
  try simp only [tS]
  refine tk 10 ?_ rfl (by kernel_rfl) (fun _ _ _ h => h) (by rfl) (by assumption) ?_ ?_
  rotate_left
  · (intro W h; (try dsimp only at h); obtain ⟨s0, s1⟩ := h; go_simp; try with_reducible rfl)
  try simp only [tS]
  refine wpAnyH_done (by kernel_rfl) ?_ _
  refine NoPanic.normal ?_
  clear hHeld
  have hbd : Below w2.heap.size w2 w2.drew := (Below.refl _ w2).drew
  have hfd := HF2.out.below hbd
  obtain ⟨d0, d1, -⟩ := hfd.head
  have hnd : (FileA.S (hoF Pg N ino f 0) i 0).num = i := rfl
  rw [hnd] at d1
  obtain ⟨q4, q5, q6⟩ := HQ.out
  have hgn := q6.gone (updA_self _ _ _) (q5.trans hn0) node0_ok
  rw [updA_twice] at hgn
  have hr2 : Rm N size (updT D ((3 + i / 8 : Nat) : Int)) (k + 1) := HR1.out.put _
  have hgv := (aGiveInode_any (HM2.out.below hbd) hmF HG.out.i5 i (by omega) (by omega) (HP2.out.below hbd)).mono (R' := fun e w' => Keeps F w2.drew w' ∧ e = .returned (.int .i64 0) ∧ Pe w' c F size N (updP (tabP (hoP Pg N ino f 0) i node0) 1 (flipL (hoP Pg N ino f 0 1) i)) Cm o (u + 150) k) (fun e w' hx => by
    have e1 : tabP (hoP Pg N ino f 0) i node0 1 = hoP Pg N ino f 0 1 := tabP_other (by omega)
    have e0 : updP (hoP Pg N ino f 0) (3 + i / 8) (putT (hoP Pg N ino f 0 (3 + i / 8)) i (encL node0)) = tabP (hoP Pg N ino f 0) i node0 := rfl
    obtain ⟨hk, h | h | h | h⟩ := hx
    · exact absurd ⟨by omega, by omega⟩ h.1
    · have h2 := h.2.1
      rw [Int.toNat_natCast, e0, e1, hgn.2] at h2
      cases h2
    · have h2 := hr2.use 1 (by omega)
      have h1 := h.2.2.1
      have ee : ((1 : Nat) : Int) = 1 := rfl
      rw [ee] at h1 h2
      exfalso
      rcases h2 with h2 | h2
      · rw [if_pos h2] at h1
        rcases hr2 with h4 | h4
        · omega
        · have := dkD_le N (updT D ((3 + i / 8 : Nat) : Int)); omega
      · split at h1 <;> omega
    · obtain ⟨-, -, -, rfl, hp⟩ := h
      rw [Int.toNat_natCast, e0, e1] at hp
      exact ⟨hk, rfl, _, hr2.put 1, hp.more (Nat.le_refl _) (by omega)⟩)
  have HGv := hid hgv
  have HGn := hid hgn.1
  have HB2 := hid hbd
  clear hgv hgn hr2 q4 q5 q6 hnd e0 e1 hfd hbd HQ HR1
  go_wp2_with fail
  refine wp_region_noPanic ?_
  refine wp_region_held_drew (S := fun W => W.cell? ⟨p, 0, none⟩ = some (.pointer (some ⟨m, 0, none⟩)) ∧ W.cell? ⟨p, 1, none⟩ = some (.int .i64 i)) (by kernel_rfl) ⟨d0, d1⟩ (fun hHeld => ?_)
  generalize w2.drew = we at *
  refine tk 0 ?_ rfl (by kernel_rfl) (fun _ _ _ h => h) (by rfl) (by assumption) ?_ ?_
  rotate_left
  · (intro W h; (try dsimp only at h); obtain ⟨s0, s1⟩ := h; go_simp; try with_reducible rfl)
  try simp only [tS]
  refine tk 1 ?_ rfl (by kernel_rfl) (fun _ _ _ h => h) (by rfl) (by assumption) ?_ ?_
  rotate_left
  · (intro W h; (try dsimp only at h); obtain ⟨s0, s1⟩ := h; go_simp; try with_reducible rfl)
  try simp only [tS]
  refine tk 2 ?_ rfl (by kernel_rfl) (fun _ _ _ h => h) (by rfl) (by assumption) ?_ ?_
  rotate_left
  · (intro W h; (try dsimp only at h); obtain ⟨s0, s1⟩ := h; go_simp; try with_reducible rfl)
  try simp only [tS]
  refine tk 3 ?_ rfl (by kernel_rfl) (fun _ _ _ h => h) (by rfl) (by assumption) ?_ ?_
  rotate_left
  · (intro W h; (try dsimp only at h); obtain ⟨s0, s1⟩ := h; go_simp; try with_reducible rfl)
  try simp only [tS]
  refine tk 4 ?_ rfl (by kernel_rfl) (fun _ _ _ h => h) (by rfl) (by assumption) ?_ ?_
  rotate_left
  · (intro W h; (try dsimp only at h); obtain ⟨s0, s1⟩ := h; go_simp; try with_reducible rfl)
  try simp only [tS]
  refine tk 5 ?_ rfl (by kernel_rfl) (fun _ _ _ h => h) (by rfl) (by assumption) ?_ ?_
  rotate_left
  · (intro W h; (try dsimp only at h); obtain ⟨s0, s1⟩ := h; go_simp; try with_reducible rfl)
  try simp only [tS]
  refine tk 6 ?_ rfl (by kernel_rfl) (fun _ _ _ h => h) (by rfl) (by assumption) ?_ ?_
  rotate_left
  · (intro W h; (try dsimp only at h); obtain ⟨s0, s1⟩ := h; go_simp; try with_reducible rfl)
  try simp only [tS]
  refine tk 7 ?_ rfl (by kernel_rfl) (fun _ _ _ h => h) (by rfl) (by assumption) ?_ ?_
  rotate_left
  · (intro W h; (try dsimp only at h); obtain ⟨s0, s1⟩ := h; go_simp; try with_reducible rfl)
  try simp only [tS]
  refine tk 8 ?_ rfl (by kernel_rfl) (fun _ _ _ h => h) (by rfl) (by assumption) ?_ ?_
  rotate_left
  · (intro W h; (try dsimp only at h); obtain ⟨s0, s1⟩ := h; go_simp; try with_reducible rfl)
  try simp only [tS]
  refine wpAnyH_ready (rs := [9]) (by kernel_rfl) (by simp) (AllReadyH.cons rfl (fun K hK => ?_) AllReadyH.nil)
  rw [if_pos (by rfl)]
  go_simp
  refine HGv.out.mono ?_
  clear HGv
  rintro e w3 ⟨hk3, rfl, hp3⟩
  have e0 := hk3.cell d0 hpF
  have e1 := hk3.cell d1 hpF
  have HK3 : Hid (Keeps (fun i => F i ∨ i = p) w w3) := (HK2.out.trans (Keeps.of_below HB2.out : Keeps (fun _ => False) w2 we) (fun i e => e.elim)).trans hk3 (fun i e => .inl (.inl e))
  have HP3 := hid hp3
  clear hk3 hp3 d0 d1
  go_wp2_with fail
  refine hK.out _ _ ⟨e0, e1⟩ (fun hHeld => ?_)
  clear hK K
  try simp only [tS]
  refine tk 10 ?_ rfl (by kernel_rfl) (fun _ _ _ h => h) (by rfl) (by assumption) ?_ ?_
  rotate_left
  · (intro W h; (try dsimp only at h); obtain ⟨s0, s1⟩ := h; go_simp; try with_reducible rfl)
  try simp only [tS]
  refine wpAnyH_done (by kernel_rfl) ?_ _
  refine NoPanic.normal ?_
  clear hHeld
  go_wp2_with fail
  go_ret
  exact ⟨HK3.out, rfl, _, HGn.out, HP3.out⟩
end
end Go.Proofs.YthdcloaaahhnaaaGreat
/- Drop of a store of many pages (written by mk_sr.py). -/
namespace Go.Proofs.YthdcloaaahhnaaaGreat
open Go.RowKit
section
variable {w w' : World} {s m c ino : Nat} {F : Nat → Prop} {N : Nat} {Pg Cm : Nat → List UInt8} {fs : Nat → Option FileA} {o u k : Nat} {i : Nat} {f : FileA}
set_option maxRecDepth 100000 in
theorem rDrop_by (h : Sr w s m c F N ino Pg Cm fs o u k) (hf : fs i = some f) (hu : u < 900000) (R Q : Int → World → Prop)
    (hw : ∀ W p D, Rm N 100 D k → Keeps F w W → Pc W c F 100 N Pg Cm D o (u + 3) → mapB W m c ino → fileB W p m (f.S i f.data.length) → w.heap.size ≤ p →
      Calls Tryz.prog 44 #[.pointer (some ⟨p, 0, none⟩)] W fun e w' => ∃ r : Int, e = .returned (.int .i64 r) ∧ Keeps (fun i => F i ∨ i = p) W w' ∧ R r w')
    (hen : ∀ W r, storeB W s m → mapB W m c ino → R r W → Calls Tryz.prog 39 #[.pointer (some ⟨s, 0, none⟩), .int .i64 r] W fun e w' => e = .returned (.int .i64 r) ∧ Keeps F W w' ∧ Q r w') :
    Calls Tryz.prog 14 #[.pointer (some ⟨s, 0, none⟩), .int .i64 i] w fun e w' => ∃ r : Int, e = .returned (.int .i64 r) ∧ Keeps F w w' ∧ Q r w' := by
  have HGt := hid (iGet_sr h hf (by omega))
  have HOp := hid (fun W D (hm : mapB W m c ino) (hp : Pc W c F 100 N Pg Cm D o (u + 2)) => iopen_good hm hp h.good hf (by omega))
  have HWr := hid hw
  have HEn0 := hid hen
  have hok := h.good.file i f hf
  have hnf := h.good.nf
  have HNl : Hid ((nodeC f.node).length = 15) := by unfold Hid nodeC; rw [List.length_append, List.length_map, (hok.node (by omega) h.good.n4).pages]; rfl
  have HFl := hid h.lt
  have HSl : Hid (s < w.heap.size) := lt_of_heap h.store
  have HMl : Hid (m < w.heap.size) := lt_of_heap h.map
  unfold nodeV at HGt HOp
  unfold gV at HOp
  clear hw h hf hok hnf hen
  have hnc1 := nodeC_one f.node
  generalize nodeC f.node = nc at *
  have HN1 := hid hnc1
  clear hnc1
  go_enter Tryz.func14, Tryz.ntmps14
  go_wp2_with fail
  refine HGt.out.mono ?_
  clear HGt
  rintro e w1 ⟨rfl, hk1, hs1⟩
  have c1 := hs1.store.cell
  have HS1 := hid hs1
  have HK1 := hid hk1
  clear hk1 hs1
  go_wp2_with (refine wpList_store_block rfl 100 (.tmp 5) (.tmp 11) rfl w1.heap.size nc.toArray rfl rfl _ _ (block_new w1 _) (by rw [List.size_toArray, HNl.out]; rfl) (by rw [List.size_toArray, HNl.out]; kernel_rfl) HN1.out ?_; intro w2 hg2 hb2 hz2)
  have hb12 : Below w1.heap.size w1 w2 := ((Below.refl _ w1).alloc (Nat.le_refl _) _).grown hg2 (by simp) (fun k e => by cases e; exact Nat.le_refl _)
  have hs2 := HS1.out.below hb12
  have HB12 := hid hb12
  have HS2 := hid hs2
  have HR2 := hid hb2
  have hbd : Below w2.heap.size w2 w2.drew := (Below.refl _ w2).drew
  have hs3 := hs2.below hbd
  have hr3 := below_block hbd hb2 (lt_of_heap hb2)
  have d0 := hs3.store.cell
  have HBd := hid hbd
  have HS3 := hid hs3
  have HR3 := hid hr3
  obtain ⟨D, hrm3, hp3⟩ := hs3.pc
  have HRm := hid hrm3
  clear hrm3
  have HO3 := hid (HOp.out w2.drew D hs3.map hp3)
  clear hg2 hz2 hbd hs2 hb12 hs3 hp3 HOp c1
  refine wp_region_noPanic ?_
  refine wp_region_held_drew (S := fun W => W.cell? ⟨s, 0, none⟩ = some (.pointer (some ⟨m, 0, none⟩)) ∧ W.heap[w1.heap.size]? = some (.cells nc.toArray 100 (0, 0))) (by kernel_rfl) ⟨d0, hr3⟩ (fun hHeld => ?_)
  clear hb2 hr3
  generalize w2.drew = wd at *
  refine tk 0 ?_ rfl (by kernel_rfl) (fun _ _ _ h => h) (by rfl) (by assumption) ?_ ?_
  rotate_left
  · (intro W h; (try dsimp only at h); obtain ⟨s0, s1⟩ := h; go_simp; try with_reducible rfl)
  try simp only [tS]
  refine tk 1 ?_ rfl (by kernel_rfl) (fun _ _ _ h => h) (by rfl) (by assumption) ?_ ?_
  rotate_left
  · (intro W h; (try dsimp only at h); obtain ⟨s0, s1⟩ := h; go_simp; try with_reducible rfl)
  try simp only [tS]
  refine tk 2 ?_ rfl (by kernel_rfl) (fun _ _ _ h => h) (by rfl) (by assumption) ?_ ?_
  rotate_left
  · (intro W h; (try dsimp only at h); obtain ⟨s0, s1⟩ := h; go_simp; try with_reducible rfl)
  try simp only [tS]
  refine tk 3 ?_ rfl (by kernel_rfl) (fun _ _ _ h => h) (by rfl) (by assumption) ?_ ?_
  rotate_left
  · (intro W h; (try dsimp only at h); obtain ⟨s0, s1⟩ := h; go_simp; try with_reducible rfl)
  try simp only [tS]
  refine tk 4 ?_ rfl (by kernel_rfl) (fun _ _ _ h => h) (by rfl) (by assumption) ?_ ?_
  rotate_left
  · (intro W h; (try dsimp only at h); obtain ⟨s0, s1⟩ := h; go_simp; try with_reducible rfl)
  try simp only [tS]
  refine tk 5 ?_ rfl (by kernel_rfl) (fun _ _ _ h => h) (by rfl) (by assumption) ?_ ?_
  rotate_left
  · (intro W h; (try dsimp only at h); obtain ⟨s0, s1⟩ := h; go_simp; try with_reducible rfl)
  try simp only [tS]
  refine wpAnyH_take (i := 6) (v := .agg nc.toArray) rfl (by kernel_rfl) (by kernel_rfl) (by kernel_rfl) (fun _ _ _ h => h) (yieldsIf_load_mid (by rfl) 100 (.tmp 5) rfl w1.heap.size 0 rfl nc _ (fun W hW => by have := range_of_block hW.2; exact this) Tryz.underlying100 rfl (by rw [HNl.out]; kernel_rfl)) (by assumption) ?_
  try simp only [tS]
  refine wpAnyH_ready (rs := [7]) (by kernel_rfl) (by simp) (AllReadyH.cons rfl (fun K hK => ?_) AllReadyH.nil)
  rw [if_pos (by rfl)]
  go_simp
  refine HO3.out.mono ?_
  clear HO3
  rintro e w4 ⟨p, rfl, hp4, hf4, hk4, hq4⟩
  have hwl := HB12.out.size
  have hwk := HK1.out.size
  have hwd := HBd.out.size
  have kw4 : Keeps F w w4 := ((HK1.out.trans (Keeps.of_below HB12.out : Keeps F w1 w2) (fun i e => .inl e)).trans (Keeps.of_below HBd.out : Keeps F w2 wd) (fun i e => .inl e)).trans hk4 (fun i e => .inl e)
  have hnF : ∀ j, w.heap.size ≤ j → ¬ F j := fun j hj hh => by have := HFl.out j hh; omega
  have HW4 := hid (HWr.out w4 p D HRm.out kw4 hq4 (HS3.out.map.keep hk4 HS3.out.mF) hf4 (by omega))
  have hst4 := HS3.out.store.keep hk4 HS3.out.sF
  have e0 := hst4.cell
  have r4 := hk4.heap HR3.out (hnF _ (by omega))
  have HST4 := hid hst4
  have HMp4 := hid (HS3.out.map.keep hk4 HS3.out.mF)
  have HR4 := hid r4
  have HK4 := hid kw4
  have HNF := hid hnF
  have HP4 := hid hp4
  clear hf4 hk4 hq4 kw4 hst4 hnF HWr HR3 d0
  go_wp2_with fail
  refine hK.out _ _ ⟨e0, r4⟩ (fun hHeld => ?_)
  clear hK K r4
  try simp only [tS]
  refine wpAnyH_ready (rs := [8]) (by kernel_rfl) (by simp) (AllReadyH.cons rfl (fun K hK => ?_) AllReadyH.nil)
  rw [if_pos (by rfl)]
  go_simp
  refine HW4.out.mono ?_
  clear HW4
  rintro e w5 ⟨r, rfl, hk5, hR5⟩
  have hp4 := HP4.out
  have hsl := HSl.out
  have hbl := lt_of_heap HR2.out
  have hst5 := HST4.out.keep hk5 (fun hh => hh.elim HS3.out.sF (fun e => by omega))
  have r5 := hk5.heap HR4.out (fun hh => hh.elim (HNF.out _ (by omega)) (fun e => by omega))
  have g0 := hst5.cell
  have hm5 := HMp4.out.keep hk5 (fun hh => hh.elim HS3.out.mF (fun e => by have := HMl.out; omega))
  have HEn := hid (HEn0.out w5 r hst5 hm5 hR5)
  have HK5 : Hid (Keeps F w w5) := HK4.out.trans hk5 (fun i e => e.elim .inl (fun e => .inr (by omega)))
  have HST5 := hid hst5
  have HR5 := hid r5
  clear hk5 hR5 hst5 hp4 hsl hbl e0 hm5
  go_wp2_with fail
  refine hK.out _ _ ⟨g0, r5⟩ (fun hHeld => ?_)
  clear hK K
  try simp only [tS]
  refine wpAnyH_ready (rs := [9]) (by kernel_rfl) (by simp) (AllReadyH.cons rfl (fun K hK => ?_) AllReadyH.nil)
  rw [if_pos (by rfl)]
  go_simp
  refine HEn.out.mono ?_
  clear HEn
  rintro e w6 ⟨rfl, hk6, hQ6⟩
  have g6 := (HST5.out.keep hk6 HS3.out.sF).cell
  have r6 := hk6.heap HR5.out (HNF.out _ (by have := HB12.out.size; have := HK1.out.size; omega))
  have HK6 := hid (HK5.out.trans hk6 (fun i e => .inl e))
  have HQ6 := hid hQ6
  clear hk6 hQ6 g0 r5
  go_wp2_with fail
  refine hK.out _ _ ⟨g6, r6⟩ (fun hHeld => ?_)
  clear hK K
  try simp only [tS]
  refine tk 10 ?_ rfl (by kernel_rfl) (fun _ _ _ h => h) (by rfl) (by assumption) ?_ ?_
  rotate_left
  · (intro W h; (try dsimp only at h); obtain ⟨s0, s1⟩ := h; go_simp; try with_reducible rfl)
  try simp only [tS]
  refine wpAnyH_done (by kernel_rfl) ?_ _
  refine NoPanic.normal ?_
  clear hHeld
  go_wp2_with fail
  go_ret
  exact ⟨r, rfl, HK6.out, HQ6.out⟩
theorem rDrop_ok (h : Sr w s m c F N ino Pg Cm fs o u (k + (1 + f.cnt + 2))) (hf : fs i = some f) (hu : u < 800000) :
    Calls Tryz.prog 14 #[.pointer (some ⟨s, 0, none⟩), .int .i64 i] w fun e w' => e = .returned (.int .i64 0) ∧ Keeps F w w' ∧ ∃ Pg', Sr w' s m c F N ino Pg' Cm (updA fs i none) o (u + 303) k := by
  refine (rDrop_by h hf (by omega)
    (fun r W => r = 0 ∧ ∃ Pg', GoodX noSk N ino Pg' (updA fs i none) ∧ Pe W c F 100 N Pg' Cm o (u + 303) k)
    (fun r W => r = 0 ∧ ∃ Pg', GoodX noSk N ino Pg' (updA fs i none) ∧ Pe W c F 100 N Pg' Cm o (u + 303) k)
    (fun W p D hrm hk hp hm hfi hpl => ?_) (fun W r hs hm hR => ?_)).mono ?_
  · have hml : m < w.heap.size := lt_of_heap h.map
    refine (ifdrop_good (k := k) (kk := 1 + f.cnt + 2) hm h.mF ⟨D, hrm, hp⟩ h.good hf hfi (fun hh => by have := h.lt _ hh; omega) (by omega) (by omega) (Nat.le_refl _)).mono ?_
    rintro e w' ⟨hk', rfl, Pg', h5, D', hr', h6⟩
    exact ⟨0, rfl, hk', rfl, Pg', h5, D', hr', h6.more (Nat.le_refl _) (by omega)⟩
  · obtain ⟨rfl, hR⟩ := hR
    refine (iend_ok s W).mono ?_
    rintro e w' ⟨rfl, rfl⟩
    exact ⟨rfl, Keeps.refl _ _, rfl, hR⟩
  · rintro e w' ⟨r, rfl, hk, rfl, Pg', h5, h6⟩
    exact ⟨rfl, hk, Pg', h.map.keep hk h.mF, h.store.keep hk h.sF, h.mF, h.sF, h.few, h6, h5⟩
end
end Go.Proofs.YthdcloaaahhnaaaGreat
/- append of a number to a row of numbers, whose block holds numbers alone. -/
namespace Go.Proofs.YthdcloaaahhnaaaGreat
open Go.RowKit
def numsI (xs : List Int) : List Value := xs.map (fun n => Value.int .i64 n)
/-- A row of numbers of one's own. -/
def rowN (w : World) (base : Nat) (v : Value) (xs : List Int) : Prop := w.ownsRow base 3 1 v xs.length (numsI xs) ∧ ∀ g, v.ownBlock = some g → offN w g
theorem zero_cells (n : Nat) : ∀ v ∈ (Builtin.zeroCells (Value.int .i64 0).cells n).toList, ∃ k, v = .int .i64 k := by
  intro v hv
  simp only [Builtin.zeroCells, Value.cells, Array.toList_map, List.mem_map] at hv
  obtain ⟨i, -, rfl⟩ := hv
  exact ⟨0, by simp [Nat.mod_one]⟩
theorem numsI_int {xs : List Int} : ∀ v ∈ numsI xs, ∃ k, v = .int .i64 k := fun v hv => by
  obtain ⟨n, -, rfl⟩ := List.mem_map.1 hv
  exact ⟨n, rfl⟩
section
variable {w w' : World} {base : Nat} {v : Value} {xs : List Int} {F : Nat → Prop}
theorem rowN.keep (h : rowN w base v xs) (k : Keeps F w w') (hF : ∀ i, v.ownBlock = some i → ¬ F i) : rowN w' base v xs := by
  refine ⟨k.row h.1 hF, fun g hg => ?_⟩
  obtain ⟨cs, t, fr, hb, ht, hk⟩ := h.2 g hg
  exact ⟨cs, t, fr, k.heap hb (hF g hg), ht, hk⟩
theorem rowN.below (h : rowN w base v xs) (k : Below w.heap.size w w') : rowN w' base v xs := h.keep (F := fun _ => False) (Keeps.of_below k) (fun _ _ h => h)
theorem rowN_nil (w : World) (base : Nat) : rowN w base (.slice none 0 0) [] := ⟨World.ownsRow_nil _ _ _ _, fun g hg => by cases hg⟩
theorem rowN.form (h : rowN w base v xs) : ∃ a cap, v = .slice a xs.length cap := by
  rcases h.1.2 with ⟨e, h0⟩ | ⟨g, cap, cur, e, -⟩
  · exact ⟨none, 0, by rw [e, h0]⟩
  · exact ⟨_, cap, e⟩
theorem rowN.cell (h : rowN w base v xs) (j : Nat) (hj : j < xs.length) : ∃ g cap, v = .slice (some ⟨g, 0, none⟩) xs.length cap ∧ w.cell? ⟨g, j, none⟩ = some (.int .i64 xs[j]) := by
  rcases h.1.2 with ⟨e, h0⟩ | ⟨g, cap, cur, e, -⟩
  · omega
  · refine ⟨g, cap, e, ?_⟩
    have h2 : w.ownsRow base 3 1 (.slice (some ⟨g, 0, none⟩) xs.length cap) xs.length (numsI xs) := by rw [← e]; exact h.1
    rw [h2.cellAt j (by simpa using hj), numsI, List.getElem?_map, List.getElem?_eq_getElem hj]; rfl
/-- append of one number. -/
theorem run_append_int (h : rowN w base v xs) (x : Int) (ab : Nat) (hc : w.cell? ⟨ab, 0, none⟩ = some (.int .i64 x)) (hn : xs.length < 4096) (hbase : base ≤ w.heap.size) (ty : TypeId) (c : Nat) :
    ∃ g cap w', (Builtin.append_ #[42, 42] ty #[v, .slice (some ⟨ab, 0, none⟩) 1 c]).run Tryz.prog w = .ok (.slice (some ⟨g, 0, none⟩) (xs.length + 1) cap) w' ∧ rowN w' base (.slice (some ⟨g, 0, none⟩) (xs.length + 1) cap) (xs ++ [x]) ∧ w.grownBy w' v.ownBlock ∧ (v.ownBlock = some g ∨ g = w.heap.size) := by
  obtain ⟨i0, hi, hz0, hz1, hz2⟩ := info_parts infoInt
  have hnews : ∀ j u, [Value.int .i64 x][j]? = some u → w.cell? ((⟨ab, 0, none⟩ : Addr).add j) = some u := fun j u hu => by
    obtain ⟨h1, h2⟩ := List.getElem?_eq_some_iff.1 hu
    have h0 : j = 0 := by simp at h1; omega
    subst h0
    rw [← h2]
    rw [Addr.add_mid]
    exact hc
  have h1 : ∀ u ∈ [Value.int .i64 x], u.oneCell' = true := fun u hu => by
    rw [List.mem_singleton.1 hu]; rfl
  obtain ⟨g, cap, w', hr, h2, h3, h4, h5⟩ := run_append_lies (P := Tryz.prog) w 42 ty base 3 i0 (.int .i64 0) 1 8 Tryz.underlying42 hi hz0 hz1 hz2 rfl (by omega) v xs.length (numsI xs) h.1 ⟨ab, 0, none⟩ 1 c [.int .i64 x] rfl hnews h1 (by omega) (by unfold maxLen; omega) (by omega) hbase w.heap.size rfl
  refine ⟨g, cap, w', hr, ⟨?_, fun g' hg' => ?_⟩, h3, h4⟩
  · have e : numsI (xs ++ [x]) = numsI xs ++ [.int .i64 x] := by simp [numsI]
    rw [e, List.length_append]; exact h2
  · obtain rfl : g = g' := by simpa [Value.ownBlock] using hg'
    have hnew : ∀ (cs : List Value), (∀ v ∈ cs, ∃ k, v = .int .i64 k) → w'.heap[g]? = some (.cells cs.toArray 3 (0, 0)) → offN w' g := fun cs hcs hb => ⟨_, _, _, hb, by decide, fun v hv => .inl (hcs v (by simpa using hv))⟩
    have hxn : ∀ v ∈ [Value.int .i64 x], ∃ k, v = .int .i64 k := fun v hv => ⟨x, List.mem_singleton.1 hv⟩
    rcases h.1.2 with ⟨e, h0⟩ | ⟨g0, cap0, cur, e, -, hg, hnc, -, hcs, -⟩
    · subst e
      have hr' := run_append_nil (P := Tryz.prog) w 42 ty 3 i0 (.int .i64 0) Tryz.underlying42 hi hz0 ⟨ab, 0, none⟩ 1 c [.int .i64 x] (by rw [hz1]; rfl) hnews (by omega) (by omega) (by rw [hz2]; omega)
      rw [hr'] at hr
      simp only [Result.ok.injEq, Value.slice.injEq] at hr
      obtain ⟨⟨e1, -⟩, e2⟩ := hr
      have e3 : w.heap.size = g := by simpa using e1
      refine hnew ([Value.int .i64 x] ++ (Builtin.zeroCells (Value.int .i64 0).cells (grownCap w 1 0 3 - 1)).toList) (fun v hv => ?_) ?_
      · rcases List.mem_append.1 hv with hv | hv
        · exact hxn v hv
        · exact zero_cells _ v hv
      · rw [← e2, ← e3]
        refine (block_new w.drew _).trans ?_
        simp
    · subst e
      by_cases hroom : xs.length + 1 ≤ cap0
      · have hr' := run_append_room (P := Tryz.prog) w 42 ty 3 i0 Tryz.underlying42 hi g0 xs.length cap0 cur hg ⟨ab, 0, none⟩ 1 c [.int .i64 x] (by rw [hz1]; rfl) hnews h1 hroom (by rw [hz1]; simp; omega)
        rw [hr'] at hr
        simp only [Result.ok.injEq, Value.slice.injEq] at hr
        obtain ⟨⟨e1, -⟩, e2⟩ := hr
        have e3 : g0 = g := by simpa using e1
        obtain ⟨cs1, t1, fr1, hb1, -, hk1⟩ := h.2 g0 rfl
        rw [hg] at hb1
        simp only [Option.some.injEq, Obj.cells.injEq] at hb1
        obtain ⟨rfl, rfl, -⟩ := hb1
        refine ⟨_, _, _, by rw [← e2, ← e3]; exact setRow_heap w g0 cur _ _ _ hg, by decide, fun v hv => ?_⟩
        simp only [List.append_assoc, List.mem_append] at hv
        rcases hv with hv | hv | hv
        · exact hk1 v (List.mem_of_mem_take hv)
        · exact .inl (hxn v hv)
        · exact hk1 v (List.mem_of_mem_drop hv)
      · have holds : ∀ j u, (numsI xs)[j]? = some u → w.cell? ((⟨g0, 0, none⟩ : Addr).add j) = some u := h.1.cells (g := g0) rfl
        have hr' := run_append_grow (P := Tryz.prog) w 42 ty 3 i0 (.int .i64 0) Tryz.underlying42 hi hz0 ⟨g0, 0, none⟩ xs.length cap0 (numsI xs) (by rw [hz1]; exact h.1.1) holds ⟨ab, 0, none⟩ 1 c [.int .i64 x] (by rw [hz1]; rfl) hnews (by omega) (by omega) (growslice_fits (by omega) (by rw [hz2]; omega))
        rw [hr'] at hr
        simp only [Result.ok.injEq, Value.slice.injEq] at hr
        obtain ⟨⟨e1, -⟩, e2⟩ := hr
        have e3 : w.heap.size = g := by simpa using e1
        refine hnew (numsI xs ++ [Value.int .i64 x] ++ (Builtin.zeroCells (Value.int .i64 0).cells (grownCap w (xs.length + 1) cap0 3 - (xs.length + 1))).toList) (fun v hv => ?_) ?_
        · rcases List.mem_append.1 hv with hv | hv
          · rcases List.mem_append.1 hv with hv | hv
            · exact numsI_int v hv
            · exact hxn v hv
          · exact zero_cells _ v hv
        · rw [← e2, ← e3]
          refine (block_new w.drew _).trans ?_
          simp
theorem wpList_append_int {ops : Array Oper} {rest : List Oper} {o : Oper} {a : Act} {Q : Exit → Act → World → Prop} (hgd : o.guard = none) (s x : Operand)
    (ho : o.op = .call { callee := .builtin .append, args := #[s, x], argTypes := #[42, 42] }) (hs : a.eval s = v) (y : Int) (ab c : Nat) (hx : a.eval x = .slice (some ⟨ab, 0, none⟩) 1 c)
    (h : rowN w base v xs) (hc : w.cell? ⟨ab, 0, none⟩ = some (.int .i64 y)) (hn : xs.length < 4096) (hbase : base ≤ w.heap.size)
    (k : ∀ g cap w', rowN w' base (.slice (some ⟨g, 0, none⟩) (xs.length + 1) cap) (xs ++ [y]) → w.grownBy w' v.ownBlock → (v.ownBlock = some g ∨ g = w.heap.size) → wpList Tryz.prog ops Q rest (a.put o.dst (.slice (some ⟨g, 0, none⟩) (xs.length + 1) cap)) w') : wpList Tryz.prog ops Q (o :: rest) a w := by
  obtain ⟨g, cap, w', hr, h1, h2, h3⟩ := run_append_int h y ab hc hn hbase o.type c
  refine wpList_plain hgd fun K hK => ?_
  unfold Oper.wp
  simp [execOp, ho, resolve, invoke, builtin, hs, hx, hr, Result.andThen]
  exact hK _ _ (k g cap w' h1 h2 h3)
end
end Go.Proofs.YthdcloaaahhnaaaGreat
/- pages: all pages of a file. -/
namespace Go.Proofs.YthdcloaaahhnaaaGreat
open Go.RowKit Go.Shelf
attribute [local go_sem] Oper.semAt_some
theorem rowN.down {w : World} {base b' : Nat} {v : Value} {xs : List Int} (h : rowN w base v xs) (hb : b' ≤ base) : rowN w b' v xs := by
  refine ⟨⟨h.1.1, ?_⟩, h.2⟩
  rcases h.1.2 with h1 | ⟨g0, cap0, cur, e, h1, h2⟩
  · exact .inl h1
  · exact .inr ⟨g0, cap0, cur, e, Nat.le_trans hb h1, h2⟩
theorem rowN.ge {w : World} {base : Nat} {v : Value} {xs : List Int} (h : rowN w base v xs) {g : Nat} (hg : v.ownBlock = some g) : base ≤ g := by
  rcases h.1.2 with ⟨e, -⟩ | ⟨g0, cap0, cur, e, h1, -⟩
  · rw [e] at hg; cases hg
  · rw [e] at hg; cases hg; exact h1
end Go.Proofs.YthdcloaaahhnaaaGreat
/- A cache that stays whatever becomes of later blocks: pages are read into rows of one's own. -/
namespace Go.Proofs.YthdcloaaahhnaaaGreat
open Go.RowKit
/-- A cache, and it stays whatever becomes of the blocks from B on. -/
def PcB (w : World) (B c : Nat) (F : Nat → Prop) (size N : Nat) (Pg Cm : Nat → List UInt8) (D : Int → Bool) (o u : Nat) : Prop := ∃ L C, PcIn w c F size N Pg Cm D o u L C ∧ c < B ∧ L.um < B ∧ B ≤ w.heap.size ∧ ∀ W, Keeps (fun i => B ≤ i) w W → CacheAt W c L C
section
variable {w w' : World} {B m c ino : Nat} {F : Nat → Prop} {size N : Nat} {Pg Cm : Nat → List UInt8} {D : Int → Bool} {o u : Nat}
theorem PcB.start (h : Pc w c F size N Pg Cm D o u) : PcB w w.heap.size c F size N Pg Cm D o u := by
  obtain ⟨L, C, h⟩ := h
  obtain ⟨es, k, hu⟩ := h.at_.umap
  exact ⟨L, C, h, lt_of_heap h.at_.heap, lt_of_heap hu, Nat.le_refl _, fun W hW => h.at_.below (hW.below (Nat.le_refl _) (fun i e => e))⟩
theorem PcB.keep (h : PcB w B c F size N Pg Cm D o u) (k : Keeps (fun i => B ≤ i) w w') : PcB w' B c F size N Pg Cm D o u := by
  obtain ⟨L, C, h, h1, h2, h3, h4⟩ := h
  exact ⟨L, C, ⟨h4 w' k, h.sz, h.nn, h.made, h.ops, h.uses, h.pg, h.cm, h.dirty, h.room, h.foot, fun i hi => Nat.lt_of_lt_of_le (h.lt i hi) k.size, Nat.lt_of_lt_of_le h.p0 k.size, h.quiet⟩, h1, h2, Nat.le_trans h3 k.size, fun W hW => h4 W (k.trans hW (fun i e => .inl e))⟩
theorem PcB.pc (h : PcB w B c F size N Pg Cm D o u) : Pc w c F size N Pg Cm D o u := by
  obtain ⟨L, C, h, -⟩ := h
  exact ⟨L, C, h⟩
theorem PcB.le (h : PcB w B c F size N Pg Cm D o u) : B ≤ w.heap.size := by
  obtain ⟨L, C, -, -, -, h, -⟩ := h
  exact h
/-- What a Read writes is the cache's own count. -/
theorem PcB.step {L L' : CLay} {C C' : CS} (hB : ∀ W, Keeps (fun i => B ≤ i) w W → CacheAt W c L C) (hc : c < B) (hu : L.um < B) (hBs : B ≤ w.heap.size) (hk : Keeps (fun i => i = c ∨ i = L.um) w w') (h' : CacheAt w' c L' C')
    (hL : L' = { L with Du := L'.Du }) (hC : C' = { C with uses := C'.uses, used := C'.used }) : ∀ W, Keeps (fun i => B ≤ i) w' W → CacheAt W c L' C' := fun V hV => by
  have h0 := hB w (Keeps.refl _ _)
  obtain ⟨es, kk, hum⟩ := h0.umap
  have hcw := h0.heap
  obtain ⟨W, hW⟩ : ∃ W : World, W = { V with heap := (V.heap.setIfInBounds c (.cells #[.pointer (some ⟨L.p, 0, none⟩), .map (some L.dm), .int .i64 C.most, .int .i64 C.uses, .map (some L.um)] 75 (0, 0))).setIfInBounds L.um (.map es kk) } := ⟨_, rfl⟩
  have hs1 := hk.size
  have hs2 := hV.size
  have hWs : W.heap.size = V.heap.size := by rw [hW]; simp
  have hne : ∀ k, k ≠ c → k ≠ L.um → W.heap[k]? = V.heap[k]? := fun k h1 h2 => by
    rw [hW]
    show ((V.heap.setIfInBounds c _).setIfInBounds L.um _)[k]? = V.heap[k]?
    rw [Array.getElem?_setIfInBounds_ne (fun e => h2 e.symm), Array.getElem?_setIfInBounds_ne (fun e => h1 e.symm)]
  have hcu : c ≠ L.um := fun e => by rw [e, hum] at hcw; cases hcw
  have hWc : W.heap[c]? = w.heap[c]? := by
    rw [hcw, hW]
    show ((V.heap.setIfInBounds c _).setIfInBounds L.um _)[c]? = _
    rw [Array.getElem?_setIfInBounds_ne (fun e => hcu e.symm), Array.getElem?_setIfInBounds_self_of_lt (by omega)]
  have hWu : W.heap[L.um]? = w.heap[L.um]? := by
    rw [hum, hW]
    show ((V.heap.setIfInBounds c _).setIfInBounds L.um _)[L.um]? = _
    rw [Array.getElem?_setIfInBounds_self_of_lt (by rw [Array.size_setIfInBounds]; omega)]
  have kW : Keeps (fun i => B ≤ i) w W := by
    refine ⟨?_, ?_, ?_, by omega, fun k hk1 hk2 => ?_⟩
    · rw [hW]; exact hV.os.trans hk.os
    · rw [hW]; exact hV.tape.trans hk.tape
    · rw [hW]; exact hV.output.trans hk.output
    · by_cases e1 : k = c
      · rw [e1]; exact hWc
      · by_cases e2 : k = L.um
        · rw [e2]; exact hWu
        · rw [hne k e1 e2, hV.block k (by omega) hk2, hk.block k hk1 (fun hh => hh.elim e1 e2)]
  have kV : Keeps (fun i => i = c ∨ i = L.um) W V := by
    refine ⟨by rw [hW], by rw [hW], by rw [hW], by omega, fun k _ hk2 => (hne k (fun e => hk2 (.inl e)) (fun e => hk2 (.inr e))).symm⟩
  have hA := hB W kW
  have hG : ∀ i, (i = c ∨ i = L.um) → i = c ∨ i = L.dm ∨ i = L.um := fun i hi => hi.elim .inl (fun e => .inr (.inr e))
  have eum : L'.um = L.um := by rw [hL]
  have hcV : V.heap[c]? = w'.heap[c]? := hV.block c (by omega) (fun e => by omega)
  rw [hL, hC] at h' ⊢
  exact {
    heap := hcV.trans h'.heap
    log := hA.logKeep hG kV
    lt := fun i hi => Nat.lt_of_lt_of_le (h'.lt i hi) hV.size
    dirty := hA.dirty.keep kV (fun e => e.elim (fun e => hA.cd e.symm) (fun e => hA.ne e))
    bytes := hA.bytesKeep hG kV
    clean := h'.clean
    used := h'.used.keep hV (fun e => by have e' : B ≤ L.um := e; omega)
    offc := h'.offc
    offd := h'.offd
    offu := h'.offu
    ne := h'.ne
    pages := h'.pages
    fits := h'.fits
    few := h'.few
    ub := h'.ub }
theorem PcB.read (h : PcB w B c F size N Pg Cm D o u) (n : Nat) (hn : n < N) (hu : u < 1000000) :
    Calls Tryz.prog 118 #[.pointer (some ⟨c, 0, none⟩), .int .i64 n] w fun e w' => ∃ g cap, e = .returned (.tuple #[.slice (some ⟨g, 0, none⟩) 512 cap, .int .i64 0]) ∧ 512 ≤ cap ∧ w.heap.size ≤ g ∧ rowU w' g (Pg n) ∧ Keeps F w w' ∧ PcB w' B c F size N Pg Cm D o (u + 1) := by
  obtain ⟨L, C, h, h1, h2, h3, h4⟩ := h
  refine (bread_row n w h.at_ (Below.refl _ w) h.made (by have := h.uses; omega) (by rw [h.nn]; exact hn)).mono ?_
  rintro e w' ⟨g, cap, D', u', k, rfl, hc, hg, hr, hk, hW, hK⟩
  have hf : ∀ i, (i = c ∨ i = L.um) → F i := fun i hi => h.foot i (hi.elim (fun e => .inr (.inl e)) (fun e => .inr (.inr (.inr e))))
  have hA := hW w' (Keeps.refl _ _)
  refine ⟨g, cap, rfl, hc, hg, by rw [← h.pg n hn]; exact hr, hK.mono hf, { L with Du := D' }, { C with uses := C.uses + k, used := u' }, ⟨hA, h.sz, h.nn, h.made, h.ops, by show C.uses + k ≤ u + 1; have := h.uses; omega, h.pg, h.cm, h.dirty, h.room, h.foot, fun i hi => Nat.lt_of_lt_of_le (h.lt i hi) hK.size, Nat.lt_of_lt_of_le h.p0 hK.size, h.quiet⟩, h1, h2, Nat.le_trans h3 hK.size, PcB.step h4 h1 h2 h3 hK hA rfl rfl⟩
set_option maxRecDepth 100000 in
theorem ipage_pb (h : mapB w m c ino) (n : Nat) (hn : n < N) (hu : u < 1000000) (hp : PcB w B c F size N Pg Cm D o u) :
    Calls Tryz.prog 84 #[gV m, .int .i64 n] w fun e w' => ∃ g, e = .returned (.slice (some ⟨g, 0, none⟩) 512 512) ∧ w.heap.size ≤ g ∧ ownB w' g (Pg n) ∧ Keeps F w w' ∧ PcB w' B c F size N Pg Cm D o (u + 1) := by
  unfold gV
  have HLen := hid (hp.pc.len n hn)
  have HFl := hid hp.pc.lt
  have hBl := hp.le
  have hal : Below w.heap.size w (w.alloc (.cells #[.pointer (some ⟨m, 0, none⟩)] 84)) := (Below.refl _ w).alloc (Nat.le_refl _) _
  have HAl : Hid ((w.alloc (.cells #[.pointer (some ⟨m, 0, none⟩)] 84)).heap[w.heap.size]? = some (.cells #[.pointer (some ⟨m, 0, none⟩)] 84 (0, 0))) := block_new w _
  have HBa := hid hal
  have HP := hid hp
  have HM := hid h
  clear h hp hal
  go_enter Tryz.func84, Tryz.ntmps84
  go_wp2_with (refine wpList_make_u8 rfl (.const (.int .i64 512)) (.const (.int .i64 512)) rfl 512 512 rfl rfl rfl (by omega) ?_; intro w1 hb1 hr1 hz1; have hB1 := HBa.out.trans (hb1.mono HBa.out.size); have HB1 := hid hB1; have c0 : w1.cell? ⟨w.heap.size, 0, none⟩ = some (.pointer (some ⟨m, 0, none⟩)) := (cell_of_block (below_block hb1 HAl.out (lt_of_heap HAl.out)) 0); have HO1 : Hid (ownB w1 (w.heap.size + 1) (zN 512)) := (by unfold Hid ownB; rw [← rep_U8]; simpa using hr1); have HCa := hid (amCache_any (HM.out.below hB1)); have HRd := hid ((HP.out.keep (Keeps.of_below hB1)).read n hn hu); clear hb1 hr1 hz1 hB1)
  refine HCa.out.mono ?_
  clear HCa
  rintro e w2 ⟨rfl, h2⟩
  obtain rfl := h2.symm
  clear h2
  go_wp2_with fail
  refine HRd.out.mono ?_
  clear HRd
  rintro e w3 ⟨g, cap, rfl, hcap, hg, hrow, hk, hW⟩
  have HO3 := hid (HO1.out.keep hk (fun hf => by have := HFl.out _ hf; omega))
  have HRow := hid hrow
  have HK : Hid (Keeps F w w3) := (Keeps.of_below HB1.out : Keeps F w w1).trans hk (fun i e => .inl e)
  have HW := hid hW
  have HSz : Hid (w.heap.size + 1 < w3.heap.size) := lt_of_heap HO3.out
  clear hrow hk hW hg HO1 c0
  go_wp2_with (refine wpList_copy_own8 rfl (.tmp 17) (.tmp 18) rfl (w.heap.size + 1) 0 512 512 ⟨g, 0, none⟩ 512 cap rfl rfl (zN 512) (Pg n) HO3.out HRow.out.1 (by rw [HLen.out]; rfl) (by rw [HLen.out, length_zN]; omega) ?_; intro w4 hk4 ho4 hz4; have HO4 := hid ho4; have HK4 := hid hk4; clear hk4 ho4 hz4)
  go_ret
  have ho := HO4.out
  rw [List.take_zero, List.nil_append, Nat.zero_add, HLen.out, drop_zN, show zN (512 - 512) = [] from rfl, List.append_nil] at ho
  have k34 : Keeps (fun i => B ≤ i) w3 w4 := HK4.out.mono (fun i e => by have e' : i = w.heap.size + 1 := e; show B ≤ i; omega)
  have k35 : Keeps (fun i => w.heap.size ≤ i) w3 w4 := HK4.out.mono (fun i e => by have e' : i = w.heap.size + 1 := e; show w.heap.size ≤ i; omega)
  exact ⟨w.heap.size + 1, rfl, by omega, ho, HK.out.trans k35 (fun i e => .inr e), HW.out.keep k34⟩
end
end Go.Proofs.YthdcloaaahhnaaaGreat
/- read: bytes of a file. -/
namespace Go.Proofs.YthdcloaaahhnaaaGreat
open Go.RowKit Go.Shelf
attribute [local go_sem] Oper.semAt_some
/-- A row of bytes of one's own. -/
def rowY (w : World) (base : Nat) (v : Value) (xs : List UInt8) : Prop := w.ownsRow base 5 1 v xs.length (xs.map U8)
/-- A box that holds a row of bytes. -/
def boxY (w : World) (b base : Nat) (xs : List UInt8) : Prop := ∃ v, w.heap[b]? = some (.cells #[v] 46 (0, 0)) ∧ rowY w base v xs
/-- The bytes of one part. -/
def partL (sl : List Nat) (a z : Nat) (Pg : Nat → List UInt8) (k : Nat) : List UInt8 := ((Pg (sl.getD (dslot k) 0)).drop (a - k * 512)).take (min (z - k * 512) 512 - (a - k * 512))
def partsL (sl : List Nat) (a z : Nat) (Pg : Nat → List UInt8) (ks : List Nat) : List UInt8 := ks.flatMap (partL sl a z Pg)
theorem infoU8r : (Tryz.prog.info? 5).map (fun i => (i.zero, i.size, i.bytes)) = some (some (.int .u8 0), 1, 1) := by kernel_rfl
theorem wp_append_bytes {w : World} {base : Nat} {v : Value} {xs : List UInt8} {o : Oper} {a : Act} {K : Act → World → Prop} {Q : Exit → Act → World → Prop} (s x : Operand)
    (ho : o.op = .call { callee := .builtin .append, args := #[s, x], argTypes := #[46, 46] }) (hs : a.eval s = v) (ad : Addr) (m c : Nat) (hx : a.eval x = .slice (some ad) m c)
    (h : rowY w base v xs) (news : List UInt8) (hl : news.length = m) (hb : bytesAt w ad news) (h0 : 0 < m) (hn : xs.length + m ≤ 100000) (hbase : base ≤ w.heap.size)
    (k : ∀ g cap w', rowY w' base (.slice (some ⟨g, 0, none⟩) (xs.length + m) cap) (xs ++ news) → w.grownBy w' v.ownBlock → K (a.put o.dst (.slice (some ⟨g, 0, none⟩) (xs.length + m) cap)) w') : Oper.wp Tryz.prog o a w K Q := by
  obtain ⟨i0, hi, hz0, hz1, hz2⟩ := info_parts infoU8r
  have hnews : ∀ j y, (news.map U8)[j]? = some y → w.cell? (ad.add j) = some y := fun j y hy => by
    have hj : j < news.length := by simpa using (List.getElem?_eq_some_iff.1 hy).1
    rw [List.getElem?_map, List.getElem?_eq_getElem hj] at hy
    rw [hb j hj]; exact hy
  have h1 : ∀ y ∈ news.map U8, y.oneCell' = true := fun y hy => by
    obtain ⟨x, -, rfl⟩ := List.mem_map.1 hy
    rfl
  obtain ⟨g, cap, w', hr, h2, h3, -, -⟩ := run_append_lies (P := Tryz.prog) w 46 o.type base 5 i0 (.int .u8 0) 1 1 Tryz.underlying46 hi hz0 hz1 hz2 rfl (by omega) v xs.length (xs.map U8) h ad m c (news.map U8) (by rw [List.length_map]; omega) hnews h1 h0 (by unfold maxLen; omega) (by omega) hbase w.heap.size rfl
  unfold Oper.wp
  simp [execOp, ho, resolve, invoke, builtin, hs, hx, hr, Result.andThen]
  refine k g cap w' ?_ h3
  unfold rowY
  rw [List.length_append, hl, List.map_append]
  exact h2
set_option maxRecDepth 100000 in
theorem results_ifread {w : World} {tmps : Array Value} {x : Value} (h1 : tmps.getD 6 undef = x) : (results Tryz.f43 tmps).run Tryz.prog w = .ok x w := by
  have h1' : tmps[6]?.getD undef = x := by simpa using h1
  simp only [results, Tryz.results43]
  simp [go_sem, h1']
theorem rowY.down {w : World} {base b' : Nat} {v : Value} {xs : List UInt8} (h : rowY w base v xs) (hb : b' ≤ base) : rowY w b' v xs := by
  refine ⟨h.1, ?_⟩
  rcases h.2 with h1 | ⟨g0, cap0, cur, e, h1, h2⟩
  · exact .inl h1
  · exact .inr ⟨g0, cap0, cur, e, Nat.le_trans hb h1, h2⟩
theorem rowY.ge {w : World} {base : Nat} {v : Value} {xs : List UInt8} (h : rowY w base v xs) {g : Nat} (hg : v.ownBlock = some g) : base ≤ g ∧ ∃ cs, w.heap[g]? = some (.cells cs 5 (0, 0)) := by
  rcases h.2 with ⟨e, -⟩ | ⟨g0, cap0, cur, e, h1, h2, -⟩
  · rw [e] at hg; cases hg
  · rw [e] at hg; cases hg; exact ⟨h1, _, h2⟩
section
variable {w : World} {f m c ino : Nat} {F : Nat → Prop} {size N : Nat} {Pg Cm : Nat → List UInt8} {D : Int → Bool} {o u : Nat} {S : FileS}
set_option maxRecDepth 100000 in
set_option maxHeartbeats 4000000 in
theorem ifread_any (a z : Nat) (h : mapB w m c ino) (hmF : ¬ F m) (hf : fileB w f m S) (hfF : ¬ F f) (hS : S.slots.length = 139) (haz : a < z) (hz : z ≤ 70656) (hu : u < 990000) (hsl : ∀ k, a / 512 ≤ k → k < fillN z → S.slots.getD (dslot k) 0 < N) (hp : Pc w c F size N Pg Cm D o u) :
    Calls Tryz.prog 43 #[.pointer (some ⟨f, 0, none⟩), .int .i64 a, .int .i64 z] w fun e w' => ∃ v, e = .returned v ∧ rowY w' w.heap.size v (partsL S.slots a z Pg (upTo (a / 512) (fillN z))) ∧ Keeps F w w' ∧ Pc w' c F size N Pg Cm D o (u + 138) := by
  refine (callsIn_wide (n := 8)).1 ?_
  obtain ⟨wA, hA⟩ : ∃ wA, wA = (w.alloc (.cells #[.pointer (some ⟨f, 0, none⟩)] 104)).alloc (.cells #[.slice none 0 0] 46) := ⟨_, rfl⟩
  have hAB : Below w.heap.size w wA := by rw [hA]; exact ((Below.refl _ w).alloc (Nat.le_refl _) _).alloc (by simp) _
  have hA0 : wA.heap[w.heap.size]? = some (.cells #[.pointer (some ⟨f, 0, none⟩)] 104 (0, 0)) := by rw [hA]; exact block_alloc (block_new w _) _
  have hA1 : wA.heap[w.heap.size + 1]? = some (.cells #[.slice none 0 0] 46 (0, 0)) := by
    have h1 := block_new (w.alloc (.cells #[.pointer (some ⟨f, 0, none⟩)] 104)) (.cells #[.slice none 0 0] 46)
    rw [World.size_alloc] at h1
    rw [hA]; exact h1
  have hAs : wA.heap.size = w.heap.size + 2 := by rw [hA]; simp
  have hfA := hf.below hAB
  have HF := hid hfA
  have HMp := hid (h.below hAB)
  have HPc := hid ((PcB.start hp).keep (Keeps.of_below hAB))
  have HFl := hid hp.lt
  have HA0 := hid hA0
  have HA1 := hid hA1
  have HAB := hid hAB
  have HAs := hid hAs
  have HS := hid hS
  have HSl := hid hsl
  have hfl : f < w.heap.size := hf.lt
  have hml : m < w.heap.size := lt_of_heap h
  clear hf hfA hA0 hA1 hAB hAs hS h hp hsl
  refine callsIn_of_wp_marks Tryz.func43 rfl trivial ?_ rfl
  simp only [Tryz.ntmps43, List.size_toArray, List.length_cons, List.length_nil, Nat.reduceAdd, Nat.reduceSub, Array.replicate_succ, Array.replicate_zero, List.push_toArray, List.append_toArray, List.nil_append, List.cons_append]
  have hf2 : Fence.wide.fn 94 := trivial
  have hf4 : Fence.wide.fn 84 := trivial
  gi_wp2
  rw [← hA]
  clear hA
  refine (callsIn_wide.2 (iparts_any f a z wA)).mono ?_
  rintro e wD ⟨rfl, hD⟩
  have hDB : Below wA.heap.size wA wD := by rw [hD]; exact (((Below.refl _ wA).alloc (Nat.le_refl _) _).alloc (by simp) _).alloc (by simp; omega) _
  have hsD : wD.heap.size = wA.heap.size + 3 := by rw [hD]; simp
  have x0 : wD.cell? ⟨wA.heap.size, 0, none⟩ = some (.pointer (some ⟨f, 0, none⟩)) := by rw [hD]; exact cell_of_block (block_alloc (block_alloc (block_new wA _) _) _) 0
  have x1 : wD.cell? ⟨wA.heap.size + 1, 0, none⟩ = some (.int .i64 a) := by
    have h1 := block_new (wA.alloc (.cells #[.pointer (some ⟨f, 0, none⟩)] 104)) (.cells #[.int .i64 a] 3)
    rw [World.size_alloc] at h1
    rw [hD]; exact cell_of_block (block_alloc h1 _) 0
  have x2 : wD.cell? ⟨wA.heap.size + 1 + 1, 0, none⟩ = some (.int .i64 z) := by
    have h1 := block_new ((wA.alloc (.cells #[.pointer (some ⟨f, 0, none⟩)] 104)).alloc (.cells #[.int .i64 a] 3)) (.cells #[.int .i64 z] 3)
    rw [World.size_alloc, World.size_alloc] at h1
    rw [hD]; exact cell_of_block h1 0
  have HDB := hid hDB
  have HsD := hid hsD
  have hws := HAs.out
  have HFD := hid (HF.out.below hDB)
  have HMD := hid (HMp.out.below hDB)
  have HPD := hid (HPc.out.keep (Keeps.of_below hDB))
  have HR0 := hid (below_block hDB HA0.out (lt_of_heap HA0.out))
  have HR1 := hid (below_block hDB HA1.out (lt_of_heap HA1.out))
  have HSt := hid (iparts_stops 7 (by omega) wA.heap.size (wA.heap.size + 1) (wA.heap.size + 1 + 1) f m a z S HS.out (fun i => F i ∨ i = w.heap.size + 1 ∨ wD.heap.size ≤ i) hz (by omega) wD
    (fun hh => by rcases hh with hh | hh | hh; (have := HFl.out _ hh; omega); omega; omega) (fun hh => by rcases hh with hh | hh | hh; (have := HFl.out _ hh; omega); omega; omega) (fun hh => by rcases hh with hh | hh | hh; (have := HFl.out _ hh; omega); omega; omega)
    (fun hh => by rcases hh with hh | hh | hh; exact hfF hh; omega; omega) HFD.out x0 x1 x2 (fillN z - a / 512) rfl)
  clear hD hDB hsD x0 x1 x2 HF HMp HPc HA0 HA1 hws
  gi_wp2
  generalize hM : fillN z - a / 512 = M at *
  have HMM := hid hM
  clear hM
  refine wpIn_rangeFunc_ownH rfl (by omega) (gf := 128) (lb := #[.pointer (some ⟨wA.heap.size + 1, 0, none⟩), .pointer (some ⟨wA.heap.size + 1 + 1, 0, none⟩), .pointer (some ⟨wA.heap.size, 0, none⟩)]) rfl trivial (enters_of Tryz.func128 (by kernel_rfl) rfl)
    HSt.out (fun h k => keepsK_t h k) (keepsK_b (fun i h => .inr (.inr h))) (Below.refl _ _) (fun _ => rfl)
    (fun pre W => Hid (fileB W f m S) ∧ Hid (mapB W m c ino) ∧ Hid (PcB W w.heap.size c F size N Pg Cm D o (u + pre.length)) ∧
      Hid (boxY W (w.heap.size + 1) wD.heap.size (partsL S.slots a z Pg (pre.map (fun x : Fin M => a / 512 + x.val)))) ∧ Hid (Keeps (fun i => F i ∨ i = w.heap.size + 1) wD W))
    (fun _ _ _ => False)
    (fun s A B row hs hgr hr => ⟨grown_block hgr hs.1.out (fun e => by obtain ⟨-, ob, h1, h2⟩ := hr _ e; have h3 := hs.1.out; unfold fileB at h3; rw [h3] at h1; cases h1; cases h2), grown_block hgr hs.2.1.out (fun e => by obtain ⟨-, ob, h1, h2⟩ := hr _ e; have h3 := hs.2.1.out; unfold mapB at h3; rw [h3] at h1; cases h1; cases h2), ?own1, ?own2, ?own3⟩)
    (fun cd s A B row hs hgr hr => hs)
    ⟨HFD, HMD, HPD, ?st, Keeps.refl _ _⟩
    (fun x a' W => ∃ pb, wD.heap.size ≤ pb ∧ a' = { tmps := #[.pointer (some ⟨f, 0, none⟩), .int .i64 a, .int .i64 z, .pointer (some ⟨w.heap.size, 0, none⟩), undef, undef, .slice none 0 0, .pointer (some ⟨w.heap.size + 1, 0, none⟩), .int .i64 (S.slots.getD (dslot (a / 512 + x.val)) 0 : Nat), .pointer (some ⟨pb, 0, none⟩), .pointer (some ⟨f, 0, none⟩), .int .i64 a, .int .i64 z, .func (.func 128) #[] #[.pointer (some ⟨wA.heap.size + 1, 0, none⟩), .pointer (some ⟨wA.heap.size + 1 + 1, 0, none⟩), .pointer (some ⟨wA.heap.size, 0, none⟩)], .int .i64 (S.slots.getD (dslot (a / 512 + x.val)) 0 : Nat), .agg #[.int .i64 (a - (a / 512 + x.val) * 512 : Nat), .int .i64 (min (z - (a / 512 + x.val) * 512) 512 : Nat)], undef, undef, undef, undef, undef, undef, undef, undef, undef, undef, undef, undef, undef, undef], defers := [] } ∧ W.heap[pb]? = some (.cells #[.int .i64 (a - (a / 512 + x.val) * 512 : Nat), .int .i64 (min (z - (a / 512 + x.val) * 512) 512 : Nat)] 167 (0, 0))) (fun x a' s A B row hs hgr hr => ?own4) ?assign ?body ?done ?stop
  case assign =>
    rintro l1 pre x W K hI hK
    have HK := hid hK
    have HI := hid hI
    clear hK hI
    unfold partV
    obtain ⟨a1, ha1⟩ : ∃ a1 : Int, a1 = ((S.slots.getD (dslot (a / 512 + x.val)) 0 : Nat) : Int) := ⟨_, rfl⟩
    obtain ⟨a2, ha2⟩ : ∃ a2 : Int, a2 = ((a - (a / 512 + x.val) * 512 : Nat) : Int) := ⟨_, rfl⟩
    obtain ⟨a3, ha3⟩ : ∃ a3 : Int, a3 = ((min (z - (a / 512 + x.val) * 512) 512 : Nat) : Int) := ⟨_, rfl⟩
    rw [← ha1, ← ha2, ← ha3]
    have HA123 := hid (And.intro ha1 (And.intro ha2 ha3))
    clear ha1 ha2 ha3
    gi_wp2
    obtain ⟨rfl, rfl, rfl⟩ := HA123.out
    obtain ⟨i1, i2, i3, i4, i5⟩ := HI.out
    have hwD := i5.out.size
    have hba : Below W.heap.size W (W.alloc (.cells #[.int .i64 (a - (a / 512 + x.val) * 512 : Nat), .int .i64 (min (z - (a / 512 + x.val) * 512) 512 : Nat)] 167)) := (Below.refl _ W).alloc (Nat.le_refl _) _
    refine HK.out _ _ ⟨by simp, fun i ob hi ho _ => block_alloc ho _⟩ (Keeps.of_below hba) ⟨i1.out.below hba, i2.out.below hba, i3.out.keep (Keeps.of_below hba), ?_, i5.out.trans (Keeps.of_below hba : Keeps (fun _ => False) W _) (fun i e => e.elim)⟩ ⟨W.heap.size, hwD, rfl, block_new W _⟩
    obtain ⟨v, h1, h2⟩ := i4.out
    exact ⟨v, below_block hba h1 (lt_of_heap h1), (Keeps.of_below hba : Keeps (fun _ => False) W _).row h2 (fun _ _ h => h)⟩
  case body =>
    rintro l1 pre x a' W hl1 hrec ⟨HFw, HMw, HPw, HBw, HKw⟩ ⟨pb, hpb, rfl, hpW⟩ hlt
    obtain ⟨v, hv1, hv2⟩ := HBw.out
    have hsD := HsD.out
    have hsA := HAs.out
    have hx := x.isLt
    have hMM := HMM.out
    have hnw : ∀ i, w.heap.size ≤ i → ¬ F i := fun i hi hh => by have := HFl.out i hh; omega
    have c0b := HKw.out.heap HR0.out (fun hh => hh.elim (hnw _ (Nat.le_refl _)) (fun e => by omega))
    obtain ⟨pn, hpn⟩ : ∃ pn, pn = S.slots.getD (dslot (a / 512 + x.val)) 0 := ⟨_, rfl⟩
    obtain ⟨fa, hfa⟩ : ∃ fa, fa = a - (a / 512 + x.val) * 512 := ⟨_, rfl⟩
    obtain ⟨fz, hfz⟩ : ∃ fz, fz = min (z - (a / 512 + x.val) * 512) 512 := ⟨_, rfl⟩
    have hpN : pn < N := by rw [hpn]; exact HSl.out _ (by omega) (by omega)
    have HNx : Hid (partsL S.slots a z Pg ((pre ++ [x]).map (fun x : Fin M => a / 512 + x.val)) = partsL S.slots a z Pg (pre.map (fun x : Fin M => a / 512 + x.val)) ++ ((Pg pn).drop fa).take (fz - fa)) := by
      unfold Hid partsL
      rw [List.map_append, List.flatMap_append, List.map_singleton, List.flatMap_singleton]
      unfold partL
      rw [hpn, hfa, hfz]
    obtain ⟨xs, hxs⟩ : ∃ xs, xs = partsL S.slots a z Pg (pre.map (fun x : Fin M => a / 512 + x.val)) := ⟨_, rfl⟩
    rw [← hpn, ← hfa, ← hfz]
    rw [← hfa, ← hfz] at hpW
    rw [← hxs] at HNx hv2
    have hk1 : (a / 512 + x.val) * 512 < z := by unfold fillN at hMM; omega
    have hq1 : fa < fz := by omega
    have hq2 : fz ≤ 512 := by omega
    have hq3 : (fz : Int) ≤ 512 := by omega
    have hq4 : ¬ (512 = fa) := by omega
    have hxl : xs.length ≤ 512 * pre.length := by
      rw [hxs]; unfold partsL
      clear hxs hv2 HNx hlt HPw HBw hv1
      induction pre with
      | nil => simp
      | cons y ys ih =>
        rw [List.map_cons, List.flatMap_cons, List.length_append, List.length_cons]
        have h1 : (partL S.slots a z Pg (a / 512 + y.val)).length ≤ 512 := by unfold partL; rw [List.length_take]; omega
        have h2 := ih
        omega
    have hM1 : M ≤ 138 := by unfold fillN at hMM; omega
    have HPg := hid (fun V (hV : Below W.heap.size W V) => ipage_pb (HMw.out.below hV) pn hpN (show u + pre.length < 1000000 by omega) (HPw.out.keep (Keeps.of_below hV)))
    have HLn := hid (HPw.out.pc.len pn hpN)
    have HV1 := hid hv1
    have HV2 := hid hv2
    have HC0 := hid c0b
    have HPW := hid hpW
    have HXl := hid hxl
    have HM1 := hid hM1
    have HLt := hid hlt
    have hbd : Below W.heap.size W W.drew := (Below.refl _ W).drew
    have q0 : W.drew.cell? ⟨w.heap.size + 1, 0, none⟩ = some v := cell_of_block (below_block hbd hv1 (lt_of_heap hv1)) 0
    have q1 : W.drew.cell? ⟨w.heap.size, 0, none⟩ = some (.pointer (some ⟨f, 0, none⟩)) := cell_of_block (below_block hbd c0b (lt_of_heap c0b)) 0
    obtain ⟨q2, -⟩ := (HFw.out.below hbd).head
    have q3 : W.drew.cell? ⟨pb, 0, none⟩ = some (.int .i64 fa) := cell_of_block (below_block hbd hpW (lt_of_heap hpW)) 0
    have q4 : W.drew.cell? ⟨pb, 1, none⟩ = some (.int .i64 fz) := cell_of_block (below_block hbd hpW (lt_of_heap hpW)) 1
    have hpbW := lt_of_heap hpW
    have HBd := hid hbd
    have HPg2 := hid (HPg.out W.drew hbd)
    unfold gV at HPg2
    clear HPg hbd hpW c0b hv1 hv2 hxs hpn hfa hfz hMM hx hxl hM1 hk1 hsD hlt HBw
    refine wpIn_block ?_
    refine wpInR_drewL 13 (S := fun V => V.cell? ⟨w.heap.size + 1, 0, none⟩ = some v ∧ V.cell? ⟨w.heap.size, 0, none⟩ = some (.pointer (some ⟨f, 0, none⟩)) ∧ V.cell? ⟨f, 0, none⟩ = some (.pointer (some ⟨m, 0, none⟩)) ∧ V.cell? ⟨pb, 0, none⟩ = some (.int .i64 fa) ∧ V.cell? ⟨pb, 1, none⟩ = some (.int .i64 fz)) (by kernel_rfl) (by kernel_rfl) ⟨q0, q1, q2, q3, q4⟩ (fun hHeld => ?_)
    generalize W.drew = wd at *
    refine wpAnyL_take (hwt := by kernel_rfl) (i := 0) (v := ?_) rfl (by kernel_rfl) (by kernel_rfl) (by kernel_rfl) (fun _ _ _ h => h) (Or.inl ⟨by rfl, ?_⟩) (by assumption) ?_
    rotate_left
    · (intro W h; (try dsimp only at h); obtain ⟨s0, s1, s2, s3, s4⟩ := h; go_simp; try with_reducible rfl)
    try simp only [tS]
    refine wpAnyL_take (hwt := by kernel_rfl) (i := 1) (v := ?_) rfl (by kernel_rfl) (by kernel_rfl) (by kernel_rfl) (fun _ _ _ h => h) (Or.inl ⟨by rfl, ?_⟩) (by assumption) ?_
    rotate_left
    · (intro W h; (try dsimp only at h); obtain ⟨s0, s1, s2, s3, s4⟩ := h; go_simp; try with_reducible rfl)
    try simp only [tS]
    refine wpAnyL_take (hwt := by kernel_rfl) (i := 2) (v := ?_) rfl (by kernel_rfl) (by kernel_rfl) (by kernel_rfl) (fun _ _ _ h => h) (Or.inl ⟨by rfl, ?_⟩) (by assumption) ?_
    rotate_left
    · (intro W h; (try dsimp only at h); obtain ⟨s0, s1, s2, s3, s4⟩ := h; go_simp; try with_reducible rfl)
    try simp only [tS]
    refine wpAnyL_take (hwt := by kernel_rfl) (i := 3) (v := ?_) rfl (by kernel_rfl) (by kernel_rfl) (by kernel_rfl) (fun _ _ _ h => h) (Or.inl ⟨by rfl, ?_⟩) (by assumption) ?_
    rotate_left
    · (intro W h; (try dsimp only at h); obtain ⟨s0, s1, s2, s3, s4⟩ := h; go_simp; try with_reducible rfl)
    try simp only [tS]
    refine wpAnyL_take (hwt := by kernel_rfl) (i := 4) (v := ?_) rfl (by kernel_rfl) (by kernel_rfl) (by kernel_rfl) (fun _ _ _ h => h) (Or.inl ⟨by rfl, ?_⟩) (by assumption) ?_
    rotate_left
    · (intro W h; (try dsimp only at h); obtain ⟨s0, s1, s2, s3, s4⟩ := h; go_simp; try with_reducible rfl)
    try simp only [tS]
    refine wpAnyL_take (hwt := by kernel_rfl) (i := 5) (v := ?_) rfl (by kernel_rfl) (by kernel_rfl) (by kernel_rfl) (fun _ _ _ h => h) (Or.inl ⟨by rfl, ?_⟩) (by assumption) ?_
    rotate_left
    · (intro W h; (try dsimp only at h); obtain ⟨s0, s1, s2, s3, s4⟩ := h; go_simp; try with_reducible rfl)
    try simp only [tS]
    refine wpAnyL_take (hwt := by kernel_rfl) (i := 7) (v := ?_) rfl (by kernel_rfl) (by kernel_rfl) (by kernel_rfl) (fun _ _ _ h => h) (Or.inl ⟨by rfl, ?_⟩) (by assumption) ?_
    rotate_left
    · (intro W h; (try dsimp only at h); obtain ⟨s0, s1, s2, s3, s4⟩ := h; go_simp; try with_reducible rfl)
    try simp only [tS]
    refine wpAnyL_take (hwt := by kernel_rfl) (i := 8) (v := ?_) rfl (by kernel_rfl) (by kernel_rfl) (by kernel_rfl) (fun _ _ _ h => h) (Or.inl ⟨by rfl, ?_⟩) (by assumption) ?_
    rotate_left
    · (intro W h; (try dsimp only at h); obtain ⟨s0, s1, s2, s3, s4⟩ := h; go_simp; try with_reducible rfl)
    try simp only [tS]
    refine wpAnyL_take (hwt := by kernel_rfl) (i := 9) (v := ?_) rfl (by kernel_rfl) (by kernel_rfl) (by kernel_rfl) (fun _ _ _ h => h) (Or.inl ⟨by rfl, ?_⟩) (by assumption) ?_
    rotate_left
    · (intro W h; (try dsimp only at h); obtain ⟨s0, s1, s2, s3, s4⟩ := h; go_simp; try with_reducible rfl)
    try simp only [tS]
    refine wpAnyL_take (hwt := by kernel_rfl) (i := 10) (v := ?_) rfl (by kernel_rfl) (by kernel_rfl) (by kernel_rfl) (fun _ _ _ h => h) (Or.inl ⟨by rfl, ?_⟩) (by assumption) ?_
    rotate_left
    · (intro W h; (try dsimp only at h); obtain ⟨s0, s1, s2, s3, s4⟩ := h; go_simp; try with_reducible rfl)
    try simp only [tS]
    refine wpAnyL_one (i := 6) (by kernel_rfl) rfl (fun K hK => ?_)
    rw [if_pos (by rfl)]
    go_simp
    refine HPg2.out.mono ?_
    clear HPg2
    rintro e W2 ⟨g, rfl, hg, ho2, hk2, hp2⟩
    have hsD := HsD.out
    have hWD := HKw.out.size
    have hdW := HBd.out.size
    have kW2 : Keeps F W W2 := (Keeps.of_below HBd.out : Keeps F W wd).trans hk2 (fun i e => .inl e)
    have v2 := kW2.heap HV1.out (hnw _ (by omega))
    have r0 : W2.cell? ⟨w.heap.size + 1, 0, none⟩ = some v := cell_of_block v2 0
    have r1 : W2.cell? ⟨w.heap.size, 0, none⟩ = some (.pointer (some ⟨f, 0, none⟩)) := cell_of_block (kW2.heap HC0.out (hnw _ (Nat.le_refl _))) 0
    obtain ⟨r2, -⟩ := (HFw.out.keep kW2 hfF).head
    have p2 := kW2.heap HPW.out (hnw _ (by omega))
    have r3 : W2.cell? ⟨pb, 0, none⟩ = some (.int .i64 fa) := cell_of_block p2 0
    have r4 : W2.cell? ⟨pb, 1, none⟩ = some (.int .i64 fz) := cell_of_block p2 1
    have hrow2 : rowY W2 wD.heap.size v xs := kW2.row HV2.out (fun i e hh => hnw i (by have := (rowY.ge HV2.out e).1; omega) hh)
    have HRo2 := hid hrow2
    have HV2b := hid v2
    have HP2 := hid hp2
    have HO2 := hid ho2
    have HK2 := hid kW2
    have HPb2 := hid p2
    clear hk2 kW2 v2 p2 hrow2 ho2 hp2 q0 q1 q2 q3 q4
    go_wp2_with fail
    refine hK.out _ _ (fun _ => ⟨r0, r1, r2, r3, r4⟩) (fun hHeld6 => ?_)
    have hHeld := hHeld6 (by decide)
    clear hK K hHeld6
    try simp only [tS]
    refine wpAnyL_take (hwt := by kernel_rfl) (i := 11) (v := .slice (some ⟨g, fa, none⟩) (fz - fa) (512 - fa)) rfl (by kernel_rfl) (by kernel_rfl) (by kernel_rfl) (fun _ _ _ h => h) (Or.inl ⟨by rfl, ?_⟩) (by assumption) ?_
    · (intro W h; (try dsimp only at h); obtain ⟨s0, s1, s2, s3, s4⟩ := h; go_simp; try first | with_reducible rfl | go_num | (rw [if_pos (by assumption)]; simp only [*]) | simp only [*])
    try simp only [tS]
    refine wpAnyL_one (i := 12) (by kernel_rfl) rfl (fun K hK => ?_)
    rw [if_pos (by rfl)]
    have hby : bytesAt W2 ⟨g, fa, none⟩ (((Pg pn).drop fa).take (fz - fa)) := fun j hj => by
      have hj1 : j < fz - fa := by rw [List.length_take] at hj; omega
      have h1 := HO2.out.cell (fa + j) (by rw [HLn.out]; omega)
      rw [Addr.add_mid, h1, List.getElem_take, List.getElem_drop]
    refine wp_append_bytes (.tmp 16) (.tmp 27) rfl rfl ⟨g, fa, none⟩ (fz - fa) (512 - fa) rfl HRo2.out _ (by rw [List.length_take, List.length_drop, HLn.out]; omega) hby (by omega) (by have h1 := HXl.out; have h2 := HM1.out; have h3 := HLt.out; omega) (by have := HK2.out.size; omega) ?_
    intro g9 cap9 w9 hr9 hg9
    have k9 : Keeps (fun i => v.ownBlock = some i) W2 w9 := Keeps.of_grown hg9 (fun i e => e)
    have hge : ∀ i, v.ownBlock = some i → wD.heap.size ≤ i := fun i e => (rowY.ge HRo2.out e).1
    have hv9 := k9.heap HV2b.out (fun e => by have := hge _ e; omega)
    have t0 : w9.cell? ⟨w.heap.size + 1, 0, none⟩ = some v := cell_of_block hv9 0
    have f9 : w9.frozen? ⟨w.heap.size + 1, 0, none⟩ = false := frozen_of_block hv9 0
    have t1 := k9.cell r1 (fun e => by have e' : v.ownBlock = some w.heap.size := e; have := hge _ e'; omega)
    have t2 := k9.cell r2 (fun e => by have e' : v.ownBlock = some f := e; have := hge _ e'; omega)
    have hnpb : ¬ v.ownBlock = some pb := fun e => by
      obtain ⟨cs, h1⟩ := (rowY.ge HRo2.out e).2
      rw [HPb2.out] at h1
      simp only [Option.some.injEq, Obj.cells.injEq] at h1
      exact absurd h1.2.1 (by decide)
    have t3 := k9.cell r3 (fun e => hnpb e)
    have t4 := k9.cell r4 (fun e => hnpb e)
    have HV9 := hid hv9
    have HR9 := hid hr9
    have HK9 := hid k9
    have HGe := hid hge
    clear hv9 hr9 hg9 k9 r0 r1 r2 r3 r4 hby hge
    refine hK.out _ _ (fun _ => ⟨t0, t1, t2, t3, t4⟩) (fun hHeld8 => ?_)
    have hHeld := hHeld8 (by decide)
    clear hK K hHeld8
    try simp only [tS]
    refine wpAnyL_one (i := 13) (by kernel_rfl) rfl (fun K hK => ?_)
    rw [if_pos (by rfl)]
    go_simp
    refine hK.out _ _ (fun hne => absurd rfl hne) (fun _ => ?_)
    clear hK K
    refine wpAnyL_done (by kernel_rfl) ?_ _
    refine JustN.normal ?_
    have kb : Keeps (fun i => i = w.heap.size + 1) w9 (w9.setCell ⟨w.heap.size + 1, 0, none⟩ (.slice (some ⟨g9, 0, none⟩) (xs.length + (fz - fa)) cap9)) := (Keeps.refl _ _).grown (grown_setCell (grown_refl _ _) _ _) (fun i e => .inl (Option.some.inj e).symm)
    have hvb := block_setCell HV9.out 0 (.slice (some ⟨g9, 0, none⟩) (xs.length + (fz - fa)) cap9)
    generalize w9.setCell ⟨w.heap.size + 1, 0, none⟩ (.slice (some ⟨g9, 0, none⟩) (xs.length + (fz - fa)) cap9) = wF at *
    have hg9b := (rowY.ge HR9.out (g := g9) rfl).1
    have k2F : Keeps (fun i => v.ownBlock = some i ∨ i = w.heap.size + 1) W2 wF := (HK9.out.mono (fun i e => .inl e)).trans kb (fun i e => .inl (.inr e))
    have k2B : Keeps (fun i => w.heap.size ≤ i) W2 wF := k2F.mono (fun i e => e.elim (fun e => by have := HGe.out i e; show w.heap.size ≤ i; omega) (fun e => by show w.heap.size ≤ i; omega))
    have kWF : Keeps (fun i => F i ∨ v.ownBlock = some i ∨ i = w.heap.size + 1) W wF := (HK2.out.mono (fun i e => .inl e)).trans k2F (fun i e => .inl (.inr e))
    have hnf : ∀ j, j < w.heap.size → ¬ F j → ¬ (F j ∨ v.ownBlock = some j ∨ j = w.heap.size + 1) := fun j hj hF hh => by
      rcases hh with hh | hh | hh
      · exact hF hh
      · have := HGe.out j hh; omega
      · omega
    refine ⟨⟨kWF.size, fun i ob hi ho hn => ?_⟩, kWF.mono (fun i e => by rcases e with e | e | e; exact .inl e; exact .inr (.inr (HGe.out i e)); exact .inr (.inl e)), HFw.out.keep kWF (hnf f hfl hfF), HMw.out.keep kWF (hnf m hml hmF), ?_, ?_, HKw.out.trans kWF (fun i e => by rcases e with e | e | e; exact .inl (.inl e); exact .inr (HGe.out i e); exact .inl (.inr e))⟩
    · refine kWF.heap ho (fun hh => ?_)
      rcases hh with hh | hh | hh
      · exact hnw i (by omega) hh
      · obtain ⟨cs, h1⟩ := (rowY.ge HV2.out hh).2
        rw [ho] at h1; cases h1; cases hn
      · omega
    · have h1 := HP2.out.keep k2B
      rw [show u + (pre ++ [x]).length = u + pre.length + 1 by rw [List.length_append, List.length_singleton, Nat.add_assoc]]
      exact h1
    · unfold Hid boxY
      rw [HNx.out]
      exact ⟨_, hvb, kb.row HR9.out (fun i e => by obtain rfl : g9 = i := (by simpa [Value.ownBlock] using e); show ¬ g9 = w.heap.size + 1; omega)⟩
  case own1 => exact hs.2.2.1.out.keep (Keeps.of_grown hgr (fun i e => by have h1 := (hr i e).1; have h2 := HsD.out; have h3 := HAs.out; show w.heap.size ≤ i; omega))
  case own2 =>
    obtain ⟨v, h1, h2⟩ := hs.2.2.2.1.out
    have kk : Keeps (fun i => row = some i) A B := Keeps.of_grown hgr (fun i e => e)
    have hne : ∀ {i : Nat} {cs : Array Value} {t : TypeId} {fr : Nat × Nat}, A.heap[i]? = some (.cells cs t fr) → ¬ row = some i := fun {i cs t fr} hc e => by
      obtain ⟨-, ob, h4, h5⟩ := hr _ e
      rw [hc] at h4; cases h4; cases h5
    refine ⟨v, kk.heap h1 (hne h1), kk.row h2 (fun i hi => ?_)⟩
    obtain ⟨cs, hb⟩ := (rowY.ge h2 hi).2
    exact hne hb
  case own3 => exact hs.2.2.2.2.out.trans (Keeps.of_grown hgr (F := fun i => row = some i) (fun i e => e)) (fun i e => .inr (hr i e).1)
  case st => exact ⟨_, HR1.out, World.ownsRow_nil _ _ _ _⟩
  case own4 =>
    obtain ⟨pb, h1, h2, h3⟩ := hs
    exact ⟨pb, h1, h2, grown_block hgr h3 (fun e => by obtain ⟨-, ob, h4, h5⟩ := hr _ e; rw [h3] at h4; cases h4; cases h5)⟩
  case done =>
    rintro D1 ys W hD1 hys ⟨HFw, HMw, HPw, HBw, HKw⟩ hK1
    have hyl : ys.length = M := by
      have h1 := congrArg List.length hys
      rw [List.length_map, length_upTo, HMM.out] at h1
      exact h1
    rw [hys] at HBw
    rw [hyl] at HPw
    obtain ⟨v, hv1, hv2⟩ := HBw.out
    have c0 : W.cell? ⟨w.heap.size + 1, 0, none⟩ = some v := cell_of_block hv1 0
    have HV2 := hid hv2
    have HKD := hid hK1
    have HHD := hid hD1
    clear hys hyl hv1 hv2 hK1 HBw HSt hD1
    gi_wp2
    have hD1 := HHD.out
    have hWD := HKw.out.size
    have hsA := HAs.out
    have hsD := HsD.out
    have hM1 : M ≤ 138 := by have := HMM.out; unfold fillN at this; omega
    have hg5 := grownBy_putObj' W D1 (.deferred none)
    have k5 : Keeps (fun i => some D1 = some i) W (W.putObj D1 (.deferred none)) := Keeps.of_grown hg5 (fun i e => e)
    have hb0 : Below w.heap.size w wD := HAB.out.trans (HDB.out.mono HAB.out.size)
    have hr5 := k5.row HV2.out (fun i e e2 => by
      cases e2
      obtain ⟨cs, h1⟩ := (rowY.ge HV2.out e).2
      rw [HKD.out] at h1; cases h1)
    refine ⟨by simp, .inl ⟨_, _, rfl, run_takeDeferred HKD.out, ?_⟩⟩
    refine ⟨_, results_ifread rfl, ?_⟩
    refine ⟨_, rfl, rowY.down hr5 (by have h1 := hb0.size; omega), ?_, ?_⟩
    · exact (((Keeps.of_below hb0 : Keeps F w wD).trans HKw.out (fun i e => e.elim .inl (fun e => .inr (by omega)))).trans k5 (fun i e => .inr (by cases e; omega)))
    · exact (HPw.out.keep (k5.mono (fun i e => by cases e; show w.heap.size ≤ D1; omega))).pc.more (Nat.le_refl _) (by omega)
  case stop =>
    intro D c pre W hD hpre hx
    exact hx.elim
end
end Go.Proofs.YthdcloaaahhnaaaGreat
/- Read of a store of many pages (written by mk_sr.py). -/
namespace Go.Proofs.YthdcloaaahhnaaaGreat
open Go.RowKit
theorem getD_partL {sl : List Nat} {a z k : Nat} {Pg : Nat → List UInt8} (j : Nat) (hj : j < min (z - k * 512) 512 - (a - k * 512)) : (partL sl a z Pg k).getD j 0 = (Pg (sl.getD (dslot k) 0)).getD (a - k * 512 + j) 0 := by
  unfold partL
  rw [getD_take _ _ _ hj, getD_drop]
theorem length_partL {sl : List Nat} {a z k : Nat} {Pg : Nat → List UInt8} (hL : (Pg (sl.getD (dslot k) 0)).length = 512) : (partL sl a z Pg k).length = min (z - k * 512) 512 - (a - k * 512) := by
  unfold partL
  rw [List.length_take, List.length_drop, hL]
  omega
section
variable {sk : Nat → Prop} {N ino : Nat} {Pg : Nat → List UInt8} {fs : Nat → Option FileA} {i : Nat} {f : FileA}
/-- What the parts tell is what the file has. -/
theorem GoodX.parts (h : GoodX sk N ino Pg fs) (hf : fs i = some f) (a z : Nat) (haz : a < z) (hz : z ≤ f.data.length) : ∀ d, a / 512 + d ≤ fillN z → partsL f.slots a z Pg (upTo (a / 512) (a / 512 + d)) = (f.data.drop a).take (min z ((a / 512 + d) * 512) - a)
  | 0, _ => by
    rw [Nat.add_zero, upTo_none, show min z (a / 512 * 512) - a = 0 by omega, List.take_zero]
    rfl
  | d + 1, hd => by
    have ih := GoodX.parts h hf a z haz hz d (by omega)
    have hok := h.file i f hf
    have hkz : (a / 512 + d) * 512 < z := by unfold fillN at hd; omega
    have hat := h.at_ hf (k := (a / 512 + d) * 512) (by omega)
    rw [Nat.mul_div_cancel _ (by omega)] at hat
    have hL : (Pg (f.slots.getD (dslot (a / 512 + d)) 0)).length = 512 := h.len _ (hok.in_ _ hat.1).2
    rw [← Nat.add_assoc, upTo_succ (by omega)]
    have e1 : partsL f.slots a z Pg (upTo (a / 512) (a / 512 + d) ++ [a / 512 + d]) = partsL f.slots a z Pg (upTo (a / 512) (a / 512 + d)) ++ partL f.slots a z Pg (a / 512 + d) := by
      unfold partsL; rw [List.flatMap_append, List.flatMap_singleton]
    rw [e1, ih]
    have hl1 : ((f.data.drop a).take (min z ((a / 512 + d) * 512) - a)).length = (a / 512 + d) * 512 - a := by rw [List.length_take, List.length_drop]; omega
    have hl2 := length_partL (z := z) (a := a) hL
    refine List.ext_getElem (by rw [List.length_append, hl1, hl2, List.length_take, List.length_drop]; omega) (fun j h1 h2 => ?_)
    have hj : j < min z ((a / 512 + d + 1) * 512) - a := by rw [List.length_take, List.length_drop] at h2; omega
    rw [List.getElem_take, List.getElem_drop]
    by_cases hc : j < (a / 512 + d) * 512 - a
    · rw [List.getElem_append_left (by rw [hl1]; exact hc), List.getElem_take, List.getElem_drop]
    · rw [List.getElem_append_right (by rw [hl1]; omega)]
      have hq : j - ((a / 512 + d) * 512 - a) < min (z - (a / 512 + d) * 512) 512 - (a - (a / 512 + d) * 512) := by omega
      have g1 := getD_partL (sl := f.slots) (Pg := Pg) (k := a / 512 + d) (z := z) (a := a) (j - ((a / 512 + d) * 512 - a)) hq
      have hlt : j - ((f.data.drop a).take (min z ((a / 512 + d) * 512) - a)).length < (partL f.slots a z Pg (a / 512 + d)).length := by rw [hl1, hl2]; exact hq
      have g2 : (partL f.slots a z Pg (a / 512 + d))[j - ((f.data.drop a).take (min z ((a / 512 + d) * 512) - a)).length] = (partL f.slots a z Pg (a / 512 + d)).getD (j - ((a / 512 + d) * 512 - a)) 0 := by
        rw [List.getD_eq_getElem?_getD, List.getElem?_eq_getElem (by rw [hl2]; exact hq)]
        simp only [hl1, Option.getD_some]
      rw [g2, g1]
      have hda := h.data i f hf (a + j) (by omega)
      have e2 : (a + j) / 512 = a / 512 + d := by omega
      have e3 : (a + j) % 512 = a - (a / 512 + d) * 512 + (j - ((a / 512 + d) * 512 - a)) := by omega
      rw [e2, e3] at hda
      unfold FileA.slot at hda
      rw [hda, List.getD_eq_getElem?_getD, List.getElem?_eq_getElem (by omega)]
      rfl
end
section
variable {w w' : World} {s m c ino : Nat} {F : Nat → Prop} {N : Nat} {Pg Cm : Nat → List UInt8} {fs : Nat → Option FileA} {o u k : Nat} {i : Nat} {f : FileA}
set_option maxRecDepth 100000 in
theorem rRead_none (h : Sr w s m c F N ino Pg Cm fs o u k) (hf : fs i = some f) (hu : u < 900000) (a n : Nat) (ha : f.data.length ≤ a) :
    Calls Tryz.prog 13 #[.pointer (some ⟨s, 0, none⟩), .int .i64 i, .int .i64 a, .int .i64 n] w fun e w' => e = .returned (.tuple #[.slice none 0 0, .int .i64 0]) ∧ Keeps F w w' ∧ Sr w' s m c F N ino Pg Cm fs o (u + 2) k := by
  have HGt := hid (iGet_sr h hf (by omega))
  have hok := h.good.file i f hf
  have hnf := h.good.nf
  have HNl : Hid ((nodeC f.node).length = 15) := by unfold Hid nodeC; rw [List.length_append, List.length_map, (hok.node (by omega) h.good.n4).pages]; rfl
  have HN3 : Hid ((nodeC f.node)[3]? = some (.int .i64 f.data.length)) := rfl
  have HFl := hid h.lt
  have ha0 : ¬ ((a : Int) < 0) := by omega
  have hn0 : ¬ ((n : Int) < 0) := by omega
  have hz : (f.data.length : Int) ≤ (a : Int) := by omega
  unfold nodeV at HGt
  clear h hf hok hnf
  have hnc1 := nodeC_one f.node
  generalize nodeC f.node = nc at *
  have HN1 := hid hnc1
  clear hnc1
  go_enter Tryz.func13, Tryz.ntmps13
  go_wp2_with fail
  refine HGt.out.mono ?_
  clear HGt
  rintro e w1 ⟨rfl, hk1, hs1⟩
  have HS1 := hid hs1
  have HK1 := hid hk1
  clear hk1 hs1
  go_wp2_with (refine wpList_store_block rfl 100 (.tmp 10) (.tmp 16) rfl w1.heap.size nc.toArray rfl rfl _ _ (block_new w1 _) (by rw [List.size_toArray, HNl.out]; rfl) (by rw [List.size_toArray, HNl.out]; kernel_rfl) HN1.out ?_; intro w2 hg2 hb2 hz2; have c3 : w2.cell? ⟨w1.heap.size, 3, none⟩ = some (.int .i64 f.data.length) := (by rw [cell_of_block hb2, List.getElem?_toArray]; exact HN3.out); have hb12 : Below w1.heap.size w1 w2 := ((Below.refl _ w1).alloc (Nat.le_refl _) _).grown hg2 (by simp) (fun k e => by cases e; exact Nat.le_refl _); have HB12 := hid hb12; have HR2 := hid hb2; clear hg2 hb2 hz2 hb12)
  go_returns
  exact ⟨rfl, HK1.out.trans (Keeps.of_below HB12.out : Keeps F w1 w2) (fun i e => .inl e), HS1.out.below HB12.out⟩
set_option maxRecDepth 100000 in
theorem rRead_st (h : Sr w s m c F N ino Pg Cm fs o u k) (hf : fs i = some f) (hu : u < 900000) (a n : Nat) (ha : a < f.data.length) (hn : 0 < n) (hn7 : n ≤ 1000000) :
    Calls Tryz.prog 13 #[.pointer (some ⟨s, 0, none⟩), .int .i64 i, .int .i64 a, .int .i64 n] w fun e w' => ∃ v, e = .returned (.tuple #[v, .int .i64 0]) ∧ rowY w' w.heap.size v ((f.data.drop a).take n) ∧ Keeps F w w' ∧ Sr w' s m c F N ino Pg Cm fs o (u + 141) k := by
  obtain ⟨z, hz⟩ : ∃ z, z = a + min n (f.data.length - a) := ⟨_, rfl⟩
  have hok := h.good.file i f hf
  have hnf := h.good.nf
  have hsz := hok.size
  have hgp := h.good.parts hf a z (by omega) (by omega) (fillN z - a / 512) (by unfold fillN; omega)
  rw [show a / 512 + (fillN z - a / 512) = fillN z by unfold fillN; omega, show min z (fillN z * 512) - a = min n (f.data.length - a) by unfold fillN; omega] at hgp
  have hgp2 : (f.data.drop a).take (min n (f.data.length - a)) = (f.data.drop a).take n := by
    rw [show min n (f.data.length - a) = min n (f.data.drop a).length by rw [List.length_drop], List.take_eq_take_min.symm]
  rw [hgp2] at hgp
  have HGt := hid (iGet_sr h hf (by omega))
  have HOp := hid (fun W D (hm : mapB W m c ino) (hp : Pc W c F 100 N Pg Cm D o (u + 2)) => iopen_good hm hp h.good hf (by omega))
  have HRd := hid (fun W p D (hm : mapB W m c ino) (hW : fileB W p m (f.S i f.data.length)) (hpF : ¬ F p) (hp : Pc W c F 100 N Pg Cm D o (u + 3)) => ifread_any a z hm h.mF hW hpF hok.len (by omega) (by omega) (by omega) (fun k _ hk => hok.lt (by omega) (dslot k)) hp)
  have HGp : Hid (partsL (f.S i f.data.length).slots a z Pg (upTo (a / 512) (fillN z)) = (f.data.drop a).take n) := hgp
  have HNl : Hid ((nodeC f.node).length = 15) := by unfold Hid nodeC; rw [List.length_append, List.length_map, (hok.node (by omega) h.good.n4).pages]; rfl
  have HN3 : Hid ((nodeC f.node)[3]? = some (.int .i64 f.data.length)) := rfl
  have HFl := hid h.lt
  have HGd := hid h.good
  have HFw := hid h.few
  have ha0 : ¬ ((a : Int) < 0) := by omega
  have hn0 : ¬ ((n : Int) < 0) := by omega
  obtain ⟨sz, hszd⟩ : ∃ sz, sz = f.data.length := ⟨_, rfl⟩
  rw [← hszd] at HN3 ha hsz hz
  have hlt : ¬ ((sz : Int) ≤ (a : Int)) := by omega
  have hmn : min (n : Int) ((sz : Int) - (a : Int)) = ((min n (sz - a) : Nat) : Int) := by omega
  have hzz : (a : Int) + ((min n (sz - a) : Nat) : Int) = (z : Int) := by omega
  have hsz7 : (sz : Int) ≤ 70656 := by omega
  have hz7 : (z : Int) ≤ 70656 := by omega
  have HMn := hid hmn
  have HZz := hid hzz
  unfold nodeV at HGt HOp
  unfold gV at HOp
  clear h hf hok hnf hgp hgp2 hz hmn hzz hszd
  have hnc1 := nodeC_one f.node
  generalize nodeC f.node = nc at *
  have HN1 := hid hnc1
  clear hnc1
  go_enter Tryz.func13, Tryz.ntmps13
  go_wp2_with fail
  refine HGt.out.mono ?_
  clear HGt
  rintro e w1 ⟨rfl, hk1, hs1⟩
  have c1 := hs1.store.cell
  have HS1 := hid hs1
  have HK1 := hid hk1
  clear hk1 hs1
  go_wp2_with (refine wpList_store_block rfl 100 (.tmp 10) (.tmp 16) rfl w1.heap.size nc.toArray rfl rfl _ _ (block_new w1 _) (by rw [List.size_toArray, HNl.out]; rfl) (by rw [List.size_toArray, HNl.out]; kernel_rfl) HN1.out ?_; intro w2 hg2 hb2 hz2; have c3 : w2.cell? ⟨w1.heap.size, 3, none⟩ = some (.int .i64 sz) := (by rw [cell_of_block hb2, List.getElem?_toArray]; exact HN3.out); have hb12 : Below w1.heap.size w1 w2 := ((Below.refl _ w1).alloc (Nat.le_refl _) _).grown hg2 (by simp) (fun k e => by cases e; exact Nat.le_refl _); have HB12 := hid hb12; have HR2 := hid hb2; clear hg2 hb2 hz2 hb12)
  have hs2 := HS1.out.below HB12.out
  have hbd : Below w2.heap.size w2 w2.drew := (Below.refl _ w2).drew
  have hs3 := hs2.below hbd
  have hr3 := below_block hbd HR2.out (lt_of_heap HR2.out)
  have d0 := hs3.store.cell
  have d3 := (hbd.cell (World.block_lt_of_cell? w2 _ c3)).trans c3
  have HBd := hid hbd
  have HS3 := hid hs3
  have HR3 := hid hr3
  obtain ⟨D, hrm3, hp3⟩ := hs3.pc
  have HRm := hid hrm3
  clear hrm3
  have HO3 := hid (HOp.out w2.drew D hs3.map hp3)
  clear hbd hs2 hs3 hp3 HOp c1 c3
  refine wp_region_noPanic ?_
  refine wp_region_held_drew (S := fun W => W.cell? ⟨s, 0, none⟩ = some (.pointer (some ⟨m, 0, none⟩)) ∧ W.heap[w1.heap.size]? = some (.cells nc.toArray 100 (0, 0)) ∧ W.cell? ⟨w1.heap.size, 3, none⟩ = some (.int .i64 sz)) (by kernel_rfl) ⟨d0, hr3, d3⟩ (fun hHeld => ?_)
  clear hr3
  generalize w2.drew = wd at *
  refine tk 0 ?_ rfl (by kernel_rfl) (fun _ _ _ h => h) (by rfl) (by assumption) ?_ ?_
  rotate_left
  · (intro W h; (try dsimp only at h); obtain ⟨s0, s1, s2⟩ := h; go_simp; try with_reducible rfl)
  try simp only [tS]
  refine tk 1 ?_ rfl (by kernel_rfl) (fun _ _ _ h => h) (by rfl) (by assumption) ?_ ?_
  rotate_left
  · (intro W h; (try dsimp only at h); obtain ⟨s0, s1, s2⟩ := h; go_simp; try with_reducible rfl)
  try simp only [tS]
  refine tk 2 ?_ rfl (by kernel_rfl) (fun _ _ _ h => h) (by rfl) (by assumption) ?_ ?_
  rotate_left
  · (intro W h; (try dsimp only at h); obtain ⟨s0, s1, s2⟩ := h; go_simp; try with_reducible rfl)
  try simp only [tS]
  refine tk 3 ?_ rfl (by kernel_rfl) (fun _ _ _ h => h) (by rfl) (by assumption) ?_ ?_
  rotate_left
  · (intro W h; (try dsimp only at h); obtain ⟨s0, s1, s2⟩ := h; go_simp; try with_reducible rfl)
  try simp only [tS]
  refine tk 4 ?_ rfl (by kernel_rfl) (fun _ _ _ h => h) (by rfl) (by assumption) ?_ ?_
  rotate_left
  · (intro W h; (try dsimp only at h); obtain ⟨s0, s1, s2⟩ := h; go_simp; try with_reducible rfl)
  try simp only [tS]
  refine wpAnyH_take (i := 5) (v := .agg nc.toArray) rfl (by kernel_rfl) (by kernel_rfl) (by kernel_rfl) (fun _ _ _ h => h) (yieldsIf_load_mid (by rfl) 100 (.tmp 10) rfl w1.heap.size 0 rfl nc _ (fun W hW => by have := range_of_block hW.2.1; exact this) Tryz.underlying100 rfl (by rw [HNl.out]; kernel_rfl)) (by assumption) ?_
  try simp only [tS]
  refine tk 7 ?_ rfl (by kernel_rfl) (fun _ _ _ h => h) (by rfl) (by assumption) ?_ ?_
  rotate_left
  · (intro W h; (try dsimp only at h); obtain ⟨s0, s1, s2⟩ := h; go_simp; try with_reducible rfl)
  try simp only [tS]
  refine tk 8 ?_ rfl (by kernel_rfl) (fun _ _ _ h => h) (by rfl) (by assumption) ?_ ?_
  rotate_left
  · (intro W h; (try dsimp only at h); obtain ⟨s0, s1, s2⟩ := h; go_simp; try with_reducible rfl)
  try simp only [tS]
  refine tk 9 ?_ rfl (by kernel_rfl) (fun _ _ _ h => h) (by rfl) (by assumption) ?_ ?_
  rotate_left
  · (intro W h; (try dsimp only at h); obtain ⟨s0, s1, s2⟩ := h; go_simp; try with_reducible rfl)
  try simp only [tS]
  refine tk 10 ?_ rfl (by kernel_rfl) (fun _ _ _ h => h) (by rfl) (by assumption) ?_ ?_
  rotate_left
  · (intro W h; (try dsimp only at h); obtain ⟨s0, s1, s2⟩ := h; go_simp; try with_reducible rfl)
  try simp only [tS]
  refine tk 11 ?_ rfl (by kernel_rfl) (fun _ _ _ h => h) (by rfl) (by assumption) ?_ ?_
  rotate_left
  · (intro W h; (try dsimp only at h); obtain ⟨s0, s1, s2⟩ := h; go_simp; try with_reducible rfl)
  try simp only [tS]
  refine tk 12 ?_ rfl (by kernel_rfl) (fun _ _ _ h => h) (by rfl) (by assumption) ?_ ?_
  rotate_left
  · (intro W h; (try dsimp only at h); obtain ⟨s0, s1, s2⟩ := h; go_simp; try with_reducible rfl)
  try simp only [tS]
  have hw1 : IntKind.i64.wrap ((sz : Int) - (a : Int)) = (sz : Int) - (a : Int) := IntWalk.i64_in _ (by omega)
  refine tk 13 (.int .i64 ((sz : Int) - (a : Int))) rfl (by kernel_rfl) (fun _ _ _ h => h) (by rfl) (by assumption) ?_ ?_
  · (intro W h; (try dsimp only at h); obtain ⟨s0, s1, s2⟩ := h; go_simp; try first | with_reducible rfl | go_num | (rw [if_pos (by assumption)]; simp only [*]) | simp only [*])
  try simp only [tS]
  have hmn := HMn.out
  refine tk 14 (.int .i64 (min n (sz - a) : Nat)) rfl (by kernel_rfl) (fun _ _ _ h => h) (by rfl) (by assumption) ?_ ?_
  · (intro W h; (try dsimp only at h); obtain ⟨s0, s1, s2⟩ := h; go_simp; try first | with_reducible rfl | go_num | (rw [if_pos (by assumption)]; simp only [*]) | simp only [*])
  try simp only [tS]
  have hzz := HZz.out
  have hw2 : IntKind.i64.wrap (z : Int) = (z : Int) := IntWalk.i64_in _ (by omega)
  refine tk 15 (.int .i64 (z : Int)) rfl (by kernel_rfl) (fun _ _ _ h => h) (by rfl) (by assumption) ?_ ?_
  · (intro W h; (try dsimp only at h); obtain ⟨s0, s1, s2⟩ := h; go_simp; try first | with_reducible rfl | go_num | (rw [if_pos (by assumption)]; simp only [*]) | simp only [*])
  try simp only [tS]
  clear hw1 hmn hzz hw2
  refine wpAnyH_ready (rs := [6]) (by kernel_rfl) (by simp) (AllReadyH.cons rfl (fun K hK => ?_) AllReadyH.nil)
  rw [if_pos (by rfl)]
  go_simp
  refine HO3.out.mono ?_
  clear HO3
  rintro e w4 ⟨p, rfl, hp4, hf4, hk4, hq4⟩
  have hwl := HB12.out.size
  have hwk := HK1.out.size
  have hwd := HBd.out.size
  have kw4 : Keeps F w w4 := ((HK1.out.trans (Keeps.of_below HB12.out : Keeps F w1 w2) (fun i e => .inl e)).trans (Keeps.of_below HBd.out : Keeps F w2 wd) (fun i e => .inl e)).trans hk4 (fun i e => .inl e)
  have hnF : ∀ j, w.heap.size ≤ j → ¬ F j := fun j hj hh => by have := HFl.out j hh; omega
  have HP4 := hid (HRd.out w4 p D (HS3.out.map.keep hk4 HS3.out.mF) hf4 (hnF p (by omega)) hq4)
  have hst4 := HS3.out.store.keep hk4 HS3.out.sF
  have e0 := hst4.cell
  have r4 := hk4.heap HR3.out (hnF _ (by omega))
  have e3 := hk4.cell d3 (hnF _ (by omega))
  have HST4 : Hid (mapB w4 m c ino ∧ storeB w4 s m) := ⟨HS3.out.map.keep hk4 HS3.out.mF, hst4⟩
  have HR4 := hid r4
  have HK4 := hid kw4
  have HNF := hid hnF
  clear hf4 hk4 hq4 kw4 hst4 hnF HRd HR3 d0 d3
  go_wp2_with fail
  refine hK.out _ _ ⟨e0, r4, e3⟩ (fun hHeld => ?_)
  clear hK K r4
  try simp only [tS]
  refine wpAnyH_ready (rs := [16]) (by kernel_rfl) (by simp) (AllReadyH.cons rfl (fun K hK => ?_) AllReadyH.nil)
  rw [if_pos (by rfl)]
  go_simp
  refine HP4.out.mono ?_
  clear HP4
  rintro e w5 ⟨v, rfl, hr5, hk5, hp5⟩
  have r5 := hk5.heap HR4.out (HNF.out _ (by omega))
  have g3 := hk5.cell e3 (HNF.out _ (by omega))
  have hst5 : Sr w5 s m c F N ino Pg Cm fs o (u + 141) k := ⟨HST4.out.1.keep hk5 HS3.out.mF, HST4.out.2.keep hk5 HS3.out.sF, HS3.out.mF, HS3.out.sF, HFw.out, ⟨D, HRm.out, hp5⟩, HGd.out⟩
  have g0 := hst5.store.cell
  have HST5 := hid hst5
  rw [HGp.out] at hr5
  have HR5 := hid (rowY.down (b' := w.heap.size) hr5 HK4.out.size)
  have HK5 : Hid (Keeps F w w5) := HK4.out.trans hk5 (fun i e => .inl e)
  clear hr5 hk5 hst5 e0 e3 hp5
  go_wp2_with fail
  refine hK.out _ _ ⟨g0, r5, g3⟩ (fun hHeld => ?_)
  clear hK K
  try simp only [tS]
  refine tk 17 ?_ rfl (by kernel_rfl) (fun _ _ _ h => h) (by rfl) (by assumption) ?_ ?_
  rotate_left
  · (intro W h; (try dsimp only at h); obtain ⟨s0, s1, s2⟩ := h; go_simp; try with_reducible rfl)
  try simp only [tS]
  refine tk 18 ?_ rfl (by kernel_rfl) (fun _ _ _ h => h) (by rfl) (by assumption) ?_ ?_
  rotate_left
  · (intro W h; (try dsimp only at h); obtain ⟨s0, s1, s2⟩ := h; go_simp; try with_reducible rfl)
  try simp only [tS]
  refine wpAnyH_done (by kernel_rfl) ?_ _
  refine NoPanic.normal ?_
  clear hHeld
  go_wp2_with fail
  go_returns
  exact ⟨v, rfl, HR5.out, HK5.out, HST5.out⟩
theorem rowY.in_ {base : Nat} {v : Value} {xs : List UInt8} (h : rowY w base v xs) : ∃ ad cp, v = .slice ad xs.length cp ∧ bytesIn w ad xs := by
  rcases h.2 with ⟨e, h0⟩ | ⟨g0, cap0, cur, e, h1, h2, h3, h4, h5, h6⟩
  · exact ⟨none, 0, by rw [e, h0], fun j hj => by omega⟩
  · refine ⟨some ⟨g0, 0, none⟩, cap0, e, fun j hj => ⟨g0, 0, rfl, fun i hi => ?_⟩⟩
    rw [cell_of_block h2, Nat.zero_add]
    have h7 : (cur.toList.take (xs.length * 1))[i]? = (xs.map U8)[i]? := by rw [h6]
    rw [List.getElem?_take_of_lt (by omega), List.getElem?_map, List.getElem?_eq_getElem hi] at h7
    rw [← Array.getElem?_toList, h7]
    rfl
/-- Read of all bytes. -/
theorem rRead_all (h : Sr w s m c F N ino Pg Cm fs o u k) (hf : fs i = some f) (hu : u < 900000) :
    Calls Tryz.prog 13 #[.pointer (some ⟨s, 0, none⟩), .int .i64 i, .int .i64 0, .int .i64 70656] w fun e w' => ∃ ad cp, e = .returned (.tuple #[.slice ad f.data.length cp, .int .i64 0]) ∧ bytesIn w' ad f.data ∧ Keeps F w w' ∧ Sr w' s m c F N ino Pg Cm fs o (u + 141) k := by
  by_cases h0 : f.data.length = 0
  · refine (rRead_none h hf hu 0 70656 (by omega)).mono ?_
    rintro e w' ⟨rfl, hk, hst⟩
    exact ⟨none, 0, by rw [h0], fun j hj => by omega, hk, hst.more (by omega)⟩
  · refine (rRead_st h hf hu 0 70656 (by omega) (by omega) (by omega)).mono ?_
    rintro e w' ⟨v, rfl, hr, hk, hst⟩
    rw [List.drop_zero, List.take_of_length_le (h.good.file i f hf).size] at hr
    obtain ⟨ad, cp, rfl, hb⟩ := rowY.in_ hr
    exact ⟨ad, cp, rfl, hb, hk, hst⟩
end
end Go.Proofs.YthdcloaaahhnaaaGreat
/- TopFiles: some files, one behind the other. -/
namespace Go.Proofs.YthdcloaaahhnaaaGreat
open Go.RowKit
/-- Files from lo on, below hi. -/
def fsK (A : Nat → FileA) (lo hi : Nat) : Nat → Option FileA := fun i => if lo ≤ i ∧ i < hi then some (A i) else none
theorem fsK_in {A : Nat → FileA} {lo hi i : Nat} (h : lo ≤ i) (h2 : i < hi) : fsK A lo hi i = some (A i) := if_pos ⟨h, h2⟩
theorem fsK_out {A : Nat → FileA} {lo hi i : Nat} (h : i < lo ∨ hi ≤ i) : fsK A lo hi i = none := if_neg (by omega)
theorem fsK_none (A : Nat → FileA) (k : Nat) : fsK A k k = fun _ => none := by funext i; exact fsK_out (by omega)
theorem fsK_add (A : Nat → FileA) (lo hi : Nat) (h : lo ≤ hi) (f : FileA) : updA (fsK A lo hi) hi (some f) = fsK (fun i => if i = hi then f else A i) lo (hi + 1) := by
  funext i
  by_cases e : i = hi
  · subst e; rw [updA_self, fsK_in h (Nat.lt_succ_self _), if_pos rfl]
  · rw [updA_ne e]
    unfold fsK
    by_cases h1 : lo ≤ i ∧ i < hi
    · rw [if_pos h1, if_pos ⟨h1.1, by omega⟩]; exact congrArg some (if_neg e).symm
    · rw [if_neg h1, if_neg (by omega)]
theorem fsK_low (A : Nat → FileA) (lo hi : Nat) : updA (fsK A lo hi) lo none = fsK A (lo + 1) hi := by
  funext i
  by_cases e : i = lo
  · subst e; rw [updA_self, fsK_out (by omega)]
  · rw [updA_ne e]
    unfold fsK
    by_cases h1 : lo ≤ i ∧ i < hi
    · rw [if_pos h1, if_pos (by omega)]
    · rw [if_neg h1, if_neg (by omega)]
theorem fsK_high (A : Nat → FileA) (lo hi : Nat) : updA (fsK A lo (hi + 1)) hi none = fsK A lo hi := by
  funext i
  by_cases e : i = hi
  · subst e; rw [updA_self, fsK_out (by omega)]
  · rw [updA_ne e]
    unfold fsK
    by_cases h1 : lo ≤ i ∧ i < hi
    · rw [if_pos h1, if_pos (by omega)]
    · rw [if_neg h1, if_neg (by omega)]
section
variable {N ino : Nat} {Pg Pg' : Nat → List UInt8} {A : Nat → FileA}
/-- The next inode. -/
theorem GoodX.nextK {k : Nat} (h : GoodX noSk N ino Pg (fsK A 1 k)) (hk : 1 ≤ k) (hi : k < ino) : ∃ rest, freeTo (Pg 1) 1 ino 4096 = k :: rest := by
  have h5 := h.i5
  refine freeTo_is (fun j hj => ?_) ?_ (by omega)
  · unfold isFree
    by_cases h0 : 1 ≤ j
    · have := (h.ibit j (by omega)).2 (.inr (by rw [fsK_in h0 hj]; rfl))
      rw [this]; simp
    · rw [decide_eq_false (by omega)]; rfl
  · unfold isFree
    have hb : bitL (Pg 1) k = false := by
      cases hb : bitL (Pg 1) k with
      | false => rfl
      | true =>
        rcases (h.ibit k hi).1 hb with e | e
        · omega
        · rw [fsK_out (by omega)] at e; cases e
    rw [hb, decide_eq_true (by omega)]; rfl
/-- As many inodes are free. -/
theorem GoodX.freeI {fs : Nat → Option FileA} (h : GoodX noSk N ino Pg fs) (h' : GoodX noSk N ino Pg' fs) : freeTo (Pg 1) 1 ino 4096 = freeTo (Pg' 1) 1 ino 4096 := by
  unfold freeTo
  refine List.filter_congr (fun y hy => ?_)
  unfold isFree
  by_cases hlt : y < ino
  · have h1 := (h.ibit y hlt).trans (h'.ibit y hlt).symm
    have e : bitL (Pg 1) y = bitL (Pg' 1) y := by
      cases e1 : bitL (Pg 1) y <;> cases e2 : bitL (Pg' 1) y <;> simp_all
    rw [e]
  · simp [hlt]
theorem sumK_le (A : Nat → FileA) (lo hi c : Nat) (hl : lo ≤ hi) (hc : ∀ i, lo ≤ i → i < hi → (A i).cnt ≤ c) : ∀ n, sumC (fsK A lo hi) n ≤ (min n hi - min n lo) * c
  | 0 => by simp [sumC]
  | n + 1 => by
    have ih := sumK_le A lo hi c hl hc n
    have e : sumC (fsK A lo hi) (n + 1) = sumC (fsK A lo hi) n + cntO (fsK A lo hi n) := by
      unfold sumC; rw [List.range_succ, List.map_append, List.sum_append]; simp
    rw [e]
    by_cases h1 : lo ≤ n ∧ n < hi
    · have h2 : cntO (fsK A lo hi n) ≤ c := by rw [fsK_in h1.1 h1.2]; exact hc n h1.1 h1.2
      rw [show min (n + 1) hi - min (n + 1) lo = min n hi - min n lo + 1 by omega, Nat.succ_mul]
      omega
    · have h2 : cntO (fsK A lo hi n) = 0 := by rw [fsK_out (by omega)]; rfl
      rw [h2, show min (n + 1) hi - min (n + 1) lo = min n hi - min n lo by omega]
      exact ih
end
/-- The bytes of file n. -/
def fB (n k : Nat) : UInt8 := UInt8.ofNat (n + k % 250)
def fL (n z : Nat) : List UInt8 := (List.range z).map (fB n)
theorem length_fL (n z : Nat) : (fL n z).length = z := by simp [fL]
def fTo (n z k : Nat) : List UInt8 := fL n k ++ zN (z - k)
theorem fTo_zero (n z : Nat) : fTo n z 0 = zN z := by simp [fTo, fL]
theorem fTo_full (n z : Nat) : fTo n z z = fL n z := by rw [fTo, Nat.sub_self]; exact List.append_nil _
theorem length_fTo (n z k : Nat) (h : k ≤ z) : (fTo n z k).length = z := by
  rw [fTo, List.length_append, length_fL, length_zN]; omega
theorem fTo_succ (n z k : Nat) (h : k < z) : (fTo n z k).set k (fB n k) = fTo n z (k + 1) := by
  have e : z - k = (z - (k + 1)) + 1 := by omega
  rw [fTo, fTo, List.set_append_right _ _ (by rw [length_fL]; exact Nat.le_refl _), length_fL, Nat.sub_self, e, zN, List.replicate_succ, List.set_cons_zero]
  unfold fL
  rw [List.range_succ, List.map_append, List.append_assoc]
  rfl
theorem fB_wrap (n k : Nat) : ((fB n k).toNat : Int) = IntKind.u8.wrap ((n : Int) + (k : Int) % 250) := by
  unfold fB
  rw [UInt8.toNat_ofNat', IntKind.wrap_u8]
  omega
end Go.Proofs.YthdcloaaahhnaaaGreat
/- TopFiles' walk. -/
namespace Go.Proofs.YthdcloaaahhnaaaGreat
open Go.RowKit
theorem good_noneG {N : Nat} {Pg : Nat → List UInt8} (hN : 8 ≤ N) (hN1 : N ≤ 639) (hl : ∀ p, p < N → (Pg p).length = 512) (h1 : Pg 1 = bitsTo 1) (h2 : Pg 2 = bitsTo 7) : GoodX noSk N 32 Pg (fun _ => none) := by
  refine ⟨by omega, by omega, by decide, by omega, hl, fun i hi => ?_, fun i f h => (by cases h), fun i f h => (by cases h), fun i f h => (by cases h), fun i f h => (by cases h), fun i f h => (by cases h), fun p hp1 hp2 => ?_, fun i f j i' f' j' h => (by cases h)⟩
  · rw [h1, bitL_bitsTo 1 i (by omega)]
    simp
  · rw [h2, bitL_bitsTo 7 p (by omega), decide_eq_false (by omega)]
    exact ⟨fun h => (by cases h), fun ⟨_, _, _, h, _⟩ => (by cases h)⟩
theorem wpList_make_u8G {w : World} {ops : Array Oper} {rest : List Oper} {o : Oper} {a : Act} {Q : Exit → Act → World → Prop} (hg : o.guard = none) (l c : Operand) (hop : o.op = Op.makeSlice 46 l c)
    (n : Nat) (x : Int) (hx : x = n) (hl : a.eval l = .int .i64 x) (hc : a.eval c = .int .i64 x) (hm : n ≤ 10000)
    (h : ∀ w1 : World, Below w.heap.size w w1 → w1.heap[w.heap.size]? = some (.cells (List.replicate n (Value.int .u8 0)).toArray 5 (0, 0)) → w1.heap.size = w.heap.size + 1 →
      wpList Tryz.prog ops Q rest (a.put o.dst (.slice (some ⟨w.heap.size, 0, none⟩) n n)) w1) : wpList Tryz.prog ops Q (o :: rest) a w := by
  subst hx
  obtain ⟨i, hi, hz, hs, hb⟩ := info_parts infoU8
  refine wpList_plain hg fun K hK' => ?_
  have hrun := run_make (P := Tryz.prog) w 46 5 i (.int .u8 0) Tryz.underlying46 hi hz .i64 .i64 n n (by omega) (by omega) (by rw [hb]; omega) (by omega)
  unfold Oper.wp
  simp only [Int.toNat_natCast, hs, madeU8] at hrun
  generalize (List.replicate n (Value.int .u8 0)).toArray = Z at *
  simp [execOp, hop, hl, hc, hrun, Result.andThen]
  exact hK' _ _ (h _ ((Below.refl _ _).alloc (Nat.le_refl _) _) (block_new _ _) (by simp))
def u16In (w : World) (a : Option Addr) (xs : List Int) : Prop := ∀ j, j < xs.length → ∃ b o, a = some ⟨b, o, none⟩ ∧ ∀ i (hi : i < xs.length), w.cell? ⟨b, o + i, none⟩ = some (.int .u16 xs[i]) ∧ 0 ≤ xs[i] ∧ xs[i] ≤ 65535
/-- The size of file i, counted from 0. -/
def zS (xs : List Int) (i : Nat) : Nat := (xs.getD i 0 % 9000).toNat
def nsK (k : Nat) : List Int := (List.range k).map (fun i => ((i + 1 : Nat) : Int))
theorem length_nsK (k : Nat) : (nsK k).length = k := by simp [nsK]
theorem nsK_succ (k : Nat) : nsK k ++ [((k + 1 : Nat) : Int)] = nsK (k + 1) := by unfold nsK; rw [List.range_succ, List.map_append]; rfl
theorem nsK_snoc {w : World} {base : Nat} {v : Value} {k : Nat} (h : rowN w base v (nsK k ++ [(k : Int) + 1])) : rowN w base v (nsK (k + 1)) := by
  rw [← nsK_succ]; exact h
theorem nsK_at (k j : Nat) (hj : j < (nsK k).length) : (nsK k)[j] = ((j + 1 : Nat) : Int) := by simp [nsK]
/-- The store stays when a row of numbers is written. -/
theorem Sr.row {w w' : World} {s m c ino : Nat} {F : Nat → Prop} {N : Nat} {Pg Cm : Nat → List UInt8} {fs : Nat → Option FileA} {o u k base : Nat} {v : Value} {ns : List Int} (h : Sr w s m c F N ino Pg Cm fs o u k) (hr : rowN w base v ns) (hF : ∀ i, v.ownBlock = some i → ¬ F i) (kp : Keeps (fun i => v.ownBlock = some i) w w') : Sr w' s m c F N ino Pg Cm fs o u k := by
  obtain ⟨D, hrm, hp⟩ := h.pc
  have hb : ∀ i, v.ownBlock = some i → ∃ cur, w.heap[i]? = some (.cells cur 3 (0, 0)) := fun i e => by
    rcases hr.1.2 with ⟨e3, -⟩ | ⟨g0, cap, cur, e3, -, h6, -⟩
    · rw [e3] at e; cases e
    · rw [e3] at e; cases e; exact ⟨cur, h6⟩
  have hm : ¬ v.ownBlock = some m := fun e => by
    obtain ⟨cur, h1⟩ := hb m e
    have h2 := h.map
    unfold mapB at h2
    rw [h1] at h2
    simp at h2
  have hs : ¬ v.ownBlock = some s := fun e => by
    obtain ⟨cur, h1⟩ := hb s e
    have h2 := h.store
    unfold storeB at h2
    rw [h1] at h2
    simp at h2
  exact ⟨h.map.keep kp hm, h.store.keep kp hs, h.mF, h.sF, h.few, ⟨D, hrm, hp.keepYs (fun b e => hr.2 b e) (fun b e => hF b e) kp⟩, h.good⟩
/-- The store with some files, and the row of their numbers. -/
def FiAt (w0 w : World) (s m c : Nat) (A : Nat → FileA) (lo hi : Nat) (v : Value) (ns : List Int) (O U : Nat) : Prop := ∃ F Pg o u, (∀ i, F i → w0.heap.size ≤ i) ∧ Below w0.heap.size w0 w ∧ Sr w s m c F 600 32 Pg Pg (fsK A lo hi) o u 100 ∧ rowN w w0.heap.size v ns ∧ (∀ i, v.ownBlock = some i → ¬ F i) ∧ o ≤ O ∧ u ≤ U
theorem FiAt.le {w0 w : World} {s m c lo hi O U O' U' : Nat} {A : Nat → FileA} {v : Value} {ns : List Int} (h : FiAt w0 w s m c A lo hi v ns O U) (h1 : O ≤ O') (h2 : U ≤ U') : FiAt w0 w s m c A lo hi v ns O' U' := by
  obtain ⟨F, Pg, o, u, q1, q2, q3, q4, q5, q6, q7⟩ := h
  exact ⟨F, Pg, o, u, q1, q2, q3, q4, q5, by omega, by omega⟩
theorem row_lt {w : World} {base g n cap : Nat} {ns : List Int} (h : rowN w base (.slice (some ⟨g, 0, none⟩) n cap) ns) : g < w.heap.size := by
  rcases h.1.2 with ⟨e3, -⟩ | ⟨g0, cap, cur, e3, -, h6, -⟩
  · cases e3
  · cases e3; exact lt_of_heap h6
def DataOk (xs : List Int) (A : Nat → FileA) (k : Nat) : Prop := ∀ i, 1 ≤ i → i ≤ k → (A i).data = fL i (zS xs (i - 1))
theorem zS_lt (xs : List Int) (i : Nat) : zS xs i < 9000 := by unfold zS; omega
/-- There is always room. -/
theorem free_K {Pg : Nat → List UInt8} {A : Nat → FileA} {xs : List Int} {lo hi : Nat} (h : GoodX noSk 600 32 Pg (fsK A lo hi)) (hl : 1 ≤ lo) (hh : lo ≤ hi) (hk : hi ≤ 16) (hd : DataOk xs A (hi - 1)) : 20 ≤ (frL Pg 600 32).length ∧ ∀ i, lo ≤ i → i < hi → (A i).cnt ≤ 19 := by
  have hc : ∀ i, lo ≤ i → i < hi → (A i).cnt ≤ 19 := fun i h1 h2 => by
    obtain ⟨-, e, -⟩ := h.node i (A i) (fsK_in h1 h2) (fun e => e)
    rw [e, hd i (by omega) (by omega), length_fL]
    have := zS_lt xs (i - 1)
    unfold needN fillN
    split
    · omega
    · split <;> omega
  have h1 := h.free
  have h2 := sumK_le A lo hi 19 hh hc 32
  refine ⟨?_, hc⟩
  have h3 : (min 32 hi - min 32 lo) * 19 ≤ 15 * 19 := Nat.mul_le_mul_right _ (by omega)
  omega
set_option maxRecDepth 100000 in
set_option maxHeartbeats 8000000 in
theorem files_walk (xs : List Int) (xa : Option Addr) (xc : Nat) (turn : Bool) (w : World) (hx : u16In w xa xs) : Calls Tryz.prog 3 #[.slice xa xs.length xc, .bool turn] w fun e w' => e = .returned (.bool true) ∧ Below w.heap.size w w' := by
  have hmay : mayP 600 32 := by unfold mayP; omega
  have hNp : pagesS (freshN 701) 100 = 600 := by unfold pagesS; rw [freshN_len]
  have HNp := hid hNp
  have HMy := hid hmay
  have hma := made_at 600 32 4 (fun _ => zN 512)
  have hdk := dkD_putLD 600 (empK 600 32 4) (fun _ => false)
  rw [dkD_none, length_empK, List.length_nil] at hdk
  have HMa := hid hma
  have HDk := hid hdk
  have hz : ∀ k, k < 600 → secL (freshN 701) (1 + 100 + k) = zN 512 := fun k hk => by
    unfold secL
    rw [freshN_seen 701 (1 + 100 + k) (by omega)]
    exact blank_zeros
  have HZ := hid hz
  have HX := hid hx
  clear hNp hmay hma hdk hz hx
  go_enter Tryz.func3, Tryz.ntmps3
  go_wp2_with fail
  refine (new_disk 701 (by omega) (by omega) _).mono ?_
  rintro e w1 ⟨d, rfl, hD, -, -, hB⟩
  have HD : Hid (DiskIn w1 d (freshN 701)) := hD
  have HB1 := hid hB
  have HOp := hid (open_zero d (freshN 701) 100 w1 HD.out (by show 0 ≤ 4096; decide) (by omega) (by rw [freshN_len]; omega) (by rw [show ((0 : Int)) = ((0 : Nat) : Int) from rfl, freshN_seen 701 0 (by omega)]; exact blank_zeros))
  clear hD hB HD
  go_wp2_with fail
  refine HOp.out.mono ?_
  clear HOp
  rintro e w2 ⟨hb2, p, d2, rfl, hp2, hL2⟩
  have hpl := lt_of_heap hL2.heap
  have HB2 := hid (HB1.out.trans (hb2.mono HB1.out.size))
  have HNw := hid (bnew_ok p d2 (freshN 701) 100 (fun i => w1.heap.size ≤ i ∧ i < p) 8 (by omega) (by omega) w2 hL2 (fun i hi => by omega) (by rw [freshN_len]; omega))
  have hs1 := HB1.out.size
  have hs2 := hb2.size
  clear hb2 hL2
  go_wp2_with fail
  refine HNw.out.mono ?_
  clear HNw
  rintro e w3 ⟨hb3, c, L, rfl, hc3, hdv, hLF, hft, hC3⟩
  have HB3 := hid (HB2.out.trans (hb3.mono HB2.out.size))
  have hlt3 := lt_of_heap hC3.log.heap
  have hp3 : Pc w3 c (fun i => L.foot c i) 100 600 (fun _ => zN 512) (fun _ => zN 512) (fun _ => false) 0 0 := by
    have hC := hC3
    rw [HNp.out] at hC
    exact ⟨L, _, ⟨hC, rfl, rfl, made_fresh _ (by simp) (fun s hs => by rw [List.eq_of_mem_replicate hs]; exact blank_size), Nat.le_refl _, Nat.le_refl _, fun k hk => HZ.out k hk, fun k hk => HZ.out k hk, fun _ => rfl, by rw [CS.dirtyKeys_none rfl]; simp, fun i hi => hi, fun i hi => hC.footLt i hi, hlt3, rfl, headOk_fresh 701 (by omega)⟩⟩
  have HF : Hid (∀ i, L.foot c i → w.heap.size ≤ i) := fun i hi => by
    rcases hft i hi with h | h
    · omega
    · omega
  have HMk := hid (amake_any 32 hp3)
  have HP3 := hid hp3
  clear hb3 hC3 hft hdv hLF hp3
  go_wp2_with fail
  refine HMk.out.mono ?_
  clear HMk
  rintro e w4 ⟨hk4, hx⟩
  rcases hx with ⟨h, -⟩ | ⟨k, hk, -, hx⟩
  · exact absurd HMy.out h
  obtain rfl : k = 32 := by omega
  rcases hx with ⟨h, -⟩ | ⟨-, m, hm, hmF, hmb, rfl, hp4⟩
  · rw [dkD_none] at h; exact absurd h (by decide)
  have HK4 := hid hk4
  have HMm := hid hmb
  have HP4 := hid hp4
  have HmF := hid hmF
  have HNi := hid (iNew_ok m w4)
  clear hk4 hmb hp4 hmF hk
  go_wp2_with fail
  refine HNi.out.mono ?_
  clear HNi
  rintro e w5 ⟨rfl, hs5, hb5⟩
  have HS5 := hid hs5
  have HB5 := hid hb5
  have HCo := hid ((HP4.out.below hb5).commit (by omega))
  clear hs5 hb5
  go_wp2_with fail
  refine HCo.out.mono ?_
  clear HCo
  rintro e w7 ⟨rfl, hk7, F7, hF7, hF7', hp7⟩
  have hFl := HP3.out.lt
  have h34 := HK4.out.size
  have h45 := HB5.out.size
  have hml : m < w4.heap.size := lt_of_heap HMm.out
  have hsl : w4.heap.size < w5.heap.size := lt_of_heap HS5.out
  have hm7 := (HMm.out.below HB5.out).keep hk7 HmF.out
  have hs7 := HS5.out.keep hk7 (fun hh => by have := hFl _ hh; omega)
  have hmF7 : ¬ F7 m := fun hh => (hF7' m hh).elim HmF.out (fun e => by omega)
  have hsF7 : ¬ F7 w4.heap.size := fun hh => (hF7' _ hh).elim (fun e => by have := hFl _ e; omega) (fun e => by omega)
  have hst : Sr w7 w4.heap.size m c F7 600 32 (putL (fun _ => zN 512) (empK 600 32 4)) (putL (fun _ => zN 512) (empK 600 32 4)) (fun _ => none) 206 0 100 :=
    ⟨hm7, hs7, hmF7, hsF7, by omega, ⟨_, .inl (by rw [dkD_none]; decide), hp7⟩, good_noneG (by omega) (by omega) (fun p hp => hp7.len p hp) HMa.out.2.1 HMa.out.2.2⟩
  have HB7 : Hid (Below w.heap.size w w7) := ((HB3.out.trans (HK4.out.below HB3.out.size (fun i hi => HF.out i hi))).trans (HB5.out.mono (by have := HB3.out.size; omega))).trans (hk7.below (by have := HB3.out.size; omega) (fun i hi => HF.out i hi))
  have HF7 : Hid (∀ i, F7 i → w.heap.size ≤ i) := fun i hi => (hF7' i hi).elim (fun e => HF.out i e) (fun e => by have := HB3.out.size; omega)
  have HST := hid hst
  clear hm7 hs7 hmF7 hsF7 hst hp7 hk7 hF7 hF7' hFl HP3 HP4 HK4 HB5 HB3 HB2 HB1 HMm HmF HS5 HF HMa HDk HZ HMy HNp
  obtain ⟨s, hs⟩ : ∃ s, s = w4.heap.size := ⟨_, rfl⟩
  rw [← hs] at HST ⊢
  generalize putL (fun _ => zN 512) (empK 600 32 4) = Pg0 at *
  have HFr := hid (rFree_any HST.out (by omega))
  clear hs
  go_wp2_with fail
  refine HFr.out.mono ?_
  clear HFr
  rintro e w8 ⟨rfl, hk8, hS8⟩
  have HG0 := hid hS8.good
  have HFi : Hid (FiAt w w8 s m c (fun _ => newA 1 420) 1 1 (.slice none 0 0) (nsK 0) 206 2) :=
    ⟨F7, Pg0, 206, 2, HF7.out, HB7.out.trans (hk8.below HB7.out.size (fun i hi => HF7.out i hi)), by rw [fsK_none]; exact hS8, rowN_nil _ _, fun i hi => (by cases hi), Nat.le_refl _, Nat.le_refl _⟩
  clear hk8 hS8 HB7 HF7 HST
  obtain ⟨p0, hp0⟩ : ∃ p0, p0 = (frL Pg0 600 32).length := ⟨_, rfl⟩
  obtain ⟨i0, hi0⟩ : ∃ i0, i0 = (freeTo (Pg0 1) 1 32 4096).length := ⟨_, rfl⟩
  rw [← hp0, ← hi0]
  have HP0 := hid hp0
  have HI0 := hid hi0
  clear hp0 hi0
  go_wp2
  go_loopw [17, 18] (fun av kv wr => ∃ (k : Nat) (A : Nat → FileA) (pa : Option Addr) (pc : Nat), k ≤ 15 ∧ k ≤ xs.length ∧ kv = .int .i64 k ∧ av = .slice pa k pc ∧ Hid (DataOk xs A k) ∧ Hid (FiAt w wr s m c A 1 (k + 1) (.slice pa k pc) (nsK k) (206 * (k + 1)) (1000 * (k + 1)))) (fun _ kv _ => 16 - (intOf kv).toNat)
  case atStart =>
    refine ⟨0, _, none, 0, by omega, by omega, rfl, rfl, (show DataOk xs (fun _ => newA 1 420) 0 from fun i h1 h2 => by omega), ?_⟩
    obtain ⟨F, Pg, o, u, h1, h2, h3, h4, h5, h6, h7⟩ := HFi.out
    exact ⟨F, Pg, o, u, h1, h2, h3, h4, h5, by omega, by omega⟩
  case round =>
    obtain ⟨k, A, pa, pc, hk15, hkx, rfl, rfl, HD, HI⟩ := hrel
    by_cases hkk : k < xs.length ∧ k < 15
    · obtain ⟨hk1, hk2⟩ := hkk
      obtain ⟨F, Pg, o, u, hF, hB, hS, hR, hRF, ho, hu⟩ := HI.out
      have hk1' : (k : Int) < (xs.length : Int) := by omega
      have hk2' : (k : Int) < 15 := by omega
      obtain ⟨xb, xo, hxa, hxc⟩ := HX.out k hk1
      obtain ⟨hx1, hx2, hx3⟩ := hxc k hk1
      obtain ⟨y, hy⟩ : ∃ y, y = xs[k] := ⟨_, rfl⟩
      rw [← hy] at hx1 hx2 hx3
      obtain ⟨z, hz⟩ : ∃ z, z = zS xs k := ⟨_, rfl⟩
      have hz9 : z < 9000 := by rw [hz]; exact zS_lt xs k
      have hyz : y % 9000 = (z : Int) := by
        rw [hz]
        unfold zS
        rw [List.getD_eq_getElem?_getD, List.getElem?_eq_getElem hk1, Option.getD_some, ← hy]
        omega
      have hyt : Int.tmod y 9000 = (z : Int) := by rw [Int.tmod_eq_emod_of_nonneg hx2]; exact hyz
      subst hxa
      obtain ⟨rest, hfr⟩ := hS.good.nextK (by omega) (by omega)
      have hroom := (free_K (xs := xs) hS.good (by omega) (by omega) (by omega) HD.out).1
      have HMk := hid (rMake_ok (k := 97) hS (by omega) 1 420 (k + 1) rest (by omega) (by omega) (by omega) hfr (by omega))
      have HFl := hid hS.lt
      have HF := hid hF
      have HB := hid hB
      have HR := hid hR
      have HRF := hid hRF
      have HO := hid ho
      have HU := hid hu
      have HRm := hid hroom
      have HZ := hid hz
      have HX1 := hid hx1
      clear HI hF hB hS hR hRF ho hu hfr hroom hz hy hxc hx1 HFi
      go_wp2_with fail
      refine HMk.out.mono ?_
      clear HMk
      rintro e w9 ⟨rfl, hk9, hS9⟩
      have hB9 := HB.out.trans (hk9.below HB.out.size (fun i hi => HF.out i hi))
      have cx : w9.cell? ⟨xb, xo + k, none⟩ = some (.int .u16 y) := (hB9.cell (World.block_lt_of_cell? w _ HX1.out)).trans HX1.out
      have HR9 := hid (HR.out.keep hk9 HRF.out)
      have HB9 := hid hB9
      have HS9 := hid hS9
      have HK9 := hid hk9
      clear hk9 hS9 hB9 HR HB
      go_wp2_with (refine wpList_make_u8G rfl _ _ rfl z z rfl rfl rfl (by omega) ?_; intro w10 hb10 hr10 hz10; have HB10 := hid hb10; have HR10 : Hid (ownB w10 w9.heap.size (zN z)) := (by unfold Hid ownB; rw [hr10, rep_U8]); clear hb10 hr10 hz10)
      obtain ⟨g, hg⟩ : ∃ g, g = w9.heap.size := ⟨_, rfl⟩
      rw [← hg] at HR10 ⊢
      have HG := hid hg
      clear cx hg hyt hyz hx2 hx3
      go_loopw [22] (fun jv wr => ∃ q : Nat, q ≤ z ∧ jv = .int .i64 q ∧ Hid (ownB wr g (fTo (k + 1) z q)) ∧ Hid (Keeps (fun i => i = g) w10 wr)) (fun jv _ => z - (intOf jv).toNat)
      case atStart => exact ⟨0, by omega, rfl, by rw [fTo_zero]; exact HR10, Keeps.refl _ _⟩
      case round =>
        obtain ⟨q, hq, rfl, hOw, hKi⟩ := hrel
        by_cases hq5 : q < z
        · have hq0 : (0 : Int) ≤ (q : Int) := by omega
          have hq1 : (q : Int) < (z : Nat) := by omega
          obtain ⟨old, cl⟩ : ∃ v, wr.cell? ⟨g, q, none⟩ = some v := ⟨_, hOw.out.cell q (by rw [length_fTo _ _ _ hq]; exact hq5)⟩
          have fl := hOw.out.frozen q
          have hs := hOw.out.set q (fB (k + 1) q)
          rw [fTo_succ (k + 1) z q hq5, fB_wrap (k + 1) q] at hs
          have HSt := hid hs
          clear hs
          go_wp2
          exact ⟨⟨q + 1, by omega, by go_num, HSt, hKi.out.grown (grown_setCell (grown_refl _ _) _ _) (fun i e => .inl (Option.some.inj e).symm)⟩, by simp [intOf]; omega⟩
        · have hqz : z = q := by omega
          subst hqz
          have hOf := hOw.out
          rw [fTo_full] at hOf
          have hge : ¬ (z : Int) < (z : Int) := by omega
          clear hq hq5
          have hbw : Below w9.heap.size w9 wr := HB10.out.trans (hKi.out.below HB10.out.size (fun i e => by have h5 := HG.out; have e' : i = g := e; omega))
          have hSw := HS9.out.below hbw
          have hgF : ¬ F g := fun hh => by have h5 := HS9.out.lt g hh; have h6 := HG.out; omega
          have hll : (fL (k + 1) z).length = z := length_fL _ _
          have hu := HU.out
          have ho := HO.out
          have hwr := rWrite_new hSw (updA_self _ _ _) (by omega) (fL (k + 1) z) g hOf hgF (by rw [hll]; omega) (by rw [makP_two]; exact HRm.out)
          rw [hll] at hwr
          have HWr := hid hwr
          have HBw := hid (HB9.out.trans (hbw.mono HB9.out.size))
          have HRw := hid (HR9.out.below hbw)
          clear hwr hgF hSw hOf hbw hll HB10 HR10 HB9 HR9 HS9 HK9 hOw hKi hu ho HG HRm
          go_wp2_with fail
          refine HWr.out.mono ?_
          clear HWr
          rintro e w11 ⟨rfl, hk11, Pg', f', h1, h2, h3, h4, hS11⟩
          rw [updA_twice, fsK_add A 1 (k + 1) (by omega)] at hS11
          have HCo := hid (rCommit_ok hS11 (by have := HO.out; omega))
          have HRx := hid (HRw.out.keep hk11 HRF.out)
          have HBx := hid (HBw.out.trans (hk11.below HBw.out.size (fun i hi => HF.out i hi)))
          have HD4 := hid h4
          clear hk11 hS11 h1 h2 h3 h4 HRw HBw
          go_wp2_with fail
          refine HCo.out.mono ?_
          clear HCo
          rintro e w12 ⟨rfl, hk12, F', hF1, hF2, hS12⟩
          have hb12 := HBx.out.trans (hk12.below HBx.out.size (fun i hi => HF.out i hi))
          have hr12 := HRx.out.keep hk12 HRF.out
          obtain ⟨W, hW⟩ : ∃ W, W = w12.alloc (.cells #[.int .i64 ((k : Int) + 1)] 3) := ⟨_, rfl⟩
          have hbW : Below w12.heap.size w12 W := by rw [hW]; exact (Below.refl _ w12).alloc (Nat.le_refl _) _
          have HCq : Hid (W.cell? ⟨w12.heap.size, 0, none⟩ = some (.int .i64 ((k : Int) + 1))) := by rw [hW]; exact cell_of_block (block_new w12 _) 0
          have HPr := hid (hr12.below hbW)
          have hS12W := hS12.below hbW
          have HS12 := hid hS12W
          have HB12 := hid (hb12.trans (hbW.mono hb12.size))
          have HF12 : Hid (∀ i, F' i → w.heap.size ≤ i) := fun i hi => (hF2 i hi).elim (fun e => HF.out i e) (fun e => by have := HBx.out.size; omega)
          have HRF12 : Hid (∀ i, (Value.slice pa k pc).ownBlock = some i → ¬ F' i) := fun i e hh => (hF2 i hh).elim (HRF.out i e) (fun e2 => by
            rcases HRx.out.1.2 with ⟨e3, -⟩ | ⟨g0, cap, cur, e3, -, h6, -⟩
            · rw [e3] at e; cases e
            · rw [e3] at e; cases e; have h7 := lt_of_heap h6; have h8 : w11.heap.size ≤ g0 := e2; omega)
          have HSz : Hid (w.heap.size ≤ W.heap.size) := HB12.out.size
          have HW := hid hW
          clear hW hbW hr12 hb12 hS12 hS12W hk12 hF1 hF2 HRx HBx
          have HDk : Hid (DataOk xs (fun i => if i = k + 1 then f' else A i) (k + 1)) := fun i h1 h2 => by
            by_cases e : i = k + 1
            · subst e
              simp only [if_true]
              rw [HD4.out, HZ.out]
              rfl
            · simp only [e, if_false]
              exact HD.out i h1 (by omega)
          go_wp2_with (rw [← HW.out]; refine wpList_append_int rfl (.tmp 121) (.tmp 123) rfl rfl ((k : Int) + 1) w12.heap.size 1 rfl HPr.out HCq.out (by rw [length_nsK]; omega) HSz.out ?_; intro g9 cap9 w13 hr13 hg13 hat13; rw [length_nsK]; have hr14 := nsK_snoc hr13; rw [length_nsK] at hr14; have HR13 := hid hr14; have HG13 := hid hg13; have HAt := hid hat13; clear hr13 hg13 hat13 hr14)
          have k13 : Keeps (fun i => (Value.slice pa k pc).ownBlock = some i) W w13 := Keeps.of_grown HG13.out (fun i e => e)
          have hS13 := HS12.out.row HPr.out HRF12.out k13
          have HFi : Hid (FiAt w w13 s m c (fun i => if i = k + 1 then f' else A i) 1 (k + 1 + 1) (.slice (some ⟨g9, 0, none⟩) (k + 1) cap9) (nsK (k + 1)) (206 * (k + 1 + 1)) (1000 * (k + 1 + 1))) :=
            ⟨F', Pg', _, _, HF12.out, HB12.out.trans (k13.below HB12.out.size (fun i e => HPr.out.ge e)), hS13, HR13.out, fun i e hh => by
              have e2 : g9 = i := by simpa [Value.ownBlock] using e
              subst e2
              rcases HAt.out with h5 | h5
              · exact HRF12.out _ h5 hh
              · have h6 := HS12.out.lt _ hh; omega, by have := HO.out; omega, by have := HU.out; omega⟩
          clear k13 hS13
          go_wp2
          exact ⟨⟨k + 1, _, some ⟨g9, 0, none⟩, cap9, by omega, by omega, by go_num, rfl, HDk, HFi⟩, by simp [intOf]; omega⟩
    · by_cases hkx2 : k < xs.length
      · have hkx3 : (k : Int) < (xs.length : Int) := by omega
        have hk15' : ¬ (k : Int) < 15 := by omega
        go_wp2
        go_loopw [23] (fun kv wr => ∃ q : Nat, q ≤ k ∧ kv = .int .i64 q ∧ Hid (FiAt w wr s m c A 1 (k + 1) (.slice pa k pc) (nsK k) (206 * (k + 1)) (1000 * (k + 1) + 200 * q))) (fun kv _ => k - (intOf kv).toNat)
        case atStart => exact ⟨0, by omega, rfl, HI⟩
        case round =>
          obtain ⟨q, hq, rfl, HI⟩ := hrel
          by_cases hqk : q < k
          · obtain ⟨F, Pg, o, u, hF, hB, hS, hR, hRF, ho, hu⟩ := HI.out
            have hqk' : (q : Int) < (k : Int) := by omega
            have hqx : q < xs.length := by omega
            have hqx' : (q : Int) < (xs.length : Int) := by omega
            obtain ⟨g0, cap, e, hc⟩ := hR.cell q (by rw [length_nsK]; omega)
            rw [nsK_at] at hc
            rw [length_nsK, Value.slice.injEq] at e
            obtain ⟨e, -, -⟩ := e
            obtain ⟨xb, xo, hxa, hxc⟩ := HX.out q hqx
            obtain ⟨hx1, hx2, hx3⟩ := hxc q hqx
            obtain ⟨y, hy⟩ : ∃ y, y = xs[q] := ⟨_, rfl⟩
            rw [← hy] at hx1 hx2 hx3
            obtain ⟨z, hz⟩ : ∃ z, z = zS xs q := ⟨_, rfl⟩
            have hz9 : z < 9000 := by rw [hz]; exact zS_lt xs q
            have hyz : y % 9000 = (z : Int) := by
              rw [hz]
              unfold zS
              rw [List.getD_eq_getElem?_getD, List.getElem?_eq_getElem hqx, Option.getD_some, ← hy]
              omega
            have hyt : Int.tmod y 9000 = (z : Int) := by rw [Int.tmod_eq_emod_of_nonneg hx2]; exact hyz
            subst hxa
            subst e
            have hdt : (A (q + 1)).data = fL (q + 1) z := by rw [hz]; exact HD.out (q + 1) (by omega) (by omega)
            have hrd := rRead_all hS (fsK_in (show 1 ≤ q + 1 by omega) (show q + 1 < k + 1 by omega)) (by omega)
            rw [hdt, length_fL] at hrd
            have HRd := hid hrd
            have HF := hid hF
            have HB := hid hB
            have HR := hid hR
            have HRF := hid hRF
            have HO := hid ho
            have HU := hid hu
            have HX1 := hid hx1
            have HC := hid hc
            have HG := hid hS.good
            have c1 : wr.cell? ⟨g0, q, none⟩ = some (.int .i64 ((q : Int) + 1)) := hc
            clear HI hF hB hS hR hRF ho hu hz hy hxc hx1 hdt hrd hc
            go_wp2_with fail
            refine HRd.out.mono ?_
            clear HRd
            rintro e w9 ⟨ad, cp, rfl, hby, hk9, hS9⟩
            have hB9 := HB.out.trans (hk9.below HB.out.size (fun i hi => HF.out i hi))
            have cx : w9.cell? ⟨xb, xo + q, none⟩ = some (.int .u16 y) := (hB9.cell (World.block_lt_of_cell? w _ HX1.out)).trans HX1.out
            have hR9 := HR.out.keep hk9 HRF.out
            have c9 : w9.cell? ⟨g0, q, none⟩ = some (.int .i64 ((q : Int) + 1)) := hk9.cell HC.out (HRF.out g0 rfl)
            have HFi : Hid (FiAt w w9 s m c A 1 (k + 1) (.slice (some ⟨g0, 0, none⟩) k pc) (nsK k) (206 * (k + 1)) (1000 * (k + 1) + 200 * (q + 1))) := ⟨F, Pg, o, u + 141, HF.out, hB9, hS9, hR9, HRF.out, HO.out, by have := HU.out; omega⟩
            have HBy := hid hby
            clear hk9 hS9 hB9 hR9 hby c1 HB HR HC HX1
            go_wp2_with fail
            clear cx hyt hyz hx2 hx3
            go_loopw [26] (fun jv wr => ∃ t : Nat, t ≤ z ∧ jv = .int .i64 t ∧ Hid (Below w9.heap.size w9 wr)) (fun jv _ => z - (intOf jv).toNat)
            case atStart => exact ⟨0, by omega, rfl, Below.refl _ _⟩
            case round =>
              obtain ⟨t, ht, rfl, HBt⟩ := hrel
              by_cases htz : t < z
              · have htz' : (t : Int) < (z : Int) := by omega
                obtain ⟨bb, bo, hade, hbc⟩ := HBy.out t (by rw [length_fL]; exact htz)
                subst hade
                have h5 := hbc t (by rw [length_fL]; exact htz)
                have e5 : ((fL (q + 1) z)[t]'(by rw [length_fL]; exact htz)) = fB (q + 1) t := by simp [fL]
                rw [e5, fB_wrap] at h5
                have b1 : wr.cell? ⟨bb, bo + t, none⟩ = some (.int .u8 (IntKind.u8.wrap (((q + 1 : Nat) : Int) + (t : Int) % 250))) := (HBt.out.cell (World.block_lt_of_cell? w9 _ h5)).trans h5
                have c1 : wr.cell? ⟨g0, q, none⟩ = some (.int .i64 ((q : Int) + 1)) := (HBt.out.cell (World.block_lt_of_cell? w9 _ c9)).trans c9
                have eq1 : ((q + 1 : Nat) : Int) = (q : Int) + 1 := by omega
                rw [eq1] at b1
                clear h5 e5 hbc eq1
                obtain ⟨x8, hx8⟩ : ∃ x8, x8 = IntKind.u8.wrap ((q : Int) + 1 + (t : Int) % 250) := ⟨_, rfl⟩
                rw [← hx8] at b1
                have HX8 := hid hx8
                clear hx8
                go_wp2_with fail
                have hbd : Below wr.heap.size wr wr.drew := (Below.refl _ wr).drew
                have d0 := (hbd.cell (World.block_lt_of_cell? wr _ b1)).trans b1
                have d1 := (hbd.cell (World.block_lt_of_cell? wr _ c1)).trans c1
                have HBw := hid (HBt.out.trans (hbd.mono HBt.out.size))
                clear b1 c1 hbd
                refine wp_region_noPanic ?_
                refine wp_region_held_drew (S := fun W => W.cell? ⟨bb, bo + t, none⟩ = some (.int .u8 x8) ∧ W.cell? ⟨g0, q, none⟩ = some (.int .i64 ((q : Int) + 1))) (by kernel_rfl) ⟨d0, d1⟩ (fun hHeld => ?_)
                generalize wr.drew = wd at *
                have hm5 : Int.tmod (t : Int) 250 = (t : Int) % 250 := Int.tmod_eq_emod_of_nonneg (by omega)
                have hw5 : IntKind.i64.wrap ((q : Int) + 1 + (t : Int) % 250) = (q : Int) + 1 + (t : Int) % 250 := IntWalk.i64_in _ (by omega)
                refine tk 0 ?_ rfl (by kernel_rfl) (fun _ _ _ h => h) (by rfl) (by assumption) ?_ ?_
                rotate_left
                · (intro W h; (try dsimp only at h); obtain ⟨s0, s1⟩ := h; go_simp; try with_reducible rfl)
                try simp only [tS]
                refine tk 1 ?_ rfl (by kernel_rfl) (fun _ _ _ h => h) (by rfl) (by assumption) ?_ ?_
                rotate_left
                · (intro W h; (try dsimp only at h); obtain ⟨s0, s1⟩ := h; go_simp; try with_reducible rfl)
                try simp only [tS]
                refine tk 2 ?_ rfl (by kernel_rfl) (fun _ _ _ h => h) (by rfl) (by assumption) ?_ ?_
                rotate_left
                · (intro W h; (try dsimp only at h); obtain ⟨s0, s1⟩ := h; go_simp; try with_reducible rfl)
                try simp only [tS]
                refine tk 3 ?_ rfl (by kernel_rfl) (fun _ _ _ h => h) (by rfl) (by assumption) ?_ ?_
                rotate_left
                · (intro W h; (try dsimp only at h); obtain ⟨s0, s1⟩ := h; go_simp; try with_reducible rfl)
                try simp only [tS]
                refine tk 4 ?_ rfl (by kernel_rfl) (fun _ _ _ h => h) (by rfl) (by assumption) ?_ ?_
                rotate_left
                · (intro W h; (try dsimp only at h); obtain ⟨s0, s1⟩ := h; go_simp; try with_reducible rfl)
                try simp only [tS]
                refine tk 5 ?_ rfl (by kernel_rfl) (fun _ _ _ h => h) (by rfl) (by assumption) ?_ ?_
                rotate_left
                · (intro W h; (try dsimp only at h); obtain ⟨s0, s1⟩ := h; go_simp; try with_reducible rfl)
                try simp only [tS]
                refine tk 6 ?_ rfl (by kernel_rfl) (fun _ _ _ h => h) (by rfl) (by assumption) ?_ ?_
                rotate_left
                · (intro W h; (try dsimp only at h); obtain ⟨s0, s1⟩ := h; go_simp; try with_reducible rfl)
                try simp only [tS]
                refine tk 7 ?_ rfl (by kernel_rfl) (fun _ _ _ h => h) (by rfl) (by assumption) ?_ ?_
                rotate_left
                · (intro W h; (try dsimp only at h); obtain ⟨s0, s1⟩ := h; go_simp; try with_reducible rfl)
                try simp only [tS]
                refine tk 8 ?_ rfl (by kernel_rfl) (fun _ _ _ h => h) (by rfl) (by assumption) ?_ ?_
                rotate_left
                · (intro W h; (try dsimp only at h); obtain ⟨s0, s1⟩ := h; go_simp; try with_reducible rfl)
                try simp only [tS]
                refine tk 9 (.int .i64 ((t : Int) % 250)) rfl (by kernel_rfl) (fun _ _ _ h => h) (by rfl) (by assumption) ?_ ?_
                · (intro W h; (try dsimp only at h); obtain ⟨s0, s1⟩ := h; go_simp; try first | with_reducible rfl | go_num | (rw [if_pos (by assumption)]; simp only [*]) | simp only [*])
                try simp only [tS]
                refine tk 10 (.int .i64 ((q : Int) + 1 + (t : Int) % 250)) rfl (by kernel_rfl) (fun _ _ _ h => h) (by rfl) (by assumption) ?_ ?_
                · (intro W h; (try dsimp only at h); obtain ⟨s0, s1⟩ := h; go_simp; try first | with_reducible rfl | go_num | (rw [if_pos (by assumption)]; simp only [*]) | simp only [*])
                try simp only [tS]
                have hx8' := HX8.out.symm
                refine tk 11 (.int .u8 x8) rfl (by kernel_rfl) (fun _ _ _ h => h) (by rfl) (by assumption) ?_ ?_
                · (intro W h; (try dsimp only at h); obtain ⟨s0, s1⟩ := h; go_simp; try first | with_reducible rfl | go_num | (rw [if_pos (by assumption)]; simp only [*]) | simp only [*])
                try simp only [tS]
                refine tk 12 (.bool false) rfl (by kernel_rfl) (fun _ _ _ h => h) (by rfl) (by assumption) ?_ ?_
                · (intro W h; (try dsimp only at h); obtain ⟨s0, s1⟩ := h; go_simp; try first | with_reducible rfl | go_num | (rw [if_pos (by assumption)]; simp only [*]) | simp only [*])
                try simp only [tS]
                refine wpAnyH_done (by kernel_rfl) ?_ _
                refine NoPanic.normal ?_
                clear hHeld d0 d1 hm5 hw5 hx8'
                go_wp2
                exact ⟨⟨t + 1, by omega, by go_num, HBw⟩, by simp [intOf]; omega⟩
              · have htz2 : t = z := by omega
                subst htz2
                have hge : ¬ (t : Int) < (t : Int) := by omega
                have HFj : Hid (FiAt w wr s m c A 1 (k + 1) (.slice (some ⟨g0, 0, none⟩) k pc) (nsK k) (206 * (k + 1)) (1000 * (k + 1) + 200 * (q + 1))) := by
                  obtain ⟨F, Pg, o, u, h1, h2, h3, h4, h5, h6, h7⟩ := HFi.out
                  exact ⟨F, Pg, o, u, h1, h2.trans (HBt.out.mono h2.size), h3.below HBt.out, h4.below HBt.out, h5, h6, h7⟩
                go_wp2
                exact ⟨⟨q + 1, by omega, by go_num, HFj⟩, by simp [intOf]; omega⟩
          · have hqk2 : k = q := by omega
            subst hqk2
            have hge : ¬ (k : Int) < (k : Int) := by omega
            cases turn with
            | false =>
              go_wp2
              go_loopw [27] (fun kv wr => ∃ q : Nat, q ≤ k ∧ kv = .int .i64 q ∧ Hid (FiAt w wr s m c A (q + 1) (k + 1) (.slice pa k pc) (nsK k) (206 * (k + 1) + 206 * q) (1000 * (k + 1) + 200 * k + 400 * q))) (fun kv _ => k - (intOf kv).toNat)
              case atStart => exact ⟨0, by omega, rfl, HI.out.le (by omega) (by omega)⟩
              case round =>
                obtain ⟨q, hq, rfl, HI⟩ := hrel
                by_cases hqk : q < k
                · have hqk' : (q : Int) < (k : Int) := by omega
                  obtain ⟨F, Pg, o, u, hF, hB, hS, hR, hRF, ho, hu⟩ := HI.out
                  obtain ⟨g0, cap, e, hc⟩ := hR.cell q (by rw [length_nsK]; omega)
                  obtain ⟨g0', cap', e', hc0⟩ := hR.cell q (by rw [length_nsK]; omega)
                  rw [nsK_at] at hc hc0
                  rw [length_nsK, Value.slice.injEq] at e e'
                  obtain ⟨e, -, -⟩ := e
                  obtain ⟨e', -, -⟩ := e'
                  obtain rfl : g0' = g0 := by rw [e] at e'; simpa using e'.symm
                  subst e
                  have c1 : wr.cell? ⟨g0', q, none⟩ = some (.int .i64 ((q : Int) + 1)) := hc
                  have c2 : wr.cell? ⟨g0', q, none⟩ = some (.int .i64 ((q : Int) + 1)) := hc0
                  have hcn := (free_K (xs := xs) hS.good (by omega) (by omega) (by omega) (show DataOk xs A ((k + 1) - 1) from fun i h1 h2 => HD.out i h1 (by omega))).2 (q + 1) (by omega) (by omega)
                  have HDr := hid (rDrop_ok (k := 0) (hS.less (by omega)) (fsK_in (A := A) (show q + 1 ≤ q + 1 by omega) (show q + 1 < k + 1 by omega)) (by omega))
                  have HF := hid hF
                  have HB := hid hB
                  have HR := hid hR
                  have HRF := hid hRF
                  have HO := hid ho
                  have HU := hid hu
                  clear HI hF hB hS hR hRF ho hu hcn hc hc0 e'
                  go_wp2_with fail
                  refine HDr.out.mono ?_
                  clear HDr
                  rintro e w9 ⟨rfl, hk9, Pg', hd⟩
                  rw [fsK_low A (q + 1) (k + 1)] at hd
                  have HCo := hid (rCommit_ok hd (by have := HO.out; omega))
                  have HRx := hid (HR.out.keep hk9 HRF.out)
                  have HBx := hid (HB.out.trans (hk9.below HB.out.size (fun i hi => HF.out i hi)))
                  clear hk9 hd HR HB c1 c2
                  go_wp2_with fail
                  refine HCo.out.mono ?_
                  clear HCo
                  rintro e w10 ⟨rfl, hk10, F', hF1, hF2, hS10⟩
                  have HFi : Hid (FiAt w w10 s m c A (q + 1 + 1) (k + 1) (.slice (some ⟨g0', 0, none⟩) k pc) (nsK k) (206 * (k + 1) + 206 * (q + 1)) (1000 * (k + 1) + 200 * k + 400 * (q + 1))) :=
                    ⟨F', Pg', _, _, fun i hi => (hF2 i hi).elim (fun e => HF.out i e) (fun e => by have := HBx.out.size; omega), HBx.out.trans (hk10.below HBx.out.size (fun i hi => HF.out i hi)), hS10, HRx.out.keep hk10 HRF.out, fun i e hh => (hF2 i hh).elim (HRF.out i e) (fun e2 => by
                      have e3 : g0' = i := by simpa [Value.ownBlock] using e
                      subst e3
                      have h7 := row_lt HRx.out
                      omega), by have := HO.out; omega, by have := HU.out; omega⟩
                  clear hk10 hF1 hF2 hS10
                  go_wp2
                  exact ⟨⟨q + 1, by omega, by go_num, HFi⟩, by simp [intOf]; omega⟩
                · have hge : ¬ (q : Int) < (k : Int) := by omega
                  obtain rfl : k = q := by omega
                  obtain ⟨F, Pg, o, u, hF, hB, hS, hR, hRF, ho, hu⟩ := HI.out
                  rw [fsK_none] at hS
                  have hfp : (frL Pg 600 32).length = p0 := by
                    have h1 := hS.good.free
                    have h2 := HG0.out.free
                    rw [HP0.out]
                    omega
                  have hfi : (freeTo (Pg 1) 1 32 4096).length = i0 := by
                    rw [HI0.out]
                    exact congrArg List.length (hS.good.freeI HG0.out)
                  have hfr := rFree_any hS (by omega)
                  rw [hfp, hfi] at hfr
                  have HFr := hid hfr
                  have HB := hid hB
                  have HF := hid hF
                  clear HI hF hB hS hR hRF ho hu hfp hfi hfr
                  go_wp2_with fail
                  refine HFr.out.mono ?_
                  clear HFr
                  rintro e w9 ⟨rfl, hk9, -⟩
                  have HB9 := hid (HB.out.trans (hk9.below HB.out.size (fun i hi => HF.out i hi)))
                  clear hk9
                  go_wp2
                  go_ret
                  exact ⟨rfl, HB9.out⟩
            | true =>
              go_wp2
              go_loopw [27] (fun kv wr => ∃ q r : Nat, r + q = k ∧ kv = .int .i64 q ∧ Hid (FiAt w wr s m c A 1 (r + 1) (.slice pa k pc) (nsK k) (206 * (k + 1) + 206 * q) (1000 * (k + 1) + 200 * k + 400 * q))) (fun kv _ => k - (intOf kv).toNat)
              case atStart => exact ⟨0, k, by omega, rfl, HI.out.le (by omega) (by omega)⟩
              case round =>
                obtain ⟨q, r, hq, rfl, HI⟩ := hrel
                by_cases hqk : q < k
                · have hqk' : (q : Int) < (k : Int) := by omega
                  obtain ⟨r, rfl⟩ : ∃ r', r = r' + 1 := ⟨r - 1, by omega⟩
                  have hrk : r < k := by omega
                  have hrk' : (r : Int) < (k : Int) := by omega
                  have hix : (k : Int) - 1 - (q : Int) = (r : Int) := by omega
                  have hr0 : (0 : Int) ≤ (r : Int) := by omega
                  obtain ⟨F, Pg, o, u, hF, hB, hS, hR, hRF, ho, hu⟩ := HI.out
                  obtain ⟨g0, cap, e, hc⟩ := hR.cell r (by rw [length_nsK]; omega)
                  obtain ⟨g0', cap', e', hc0⟩ := hR.cell q (by rw [length_nsK]; omega)
                  rw [nsK_at] at hc hc0
                  rw [length_nsK, Value.slice.injEq] at e e'
                  obtain ⟨e, -, -⟩ := e
                  obtain ⟨e', -, -⟩ := e'
                  obtain rfl : g0' = g0 := by rw [e] at e'; simpa using e'.symm
                  subst e
                  have c1 : wr.cell? ⟨g0', r, none⟩ = some (.int .i64 ((r : Int) + 1)) := hc
                  have c2 : wr.cell? ⟨g0', q, none⟩ = some (.int .i64 ((q : Int) + 1)) := hc0
                  have hcn := (free_K (xs := xs) hS.good (by omega) (by omega) (by omega) (show DataOk xs A ((r + 1 + 1) - 1) from fun i h1 h2 => HD.out i h1 (by omega))).2 (r + 1) (by omega) (by omega)
                  have HDr := hid (rDrop_ok (k := 0) (hS.less (by omega)) (fsK_in (A := A) (show 1 ≤ r + 1 by omega) (show r + 1 < r + 1 + 1 by omega)) (by omega))
                  have HF := hid hF
                  have HB := hid hB
                  have HR := hid hR
                  have HRF := hid hRF
                  have HO := hid ho
                  have HU := hid hu
                  clear HI hF hB hS hR hRF ho hu hcn hc hc0 e'
                  go_wp2_with fail
                  refine HDr.out.mono ?_
                  clear HDr
                  rintro e w9 ⟨rfl, hk9, Pg', hd⟩
                  rw [fsK_high A 1 (r + 1)] at hd
                  have HCo := hid (rCommit_ok hd (by have := HO.out; omega))
                  have HRx := hid (HR.out.keep hk9 HRF.out)
                  have HBx := hid (HB.out.trans (hk9.below HB.out.size (fun i hi => HF.out i hi)))
                  clear hk9 hd HR HB c1 c2
                  go_wp2_with fail
                  refine HCo.out.mono ?_
                  clear HCo
                  rintro e w10 ⟨rfl, hk10, F', hF1, hF2, hS10⟩
                  have HFi : Hid (FiAt w w10 s m c A 1 (r + 1) (.slice (some ⟨g0', 0, none⟩) k pc) (nsK k) (206 * (k + 1) + 206 * (q + 1)) (1000 * (k + 1) + 200 * k + 400 * (q + 1))) :=
                    ⟨F', Pg', _, _, fun i hi => (hF2 i hi).elim (fun e => HF.out i e) (fun e => by have := HBx.out.size; omega), HBx.out.trans (hk10.below HBx.out.size (fun i hi => HF.out i hi)), hS10, HRx.out.keep hk10 HRF.out, fun i e hh => (hF2 i hh).elim (HRF.out i e) (fun e2 => by
                      have e3 : g0' = i := by simpa [Value.ownBlock] using e
                      subst e3
                      have h7 := row_lt HRx.out
                      omega), by have := HO.out; omega, by have := HU.out; omega⟩
                  clear hk10 hF1 hF2 hS10
                  go_wp2
                  exact ⟨⟨q + 1, r, by omega, by go_num, HFi⟩, by simp [intOf]; omega⟩
                · have hge : ¬ (q : Int) < (k : Int) := by omega
                  obtain rfl : r = 0 := by omega
                  obtain ⟨F, Pg, o, u, hF, hB, hS, hR, hRF, ho, hu⟩ := HI.out
                  rw [fsK_none] at hS
                  have hfp : (frL Pg 600 32).length = p0 := by
                    have h1 := hS.good.free
                    have h2 := HG0.out.free
                    rw [HP0.out]
                    omega
                  have hfi : (freeTo (Pg 1) 1 32 4096).length = i0 := by
                    rw [HI0.out]
                    exact congrArg List.length (hS.good.freeI HG0.out)
                  have hfr := rFree_any hS (by omega)
                  rw [hfp, hfi] at hfr
                  have HFr := hid hfr
                  have HB := hid hB
                  have HF := hid hF
                  clear HI hF hB hS hR hRF ho hu hfp hfi hfr
                  go_wp2_with fail
                  refine HFr.out.mono ?_
                  clear HFr
                  rintro e w9 ⟨rfl, hk9, -⟩
                  have HB9 := hid (HB.out.trans (hk9.below HB.out.size (fun i hi => HF.out i hi)))
                  clear hk9
                  go_wp2
                  go_ret
                  exact ⟨rfl, HB9.out⟩
      · have hkx3 : ¬ (k : Int) < (xs.length : Int) := by omega
        go_wp2
        go_loopw [23] (fun kv wr => ∃ q : Nat, q ≤ k ∧ kv = .int .i64 q ∧ Hid (FiAt w wr s m c A 1 (k + 1) (.slice pa k pc) (nsK k) (206 * (k + 1)) (1000 * (k + 1) + 200 * q))) (fun kv _ => k - (intOf kv).toNat)
        case atStart => exact ⟨0, by omega, rfl, HI⟩
        case round =>
          obtain ⟨q, hq, rfl, HI⟩ := hrel
          by_cases hqk : q < k
          · obtain ⟨F, Pg, o, u, hF, hB, hS, hR, hRF, ho, hu⟩ := HI.out
            have hqk' : (q : Int) < (k : Int) := by omega
            have hqx : q < xs.length := by omega
            have hqx' : (q : Int) < (xs.length : Int) := by omega
            obtain ⟨g0, cap, e, hc⟩ := hR.cell q (by rw [length_nsK]; omega)
            rw [nsK_at] at hc
            rw [length_nsK, Value.slice.injEq] at e
            obtain ⟨e, -, -⟩ := e
            obtain ⟨xb, xo, hxa, hxc⟩ := HX.out q hqx
            obtain ⟨hx1, hx2, hx3⟩ := hxc q hqx
            obtain ⟨y, hy⟩ : ∃ y, y = xs[q] := ⟨_, rfl⟩
            rw [← hy] at hx1 hx2 hx3
            obtain ⟨z, hz⟩ : ∃ z, z = zS xs q := ⟨_, rfl⟩
            have hz9 : z < 9000 := by rw [hz]; exact zS_lt xs q
            have hyz : y % 9000 = (z : Int) := by
              rw [hz]
              unfold zS
              rw [List.getD_eq_getElem?_getD, List.getElem?_eq_getElem hqx, Option.getD_some, ← hy]
              omega
            have hyt : Int.tmod y 9000 = (z : Int) := by rw [Int.tmod_eq_emod_of_nonneg hx2]; exact hyz
            subst hxa
            subst e
            have hdt : (A (q + 1)).data = fL (q + 1) z := by rw [hz]; exact HD.out (q + 1) (by omega) (by omega)
            have hrd := rRead_all hS (fsK_in (show 1 ≤ q + 1 by omega) (show q + 1 < k + 1 by omega)) (by omega)
            rw [hdt, length_fL] at hrd
            have HRd := hid hrd
            have HF := hid hF
            have HB := hid hB
            have HR := hid hR
            have HRF := hid hRF
            have HO := hid ho
            have HU := hid hu
            have HX1 := hid hx1
            have HC := hid hc
            have HG := hid hS.good
            have c1 : wr.cell? ⟨g0, q, none⟩ = some (.int .i64 ((q : Int) + 1)) := hc
            clear HI hF hB hS hR hRF ho hu hz hy hxc hx1 hdt hrd hc
            go_wp2_with fail
            refine HRd.out.mono ?_
            clear HRd
            rintro e w9 ⟨ad, cp, rfl, hby, hk9, hS9⟩
            have hB9 := HB.out.trans (hk9.below HB.out.size (fun i hi => HF.out i hi))
            have cx : w9.cell? ⟨xb, xo + q, none⟩ = some (.int .u16 y) := (hB9.cell (World.block_lt_of_cell? w _ HX1.out)).trans HX1.out
            have hR9 := HR.out.keep hk9 HRF.out
            have c9 : w9.cell? ⟨g0, q, none⟩ = some (.int .i64 ((q : Int) + 1)) := hk9.cell HC.out (HRF.out g0 rfl)
            have HFi : Hid (FiAt w w9 s m c A 1 (k + 1) (.slice (some ⟨g0, 0, none⟩) k pc) (nsK k) (206 * (k + 1)) (1000 * (k + 1) + 200 * (q + 1))) := ⟨F, Pg, o, u + 141, HF.out, hB9, hS9, hR9, HRF.out, HO.out, by have := HU.out; omega⟩
            have HBy := hid hby
            clear hk9 hS9 hB9 hR9 hby c1 HB HR HC HX1
            go_wp2_with fail
            clear cx hyt hyz hx2 hx3
            go_loopw [26] (fun jv wr => ∃ t : Nat, t ≤ z ∧ jv = .int .i64 t ∧ Hid (Below w9.heap.size w9 wr)) (fun jv _ => z - (intOf jv).toNat)
            case atStart => exact ⟨0, by omega, rfl, Below.refl _ _⟩
            case round =>
              obtain ⟨t, ht, rfl, HBt⟩ := hrel
              by_cases htz : t < z
              · have htz' : (t : Int) < (z : Int) := by omega
                obtain ⟨bb, bo, hade, hbc⟩ := HBy.out t (by rw [length_fL]; exact htz)
                subst hade
                have h5 := hbc t (by rw [length_fL]; exact htz)
                have e5 : ((fL (q + 1) z)[t]'(by rw [length_fL]; exact htz)) = fB (q + 1) t := by simp [fL]
                rw [e5, fB_wrap] at h5
                have b1 : wr.cell? ⟨bb, bo + t, none⟩ = some (.int .u8 (IntKind.u8.wrap (((q + 1 : Nat) : Int) + (t : Int) % 250))) := (HBt.out.cell (World.block_lt_of_cell? w9 _ h5)).trans h5
                have c1 : wr.cell? ⟨g0, q, none⟩ = some (.int .i64 ((q : Int) + 1)) := (HBt.out.cell (World.block_lt_of_cell? w9 _ c9)).trans c9
                have eq1 : ((q + 1 : Nat) : Int) = (q : Int) + 1 := by omega
                rw [eq1] at b1
                clear h5 e5 hbc eq1
                obtain ⟨x8, hx8⟩ : ∃ x8, x8 = IntKind.u8.wrap ((q : Int) + 1 + (t : Int) % 250) := ⟨_, rfl⟩
                rw [← hx8] at b1
                have HX8 := hid hx8
                clear hx8
                go_wp2_with fail
                have hbd : Below wr.heap.size wr wr.drew := (Below.refl _ wr).drew
                have d0 := (hbd.cell (World.block_lt_of_cell? wr _ b1)).trans b1
                have d1 := (hbd.cell (World.block_lt_of_cell? wr _ c1)).trans c1
                have HBw := hid (HBt.out.trans (hbd.mono HBt.out.size))
                clear b1 c1 hbd
                refine wp_region_noPanic ?_
                refine wp_region_held_drew (S := fun W => W.cell? ⟨bb, bo + t, none⟩ = some (.int .u8 x8) ∧ W.cell? ⟨g0, q, none⟩ = some (.int .i64 ((q : Int) + 1))) (by kernel_rfl) ⟨d0, d1⟩ (fun hHeld => ?_)
                generalize wr.drew = wd at *
                have hm5 : Int.tmod (t : Int) 250 = (t : Int) % 250 := Int.tmod_eq_emod_of_nonneg (by omega)
                have hw5 : IntKind.i64.wrap ((q : Int) + 1 + (t : Int) % 250) = (q : Int) + 1 + (t : Int) % 250 := IntWalk.i64_in _ (by omega)
                refine tk 0 ?_ rfl (by kernel_rfl) (fun _ _ _ h => h) (by rfl) (by assumption) ?_ ?_
                rotate_left
                · (intro W h; (try dsimp only at h); obtain ⟨s0, s1⟩ := h; go_simp; try with_reducible rfl)
                try simp only [tS]
                refine tk 1 ?_ rfl (by kernel_rfl) (fun _ _ _ h => h) (by rfl) (by assumption) ?_ ?_
                rotate_left
                · (intro W h; (try dsimp only at h); obtain ⟨s0, s1⟩ := h; go_simp; try with_reducible rfl)
                try simp only [tS]
                refine tk 2 ?_ rfl (by kernel_rfl) (fun _ _ _ h => h) (by rfl) (by assumption) ?_ ?_
                rotate_left
                · (intro W h; (try dsimp only at h); obtain ⟨s0, s1⟩ := h; go_simp; try with_reducible rfl)
                try simp only [tS]
                refine tk 3 ?_ rfl (by kernel_rfl) (fun _ _ _ h => h) (by rfl) (by assumption) ?_ ?_
                rotate_left
                · (intro W h; (try dsimp only at h); obtain ⟨s0, s1⟩ := h; go_simp; try with_reducible rfl)
                try simp only [tS]
                refine tk 4 ?_ rfl (by kernel_rfl) (fun _ _ _ h => h) (by rfl) (by assumption) ?_ ?_
                rotate_left
                · (intro W h; (try dsimp only at h); obtain ⟨s0, s1⟩ := h; go_simp; try with_reducible rfl)
                try simp only [tS]
                refine tk 5 ?_ rfl (by kernel_rfl) (fun _ _ _ h => h) (by rfl) (by assumption) ?_ ?_
                rotate_left
                · (intro W h; (try dsimp only at h); obtain ⟨s0, s1⟩ := h; go_simp; try with_reducible rfl)
                try simp only [tS]
                refine tk 6 ?_ rfl (by kernel_rfl) (fun _ _ _ h => h) (by rfl) (by assumption) ?_ ?_
                rotate_left
                · (intro W h; (try dsimp only at h); obtain ⟨s0, s1⟩ := h; go_simp; try with_reducible rfl)
                try simp only [tS]
                refine tk 7 ?_ rfl (by kernel_rfl) (fun _ _ _ h => h) (by rfl) (by assumption) ?_ ?_
                rotate_left
                · (intro W h; (try dsimp only at h); obtain ⟨s0, s1⟩ := h; go_simp; try with_reducible rfl)
                try simp only [tS]
                refine tk 8 ?_ rfl (by kernel_rfl) (fun _ _ _ h => h) (by rfl) (by assumption) ?_ ?_
                rotate_left
                · (intro W h; (try dsimp only at h); obtain ⟨s0, s1⟩ := h; go_simp; try with_reducible rfl)
                try simp only [tS]
                refine tk 9 (.int .i64 ((t : Int) % 250)) rfl (by kernel_rfl) (fun _ _ _ h => h) (by rfl) (by assumption) ?_ ?_
                · (intro W h; (try dsimp only at h); obtain ⟨s0, s1⟩ := h; go_simp; try first | with_reducible rfl | go_num | (rw [if_pos (by assumption)]; simp only [*]) | simp only [*])
                try simp only [tS]
                refine tk 10 (.int .i64 ((q : Int) + 1 + (t : Int) % 250)) rfl (by kernel_rfl) (fun _ _ _ h => h) (by rfl) (by assumption) ?_ ?_
                · (intro W h; (try dsimp only at h); obtain ⟨s0, s1⟩ := h; go_simp; try first | with_reducible rfl | go_num | (rw [if_pos (by assumption)]; simp only [*]) | simp only [*])
                try simp only [tS]
                have hx8' := HX8.out.symm
                refine tk 11 (.int .u8 x8) rfl (by kernel_rfl) (fun _ _ _ h => h) (by rfl) (by assumption) ?_ ?_
                · (intro W h; (try dsimp only at h); obtain ⟨s0, s1⟩ := h; go_simp; try first | with_reducible rfl | go_num | (rw [if_pos (by assumption)]; simp only [*]) | simp only [*])
                try simp only [tS]
                refine tk 12 (.bool false) rfl (by kernel_rfl) (fun _ _ _ h => h) (by rfl) (by assumption) ?_ ?_
                · (intro W h; (try dsimp only at h); obtain ⟨s0, s1⟩ := h; go_simp; try first | with_reducible rfl | go_num | (rw [if_pos (by assumption)]; simp only [*]) | simp only [*])
                try simp only [tS]
                refine wpAnyH_done (by kernel_rfl) ?_ _
                refine NoPanic.normal ?_
                clear hHeld d0 d1 hm5 hw5 hx8'
                go_wp2
                exact ⟨⟨t + 1, by omega, by go_num, HBw⟩, by simp [intOf]; omega⟩
              · have htz2 : t = z := by omega
                subst htz2
                have hge : ¬ (t : Int) < (t : Int) := by omega
                have HFj : Hid (FiAt w wr s m c A 1 (k + 1) (.slice (some ⟨g0, 0, none⟩) k pc) (nsK k) (206 * (k + 1)) (1000 * (k + 1) + 200 * (q + 1))) := by
                  obtain ⟨F, Pg, o, u, h1, h2, h3, h4, h5, h6, h7⟩ := HFi.out
                  exact ⟨F, Pg, o, u, h1, h2.trans (HBt.out.mono h2.size), h3.below HBt.out, h4.below HBt.out, h5, h6, h7⟩
                go_wp2
                exact ⟨⟨q + 1, by omega, by go_num, HFj⟩, by simp [intOf]; omega⟩
          · have hqk2 : k = q := by omega
            subst hqk2
            have hge : ¬ (k : Int) < (k : Int) := by omega
            cases turn with
            | false =>
              go_wp2
              go_loopw [27] (fun kv wr => ∃ q : Nat, q ≤ k ∧ kv = .int .i64 q ∧ Hid (FiAt w wr s m c A (q + 1) (k + 1) (.slice pa k pc) (nsK k) (206 * (k + 1) + 206 * q) (1000 * (k + 1) + 200 * k + 400 * q))) (fun kv _ => k - (intOf kv).toNat)
              case atStart => exact ⟨0, by omega, rfl, HI.out.le (by omega) (by omega)⟩
              case round =>
                obtain ⟨q, hq, rfl, HI⟩ := hrel
                by_cases hqk : q < k
                · have hqk' : (q : Int) < (k : Int) := by omega
                  obtain ⟨F, Pg, o, u, hF, hB, hS, hR, hRF, ho, hu⟩ := HI.out
                  obtain ⟨g0, cap, e, hc⟩ := hR.cell q (by rw [length_nsK]; omega)
                  obtain ⟨g0', cap', e', hc0⟩ := hR.cell q (by rw [length_nsK]; omega)
                  rw [nsK_at] at hc hc0
                  rw [length_nsK, Value.slice.injEq] at e e'
                  obtain ⟨e, -, -⟩ := e
                  obtain ⟨e', -, -⟩ := e'
                  obtain rfl : g0' = g0 := by rw [e] at e'; simpa using e'.symm
                  subst e
                  have c1 : wr.cell? ⟨g0', q, none⟩ = some (.int .i64 ((q : Int) + 1)) := hc
                  have c2 : wr.cell? ⟨g0', q, none⟩ = some (.int .i64 ((q : Int) + 1)) := hc0
                  have hcn := (free_K (xs := xs) hS.good (by omega) (by omega) (by omega) (show DataOk xs A ((k + 1) - 1) from fun i h1 h2 => HD.out i h1 (by omega))).2 (q + 1) (by omega) (by omega)
                  have HDr := hid (rDrop_ok (k := 0) (hS.less (by omega)) (fsK_in (A := A) (show q + 1 ≤ q + 1 by omega) (show q + 1 < k + 1 by omega)) (by omega))
                  have HF := hid hF
                  have HB := hid hB
                  have HR := hid hR
                  have HRF := hid hRF
                  have HO := hid ho
                  have HU := hid hu
                  clear HI hF hB hS hR hRF ho hu hcn hc hc0 e'
                  go_wp2_with fail
                  refine HDr.out.mono ?_
                  clear HDr
                  rintro e w9 ⟨rfl, hk9, Pg', hd⟩
                  rw [fsK_low A (q + 1) (k + 1)] at hd
                  have HCo := hid (rCommit_ok hd (by have := HO.out; omega))
                  have HRx := hid (HR.out.keep hk9 HRF.out)
                  have HBx := hid (HB.out.trans (hk9.below HB.out.size (fun i hi => HF.out i hi)))
                  clear hk9 hd HR HB c1 c2
                  go_wp2_with fail
                  refine HCo.out.mono ?_
                  clear HCo
                  rintro e w10 ⟨rfl, hk10, F', hF1, hF2, hS10⟩
                  have HFi : Hid (FiAt w w10 s m c A (q + 1 + 1) (k + 1) (.slice (some ⟨g0', 0, none⟩) k pc) (nsK k) (206 * (k + 1) + 206 * (q + 1)) (1000 * (k + 1) + 200 * k + 400 * (q + 1))) :=
                    ⟨F', Pg', _, _, fun i hi => (hF2 i hi).elim (fun e => HF.out i e) (fun e => by have := HBx.out.size; omega), HBx.out.trans (hk10.below HBx.out.size (fun i hi => HF.out i hi)), hS10, HRx.out.keep hk10 HRF.out, fun i e hh => (hF2 i hh).elim (HRF.out i e) (fun e2 => by
                      have e3 : g0' = i := by simpa [Value.ownBlock] using e
                      subst e3
                      have h7 := row_lt HRx.out
                      omega), by have := HO.out; omega, by have := HU.out; omega⟩
                  clear hk10 hF1 hF2 hS10
                  go_wp2
                  exact ⟨⟨q + 1, by omega, by go_num, HFi⟩, by simp [intOf]; omega⟩
                · have hge : ¬ (q : Int) < (k : Int) := by omega
                  obtain rfl : k = q := by omega
                  obtain ⟨F, Pg, o, u, hF, hB, hS, hR, hRF, ho, hu⟩ := HI.out
                  rw [fsK_none] at hS
                  have hfp : (frL Pg 600 32).length = p0 := by
                    have h1 := hS.good.free
                    have h2 := HG0.out.free
                    rw [HP0.out]
                    omega
                  have hfi : (freeTo (Pg 1) 1 32 4096).length = i0 := by
                    rw [HI0.out]
                    exact congrArg List.length (hS.good.freeI HG0.out)
                  have hfr := rFree_any hS (by omega)
                  rw [hfp, hfi] at hfr
                  have HFr := hid hfr
                  have HB := hid hB
                  have HF := hid hF
                  clear HI hF hB hS hR hRF ho hu hfp hfi hfr
                  go_wp2_with fail
                  refine HFr.out.mono ?_
                  clear HFr
                  rintro e w9 ⟨rfl, hk9, -⟩
                  have HB9 := hid (HB.out.trans (hk9.below HB.out.size (fun i hi => HF.out i hi)))
                  clear hk9
                  go_wp2
                  go_ret
                  exact ⟨rfl, HB9.out⟩
            | true =>
              go_wp2
              go_loopw [27] (fun kv wr => ∃ q r : Nat, r + q = k ∧ kv = .int .i64 q ∧ Hid (FiAt w wr s m c A 1 (r + 1) (.slice pa k pc) (nsK k) (206 * (k + 1) + 206 * q) (1000 * (k + 1) + 200 * k + 400 * q))) (fun kv _ => k - (intOf kv).toNat)
              case atStart => exact ⟨0, k, by omega, rfl, HI.out.le (by omega) (by omega)⟩
              case round =>
                obtain ⟨q, r, hq, rfl, HI⟩ := hrel
                by_cases hqk : q < k
                · have hqk' : (q : Int) < (k : Int) := by omega
                  obtain ⟨r, rfl⟩ : ∃ r', r = r' + 1 := ⟨r - 1, by omega⟩
                  have hrk : r < k := by omega
                  have hrk' : (r : Int) < (k : Int) := by omega
                  have hix : (k : Int) - 1 - (q : Int) = (r : Int) := by omega
                  have hr0 : (0 : Int) ≤ (r : Int) := by omega
                  obtain ⟨F, Pg, o, u, hF, hB, hS, hR, hRF, ho, hu⟩ := HI.out
                  obtain ⟨g0, cap, e, hc⟩ := hR.cell r (by rw [length_nsK]; omega)
                  obtain ⟨g0', cap', e', hc0⟩ := hR.cell q (by rw [length_nsK]; omega)
                  rw [nsK_at] at hc hc0
                  rw [length_nsK, Value.slice.injEq] at e e'
                  obtain ⟨e, -, -⟩ := e
                  obtain ⟨e', -, -⟩ := e'
                  obtain rfl : g0' = g0 := by rw [e] at e'; simpa using e'.symm
                  subst e
                  have c1 : wr.cell? ⟨g0', r, none⟩ = some (.int .i64 ((r : Int) + 1)) := hc
                  have c2 : wr.cell? ⟨g0', q, none⟩ = some (.int .i64 ((q : Int) + 1)) := hc0
                  have hcn := (free_K (xs := xs) hS.good (by omega) (by omega) (by omega) (show DataOk xs A ((r + 1 + 1) - 1) from fun i h1 h2 => HD.out i h1 (by omega))).2 (r + 1) (by omega) (by omega)
                  have HDr := hid (rDrop_ok (k := 0) (hS.less (by omega)) (fsK_in (A := A) (show 1 ≤ r + 1 by omega) (show r + 1 < r + 1 + 1 by omega)) (by omega))
                  have HF := hid hF
                  have HB := hid hB
                  have HR := hid hR
                  have HRF := hid hRF
                  have HO := hid ho
                  have HU := hid hu
                  clear HI hF hB hS hR hRF ho hu hcn hc hc0 e'
                  go_wp2_with fail
                  refine HDr.out.mono ?_
                  clear HDr
                  rintro e w9 ⟨rfl, hk9, Pg', hd⟩
                  rw [fsK_high A 1 (r + 1)] at hd
                  have HCo := hid (rCommit_ok hd (by have := HO.out; omega))
                  have HRx := hid (HR.out.keep hk9 HRF.out)
                  have HBx := hid (HB.out.trans (hk9.below HB.out.size (fun i hi => HF.out i hi)))
                  clear hk9 hd HR HB c1 c2
                  go_wp2_with fail
                  refine HCo.out.mono ?_
                  clear HCo
                  rintro e w10 ⟨rfl, hk10, F', hF1, hF2, hS10⟩
                  have HFi : Hid (FiAt w w10 s m c A 1 (r + 1) (.slice (some ⟨g0', 0, none⟩) k pc) (nsK k) (206 * (k + 1) + 206 * (q + 1)) (1000 * (k + 1) + 200 * k + 400 * (q + 1))) :=
                    ⟨F', Pg', _, _, fun i hi => (hF2 i hi).elim (fun e => HF.out i e) (fun e => by have := HBx.out.size; omega), HBx.out.trans (hk10.below HBx.out.size (fun i hi => HF.out i hi)), hS10, HRx.out.keep hk10 HRF.out, fun i e hh => (hF2 i hh).elim (HRF.out i e) (fun e2 => by
                      have e3 : g0' = i := by simpa [Value.ownBlock] using e
                      subst e3
                      have h7 := row_lt HRx.out
                      omega), by have := HO.out; omega, by have := HU.out; omega⟩
                  clear hk10 hF1 hF2 hS10
                  go_wp2
                  exact ⟨⟨q + 1, r, by omega, by go_num, HFi⟩, by simp [intOf]; omega⟩
                · have hge : ¬ (q : Int) < (k : Int) := by omega
                  obtain rfl : r = 0 := by omega
                  obtain ⟨F, Pg, o, u, hF, hB, hS, hR, hRF, ho, hu⟩ := HI.out
                  rw [fsK_none] at hS
                  have hfp : (frL Pg 600 32).length = p0 := by
                    have h1 := hS.good.free
                    have h2 := HG0.out.free
                    rw [HP0.out]
                    omega
                  have hfi : (freeTo (Pg 1) 1 32 4096).length = i0 := by
                    rw [HI0.out]
                    exact congrArg List.length (hS.good.freeI HG0.out)
                  have hfr := rFree_any hS (by omega)
                  rw [hfp, hfi] at hfr
                  have HFr := hid hfr
                  have HB := hid hB
                  have HF := hid hF
                  clear HI hF hB hS hR hRF ho hu hfp hfi hfr
                  go_wp2_with fail
                  refine HFr.out.mono ?_
                  clear HFr
                  rintro e w9 ⟨rfl, hk9, -⟩
                  have HB9 := hid (HB.out.trans (hk9.below HB.out.size (fun i hi => HF.out i hi)))
                  clear hk9
                  go_wp2
                  go_ret
                  exact ⟨rfl, HB9.out⟩
end Go.Proofs.YthdcloaaahhnaaaGreat
