/- Several of my texts in one: AlRow, WHead, WCrashP, CutA, WCrashed, WCrashQ, BCrashP, AlPc, AlOff, AlBls, AlBits, AlMap, BinS, AlWrite, BaseG, AlFree, AlNext, AlFloat, AlCount. -/
import Derived.Test.YtehkeadpgedolaaGreatDoorJoined2
import Derived.Test.YtehkeadpgedolaaGreatDoorJoined1
import Derived.Shelf.SlGeneric
import Derived.Shelf.SlicesG.SearchI
import Derived.Test.YtehkeadpgedolaaGreatDoorProg
import Derived.RangeFuncNested
import Derived.RangeFuncBound
import Derived.RangeFuncCalls
import Derived.RangeFuncLeaves
import Derived.Shelf.Abstract
import Derived.Shelf.RegionOpen
import Derived.WalkKit
import Derived.OwnWalkIn
import Derived.TacticsInMore
import Derived.LoopNIn
import Derived.LoopIn
import Derived.Scope
import Derived.Laws.FloatArith
set_option maxRecDepth 100000
set_option maxHeartbeats 2000000
namespace Go.Proofs.YtehkeadpgedolaaGreatDoor
section
open Go.RowKit
def rowU (w : World) (g : Nat) (l : List UInt8) : Prop := bytesAt w ⟨g, 0, none⟩ l /\ (∀ j, j < l.length -> w.frozen? ⟨g, j, none⟩ = false) /\ ∃ cs fz, w.heap[g]? = some (.cells cs 5 fz) 
section
variable {w w' : World} {g : Nat} {l : List UInt8} {G : Nat -> Prop}
theorem rowU.lt (h : rowU w g l) : g < w.heap.size := by obtain ⟨-, -, cs, fz, h⟩ := h; exact lt_of_heap h
theorem rowU.keep (h : rowU w g l) (k : Keeps G w w') (hg : ¬ G g) : rowU w' g l := by
 obtain ⟨h1, h2, cs, fz, h3⟩ := h
 have h5 := k.heap h3 hg
 refine ⟨fun j hj => k.cell (h1 j hj) (by rw [add_block]; exact hg), fun j hj => ?_, cs, fz, h5⟩
 have := h2 j hj
 simp only [World.frozen?, h3] at this
 simp only [World.frozen?, h5]
 exact this
theorem rowU.below (h : rowU w g l) (hb : Below w.heap.size w w') : rowU w' g l := h.keep (G := fun _ => False) (Keeps.of_below hb) (fun h => h)
theorem rowU.cell (h : rowU w g l) (j : Nat) (hj : j < l.length) : w.cell? ⟨g, j, none⟩ = some (.int .u8 (l[j].toNat : Int)) := by
 have := h.1 j hj
 rwa [Addr.add_mid, Nat.zero_add] at this
theorem rowU.frozen (h : rowU w g l) (j : Nat) (hj : j < l.length) : w.frozen? ⟨g, j, none⟩ = false := h.2.1 j hj
theorem rowU.set (h : rowU w g l) (j : Nat) (hj : j < l.length) (x : UInt8) : rowU (w.setCell ⟨g, j, none⟩ (.int .u8 (x.toNat : Int))) g (l.set j x) := by
 obtain ⟨h1, h2, cs, fz, h3⟩ := h
 have h5 := block_setCell h3 j (.int .u8 (x.toNat : Int))
 refine ⟨fun i hi => ?_, fun i hi => ?_, _, fz, h5⟩
 ·have hi' : i < l.length := by simpa using hi
  have c1 := h1 i hi'
  have cj := h1 j hj
  rw [Addr.add_mid, Nat.zero_add, cell_of_block h3] at c1 cj
  rw [Addr.add_mid, Nat.zero_add, cell_of_block h5]
  have hjs : j < cs.size := (Array.getElem?_eq_some_iff.1 cj).1
  by_cases e : i = j
  ·subst e
   rw [Array.getElem?_setIfInBounds_self_of_lt hjs, List.getElem_set_self]
  ·rw [Array.getElem?_setIfInBounds_ne (fun h => e h.symm), c1, List.getElem_set_ne (fun h => e h.symm)]
 ·have := h2 i (by simpa using hi)
  simp only [World.frozen?, h3] at this
  simp only [World.frozen?, h5]
  exact this
theorem rowU_own (h : ownB w g l) : rowU w g l := ⟨h.at, fun j _ => h.frozen j, _, _, h⟩
theorem rowU_new (w : World) (s : ByteArray) (cap : Nat) : rowU ((w.alloc (.cells (bytesRow s cap) 5 ((bytesRow s cap).size, (bytesRow s cap).size + 1))).drew) w.heap.size s.data.toList := by
 have hb := block_new w (.cells (bytesRow s cap) 5 ((bytesRow s cap).size, (bytesRow s cap).size + 1))
 have hsz := size_row s cap
 refine ⟨fun j hj => ?_, fun j hj => ?_, _, _, hb⟩
 ·have hj' : j < s.data.size := by simpa using hj
  rw [Addr.add_mid, Nat.zero_add]
  refine (cell_of_block hb j).trans ?_
  rw [bytesRow_at s _ j hj']
  simp
 ·have hj' : j < s.size := by simpa using hj
  have hb' : ((w.alloc (.cells (bytesRow s cap) 5 ((bytesRow s cap).size, (bytesRow s cap).size + 1))).drew).heap[w.heap.size]? = _ := hb
  simp only [World.frozen?, hb']
  simp
  omega
theorem rowU_of_row {lo n cap : Nat} (h : w.ownsRow lo 5 1 (.slice (some ⟨g, 0, none⟩) n cap) n (l.map U8)) (hl : l.length = n) : rowU w g l := by
 rcases h.2 with ⟨e, -⟩ | ⟨g', cap', cur, e, -, hh, -⟩
 ·cases e
 ·obtain ⟨rfl, -⟩ : g = g' /\ cap = cap' := by simpa using e
  exact ⟨row_bytesAt h hl, fun j _ => frozen_of_block hh j, _, _, hh⟩
end
theorem read_row (d : DL) (S : DiskS) (n : Int) (w : World) (h : DiskRd w d S) (h0 : 0 <= n) (h1 : n < S.safe.length) :
  Calls Tryz.prog 116 #[.pointer (some ⟨d.p, 0, none⟩), .int .i64 n] w fun e w' => ∃ b c, e = .returned (.tuple #[.slice (some ⟨b, 0, none⟩) (seenS S.safe S.waits n).size c, .int .i64 0]) /\ (seenS S.safe S.waits n).size <= c /\ w.heap.size <= b /\ rowU w' b (seenS S.safe S.waits n).data.toList /\ Below w.heap.size w w' := by
 have c2 : w.cell? ⟨d.p, 2, none⟩ = some (.slice (some ⟨d.L.g, 0, none⟩) S.safe.length d.L.cap) := by rw [cell_of_block h.heap]; rfl
 have c3 : w.cell? ⟨d.p, 3, none⟩ = some (.map (some d.L.m)) := by rw [cell_of_block h.heap]; rfl
 have HD := hid (decide_eq_true (And.intro h0 h1))
 have HC2 := hid c2
 have HS := hid (seen_any d.p d.L S.safe S.waits S.ops.length n w c2 c3 h.plates h0 h1)
 clear h c2 c3
 generalize seenS S.safe S.waits n = s at *
 have hconv := fun W => run_bytes_of_string (P := Tryz.prog) W 125 81 5 s Tryz.underlying125 Tryz.underlying81 Tryz.underlying5
 go_enter Tryz.func116, Tryz.ntmps116
 go_wp2_with fail
 refine (has_any d.p 2 _ _ _ _ _ HC2.out).mono ?_
 rintro e w9 ⟨rfl, h9⟩
 obtain rfl := h9.symm
 rw [HD.out]
 go_wp2_with fail
 refine HS.out.mono ?_
 rintro e w9 ⟨rfl, h9⟩
 obtain rfl := h9.symm
 go_wp2
 go_returns
 refine ⟨w.heap.size, grownCap w s.size 0 5, rfl, grownCap_ge _ _ _ _, Nat.le_refl _, rowU_new w s _, ((Below.refl _ w).alloc (Nat.le_refl _) _).drew⟩
section
variable {p : Nat} {d : DL} {S : DiskS} {size rec : Nat} {F : Nat -> Prop}
theorem log_read_row (n : Nat) (w : World) (h : LogIn w p d S size rec F) (hs : size + 1 <= S.safe.length) (hn : n < pagesS S size) :
  Calls Tryz.prog 213 #[.pointer (some ⟨p, 0, none⟩), .int .i64 n] w fun e w' => ∃ b c, e = .returned (.tuple #[.slice (some ⟨b, 0, none⟩) (seenS S.safe S.waits (1 + (size : Int) + (n : Int))).size c, .int .i64 0]) /\ (seenS S.safe S.waits (1 + (size : Int) + (n : Int))).size <= c /\ w.heap.size <= b /\ rowU w' b (seenS S.safe S.waits (1 + (size : Int) + (n : Int))).data.toList /\ Below w.heap.size w w' := by
 have hm := h.disk.rd.plates.most
 have hpm : 1 + size + n < S.safe.length := by unfold pagesS at hn; omega
 have HH := hid (fun W (hW : Below w.heap.size w W) => lay_has d S size (n : Int) W ((h.below hW).disk.rd) hs)
 have HHm := hid (fun W => lay_home d.p size (n : Int) W (by omega) (by omega) (by omega))
 have HR := hid (fun W (hW : Below w.heap.size w W) => read_row d S (1 + (size : Int) + (n : Int)) W ((h.below hW).disk.rd) (by omega) (by omega))
 have HC : Hid (∀ W, Below w.heap.size w W -> W.cell? ⟨p, 0, none⟩ = some (.pointer (some ⟨d.p, 0, none⟩)) /\ W.cell? ⟨p, 1, none⟩ = some (.int .i64 size)) := fun W hW => ⟨cell_of_block (h.below hW).heap 0, cell_of_block (h.below hW).heap 1⟩
 have hd : decide (0 <= (n : Int) /\ (n : Int) < (pagesS S size : Nat)) = true := decide_eq_true ⟨by omega, by omega⟩
 unfold layV at HH HHm
 rw [hd] at HH
 obtain ⟨c0, c1⟩ := HC.out w (Below.refl _ _)
 clear h hd
 generalize seenS S.safe S.waits (1 + (size : Int) + (n : Int)) = T at *
 go_enter Tryz.func213, Tryz.ntmps213
 go_wp2_with fail
 refine (HH.out _ (Below.refl _ _)).mono ?_
 rintro e w1 ⟨rfl, hb1⟩
 have HB1 := hid hb1
 obtain ⟨d0, d1⟩ := HC.out w1 hb1
 clear hb1 c0 c1 HH
 go_wp2_with fail
 refine wp_region_noPanic ?_
 refine wp_region_held_drew (S := fun W => W.cell? ⟨p, 0, none⟩ = some (.pointer (some ⟨d.p, 0, none⟩)) /\ W.cell? ⟨p, 1, none⟩ = some (.int .i64 size)) (by kernel_rfl) ⟨d0, d1⟩ (fun hHeld => ?_)
 refine tq 0 _ ?_
 try simp only [tS]
 refine tq 1 _ ?_
 try simp only [tS]
 refine tq 2 _ ?_
 try simp only [tS]
 refine tq 3 _ ?_
 try simp only [tS]
 refine tq 4 _ ?_
 try simp only [tS]
 refine tq 5 _ ?_
 try simp only [tS]
 refine tq 6 _ ?_
 try simp only [tS]
 refine tq 7 _ ?_
 try simp only [tS]
 refine tq 8 _ ?_
 try simp only [tS]
 refine tq 9 _ ?_
 try simp only [tS]
 refine wpAnyH_ready (rs := [10]) (by kernel_rfl) (by simp) (AllReadyH.cons rfl (fun K hKK => ?_) AllReadyH.nil)
 rw [if_pos (by rfl)]
 go_simp
 refine (HHm.out w1.drew).mono ?_
 clear HHm
 rintro e w2 ⟨rfl, hb2⟩
 have hB2 : Below w.heap.size w w2 := HB1.out.drew.trans (hb2.mono HB1.out.size)
 have HB2 := hid hB2
 obtain ⟨e0, e1⟩ := HC.out w2 hB2
 clear hb2 hB2
 go_wp2_with fail
 refine hKK.out _ _ ⟨e0, e1⟩ (fun hHeld => ?_)
 clear hKK K
 try simp only [tS]
 refine wpAnyH_ready (rs := [11]) (by kernel_rfl) (by simp) (AllReadyH.cons rfl (fun K hKK => ?_) AllReadyH.nil)
 rw [if_pos (by rfl)]
 go_simp
 refine (HR.out w2 HB2.out).mono ?_
 clear HR
 rintro e w3 ⟨b, c, rfl, hcc, hbb, hat, hb3⟩
 have hB3 : Below w.heap.size w w3 := HB2.out.trans (hb3.mono HB2.out.size)
 have HB3 := hid hB3
 have HAt := hid hat
 have hs2 := HB2.out.size
 obtain ⟨f0, f1⟩ := HC.out w3 hB3
 clear hb3 hB3 hat
 go_wp2_with fail
 refine hKK.out _ _ ⟨f0, f1⟩ (fun hHeld => ?_)
 clear hKK K
 try simp only [tS]
 refine tq 12 _ ?_
 try simp only [tS]
 refine tq 13 _ ?_
 try simp only [tS]
 refine tq 14 _ ?_
 try simp only [tS]
 refine tq 15 _ ?_
 try simp only [tS]
 refine wpAnyH_done (by kernel_rfl) ?_ _
 refine NoPanic.normal ?_
 go_wp2
 go_returns
 exact ⟨b, c, rfl, hcc, by omega, HAt.out, HB3.out⟩
end
def ReadRow (w0 w w' : World) (c : Nat) (L : CLay) (C : CS) (n : Nat) (e : Ending) : Prop :=
 ∃ g cap D' u' k, e = .returned (.tuple #[.slice (some ⟨g, 0, none⟩) 512 cap, .int .i64 0]) /\ 512 <= cap /\ w.heap.size <= g /\ rowU w' g (C.see n) /\ k <= 1 /\ (∀ W, Keeps (fun i => w0.heap.size <= i) w' W -> CacheAt W c { L with Du := D' } { C with uses := C.uses + k, used := u' }) /\ Keeps (fun i => i = c \/ i = L.um) w w'
section
variable {c : Nat} {L : CLay} {C : CS}
theorem bread_row {w0 : World} (n : Nat) (w : World) (h0 : CacheAt w0 c L C) (hw : Below w0.heap.size w0 w) (hM : Made C.S) (hu : C.uses < 1000000) (hn : n < C.N) :
  Calls Tryz.prog 161 #[.pointer (some ⟨c, 0, none⟩), .int .i64 n] w fun e w' => ReadRow w0 w w' c L C n e := by
 have h := h0.below hw
 have H0 := hid h0
 have HBw := hid hw
 clear h0 hw
 obtain ⟨c0, c1, -, -, -⟩ := h.cells
 have hpl := h.pagesLe
 have hn0 : -9223372036854775808 <= (n : Int) := by omega
 have hn1 : (n : Int) < 9223372036854775808 := by omega
 have H := hid h
 have HM := hid hM
 cases hdv : L.dv n with
 | some v =>
  obtain ⟨g0, cap0, bs, h1, rfl, h3, h4, h5⟩ := h.bytes n v hdv
  have HDv := hid hdv
  have HDi := hid h1
  have hcl := bclone_any bs ⟨g0, 0, none⟩ cap0 w (by omega) (by omega) h3
  rw [h4] at hcl
  have HCl := hid hcl
  have H4 := hid h4
  clear h hM hdv h1 h3 h4 h5 hcl
  go_enter Tryz.func161, Tryz.ntmps161
  go_wp2_with (refine wpList_lookup_grp rfl (.tmp 16) (.tmp 17) 115 rfl 81 Tryz.underlying115 (Tryz.zeroValue81 _) rfl H.out.dirty n rfl hn0 hn1 (.slice (some ⟨g0, 0, none⟩) 512 cap0) true (by rw [HDv.out]; rfl) (by rw [HDv.out]; rfl) ?_)
  refine HCl.out.mono ?_
  clear HCl
  rintro e w1 ⟨g, cap, rfl, hrow, hb⟩
  have HB := hid hb
  have HR := hid hrow
  clear hb hrow
  go_wp2
  go_returns
  have hsee : C.see n = bs := by unfold CS.see; rw [HDi.out]; rfl
  have hg := (HR.out.lt g rfl).1
  refine ⟨g, cap, L.Du, C.used, 0, rfl, ?_, hg, by rw [hsee]; exact rowU_of_row HR.out H4.out, by omega, fun W hW => ?_, Keeps.of_below HB.out⟩
  ·rcases HR.out.2 with ⟨e, -⟩ | ⟨g', cap', cur, e, -, -, hc, -⟩
   ·cases e
   ·obtain ⟨-, rfl⟩ : g = g' /\ cap = cap' := by simpa using e
    exact hc
  ·have hb2 := HBw.out.trans (HB.out.mono HBw.out.size)
   exact H0.out.below (hb2.trans (hW.below hb2.size (fun i e => e)))
 | none =>
  have HDv := hid hdv
  have HDi := hid (h.clean n hdv)
  clear h hM hdv
  have hxp : n < pagesS C.S C.size := by rw [<- H.out.pages]; omega
  have hx1 : C.size + 1 + n < C.S.safe.length := by unfold pagesS at hxp; omega
  have hsz : (seenS C.S.safe C.S.waits ((1 + C.size + n : Nat) : Int)).size = 512 := HM.out.seen (1 + C.size + n) (by omega)
  have hlr := log_read_row n w H.out.log H.out.fits hxp
  rw [show (1 + (C.size : Int) + (n : Int)) = ((1 + C.size + n : Nat) : Int) by omega, hsz] at hlr
  have HLr := hid hlr
  have HS5 : Hid ((secL C.S (1 + C.size + n)).length = 512) := HM.out.sec _ (by omega)
  have hcl := lt_of_heap H.out.heap
  clear hlr hsz hx1 hxp
  go_enter Tryz.func161, Tryz.ntmps161
  go_wp2_with (refine wpList_lookup_grp rfl (.tmp 16) (.tmp 17) 115 rfl 81 Tryz.underlying115 (Tryz.zeroValue81 _) rfl H.out.dirty (n : Int) rfl hn0 hn1 (.slice none 0 0) false (by rw [HDv.out]; rfl) (by rw [HDv.out]; rfl) ?_)
  refine HLr.out.mono ?_
  clear HLr
  rintro e w1 ⟨g, cap, rfl, hcap, hg1, hby, hb1⟩
  have H1 := hid (H.out.below hb1)
  have HBy := hid hby
  have HB1 := hid hb1
  have HUs := hid (buse_any C.used _ _ _ C.most C.uses hu H.out.ub (n : Int) (by omega) (by omega) hpl w1 H1.out.heap H1.out.used)
  clear hby hb1
  go_wp2_with fail
  refine HUs.out.mono ?_
  clear HUs
  rintro e w2 ⟨rfl, u', D', hc2, hU2, hT2, hK2⟩
  have h0 : 0 < (secL C.S (1 + C.size + n)).length := by rw [HS5.out]; omega
  have hgn : ¬ (g = c \/ g = L.um) := by
   have h1 := HBy.out.1 0 h0
   have h2 := H1.out.out (G := fun i => i = c \/ i = L.um) (fun i hi => hi.elim .inl (fun e => .inr (.inr e))) h1 (fun y => by simp) (fun y => by simp) (fun y => by simp)
   rw [add_block] at h2
   exact h2
  have HBy2 : Hid (rowU w2 g (secL C.S (1 + C.size + n))) := HBy.out.keep hK2 hgn
  have HK2 : Hid (Keeps (fun i => i = c \/ i = L.um) w w2) := (Keeps.of_below HB1.out).trans hK2 (fun i e => .inl e)
  have HW2 : Hid (∀ W, Keeps (fun i => w0.heap.size <= i) w2 W -> CacheAt W c { L with Du := D' } { C with uses := C.uses + 1, used := u' }) := fun W hW => by
   obtain ⟨es', kk', hm'⟩ := H0.out.umap
   have hcl0 := lt_of_heap H0.out.heap
   have hul0 := lt_of_heap hm'
   exact H0.out.use (hW.heap hc2 (by omega)) (hU2.keep hW (by omega)) hT2 (((Keeps.of_below HBw.out).trans HK2.out (fun i e => .inl e)).trans hW (fun i e => .inr e)) hu
  clear hc2 hU2 hT2 hK2 h0 hgn
  go_wp2
  go_returns
  have hsee : C.see n = secL C.S (1 + C.size + n) := by unfold CS.see; rw [HDi.out]; rfl
  exact ⟨g, cap, D', u', 1, rfl, hcap, hg1, by rw [hsee]; exact HBy2.out, by omega, HW2.out, HK2.out⟩
end
end
section
open Go.RowKit
end
section
open Go.RowKit
def Cand (C : DiskS) (n : Nat) (s : ByteArray) : Prop := C.safe[n]? = some s \/ s ∈ C.waits (n : Int)
structure Left (C X : DiskS) : Prop where
 waits : X.waits = fun _ => []
 ops : X.ops = []
 len : X.safe.length = C.safe.length
 cand : ∀ n, n < C.safe.length -> Cand C n (seenAt X n)
end
section
open Go.RowKit Go.Maps
end
section
open Go.RowKit
end
section
open Go.RowKit
end
section
open Go.RowKit
section
variable {w : World} {c : Nat} {L : CLay} {C : CS}
theorem CacheAt.footLt (h : CacheAt w c L C) (i : Nat) (hi : L.foot c i) : i < w.heap.size := by
 obtain ⟨es, k, hm⟩ := h.dmap
 obtain ⟨es', k', hm'⟩ := h.umap
 rcases hi with hi | hi | hi | hi
 ·exact h.lt i hi
 ·rw [hi]; exact lt_of_heap h.heap
 ·rw [hi]; exact lt_of_heap hm
 ·rw [hi]; exact lt_of_heap hm'
theorem CacheAt.comWaits (h : CacheAt w c L C) (hr : C.dirtyKeys.length <= min C.size 100) (hw : C.S.waits = fun _ => []) : C.com.waits = fun _ => [] := by
 rw [<- (h.com hr).2]; exact comS_waits _ _ _ _ hw
theorem CacheAt.comHead (h : CacheAt w c L C) (hr : C.dirtyKeys.length <= min C.size 100) (hh : headOk C.S) : headOk C.com := by
 rw [<- (h.com hr).2]; exact headOk_com _ _ _ _ hh (by have := h.fits; omega)
end
end
section
open Go.RowKit Go.Maps
def dkD (N : Nat) (D : Int -> Bool) : List Int := ((List.range N).map (fun k : Nat => (k : Int))).filter D
def SepX (hs : Nat) (L : CLay) (N : Nat) (Pg Cm : Nat -> List UInt8) : Prop := ∀ g, (Pg (N + 1 + g) = [7] \/ Cm (N + 1 + g) = [7]) -> g < hs /\ ¬ L.F g /\ ∀ n cap, L.dv n ≠ some (.slice (some ⟨g, 0, none⟩) 512 cap)
theorem SepX.mono {hs hs' : Nat} {L : CLay} {N : Nat} {Pg Cm : Nat -> List UInt8} (h : SepX hs L N Pg Cm) (hl : hs <= hs') : SepX hs' L N Pg Cm := fun g hg => ⟨Nat.lt_of_lt_of_le (h g hg).1 hl, (h g hg).2⟩
theorem SepX.zeros (hs : Nat) (L : CLay) (N : Nat) : SepX hs L N (fun _ => zN 512) (fun _ => zN 512) := fun g hg => by
 have : (zN 512).length = [(7 : UInt8)].length := hg.elim (fun e => congrArg List.length e) (fun e => congrArg List.length e)
 rw [length_zN] at this
 cases this
structure PcIn (w : World) (c : Nat) (F : Nat -> Prop) (size N : Nat) (Pg Cm : Nat -> List UInt8) (D : Int -> Bool) (o u : Nat) (L : CLay) (C : CS) : Prop where
 at_ : CacheAt w c L C
 sz : C.size = size
 nn : C.N = N
 made : Made C.S
 ops : C.S.ops.length <= o
 uses : C.uses <= u
 pg : ∀ n, n < N -> C.see n = Pg n
 cm : ∀ n, n < N -> secL C.S (1 + size + n) = Cm n
 dirty : ∀ n : Int, (C.dirty n).isSome = D n
 room : C.dirtyKeys.length <= min size 100
 foot : ∀ i, L.foot c i -> F i
 lt : ∀ i, F i -> i < w.heap.size
 p0 : L.p < w.heap.size
 sep : SepX w.heap.size L N Pg Cm
 quiet : C.S.waits = (fun _ => []) /\ headOk C.S
def Pc (w : World) (c : Nat) (F : Nat -> Prop) (size N : Nat) (Pg Cm : Nat -> List UInt8) (D : Int -> Bool) (o u : Nat) : Prop := ∃ L C, PcIn w c F size N Pg Cm D o u L C
theorem PcIn.keys {w : World} {c : Nat} {F : Nat -> Prop} {size N : Nat} {Pg Cm : Nat -> List UInt8} {D : Int -> Bool} {o u : Nat} {L : CLay} {C : CS} (h : PcIn w c F size N Pg Cm D o u L C) : C.dirtyKeys = dkD N D := by
 unfold CS.dirtyKeys dkD
 rw [h.nn]
 exact List.filter_congr (fun k _ => h.dirty k)
section
variable {w w' : World} {c : Nat} {F : Nat -> Prop} {size N : Nat} {Pg Cm : Nat -> List UInt8} {D : Int -> Bool} {o u : Nat}
theorem Pc.below (h : Pc w c F size N Pg Cm D o u) (hb : Below w.heap.size w w') : Pc w' c F size N Pg Cm D o u := by
 obtain ⟨L, C, h⟩ := h
 exact ⟨L, C, h.at_.below hb, h.sz, h.nn, h.made, h.ops, h.uses, h.pg, h.cm, h.dirty, h.room, h.foot, fun i hi => Nat.lt_of_lt_of_le (h.lt i hi) hb.size, Nat.lt_of_lt_of_le h.p0 hb.size, h.sep.mono hb.size, h.quiet⟩
theorem Pc.more {o' u' : Nat} (h : Pc w c F size N Pg Cm D o u) (ho : o <= o') (hu : u <= u') : Pc w c F size N Pg Cm D o' u' := by
 obtain ⟨L, C, h⟩ := h
 exact ⟨L, C, h.at_, h.sz, h.nn, h.made, Nat.le_trans h.ops ho, Nat.le_trans h.uses hu, h.pg, h.cm, h.dirty, h.room, h.foot, h.lt, h.p0, h.sep, h.quiet⟩
theorem Pc.lt (h : Pc w c F size N Pg Cm D o u) (i : Nat) (hi : F i) : i < w.heap.size := by obtain ⟨L, C, h⟩ := h; exact h.lt i hi
theorem Pc.len (h : Pc w c F size N Pg Cm D o u) (n : Nat) (hn : n < N) : (Pg n).length = 512 := by
 obtain ⟨L, C, h⟩ := h
 rw [<- h.pg n hn]
 unfold CS.see
 cases hd : C.dirty (n : Int) with
 | some bs => exact (h.at_.dom hd).2.2
 | none =>
  have hp := h.at_.pages
  have h5 := h.at_.fits
  have hN := h.nn
  exact h.made.sec _ (by unfold pagesS at hp; omega)
theorem Pc.keysLen (h : Pc w c F size N Pg Cm D o u) : (dkD N D).length <= min size 100 := by obtain ⟨L, C, h⟩ := h; rw [<- h.keys]; exact h.room
theorem Pc.four (h : Pc w c F size N Pg Cm D o u) : N <= 4096 := by obtain ⟨L, C, h⟩ := h; have := h.at_.pagesLe; rw [h.nn] at this; exact this
theorem Pc.read {w0 : World} (h : Pc w0 c F size N Pg Cm D o u) (hw : Below w0.heap.size w0 w) (n : Nat) (hn : n < N) (hu : u < 1000000) :
  Calls Tryz.prog 161 #[.pointer (some ⟨c, 0, none⟩), .int .i64 n] w fun e w' => ∃ g cap, e = .returned (.tuple #[.slice (some ⟨g, 0, none⟩) 512 cap, .int .i64 0]) /\ 512 <= cap /\ w.heap.size <= g /\ rowU w' g (Pg n) /\ Keeps F w w' /\ ∀ W, Keeps (fun i => w0.heap.size <= i) w' W -> Pc W c F size N Pg Cm D o (u + 1) := by
 obtain ⟨L, C, h⟩ := h
 refine (bread_row n w h.at_ hw h.made (by have := h.uses; omega) (by rw [h.nn]; exact hn)).mono ?_
 rintro e w' ⟨g, cap, D', u', k, rfl, hc, hg, hr, hk, hW, hK⟩
 have hf : ∀ i, (i = c \/ i = L.um) -> F i := fun i hi => h.foot i (hi.elim (fun e => .inr (.inl e)) (fun e => .inr (.inr (.inr e))))
 refine ⟨g, cap, rfl, hc, hg, by rw [<- h.pg n hn]; exact hr, hK.mono hf, fun W hWk => ⟨_, _, hW W hWk, h.sz, h.nn, h.made, h.ops, by show C.uses + k <= u + 1; have := h.uses; omega, h.pg, h.cm, h.dirty, h.room, h.foot, fun i hi => ?_, ?_, h.sep.mono (Nat.le_trans hw.size (Nat.le_trans hK.size hWk.size)), h.quiet⟩⟩
 ·exact Nat.lt_of_lt_of_le (h.lt i hi) (Nat.le_trans hw.size (Nat.le_trans hK.size hWk.size))
 ·exact Nat.lt_of_lt_of_le h.p0 (Nat.le_trans hw.size (Nat.le_trans hK.size hWk.size))
def updP (Pg : Nat -> List UInt8) (n : Nat) (l : List UInt8) : Nat -> List UInt8 := fun k => if k = n then l else Pg k
def updT (D : Int -> Bool) (n : Int) : Int -> Bool := fun k => if k = n then true else D k
theorem Pc.write (h : Pc w c F size N Pg Cm D o u) (n : Nat) (hn : n < N) (l : List UInt8) (hl : l.length = 512) (ad : Addr) (cp : Nat) (hb : bytesAt w ad l) (hr : D n = true \/ (dkD N D).length < min size 100) :
  Calls Tryz.prog 130 #[.pointer (some ⟨c, 0, none⟩), .int .i64 n, .slice (some ad) 512 cp] w fun e w' => e = .returned (.int .i64 0) /\ Keeps F w w' /\ Pc w' c F size N (updP Pg n l) Cm (updT D n) o u := by
 obtain ⟨L, C, h⟩ := h
 have hr' : (C.dirty n).isSome \/ C.dirtyKeys.length < min C.size 100 := by
  rw [h.keys, h.sz, h.dirty]; exact hr
 refine (bwrite_ok n l ad cp w h.at_ (by rw [h.nn]; exact hn) hl hb hr').mono ?_
 rintro e w' ⟨rfl, g, cap, Dd, Du, hg, hC, hK⟩
 have hf : ∀ i, (i = L.dm \/ i = L.um) -> F i := fun i hi => h.foot i (hi.elim (fun e => .inr (.inr (.inl e))) (fun e => .inr (.inr (.inr e))))
 have hsp : SepX w'.heap.size { L with dv := updV L.dv n (.slice (some ⟨g, 0, none⟩) 512 cap), Dd := Dd, Du := Du } N (updP Pg n l) Cm := fun q hq => by
  have hq' : Pg (N + 1 + q) = [7] \/ Cm (N + 1 + q) = [7] := hq.imp (fun e => by unfold updP at e; rw [if_neg (by omega)] at e; exact e) id
  obtain ⟨h1, h2, h3⟩ := h.sep q hq'
  refine ⟨Nat.lt_of_lt_of_le h1 hK.size, h2, fun k cp e => ?_⟩
  have e' : updV L.dv n (.slice (some ⟨g, 0, none⟩) 512 cap) k = some (.slice (some ⟨q, 0, none⟩) 512 cp) := e
  unfold updV at e'
  split at e'
  ·have e2 := Option.some.inj e'
   rw [Value.slice.injEq] at e2
   have e3 : g = q := congrArg Addr.block (Option.some.inj e2.1)
   omega
  ·exact h3 k cp e'
 refine ⟨rfl, hK.mono hf, _, _, hC, h.sz, h.nn, h.made, h.ops, h.uses, fun k hk => ?_, h.cm, fun k => ?_, ?_, h.foot, fun i hi => Nat.lt_of_lt_of_le (h.lt i hi) hK.size, Nat.lt_of_lt_of_le h.p0 hK.size, hsp, h.quiet⟩
 ·show (updD C.dirty n l k).getD (secL C.S (1 + C.size + k)) = updP Pg n l k
  unfold updD updP
  by_cases e : k = n
  ·rw [if_pos (by omega), if_pos e]; rfl
  ·rw [if_neg (by omega), if_neg e, <- h.pg k hk]; rfl
 ·show (updD C.dirty n l k).isSome = updT D n k
  unfold updD updT
  by_cases e : k = (n : Int)
  ·rw [if_pos e, if_pos e]; rfl
  ·rw [if_neg e, if_neg e]; exact h.dirty k
 ·have := keys_upd C n l (delN C.used n) (min size 100) h.room (by rw [h.sz] at hr'; exact hr')
  exact this
theorem Pc.dirtyRow (h : Pc w c F size N Pg Cm D o u) :
  Calls Tryz.prog 51 #[.pointer (some ⟨c, 0, none⟩)] w fun e w' => ∃ v, e = .returned v /\ w'.ownsRow w.heap.size 3 1 v (dkD N D).length ((dkD N D).map encZ) /\ Below w.heap.size w w' := by
 obtain ⟨L, C, h⟩ := h
 have hk := h.keys
 refine (bdirty_any w h.at_).mono ?_
 rintro e w' ⟨v, rfl, hrow, -, hb⟩
 rw [hk] at hrow
 exact ⟨v, rfl, hrow, hb⟩
theorem Pc.roomC (h : Pc w c F size N Pg Cm D o u) :
  Calls Tryz.prog 65 #[.pointer (some ⟨c, 0, none⟩)] w fun e w' => e = .returned (.int .i64 (((min size 100 : Nat) : Int) - ((dkD N D).length : Int))) /\ Below w.heap.size w w' := by
 obtain ⟨L, C, h⟩ := h
 have := broom_any w h.at_
 rw [h.keys, h.sz] at this
 exact this
theorem Pc.logPages (h : Pc w c F size N Pg Cm D o u) : ∃ p, (Calls Tryz.prog 63 #[.pointer (some ⟨c, 0, none⟩)] w fun e w' => e = .returned (.pointer (some ⟨p, 0, none⟩)) /\ w' = w) /\
  (Calls Tryz.prog 64 #[.pointer (some ⟨p, 0, none⟩)] w fun e w' => e = .returned (.int .i64 (N : Nat)) /\ Below w.heap.size w w') := by
 obtain ⟨L, C, h⟩ := h
 refine ⟨L.p, blog_any w h.at_, ?_⟩
 have := log_pages w h.at_.log h.at_.fits
 rwa [<- h.at_.pages, h.nn] at this
theorem dkD_none (N : Nat) : dkD N (fun _ => false) = [] := by simp [dkD]
theorem Pc.commitT (h : Pc w c F size N Pg Cm D o u) (ho : o <= 800000) :
  Calls Tryz.prog 20 #[.pointer (some ⟨c, 0, none⟩)] w fun e w' => e = .returned (.int .i64 0) /\ Keeps F w w' /\ ∃ F', (∀ i, F i -> F' i) /\ (∀ i, F' i -> F i \/ w.heap.size <= i) /\ Pc w' c F' size N Pg Pg (fun _ => false) (o + (2 * (dkD N D).length + 6)) u := by
 obtain ⟨L, C, h⟩ := h
 have hr : C.dirtyKeys.length <= min C.size 100 := by rw [h.sz]; exact h.room
 have hmd := h.at_.comMade h.made hr
 have hco : C.com.ops.length <= C.S.ops.length + (2 * (dkD N D).length + 6) := by
  have := comS_ops C.S C.size (L.ps C.dirtyKeys) (fun j => (C.dirty (C.dirtyKeys.getD j 0)).getD [])
  rw [(h.at_.com hr).2] at this
  have hpl : (L.ps C.dirtyKeys).length = C.dirtyKeys.length := by simp [CLay.ps]
  rw [hpl, h.keys] at this
  split at this <;> omega
 have hse := h.at_.comSee hr
 refine (bcommit_any w h.at_ hr (by have := h.ops; omega)).mono ?_
 rintro e w' ⟨rfl, d', F', hF1, hF2, hC, hK⟩
 have hft : ∀ i, L.F i \/ i = L.dm -> F i := fun i hi => h.foot i (hi.elim .inl (fun e => .inr (.inr (.inl e))))
 refine ⟨rfl, hK.mono hft, fun i => F i \/ (F' i /\ w.heap.size <= i), fun i hi => .inl hi, fun i hi => hi.imp id (fun h => h.2), _, _, hC, h.sz, h.nn, hmd, ?_, h.uses, fun n hn => ?_, fun n hn => ?_, fun n => rfl, ?_, fun i hi => ?_, fun i hi => ?_, Nat.lt_of_lt_of_le h.p0 hK.size, fun q hq => ?_, ⟨h.at_.comWaits hr h.quiet.1, h.at_.comHead hr h.quiet.2⟩⟩
 ·show C.com.ops.length <= _
  have := h.ops
  omega
 ·have h1 := hse n (by rw [h.nn]; exact hn)
  rw [h.pg n hn] at h1
  exact h1
 ·have h1 := hse n (by rw [h.nn]; exact hn)
  rw [h.pg n hn, h.sz] at h1
  exact h1
 ·rw [CS.dirtyKeys_none rfl]; simp
 ·rcases hi with hi | hi | hi | hi
  ·rcases hF2 i hi with h1 | h1
   ·exact .inl (h.foot i (.inl h1))
   ·exact .inr ⟨hi, h1⟩
  ·exact .inl (h.foot i (.inr (.inl hi)))
  ·exact .inl (h.foot i (.inr (.inr (.inl hi))))
  ·exact .inl (h.foot i (.inr (.inr (.inr hi))))
 ·rcases hi with hi | hi
  ·exact Nat.lt_of_lt_of_le (h.lt i hi) hK.size
  ·exact hC.lt i hi.1
 ·obtain ⟨h1, h2, h3⟩ := h.sep q (.inl (hq.elim id id))
  exact ⟨Nat.lt_of_lt_of_le h1 hK.size, fun hh => (hF2 q hh).elim h2 (fun e => by omega), fun k cp e => by cases e⟩
theorem Pc.commit (h : Pc w c F size N Pg Cm D o u) (ho : o <= 800000) :
  Calls Tryz.prog 20 #[.pointer (some ⟨c, 0, none⟩)] w fun e w' => e = .returned (.int .i64 0) /\ Keeps F w w' /\ ∃ F', (∀ i, F i -> F' i) /\ (∀ i, F' i -> F i \/ w.heap.size <= i) /\ Pc w' c F' size N Pg Pg (fun _ => false) (o + (2 * size + 6)) u := by
 have hl := h.keysLen
 refine (h.commitT ho).mono ?_
 rintro e w' ⟨rfl, hk, F', h1, h2, hp⟩
 exact ⟨rfl, hk, F', h1, h2, hp.more (by omega) (Nat.le_refl _)⟩
end
end
section
open Go.RowKit Go.Maps
def offN (w : World) (b : Nat) : Prop := ∃ cs t fr, w.heap[b]? = some (.cells cs t fr) /\ (t ≠ 139 /\ t ≠ 120 /\ t ≠ 111) /\ ∀ v ∈ cs.toList, (∃ n, v = .int .i64 n) \/ (∃ x, v = .bool x) \/ (∃ a n c, v = .slice a n c) \/ (∃ a, v = .pointer a) \/ ∃ s : ByteArray, v = .string s /\ s.size ≠ 512
theorem offN.not {w : World} {b : Nat} {ad : Addr} {v : Value} (h : offN w b) (hc : w.cell? ad = some v) (hv : (∀ n, v ≠ .int .i64 n) /\ (∀ x, v ≠ .bool x) /\ (∀ a n c, v ≠ .slice a n c) /\ (∀ a, v ≠ .pointer a) /\ ∀ s : ByteArray, v = .string s -> s.size = 512) : ad.block ≠ b := fun e => by
 obtain ⟨cs, t, fr, hb, -, hk⟩ := h
 have hp := plain_addr hc
 rw [hp, e, cell_of_block hb] at hc
 have hm : v ∈ cs.toList := by
  obtain ⟨h1, h2⟩ := Array.getElem?_eq_some_iff.1 hc
  rw [<- h2]; simp
 rcases hk v hm with ⟨n, rfl⟩ | ⟨x, rfl⟩ | ⟨a, n, c, rfl⟩ | ⟨a, rfl⟩ | ⟨s, rfl, h5⟩
 ·exact hv.1 n rfl
 ·exact hv.2.1 x rfl
 ·exact hv.2.2.1 a n c rfl
 ·exact hv.2.2.2.1 a rfl
 ·exact h5 (hv.2.2.2.2 s rfl)
theorem offN.noMap {w : World} {b : Nat} (h : offN w b) (e : Array MapEntry) (k : Nat) : w.heap[b]? ≠ some (.map e k) := fun hm => by
 obtain ⟨cs, t, fr, hb, -⟩ := h
 rw [hb] at hm; cases hm
theorem offN.type {w : World} {b : Nat} (h : offN w b) {cs : Array Value} {t : TypeId} {fr : Nat × Nat} (hm : w.heap[b]? = some (.cells cs t fr)) : t ≠ 139 /\ t ≠ 120 /\ t ≠ 111 := by
 obtain ⟨cs', t', fr', hb, ht, -⟩ := h
 rw [hb] at hm
 simp only [Option.some.injEq, Obj.cells.injEq] at hm
 rw [<- hm.2.1]; exact ht
theorem AnyAt.keepY {w w' : World} {d : DL} {S : DiskS} {F G : Nat -> Prop} (h : AnyAt w d S F) (hz : ∀ s ∈ S.first, s.size = 512) (hb : ∀ b, G b -> offN w b) (hF : ∀ b, G b -> ¬ F b) (k : Keeps G w w') : AnyAt w' d S F := by
 rcases h with ⟨h, hf⟩ | ⟨h, hf⟩
 ·refine .inl ⟨?_, hf⟩
  have hne : ∀ i, d.cutFoot S.waits i -> ¬ G i := fun i hi e => hF i e (hf i hi)
  obtain ⟨h1, ⟨a, e1, e2, e3⟩, ⟨ad, c, e4, e5, e6⟩, h4⟩ := h
  refine ⟨h1.keep k (hne _ (.inl rfl)) (fun i hi => hne i (.inr hi)), ⟨a, e1, e2, fun q hq => ⟨fun j u hu => ?_, Nat.lt_of_lt_of_le (e3 q hq).2 k.size⟩⟩, ⟨ad, c, e4, fun j s hj => ?_, e6⟩, h4⟩
  ·refine k.cell ((e3 q hq).1 j u hu) (fun hG => (hb _ hG).not ((e3 q hq).1 j u hu) ?_ rfl)
   rw [List.getElem?_map] at hu
   cases ho : S.ops[j]? with
   | none => rw [ho] at hu; cases hu
   | some o => rw [ho] at hu; obtain rfl := Option.some.inj hu; cases o <;> simp [encOp]
  ·exact k.cell (e5 j s hj) (fun hG => (hb _ hG).not (e5 j s hj) ⟨by simp, by simp, by simp, by simp, fun s' e => by cases e; exact hz _ (List.mem_of_getElem? hj)⟩ rfl)
 ·refine .inr ⟨?_, hf⟩
  have hne : ∀ i, d.foot S.waits i -> ¬ G i := fun i hi e => hF i e (hf i hi)
  refine h.keep k hne (fun i hi e => ?_)
  obtain ⟨ad, c, e4, e5, e6⟩ := h.first
  have hpos : 0 < S.first.length := by rw [h.flen]; exact h.plates.pos
  have hc := e5 0 S.first[0] (List.getElem?_eq_getElem hpos)
  have h1 := (hb i e).not hc ⟨by simp, by simp, by simp, by simp, fun s' e => by cases e; exact hz _ (List.getElem_mem _)⟩
  rw [add_block] at h1
  rw [e4] at hi
  exact h1 (Option.some.inj hi)
theorem LogIn.keepY {w w' : World} {p : Nat} {d : DL} {S : DiskS} {size rec : Nat} {F G : Nat -> Prop} (h : LogIn w p d S size rec F) (hz : ∀ s ∈ S.first, s.size = 512) (hb : ∀ b, G b -> offN w b) (hF : ∀ b, G b -> ¬ F b) (k : Keeps G w w') : LogIn w' p d S size rec F := by
 refine ⟨k.heap h.heap (fun e => ?_), h.disk.keepY hz hb hF k, h.off⟩
 exact absurd ((hb p e).type h.heap) (by decide)
theorem CacheAt.keepY {w w' : World} {c : Nat} {L : CLay} {C : CS} (h : CacheAt w c L C) (hz : ∀ s ∈ C.S.first, s.size = 512) {G : Nat -> Prop} (hg : ∀ b, G b -> offN w b) (hF : ∀ b, G b -> ¬ L.F b) (k : Keeps G w w') : CacheAt w' c L C := by
 obtain ⟨es, kk, hm⟩ := h.dmap
 obtain ⟨es', kk', hu⟩ := h.umap
 have hmap : ∀ m e k0, w.heap[m]? = some (.map e k0) -> ¬ G m := fun m e k0 hm e1 => (hg m e1).noMap _ _ hm
 exact {
  heap := k.heap h.heap (fun e => absurd ((hg c e).type h.heap) (by decide))
  log := h.log.keepY hz hg hF k
  lt := fun i hi => Nat.lt_of_lt_of_le (h.lt i hi) k.size
  dirty := h.dirty.keep k (hmap _ _ _ hm)
  bytes := fun n v hv => by
   obtain ⟨g', cap, bs, h1, h2, h3, h4, h5⟩ := h.bytes n v hv
   subst h2
   refine ⟨g', cap, bs, h1, rfl, fun j hj => k.cell (h3 j hj) (fun hG => (hg _ hG).not (h3 j hj) (by simp) rfl), h4, h5⟩
  clean := h.clean
  used := h.used.keep k (hmap _ _ _ hu)
  offc := h.offc
  offd := h.offd
  offu := h.offu
  ne := h.ne
  pages := h.pages
  fits := h.fits
  few := h.few
  ub := h.ub }
section
variable {w w' : World} {c : Nat} {F : Nat -> Prop} {size N : Nat} {Pg Cm : Nat -> List UInt8} {D : Int -> Bool} {o u : Nat}
theorem Pc.keepYs (h : Pc w c F size N Pg Cm D o u) {G : Nat -> Prop} (hg : ∀ b, G b -> offN w b) (hF : ∀ b, G b -> ¬ F b) (k : Keeps G w w') : Pc w' c F size N Pg Cm D o u := by
 obtain ⟨L, C, h⟩ := h
 exact ⟨L, C, h.at_.keepY h.made.size hg (fun b hb hf => hF b hb (h.foot _ (.inl hf))) k, h.sz, h.nn, h.made, h.ops, h.uses, h.pg, h.cm, h.dirty, h.room, h.foot, fun i hi => Nat.lt_of_lt_of_le (h.lt i hi) k.size, Nat.lt_of_lt_of_le h.p0 k.size, h.sep.mono k.size, h.quiet⟩
theorem Pc.keepY (h : Pc w c F size N Pg Cm D o u) {b : Nat} (hg : offN w b) (hF : ¬ F b) (k : Keeps (fun i => i = b) w w') : Pc w' c F size N Pg Cm D o u := h.keepYs (G := fun i => i = b) (fun i e => by have e' : i = b := e; rw [e']; exact hg) (fun i e => by have e' : i = b := e; rw [e']; exact hF) k
end
end
section
open Go.RowKit
def ownBl (w : World) (b : Nat) (L : List Bool) : Prop := w.heap[b]? = some (.cells (L.map Value.bool).toArray 4 (0, 0))
theorem ownBl.cell {w : World} {b : Nat} {L : List Bool} (h : ownBl w b L) (j : Nat) (hj : j < L.length) : w.cell? ⟨b, j, none⟩ = some (.bool L[j]) := by
 rw [cell_of_block h]; simp [hj]
theorem ownBl.set {w : World} {b : Nat} {L : List Bool} (h : ownBl w b L) (j : Nat) (x : Bool) : ownBl (w.setCell ⟨b, j, none⟩ (.bool x)) b (L.set j x) := by
 have h1 := block_setCell h j (.bool x)
 rw [List.setIfInBounds_toArray] at h1
 unfold ownBl
 rw [h1, List.map_set]
theorem infoBl : (Tryz.prog.info? 4).map (fun i => (i.zero, i.size, i.bytes)) = some (some (.bool false), 1, 1) := by kernel_rfl
theorem madeBl (n : Nat) : madeCells (Value.bool false).cells (n * 1) = (List.replicate n (Value.bool false)).toArray := by
 apply Array.ext
 ·simp [madeCells]
 ·intro i h1 h2
  simp [madeCells, Value.cells, Nat.mod_one]
end
section
set_option maxRecDepth 100000
set_option maxHeartbeats 1000000
open Go.RowKit
def bitL (l : List UInt8) (n : Nat) : Bool := (l.getD (n / 8) 0).toNat.testBit (n % 8)
def flipL (l : List UInt8) (n : Nat) : List UInt8 := l.set (n / 8) (l.getD (n / 8) 0 ^^^ UInt8.ofNat (2 ^ (n % 8)))
theorem length_flipL (l : List UInt8) (n : Nat) : (flipL l n).length = l.length := List.length_set
theorem pow8 (n : Nat) : 2 ^ (n % 8) < 256 := by
 have : n % 8 < 8 := Nat.mod_lt _ (by omega)
 exact Nat.pow_lt_pow_right (by omega) this
theorem bitL_flipL (l : List UInt8) (n k : Nat) (hn : n / 8 < l.length) : bitL (flipL l n) k = if k = n then !bitL l n else bitL l k := by
 unfold bitL flipL
 by_cases e : k / 8 = n / 8
 ·rw [e, List.getD_eq_getElem?_getD, List.getElem?_set_self hn]
  simp only [Option.getD_some, UInt8.toNat_xor, Nat.testBit_xor, UInt8.toNat_ofNat', Nat.mod_eq_of_lt (pow8 n), Nat.testBit_two_pow]
  by_cases e2 : k = n
  ·subst e2
   rw [if_pos rfl, decide_eq_true rfl, Bool.xor_true]
  ·have : ¬ (n % 8 = k % 8) := by omega
   rw [if_neg e2, decide_eq_false this, Bool.xor_false]
 ·rw [if_neg (fun h => e (by rw [h])), List.getD_eq_getElem?_getD, List.getElem?_set_ne (fun h => e h.symm), <- List.getD_eq_getElem?_getD]
theorem ofNat8 (k : Nat) (hk : k < 8) : (UInt8.ofNat k).toNat % 8 = k := by
 rw [UInt8.toNat_ofNat_of_lt' (by show k < 256; omega)]; omega
theorem op_shr8 (x : UInt8) (y : Int) (h0 : 0 <= y) (h1 : y < 8) : Op.shift .shr .u8 (x.toNat : Int) .i64 y = pure (.int .u8 ((x >>> UInt8.ofNat y.toNat).toNat : Int)) := by
 rw [shift_shr_any _ _ _ _ h0]
 have : min y.toNat IntKind.u8.bits = y.toNat := by simp [IntKind.bits]; omega
 rw [this, UInt8.toNat_shiftRight, ofNat8 _ (by omega), Nat.shiftRight_eq_div_pow, Int.natCast_ediv, Int.natCast_pow]; rfl
theorem op_shl8 (y : Int) (h0 : 0 <= y) (h1 : y < 8) : Op.shift .shl .u8 1 .i64 y = pure (.int .u8 ((UInt8.ofNat (2 ^ y.toNat)).toNat : Int)) := by
 rw [shift_shl_any _ _ _ _ h0]
 have : min y.toNat IntKind.u8.bits = y.toNat := by simp [IntKind.bits]; omega
 have hp : 2 ^ y.toNat < 256 := Nat.pow_lt_pow_right (n := 8) (by omega) (by omega)
 rw [this, IntKind.wrap_u8', UInt8.toNat_ofNat_of_lt' (by show _ < 256; exact hp), Int.one_mul]
 have e : ((2 : Int) ^ y.toNat) = ((2 ^ y.toNat : Nat) : Int) := by rw [Int.natCast_pow]; rfl
 rw [e, Int.emod_eq_of_lt (Int.natCast_nonneg _) (show ((2 ^ y.toNat : Nat) : Int) < 256 from Int.ofNat_lt.2 hp)]
theorem u8_and_nat (a b : UInt8) : bits .and .u8 (a.toNat : Int) (b.toNat : Int) = ((a &&& b).toNat : Int) := by
 show IntKind.u8.wrap ((BitVec.ofInt 8 (a.toNat : Int) &&& BitVec.ofInt 8 (b.toNat : Int)).toNat : Int) = _
 have ha := a.toNat_lt
 have hb := b.toNat_lt
 rw [BitVec.toNat_and, BitVec.ofInt_natCast, BitVec.ofInt_natCast, BitVec.toNat_ofNat, BitVec.toNat_ofNat, Nat.mod_eq_of_lt (by omega), Nat.mod_eq_of_lt (by omega), <- UInt8.toNat_and, IntKind.wrap_u8']
 have := (a &&& b).toNat_lt
 omega
theorem u8_xor_nat (a b : UInt8) : bits .xor .u8 (a.toNat : Int) (b.toNat : Int) = ((a ^^^ b).toNat : Int) := by
 show IntKind.u8.wrap ((BitVec.ofInt 8 (a.toNat : Int) ^^^ BitVec.ofInt 8 (b.toNat : Int)).toNat : Int) = _
 have ha := a.toNat_lt
 have hb := b.toNat_lt
 rw [BitVec.toNat_xor, BitVec.ofInt_natCast, BitVec.ofInt_natCast, BitVec.toNat_ofNat, BitVec.toNat_ofNat, Nat.mod_eq_of_lt (by omega), Nat.mod_eq_of_lt (by omega), <- UInt8.toNat_xor, IntKind.wrap_u8']
 have := (a ^^^ b).toNat_lt
 omega
theorem op_and8 (a : UInt8) : Op.intBits .and .u8 (a.toNat : Int) 1 = pure (.int .u8 ((a &&& 1).toNat : Int)) := by rw [<- u8_and_nat]; rfl
theorem op_xor8 (a b : UInt8) : Op.intBits .xor .u8 (a.toNat : Int) (b.toNat : Int) = pure (.int .u8 ((a ^^^ b).toNat : Int)) := by rw [<- u8_xor_nat]; rfl
theorem bit_fin : ∀ x : Fin 256, ∀ s : Fin 8, (bits BinOp.and IntKind.u8 (((x.val : Nat) : Int) >>> (s.val % 8)) 1 == 1) = x.val.testBit s.val := by decide +kernel
attribute [local go_sem ↓] op_shr8 op_shl8 op_and8 op_xor8
theorem isSet_any (g n cap : Nat) (l : List UInt8) (w : World) (h : bytesAt w ⟨g, 0, none⟩ l) (hl : l.length = 512) (hn : n < 4096) :
  Calls Tryz.prog 160 #[.slice (some ⟨g, 0, none⟩) 512 cap, .int .i64 n] w fun e w' => e = .returned (.bool (bitL l n)) /\ w' = w := by
 have h8 : n / 8 < l.length := by omega
 have c0 : w.cell? ⟨g, n / 8, none⟩ = some (.int .u8 (l[n / 8].toNat : Int)) := by
  have := h (n / 8) h8
  rwa [Addr.add_mid, Nat.zero_add] at this
 have hb : bitL l n = l[n / 8].toNat.testBit (n % 8) := by unfold bitL; rw [List.getD_eq_getElem?_getD, List.getElem?_eq_getElem h8]; rfl
 have hv := bit_fin ⟨l[n / 8].toNat, l[n / 8].toNat_lt⟩ ⟨n % 8, by omega⟩
 dsimp only at hv
 rw [hb]
 clear hb h
 generalize l[n / 8] = x at *
 obtain ⟨s, hs⟩ : ∃ s, s = n % 8 := ⟨_, rfl⟩
 obtain ⟨q, hq⟩ : ∃ q, q = n / 8 := ⟨_, rfl⟩
 rw [<- hs] at hv ⊢
 rw [<- hq] at c0 h8
 have e1 : (n : Int) / 8 = (q : Int) := by omega
 have e2 : (n : Int) % 8 = (s : Int) := by omega
 have e1t : Int.tdiv (n : Int) 8 = (q : Int) := by rw [Int.tdiv_eq_ediv_of_nonneg (by omega)]; exact e1
 have e2t : Int.tmod (n : Int) 8 = (s : Int) := by rw [Int.tmod_eq_emod_of_nonneg (by omega)]; exact e2
 have hq0 : (0 : Int) <= (q : Int) := by omega
 have hq1 : (q : Int) < 512 := by omega
 have hs0 : (0 : Int) <= (s : Int) := by omega
 have hs1 : (s : Int) < 8 := by omega
 clear hs hq
 go_enter Tryz.func160, Tryz.ntmps160
 go_wp2
 go_ret
 refine ⟨?_, rfl⟩
 rw [<- hv]
 rfl
theorem flip_any (g n cap : Nat) (l : List UInt8) (w : World) (h : rowU w g l) (hl : l.length = 512) (hn : n < 4096) :
  Calls Tryz.prog 194 #[.slice (some ⟨g, 0, none⟩) 512 cap, .int .i64 n] w fun e w' => e = .returned (.tuple #[]) /\ rowU w' g (flipL l n) /\ Keeps (fun i => i = g) w w' := by
 have h8 : n / 8 < l.length := by omega
 have c0 := h.cell (n / 8) h8
 have f0 := h.frozen (n / 8) h8
 have hst := h.set (n / 8) h8 (l[n / 8] ^^^ UInt8.ofNat (2 ^ (n % 8)))
 have hb : flipL l n = l.set (n / 8) (l[n / 8] ^^^ UInt8.ofNat (2 ^ (n % 8))) := by unfold flipL; rw [List.getD_eq_getElem?_getD, List.getElem?_eq_getElem h8]; rfl
 rw [<- hb] at hst
 generalize flipL l n = fl at *
 clear hb h
 generalize l[n / 8] = x at *
 obtain ⟨s, hs⟩ : ∃ s, s = n % 8 := ⟨_, rfl⟩
 obtain ⟨q, hq⟩ : ∃ q, q = n / 8 := ⟨_, rfl⟩
 rw [<- hs, <- hq] at hst
 rw [<- hq] at c0 f0 h8
 have HSt := hid hst
 have e1 : (n : Int) / 8 = (q : Int) := by omega
 have e2 : (n : Int) % 8 = (s : Int) := by omega
 have hq0 : (0 : Int) <= (q : Int) := by omega
 have hq1 : (q : Int) < 512 := by omega
 have hs0 : (0 : Int) <= (s : Int) := by omega
 have hs1 : (s : Int) < 8 := by omega
 clear hs hq hst
 go_enter Tryz.func194, Tryz.ntmps194
 go_wp2
 go_region
 have hx : bits BinOp.xor IntKind.u8 (x.toNat : Int) (2 ^ s % 256) = ((x ^^^ UInt8.ofNat (2 ^ s)).toNat : Int) := by
  rw [<- u8_xor_nat, UInt8.toNat_ofNat', Int.natCast_emod, Int.natCast_pow]; rfl
 rw [hx]
 refine ⟨rfl, _, results_none rfl _ _ _, rfl, HSt.out, ?_⟩
 exact ((Keeps.refl _ w).grown (grown_setCell (grown_refl _ _) _ _) (fun i e => .inl (Option.some.inj e).symm)).drew
theorem noughts_any (w : World) : Calls Tryz.prog 133 #[] w fun e w' => e = .returned (.slice (some ⟨w.heap.size, 0, none⟩) 512 512) /\ ownB w' w.heap.size (zN 512) /\ Below w.heap.size w w' := by
 go_enter Tryz.func133, Tryz.ntmps133
 go_wp2_with (refine wpList_make_u8 rfl (.const (.int .i64 512)) (.const (.int .i64 512)) rfl 512 512 rfl rfl rfl (by omega) ?_; intro w1 hb1 hr1 hz1; have HB1 := hid hb1; have HR1 : Hid (ownB w1 w.heap.size (zN 512)) := (by unfold Hid ownB; rw [hr1, rep_U8]); clear hb1 hr1 hz1)
 go_ret
 exact ⟨rfl, HR1.out, HB1.out⟩
theorem afirst_any (n : Nat) (hn : n <= 512) (w : World) : Calls Tryz.prog 126 #[.int .i64 n] w fun e w' => e = .returned (.int .i64 (3 + n / 8 : Nat)) /\ w' = w := by
 obtain ⟨q, hq⟩ : ∃ q, q = n / 8 := ⟨_, rfl⟩
 rw [<- hq]
 have e1 : (n : Int) / 8 = (q : Int) := by omega
 have h0 : (0 : Int) <= (q : Int) := by omega
 have h1 : (q : Int) <= 64 := by omega
 clear hq hn
 go_enter Tryz.func126, Tryz.ntmps126
 go_wp2
 go_ret
 refine ⟨?_, rfl⟩
 rfl
end
section
set_option maxRecDepth 100000
set_option maxHeartbeats 1000000
open Go.RowKit
def mapB (w : World) (m c ino : Nat) : Prop := w.heap[m]? = some (.cells #[.pointer (some ⟨c, 0, none⟩), .int .i64 ino] 111 (0, 0))
theorem mapB.keep {w w' : World} {m c ino : Nat} {F : Nat -> Prop} (h : mapB w m c ino) (k : Keeps F w w') (hF : ¬ F m) : mapB w' m c ino := k.heap h hF
theorem mapB.below {w w' : World} {m c ino : Nat} (h : mapB w m c ino) (k : Below w.heap.size w w') : mapB w' m c ino := below_block k h (lt_of_heap h)
theorem mapB.lt {w : World} {m c ino : Nat} (h : mapB w m c ino) : m < w.heap.size := lt_of_heap h
def oneF : Nat := 4607182418800017408
def numV (b a z : Nat) (x y : Nat) : Value := .agg #[.int .i64 b, .int .i64 a, .int .i64 z, .complex .f64 x y]
theorem infoNum : (Tryz.prog.info? 93).map (·.size) = some 4 := by kernel_rfl
section
variable {w : World} {m c ino : Nat}
theorem amFirst_any (h : mapB w m c ino) (hi : ino <= 512) : Calls Tryz.prog 66 #[.pointer (some ⟨m, 0, none⟩)] w fun e w' => e = .returned (.int .i64 (3 + ino / 8 : Nat)) /\ w' = w := by
 have c1 : w.cell? ⟨m, 1, none⟩ = some (.int .i64 ino) := cell_of_block h 1
 have HA := hid (afirst_any ino hi w)
 obtain ⟨f, hf⟩ : ∃ f, f = 3 + ino / 8 := ⟨_, rfl⟩
 rw [<- hf] at HA ⊢
 clear h hi hf
 go_enter Tryz.func66, Tryz.ntmps66
 go_wp2_with fail
 refine HA.out.mono ?_
 rintro e w1 ⟨rfl, h1⟩
 obtain rfl := h1.symm
 clear h1
 go_wp2
 go_ret
 exact ⟨rfl, rfl⟩
theorem amInodes_any (h : mapB w m c ino) : Calls Tryz.prog 147 #[.pointer (some ⟨m, 0, none⟩)] w fun e w' => e = .returned (.int .i64 ino) /\ w' = w := by
 have c1 : w.cell? ⟨m, 1, none⟩ = some (.int .i64 ino) := cell_of_block h 1
 clear h
 go_enter Tryz.func147, Tryz.ntmps147
 go_wp2
 go_ret
 exact ⟨rfl, rfl⟩
theorem amCache_any (h : mapB w m c ino) : Calls Tryz.prog 19 #[.pointer (some ⟨m, 0, none⟩)] w fun e w' => e = .returned (.pointer (some ⟨c, 0, none⟩)) /\ w' = w := by
 have c0 : w.cell? ⟨m, 0, none⟩ = some (.pointer (some ⟨c, 0, none⟩)) := cell_of_block h 0
 clear h
 go_enter Tryz.func19, Tryz.ntmps19
 go_wp2
 go_ret
 exact ⟨rfl, rfl⟩
theorem amofInodes_any (h : mapB w m c ino) : Calls Tryz.prog 42 #[.pointer (some ⟨m, 0, none⟩)] w fun e w' => e = .returned (numV 1 1 ino 0 oneF) /\ Below w.heap.size w w' := by
 have hb0 := (Below.refl w.heap.size w).alloc (Nat.le_refl _) (.cells #[.int .i64 0, .int .i64 0, .int .i64 0, .complex .f64 0 0] 93)
 have hb := below_block hb0 h h.lt
 have HB0 := hid hb0
 have c1 : (w.alloc (.cells #[.int .i64 0, .int .i64 0, .int .i64 0, .complex .f64 0 0] 93)).cell? ⟨m, 1, none⟩ = some (.int .i64 ino) := cell_of_block hb 1
 have Hbl := hid (block_new w (.cells #[.int .i64 0, .int .i64 0, .int .i64 0, .complex .f64 0 0] 93))
 clear h hb hb0
 go_enter Tryz.func42, Tryz.ntmps42
 go_wp2_with (refine wpList_store_block rfl 93 (.tmp 2) (.tmp 7) rfl w.heap.size #[.int .i64 1, .int .i64 1, .int .i64 ino, .complex .f64 0 4607182418800017408] rfl rfl _ 93 Hbl.out rfl infoNum (by simp [Value.oneCell']) ?_; intro w2 hg2 hb2 hz2)
 refine bodyPost_ret (results_cell Tryz.results42 _ _ rfl hb2 _ Tryz.underlying93 rfl infoNum) rfl ⟨rfl, ?_⟩
 exact HB0.out.grown hg2 HB0.out.size (fun i e => by cases e; exact Nat.le_refl _)
variable {F : Nat -> Prop} {size N : Nat} {Pg Cm : Nat -> List UInt8} {D : Int -> Bool} {o u : Nat}
theorem ampages_any (h : mapB w m c ino) (hp : Pc w c F size N Pg Cm D o u) : Calls Tryz.prog 93 #[.pointer (some ⟨m, 0, none⟩)] w fun e w' => e = .returned (.int .i64 N) /\ Below w.heap.size w w' := by
 have c0 : w.cell? ⟨m, 0, none⟩ = some (.pointer (some ⟨c, 0, none⟩)) := cell_of_block h 0
 obtain ⟨p, h1, h2⟩ := hp.logPages
 have H1 := hid h1
 have H2 := hid h2
 clear h hp h1 h2
 go_enter Tryz.func93, Tryz.ntmps93
 go_wp2_with fail
 refine H1.out.mono ?_
 rintro e w1 ⟨rfl, h1⟩
 obtain rfl := h1.symm
 clear h1
 go_wp2_with fail
 refine H2.out.mono ?_
 rintro e w1 ⟨rfl, hb⟩
 have HB := hid hb
 clear hb
 go_wp2
 go_ret
 exact ⟨rfl, HB.out⟩
theorem amofPages_any (h : mapB w m c ino) (hi : ino <= 512) (hp : Pc w c F size N Pg Cm D o u) : Calls Tryz.prog 41 #[.pointer (some ⟨m, 0, none⟩)] w fun e w' => e = .returned (numV 2 (3 + ino / 8) N oneF 0) /\ Below w.heap.size w w' := by
 have hb0 := (Below.refl w.heap.size w).alloc (Nat.le_refl _) (.cells #[.int .i64 0, .int .i64 0, .int .i64 0, .complex .f64 0 0] 93)
 have HF := hid (amFirst_any (h.below hb0) hi)
 have HP := hid (ampages_any (h.below hb0) (hp.below hb0))
 have HB0 := hid hb0
 have Hbl := hid (block_new w (.cells #[.int .i64 0, .int .i64 0, .int .i64 0, .complex .f64 0 0] 93))
 obtain ⟨f, hf⟩ : ∃ f, f = 3 + ino / 8 := ⟨_, rfl⟩
 rw [<- hf] at HF ⊢
 clear h hp hb0 hi hf
 go_enter Tryz.func41, Tryz.ntmps41
 go_wp2_with fail
 generalize w.alloc (.cells #[.int .i64 0, .int .i64 0, .int .i64 0, .complex .f64 0 0] 93) = wa at *
 refine HF.out.mono ?_
 rintro e w1 ⟨rfl, h1⟩
 obtain rfl := h1.symm
 clear h1
 go_wp2_with fail
 refine HP.out.mono ?_
 rintro e w1 ⟨rfl, hb⟩
 have HB1 := hid (HB0.out.trans (hb.mono HB0.out.size))
 have Hb1 := hid (below_block hb Hbl.out (lt_of_heap Hbl.out))
 clear hb HF HP
 go_wp2_with (refine wpList_store_block rfl 93 (.tmp 2) (.tmp 7) rfl w.heap.size #[.int .i64 2, .int .i64 f, .int .i64 N, .complex .f64 4607182418800017408 0] rfl rfl _ 93 Hb1.out rfl infoNum (by simp [Value.oneCell']) ?_; intro w2 hg2 hb2 hz2)
 refine bodyPost_ret (results_cell Tryz.results41 _ _ rfl hb2 _ Tryz.underlying93 rfl infoNum) rfl ⟨rfl, ?_⟩
 exact HB1.out.grown hg2 HB1.out.size (fun i e => by cases e; exact Nat.le_refl _)
theorem abits_any {w0 : World} (h : mapB w m c ino) (hmF : ¬ F m) (b a z x y : Nat) (hb : b < N) (hu : u < 1000000) (hp : Pc w0 c F size N Pg Cm D o u) (hw : Below w0.heap.size w0 w) :
  Calls Tryz.prog 92 #[.pointer (some ⟨m, 0, none⟩), numV b a z x y] w fun e w' => ∃ g cap, e = .returned (.slice (some ⟨g, 0, none⟩) 512 cap) /\ 512 <= cap /\ w.heap.size <= g /\ rowU w' g (Pg b) /\ Keeps F w w' /\ ∀ W, Keeps (fun i => w0.heap.size <= i) w' W -> Pc W c F size N Pg Cm D o (u + 1) := by
 have hb0 := (Below.refl w.heap.size w).alloc (Nat.le_refl _) (.cells #[.int .i64 b, .int .i64 a, .int .i64 z, .complex .f64 x y] 93)
 have hdr := (Below.refl (w.alloc (.cells #[.int .i64 b, .int .i64 a, .int .i64 z, .complex .f64 x y] 93)).heap.size (w.alloc (.cells #[.int .i64 b, .int .i64 a, .int .i64 z, .complex .f64 x y] 93))).drew
 have hm0 := h.below hb0
 have hbl := block_new w (.cells #[.int .i64 b, .int .i64 a, .int .i64 z, .complex .f64 x y] 93)
 have HFb : Hid (¬ F w.heap.size) := fun hf => by have := hp.lt _ hf; have := hw.size; omega
 have HR := hid (hp.read (hw.trans ((hb0.trans (hdr.mono hb0.size)).mono hw.size)) b hb hu)
 have HS : Hid (∀ W, Keeps F (w.alloc (.cells #[.int .i64 b, .int .i64 a, .int .i64 z, .complex .f64 x y] 93)) W -> W.cell? ⟨m, 0, none⟩ = some (.pointer (some ⟨c, 0, none⟩)) /\ W.cell? ⟨w.heap.size, 0, none⟩ = some (.int .i64 b)) := fun W hW => ⟨cell_of_block (hm0.keep hW hmF) 0, cell_of_block (hW.heap hbl HFb.out) 0⟩
 have HB0 := hid (hb0.trans (hdr.mono hb0.size))
 have HSz : Hid (w.heap.size <= (w.alloc (.cells #[.int .i64 b, .int .i64 a, .int .i64 z, .complex .f64 x y] 93)).heap.size) := hb0.size
 have hS0 := HS.out _ (Keeps.refl _ _)
 have HKd : Hid (Keeps F (w.alloc (.cells #[.int .i64 b, .int .i64 a, .int .i64 z, .complex .f64 x y] 93)) (w.alloc (.cells #[.int .i64 b, .int .i64 a, .int .i64 z, .complex .f64 x y] 93)).drew) := (Keeps.refl _ _).drew
 clear h hp hm0 hb0 hdr hbl HFb hw
 obtain ⟨n0, hn0⟩ : ∃ n0, n0 = w.heap.size := ⟨_, rfl⟩
 rw [<- hn0] at HS hS0
 unfold numV
 go_enter Tryz.func92, Tryz.ntmps92
 go_wp2_with fail
 rw [<- hn0]
 clear hn0
 generalize w.alloc (.cells #[.int .i64 b, .int .i64 a, .int .i64 z, .complex .f64 x y] 93) = wa at *
 refine wp_region_noPanic ?_
 refine wp_region_held_drew (S := fun W => W.cell? ⟨m, 0, none⟩ = some (.pointer (some ⟨c, 0, none⟩)) /\ W.cell? ⟨n0, 0, none⟩ = some (.int .i64 b)) (by kernel_rfl) hS0 (fun hHeld => ?_)
 refine tq 0 _ ?_
 try simp only [tS]
 refine tq 1 _ ?_
 try simp only [tS]
 refine tq 2 _ ?_
 try simp only [tS]
 refine tq 3 _ ?_
 try simp only [tS]
 refine tq 4 _ ?_
 try simp only [tS]
 refine tq 5 _ ?_
 try simp only [tS]
 refine tr 6 (fun K hK => ?_)
 go_simp
 refine HR.out.mono ?_
 clear HR
 rintro e w1 ⟨g, cap, rfl, hc, hg, hr, hKk, hW⟩
 have Hr := hid hr
 have HK := hid ((Keeps.of_below HB0.out).trans hKk (fun i e => .inl e))
 have HW := hid hW
 have hg' : w.heap.size <= g := Nat.le_trans HSz.out hg
 have hz := HS.out w1 (HKd.out.trans hKk (fun i e => .inl e))
 clear hr hKk hW hg
 go_wp2_with fail
 refine hK.out _ _ hz (fun hHeld => ?_)
 clear hK K
 try simp only [tS]
 refine tq 7 _ ?_
 try simp only [tS]
 refine tq 8 _ ?_
 try simp only [tS]
 refine tq 9 _ ?_
 try simp only [tS]
 refine tq 10 _ ?_
 try simp only [tS]
 refine tq 11 _ ?_
 try simp only [tS]
 refine wpAnyH_done (by kernel_rfl) ?_ _
 refine NoPanic.normal ?_
 clear hHeld hz
 go_wp2
 go_ret
 exact ⟨g, cap, rfl, hc, hg', Hr.out, HK.out, HW.out⟩
end
theorem ahas_any (b a z x y : Nat) (n : Int) (w : World) : Calls Tryz.prog 237 #[numV b a z x y, .int .i64 n] w fun e w' => e = .returned (.bool (decide ((a : Int) <= n /\ n < (z : Int)))) /\ Below w.heap.size w w' := by
 have hb0 := (Below.refl w.heap.size w).alloc (Nat.le_refl _) (.cells #[.int .i64 b, .int .i64 a, .int .i64 z, .complex .f64 x y] 93)
 have HB0 := hid hb0
 clear hb0
 unfold numV
 by_cases h1 : (a : Int) <= n
 ·have h1' : decide ((a : Int) <= n) = true := decide_eq_true h1
  by_cases h2 : n < (z : Int)
  ·rw [decide_eq_true ⟨h1, h2⟩]
   go_enter Tryz.func237, Tryz.ntmps237
   go_wp2
   go_ret
   exact ⟨rfl, HB0.out⟩
  ·rw [decide_eq_false (fun h => h2 h.2)]
   go_enter Tryz.func237, Tryz.ntmps237
   go_wp2
   go_ret
   exact ⟨rfl, HB0.out⟩
 ·rw [decide_eq_false (fun h => h1 h.1)]
  go_enter Tryz.func237, Tryz.ntmps237
  go_wp2
  go_ret
  exact ⟨rfl, HB0.out⟩
def mayP (pages : Nat) (ino : Int) : Prop := 8 <= ino /\ ino <= 512 /\ ino % 8 = 0 /\ 3 + ino / 8 < pages /\ pages <= 4096
instance (pages : Nat) (ino : Int) : Decidable (mayP pages ino) := by unfold mayP; exact inferInstance
theorem amayBe_any (pages : Nat) (ino : Int) (hp : pages <= 4096) (w : World) : Calls Tryz.prog 62 #[.int .i64 pages, .int .i64 ino] w fun e w' => e = .returned (.bool (decide (mayP pages ino))) /\ w' = w := by
 by_cases h1 : ino < 8
 ·rw [decide_eq_false (fun h => by have := h.1; omega)]
  clear hp
  go_enter Tryz.func62, Tryz.ntmps62
  go_wp2
  go_ret
  exact ⟨rfl, rfl⟩
 ·by_cases h2 : 512 < ino
  ·rw [decide_eq_false (fun h => by have := h.2.1; omega)]
   clear hp
   go_enter Tryz.func62, Tryz.ntmps62
   go_wp2
   go_ret
   exact ⟨rfl, rfl⟩
  ·obtain ⟨n, rfl⟩ : ∃ n : Nat, ino = (n : Int) := ⟨ino.toNat, by omega⟩
   by_cases h3 : (n : Int) % 8 = 0
   ·have hA := afirst_any n (by omega) w
    obtain ⟨f, hf⟩ : ∃ f, f = 3 + n / 8 := ⟨_, rfl⟩
    rw [<- hf] at hA
    have HA := hid hA
    have h4 : (pages : Int) <= 4096 := by omega
    have hdd : decide (mayP pages (n : Int)) = decide ((f : Int) < (pages : Int)) := by
     apply decide_eq_decide.2
     unfold mayP
     constructor
     ·intro h; have := h.2.2.2.1; omega
     ·intro h; exact ⟨by omega, by omega, h3, by omega, hp⟩
    rw [hdd]
    clear hdd hf hA hp
    by_cases h5 : (f : Int) < (pages : Int)
    ·rw [decide_eq_true h5]
     go_enter Tryz.func62, Tryz.ntmps62
     go_wp2_with fail
     refine HA.out.mono ?_
     rintro e w1 ⟨rfl, h1⟩
     obtain rfl := h1.symm
     clear h1
     go_wp2
     go_ret
     exact ⟨rfl, rfl⟩
    ·rw [decide_eq_false h5]
     go_enter Tryz.func62, Tryz.ntmps62
     go_wp2_with fail
     refine HA.out.mono ?_
     rintro e w1 ⟨rfl, h1⟩
     obtain rfl := h1.symm
     clear h1
     go_wp2
     go_ret
     exact ⟨rfl, rfl⟩
   ·rw [decide_eq_false (fun h => h3 h.2.2.1)]
    clear hp
    go_enter Tryz.func62, Tryz.ntmps62
    go_wp2
    go_ret
    exact ⟨rfl, rfl⟩
end
end Go.Proofs.YtehkeadpgedolaaGreatDoor
namespace Go.Proofs
open Go.Shelf
def Tryz.binS_ren : Go.Shelf.Ren := ⟨fun | 49 => 129 | 59 => 190 | 60 => 191 | 68 => 228 | n => n, fun | 22 => 113 | 23 => 3 | 3 => 3 | 4 => 4 | 51 => 180 | 0 => 0 | n => n, fun | n => n⟩
theorem Tryz.binS : Go.Proofs.SlLaysN.n49 Tryz.prog Tryz.binS_ren := {
 mixed := by kernel_rfl
 f49 := ⟨Tryz.f129.name, by decide, Tryz.func129.trans (congrArg some (by kernel_rfl))⟩
 f59 := ⟨Tryz.f190.name, by decide, Tryz.func190.trans (congrArg some (by kernel_rfl))⟩
 f60 := ⟨Tryz.f191.name, by decide, Tryz.func191.trans (congrArg some (by kernel_rfl))⟩
 f68 := ⟨Tryz.f228.name, by decide, Tryz.func228.trans (congrArg some (by kernel_rfl))⟩
 t0 := Tryz.underlying0
 a0 := Tryz.isAgg0
 z0 := Tryz.sizeOf0
 v0 := Tryz.zeroValue0
 t3 := Tryz.underlying3
 a3 := Tryz.isAgg3
 z3 := Tryz.sizeOf3
 v3 := Tryz.zeroValue3
 t4 := Tryz.underlying4
 a4 := Tryz.isAgg4
 z4 := Tryz.sizeOf4
 v4 := Tryz.zeroValue4
 t22 := Tryz.underlying113
 a22 := Tryz.isAgg113
 z22 := Tryz.sizeOf113
 v22 := Tryz.zeroValue113
 t23 := Tryz.underlying3
 a23 := Tryz.isAgg3
 z23 := Tryz.sizeOf3
 v23 := Tryz.zeroValue3
 t51 := Tryz.underlying180
 a51 := Tryz.isAgg180
 z51 := Tryz.sizeOf180
 v51 := Tryz.zeroValue180 }
end Go.Proofs
set_option maxRecDepth 100000
set_option maxHeartbeats 4000000
namespace Go.Proofs.YtehkeadpgedolaaGreatDoor
section
open Go.RowKit Go.Maps
structure WPg where
 n : Nat
 g : Nat
 cap : Nat
 l : List UInt8
def WPg.cells (p : WPg) : List Value := [.int .i64 p.n, .slice (some ⟨p.g, 0, none⟩) 512 p.cap]
structure WPgs (w : World) (pb : Nat) (ps : List WPg) (F : Nat -> Prop) (N : Nat) : Prop where
 at_ : ∀ i (hi : i < ps.length), w.cell? ⟨pb, i * 2, none⟩ = some (.int .i64 ps[i].n) /\ w.cell? ⟨pb, i * 2 + 1, none⟩ = some (.slice (some ⟨ps[i].g, 0, none⟩) 512 ps[i].cap)
 off : 0 < ps.length -> ¬ F pb
 row : ∀ p ∈ ps, p.n < N /\ p.l.length = 512 /\ bytesAt w ⟨p.g, 0, none⟩ p.l /\ ¬ F p.g
theorem WPgs.keep {w w' : World} {pb : Nat} {ps : List WPg} {F : Nat -> Prop} {N : Nat} (h : WPgs w pb ps F N) (k : Keeps F w w') : WPgs w' pb ps F N :=
 ⟨fun i hi => ⟨k.cell (h.at_ i hi).1 (h.off (by omega)), k.cell (h.at_ i hi).2 (h.off (by omega))⟩, h.off, fun p hp => ⟨(h.row p hp).1, (h.row p hp).2.1, fun j hj => k.cell ((h.row p hp).2.2.1 j hj) (by rw [add_block]; exact (h.row p hp).2.2.2), (h.row p hp).2.2.2⟩⟩
theorem WPgs.below {w w' : World} {pb : Nat} {ps : List WPg} {F : Nat -> Prop} {N : Nat} (h : WPgs w pb ps F N) (k : Below w.heap.size w w') : WPgs w' pb ps F N := h.keep (Keeps.of_below k)
def newC (D : Int -> Bool) (ps : List WPg) : Nat := (ps.filter (fun p => !D (p.n : Int))).length
theorem newC_snoc (D : Int -> Bool) (ps : List WPg) (p : WPg) : newC D (ps ++ [p]) = newC D ps + (if D (p.n : Int) then 0 else 1) := by
 unfold newC
 rw [List.filter_append, List.length_append]
 cases h : D (p.n : Int) <;> simp [h]
def putP (Pg : Nat -> List UInt8) (ps : List WPg) : Nat -> List UInt8 := ps.foldl (fun f p => updP f p.n p.l) Pg
def putD (D : Int -> Bool) (ps : List WPg) : Int -> Bool := ps.foldl (fun f p => updT f (p.n : Int)) D
theorem putP_snoc (Pg : Nat -> List UInt8) (ps : List WPg) (p : WPg) : putP Pg (ps ++ [p]) = updP (putP Pg ps) p.n p.l := by simp [putP]
theorem putD_snoc (D : Int -> Bool) (ps : List WPg) (p : WPg) : putD D (ps ++ [p]) = updT (putD D ps) (p.n : Int) := by simp [putD]
theorem mem_dkD {N : Nat} {D : Int -> Bool} {k : Int} : k ∈ dkD N D ↔ 0 <= k /\ k < N /\ D k = true := by
 simp only [dkD, List.mem_filter, List.mem_map, List.mem_range]
 constructor
 ·rintro ⟨⟨j, hj, rfl⟩, h⟩; exact ⟨by omega, by omega, h⟩
 ·rintro ⟨h0, h1, h2⟩; exact ⟨⟨k.toNat, by omega, by omega⟩, h2⟩
theorem dkD_updT (N : Nat) (D : Int -> Bool) (n : Nat) : (dkD N (updT D n)).length <= (dkD N D).length + (if D n then 0 else 1) := by
 by_cases h : D n = true
 ·have e : updT D n = D := funext fun k => by unfold updT; by_cases e : k = (n : Int); rw [if_pos e, e, h]; rw [if_neg e]
  rw [e, if_pos h]; exact Nat.le_refl _
 ·rw [if_neg h]
  exact filt_upd D (updT D n) n (fun k hk => by unfold updT; rw [if_neg hk]) _ (range_sorted N)
theorem newC_cons (D : Int -> Bool) (p : WPg) (ps : List WPg) : newC D (p :: ps) = (if D (p.n : Int) then 0 else 1) + newC D ps := by
 unfold newC
 cases h : D (p.n : Int) <;> simp [h]; omega
theorem newC_upd (D : Int -> Bool) (n : Int) : ∀ ps : List WPg, newC (updT D n) ps <= newC D ps
 | [] => Nat.le_refl _
 | p :: ps => by
  have ih := newC_upd D n ps
  rw [newC_cons, newC_cons]
  by_cases h : D (p.n : Int) = true
  ·have h2 : updT D n (p.n : Int) = true := by unfold updT; split; rfl; exact h
   rw [if_pos h, if_pos h2]; omega
  ·rw [if_neg h]; split <;> omega
theorem dkD_put (N : Nat) : ∀ (D : Int -> Bool) (ps : List WPg), (dkD N (putD D ps)).length <= (dkD N D).length + newC D ps
 | _, [] => Nat.le_refl _
 | D, p :: ps => by
  have ih := dkD_put N (updT D p.n) ps
  have h1 := dkD_updT N D p.n
  have h2 := newC_upd D p.n ps
  have e : putD D (p :: ps) = putD (updT D p.n) ps := rfl
  rw [e, newC_cons]
  omega
theorem bins_nil (c : Nat) (x : Int) (w : World) : Calls Tryz.prog 129 #[.slice none 0 c, .int .i64 x] w fun e w' => e = .returned (.tuple #[.int .i64 0, .bool false]) /\ w' = w := by
 go_enter Tryz.func129, Tryz.ntmps129
 go_wp2
 go_loopw [7, 8] (fun i j wr => i = .int .i64 0 /\ j = .int .i64 0 /\ wr = w) (fun _ _ _ => 0)
 case atStart => exact ⟨rfl, rfl, rfl⟩
 case round =>
  obtain ⟨rfl, rfl, rfl⟩ := hrel
  go_wp2
  go_returns
  exact ⟨rfl, rfl⟩
theorem dkD_sorted (N : Nat) (D : Int -> Bool) : (dkD N D).Pairwise (fun a b => a <= b) := ((range_sorted N).filter D).imp (fun h => Int.le_of_lt h)
theorem bins_dirty {w : World} {N : Nat} {D : Int -> Bool} {v : Value} {lo : Nat} (hr : w.ownsRow lo 3 1 v (dkD N D).length ((dkD N D).map encZ)) (hN : N <= 4096) (n : Nat) (hn : n < N) :
  Calls Tryz.prog 129 #[v, .int .i64 n] w fun e w' => (∃ i, e = .returned (.tuple #[.int .i64 i, .bool (D n)])) /\ Below w.heap.size w w' := by
 have hlen : (dkD N D).length <= 4096 := Nat.le_trans (List.length_filter_le _ _) (by simp; omega)
 rcases hr.2 with ⟨rfl, h0⟩ | ⟨g, cap, cur, rfl, hb, hh, hc, -⟩
 ·refine (bins_nil 0 n w).mono ?_
  rintro e w' ⟨rfl, rfl⟩
  have hD : D (n : Int) = false := by
   cases h : D (n : Int) with
   | false => rfl
   | true =>
    have hm : (n : Int) ∈ dkD N D := mem_dkD.2 ⟨by omega, by omega, h⟩
    rw [List.eq_nil_of_length_eq_zero h0] at hm
    cases hm
  rw [hD]
  exact ⟨⟨_, rfl⟩, Below.refl _ _⟩
 ·have hcon := AnyG.slices_BinarySearch_int Tryz.binS g 0 (dkD N D).length cap (dkD N D) (n : Int) w (Nat.le_refl _) (by omega) (fun j hj => by
   rw [Nat.zero_add, hr.cellAt j (by omega), List.getElem?_map, List.getElem?_eq_getElem hj, List.getD_eq_getElem?_getD, List.getElem?_eq_getElem hj]; rfl) (by rw [List.take_length]; exact dkD_sorted N D)
  change Calls Tryz.prog 129 _ _ _ at hcon
  refine hcon.mono ?_
  rintro e w' ⟨rfl, q, rfl⟩
  rw [List.take_length]
  have hD : (dkD N D).contains (n : Int) = D (n : Int) := by
   rw [Bool.eq_iff_iff, List.contains_iff_mem, mem_dkD]
   exact ⟨fun h => h.2.2, fun h => ⟨by omega, by omega, h⟩⟩
  rw [hD]
  exact ⟨⟨_, rfl⟩, ((Keeps.refl (fun _ => False) w).drewN q).below (Nat.le_refl _) (fun _ h => h.elim)⟩
theorem below_row2 {w w' : World} {lo : Nat} {v : Value} {n : Nat} {xs : List Value} (h : w.ownsRow lo 3 1 v n xs) (hb : Below w.heap.size w w') : w'.ownsRow lo 3 1 v n xs := (Keeps.of_below hb : Keeps (fun _ => False) w w').row h (fun _ _ h => h)
theorem dkD_more (N : Nat) (D : Int -> Bool) (n : Nat) (hn : n < N) (hd : D n = false) : (dkD N D).length + 1 <= (dkD N (updT D n)).length := by
 have key : ∀ l : List Int, l.Nodup -> (n : Int) ∈ l -> (l.filter D).length + 1 <= (l.filter (updT D n)).length := by
  intro l
  induction l with
  | nil => intro _ h; cases h
  | cons k l ih =>
   intro hnd hm
   obtain ⟨h1, h2⟩ := List.nodup_cons.1 hnd
   by_cases e : k = (n : Int)
   ·subst e
    have e2 : l.filter (updT D n) = l.filter D := List.filter_congr (fun x hx => by unfold updT; rw [if_neg (fun e : x = (n : Int) => h1 (by rw [<- e]; exact hx))])
    have e3 : updT D n (n : Int) = true := by unfold updT; rw [if_pos rfl]
    rw [List.filter_cons, List.filter_cons, hd, e3, e2]
    simp
   ·have hm' : (n : Int) ∈ l := (List.mem_cons.1 hm).resolve_left (fun h => e h.symm)
    have e3 : updT D n k = D k := by unfold updT; rw [if_neg e]
    have := ih h2 hm'
    rw [List.filter_cons, List.filter_cons, e3]
    split <;> simp <;> omega
 exact key _ ((range_sorted N).imp (fun h => by omega)) (List.mem_map.2 ⟨n, List.mem_range.2 hn, rfl⟩)
section
variable {w : World} {m c ino : Nat} {F : Nat -> Prop} {size N : Nat} {Pg Cm : Nat -> List UInt8} {D : Int -> Bool} {o u : Nat}
def WriteTo (w : World) (c : Nat) (F : Nat -> Prop) (size N : Nat) (Pg Cm : Nat -> List UInt8) (D : Int -> Bool) (o u : Nat) (ps : List WPg) (e : Ending) (w' : World) : Prop :=
 Keeps F w w' /\ ((min size 100 < (dkD N D).length + newC D ps /\ e = .returned (.int .i64 7) /\ Pc w' c F size N Pg Cm D o u) \/ ((dkD N D).length + newC D ps <= min size 100 /\ e = .returned (.int .i64 0) /\ Pc w' c F size N (putP Pg ps) Cm (putD D ps) o u))
theorem awrite_any (h : mapB w m c ino) (hmF : ¬ F m) (pb : Nat) (ps : List WPg) (hps : WPgs w pb ps F N) (cp : Nat) (hl : ps.length <= 100) (hl0 : 0 < ps.length) (hp : Pc w c F size N Pg Cm D o u) :
  Calls Tryz.prog 67 #[.pointer (some ⟨m, 0, none⟩), .slice (some ⟨pb, 0, none⟩) ps.length cp] w (WriteTo w c F size N Pg Cm D o u ps) := by
 have c0 : w.cell? ⟨m, 0, none⟩ = some (.pointer (some ⟨c, 0, none⟩)) := cell_of_block h 0
 have hkl := hp.keysLen
 have hN := hp.four
 have HM := hid h
 have HPs := hid hps
 have HP := hid hp
 have HDr := hid hp.dirtyRow
 have HFl := hid hp.lt
 obtain ⟨K, hK⟩ : ∃ K, K = (dkD N D).length := ⟨_, rfl⟩
 have HK := hid hK
 obtain ⟨Z, hZ⟩ : ∃ Z, Z = min size 100 := ⟨_, rfl⟩
 have hZ1 : Z <= 100 := by omega
 have HZ := hid hZ
 rw [<- hK, <- hZ] at hkl
 clear h hps hp hK hZ
 go_enter Tryz.func67, Tryz.ntmps67
 go_wp2_with fail
 refine HDr.out.mono ?_
 clear HDr
 rintro e w1 ⟨v, rfl, hrow, hb1⟩
 have HRw := hid hrow
 have HB1 := hid hb1
 clear hrow hb1 c0
 go_wp2
 go_loopw [6, 20] (fun mo i wr => ∃ k : Nat, k <= ps.length /\ i = .int .i64 k /\ mo = .int .i64 (newC D (ps.take k) : Nat) /\ Hid (Below w1.heap.size w1 wr)) (fun _ i _ => ps.length - (intOf i).toNat)
 case atStart => exact ⟨0, by omega, rfl, rfl, Below.refl _ _⟩
 case round =>
  obtain ⟨k, hk, rfl, rfl, HB⟩ := hrel
  have HBw : Hid (Below w.heap.size w wr) := HB1.out.trans (HB.out.mono HB1.out.size)
  have hnc : newC D (ps.take k) <= k := Nat.le_trans (List.length_filter_le _ _) (by rw [List.length_take]; omega)
  by_cases hlt : k < ps.length
  ·have hk0 : (0 : Int) <= (k : Int) := by omega
   have hlt' : (k : Int) < (ps.length : Int) := by omega
   obtain ⟨a0, a1⟩ := (HPs.out.below HBw.out).at_ k hlt
   have hr0 := HPs.out.row ps[k] (List.getElem_mem hlt)
   obtain ⟨p, hpe⟩ : ∃ p, p = ps[k] := ⟨_, rfl⟩
   rw [<- hpe] at a0 a1 hr0
   have hNc : newC D (ps.take (k + 1)) = newC D (ps.take k) + (if D (p.n : Int) then 0 else 1) := by
    rw [List.take_succ_eq_append_getElem hlt, newC_snoc, hpe]
   have hb2 : Below wr.heap.size wr (wr.alloc (.cells #[.int .i64 p.n, .slice (some ⟨p.g, 0, none⟩) 512 p.cap] 122)) := (Below.refl _ wr).alloc (Nat.le_refl _) _
   have hrw := below_row2 HRw.out (HB.out.trans (hb2.mono HB.out.size))
   have HBs := hid (bins_dirty hrw hN p.n hr0.1)
   have HB2 := hid (HB.out.trans (hb2.mono HB.out.size))
   clear hpe hr0 hrw hb2
   generalize newC D (ps.take k) = nc at *
   cases hD : D (p.n : Int) with
   | true =>
    rw [hD] at HBs hNc
    simp only [if_true, Nat.add_zero] at hNc
    have HNc := hid hNc
    clear hNc hD
    go_wp2_with fail
    refine HBs.out.mono ?_
    clear HBs
    rintro e w3 ⟨⟨i, rfl⟩, hb3⟩
    have HB3 := hid (HB2.out.trans (hb3.mono HB2.out.size))
    clear hb3 a0 a1
    go_wp2
    exact ⟨⟨k + 1, by omega, by go_num, by rw [HNc.out], HB3⟩, by simp [intOf]; omega⟩
   | false =>
    rw [hD] at HBs hNc
    have hNc' : newC D (ps.take (k + 1)) = nc + 1 := by rw [hNc]; rfl
    have HNc := hid hNc'
    clear hNc hNc' hD
    go_wp2_with fail
    refine HBs.out.mono ?_
    clear HBs
    rintro e w3 ⟨⟨i, rfl⟩, hb3⟩
    have HB3 := hid (HB2.out.trans (hb3.mono HB2.out.size))
    clear hb3 a0 a1
    go_wp2
    exact ⟨⟨k + 1, by omega, by go_num, by rw [HNc.out]; go_num, HB3⟩, by simp [intOf]; omega⟩
  ·obtain rfl : k = ps.length := by omega
   have hge : ¬ ((ps.length : Int) < (ps.length : Int)) := by omega
   have htk : ps.take ps.length = ps := List.take_length
   rw [htk] at hnc ⊢
   have HR := hid (HP.out.below HBw.out).roomC
   rw [<- HZ.out, <- HK.out] at HR
   have c0 : wr.cell? ⟨m, 0, none⟩ = some (.pointer (some ⟨c, 0, none⟩)) := cell_of_block (HM.out.below HBw.out) 0
   obtain ⟨nc, hncE⟩ : ∃ nc, nc = newC D ps := ⟨_, rfl⟩
   rw [<- hncE] at hnc ⊢
   have HNc := hid hncE
   clear htk hncE
   by_cases hfull : Z < K + nc
   ·have hgt : (Z : Int) - (K : Int) < (nc : Int) := by omega
    go_wp2_with fail
    refine HR.out.mono ?_
    clear HR
    rintro e w3 ⟨rfl, hb3⟩
    have HB3 := hid (HBw.out.trans (hb3.mono HBw.out.size))
    clear hb3 c0
    go_wp2
    go_ret
    exact ⟨Keeps.of_below HB3.out, .inl ⟨by rw [<- HK.out, <- HZ.out, <- HNc.out]; exact hfull, rfl, HP.out.below HB3.out⟩⟩
   ·have hgt : ¬ ((Z : Int) - (K : Int) < (nc : Int)) := by omega
    go_wp2_with fail
    refine HR.out.mono ?_
    clear HR
    rintro e w3 ⟨rfl, hb3⟩
    have HB3 := hid (HBw.out.trans (hb3.mono HBw.out.size))
    have HSt : Hid (∀ q, q <= ps.length -> (dkD N (putD D (ps.take q))).length <= Z) := fun q hq => by
     have h1 := dkD_put N D (ps.take q)
     have h2 : newC D (ps.take q) <= newC D ps := by
      conv => rhs; rw [<- List.take_append_drop q ps]
      unfold newC
      rw [List.filter_append, List.length_append]; omega
     rw [<- HK.out] at h1
     rw [<- HNc.out] at h2
     omega
    clear hb3 c0 hgt
    go_wp2
    go_loopw [45] (fun i wi => ∃ q : Nat, q <= ps.length /\ i = .int .i64 q /\ Hid (Keeps F w wi) /\ Hid (Pc wi c F size N (putP Pg (ps.take q)) Cm (putD D (ps.take q)) o u)) (fun i _ => ps.length - (intOf i).toNat)
    case atStart => exact ⟨0, by omega, rfl, Keeps.of_below HB3.out, HP.out.below HB3.out⟩
    case round =>
     obtain ⟨q, hq, rfl, HKq, HPq⟩ := hrel
     by_cases hql : q < ps.length
     ·have hq0 : (0 : Int) <= (q : Int) := by omega
      have hql' : (q : Int) < (ps.length : Int) := by omega
      have hws := HPs.out.keep HKq.out
      obtain ⟨a0, a1⟩ := hws.at_ q hql
      have hr0 := hws.row ps[q] (List.getElem_mem hql)
      have ht1 : putP Pg (ps.take (q + 1)) = updP (putP Pg (ps.take q)) ps[q].n ps[q].l := by rw [List.take_succ_eq_append_getElem hql, putP_snoc]
      have ht2 : putD D (ps.take (q + 1)) = updT (putD D (ps.take q)) (ps[q].n : Int) := by rw [List.take_succ_eq_append_getElem hql, putD_snoc]
      have hroom : putD D (ps.take q) (ps[q].n : Int) = true \/ (dkD N (putD D (ps.take q))).length < min size 100 := by
       cases hd : putD D (ps.take q) (ps[q].n : Int) with
       | true => exact .inl rfl
       | false =>
        have h1 := HSt.out (q + 1) (by omega)
        rw [ht2] at h1
        have h3 := dkD_more N (putD D (ps.take q)) ps[q].n hr0.1 hd
        have := HZ.out
        exact .inr (by omega)
      obtain ⟨p, hpe⟩ : ∃ p, p = ps[q] := ⟨_, rfl⟩
      rw [<- hpe] at a0 a1 hr0 ht1 ht2 hroom
      have hb4 : Below wr.heap.size wr (wr.alloc (.cells #[.int .i64 p.n, .slice (some ⟨p.g, 0, none⟩) 512 p.cap] 122)) := (Below.refl _ wr).alloc (Nat.le_refl _) _
      have hdr := (Below.refl (wr.alloc (.cells #[.int .i64 p.n, .slice (some ⟨p.g, 0, none⟩) 512 p.cap] 122)).heap.size (wr.alloc (.cells #[.int .i64 p.n, .slice (some ⟨p.g, 0, none⟩) 512 p.cap] 122))).drew
      have hb5 := hb4.trans (hdr.mono hb4.size)
      have HWr := hid ((HPq.out.below hb5).write p.n hr0.1 p.l hr0.2.1 ⟨p.g, 0, none⟩ p.cap (fun j hj => (hb5.cell (World.block_lt_of_cell? wr _ (hr0.2.2.1 j hj))).trans (hr0.2.2.1 j hj)) hroom)
      rw [<- ht1, <- ht2] at HWr
      have hFn : ¬ F wr.heap.size := fun hf => by have := HFl.out _ hf; have := HKq.out.size; omega
      have HCs : Hid (∀ W, Keeps F (wr.alloc (.cells #[.int .i64 p.n, .slice (some ⟨p.g, 0, none⟩) 512 p.cap] 122)) W -> W.cell? ⟨m, 0, none⟩ = some (.pointer (some ⟨c, 0, none⟩)) /\ W.cell? ⟨wr.heap.size, 0, none⟩ = some (.int .i64 p.n) /\ W.cell? ⟨wr.heap.size, 1, none⟩ = some (.slice (some ⟨p.g, 0, none⟩) 512 p.cap)) := fun W hW => by
       have h1 := ((HM.out.keep HKq.out hmF).below hb4).keep hW hmF
       have h2 := hW.heap (block_new wr (.cells #[.int .i64 p.n, .slice (some ⟨p.g, 0, none⟩) 512 p.cap] 122)) hFn
       exact ⟨cell_of_block h1 0, cell_of_block h2 0, cell_of_block h2 1⟩
      have hS0 := HCs.out _ (Keeps.refl _ _)
      have HK4 : Hid (Keeps F w (wr.alloc (.cells #[.int .i64 p.n, .slice (some ⟨p.g, 0, none⟩) 512 p.cap] 122))) := HKq.out.trans (Keeps.of_below hb4 : Keeps (fun _ => False) wr _) (fun i e => e.elim)
      clear ht1 ht2 hroom hpe hr0 hws hb4 hdr hb5 hFn
      obtain ⟨nb, hnb⟩ : ∃ nb, nb = wr.heap.size := ⟨_, rfl⟩
      rw [<- hnb] at HCs hS0
      go_wp2
      rw [<- hnb]
      clear hnb a0 a1
      generalize wr.alloc (.cells #[.int .i64 p.n, .slice (some ⟨p.g, 0, none⟩) 512 p.cap] 122) = wa at *
      refine wp_region_noPanic ?_
      refine wp_region_held_drew (S := fun W => W.cell? ⟨m, 0, none⟩ = some (.pointer (some ⟨c, 0, none⟩)) /\ W.cell? ⟨nb, 0, none⟩ = some (.int .i64 p.n) /\ W.cell? ⟨nb, 1, none⟩ = some (.slice (some ⟨p.g, 0, none⟩) 512 p.cap)) (by kernel_rfl) hS0 (fun hHeld => ?_)
      refine tq 0 _ ?_
      try simp only [tS]
      refine tq 1 _ ?_
      try simp only [tS]
      refine tq 2 _ ?_
      try simp only [tS]
      refine tq 3 _ ?_
      try simp only [tS]
      refine tq 4 _ ?_
      try simp only [tS]
      refine tq 5 _ ?_
      try simp only [tS]
      refine tq 6 _ ?_
      try simp only [tS]
      refine tq 7 _ ?_
      try simp only [tS]
      refine tr 8 (fun K hK => ?_)
      go_simp
      refine HWr.out.mono ?_
      clear HWr
      rintro e w5 ⟨rfl, hk5, hp5⟩
      have HP5 := hid hp5
      have HK5 := hid ((HK4.out.drew).trans hk5 (fun i e => .inl e))
      have hz := HCs.out w5 ((Keeps.refl F wa).drew.trans hk5 (fun i e => .inl e))
      clear hk5 hp5 hS0
      go_wp2_with fail
      refine hK.out _ _ hz (fun hHeld => ?_)
      clear hK K
      try simp only [tS]
      refine wpAnyH_done (by kernel_rfl) ?_ _
      refine NoPanic.normal ?_
      clear hHeld hz
      go_wp2
      exact ⟨⟨q + 1, by omega, by go_num, HK5, HP5⟩, by simp [intOf]; omega⟩
     ·obtain rfl : q = ps.length := by omega
      have hge2 : ¬ ((ps.length : Int) < (ps.length : Int)) := by omega
      have hPf := HPq.out
      rw [List.take_length] at hPf
      have HPf := hid hPf
      clear hPf
      go_wp2
      go_ret
      exact ⟨HKq.out, .inr ⟨by rw [<- HK.out, <- HZ.out, <- HNc.out]; omega, rfl, HPf.out⟩⟩
end
end
section
set_option maxRecDepth 100000
set_option maxHeartbeats 4000000
open Go.RowKit
theorem aanswer_any (n e0 : Int) (w : World) : Calls Tryz.prog 136 #[.int .i64 n, .int .i64 e0] w fun e w' => e = .returned (.tuple #[.int .i64 (if e0 = 0 then n else 0), .int .i64 e0]) /\ w' = w := by
 by_cases h : e0 = 0
 ·subst h
  rw [if_pos rfl]
  go_enter Tryz.func136, Tryz.ntmps136
  go_wp2
  go_returns
  exact ⟨rfl, rfl⟩
 ·rw [if_neg h]
  have h1 : (e0 != 0) = true := by simp [h]
  have h2 : (e0 == 0) = false := beq_eq_false_iff_ne.2 h
  go_enter Tryz.func136, Tryz.ntmps136
  go_wp2
  go_returns
  exact ⟨rfl, rfl⟩
section
variable {w : World} {m c ino : Nat} {F : Nat -> Prop} {size N : Nat} {Pg Cm : Nat -> List UInt8} {D : Int -> Bool} {o u : Nat}
def takenP (L : List UInt8) (a z : Nat) (n : Int) : Bool := if (a : Int) <= n /\ n < (z : Int) then bitL L n.toNat else decide (0 <= n /\ n < (a : Int))
theorem ataken_any (h : mapB w m c ino) (hmF : ¬ F m) (b a z x y : Nat) (n : Int) (hb : b < N) (hz : z <= 4096) (hu : u < 1000000) (hp : Pc w c F size N Pg Cm D o u) :
  Calls Tryz.prog 200 #[.pointer (some ⟨m, 0, none⟩), numV b a z x y, .int .i64 n] w fun e w' => e = .returned (.bool (takenP (Pg b) a z n)) /\ Keeps F w w' /\ Pc w' c F size N Pg Cm D o (u + 1) := by
 obtain ⟨wa, hwa⟩ : ∃ wa, wa = w.alloc (.cells #[.int .i64 b, .int .i64 a, .int .i64 z, .complex .f64 x y] 93) := ⟨_, rfl⟩
 have hb0 : Below w.heap.size w wa := by rw [hwa]; exact (Below.refl _ w).alloc (Nat.le_refl _) _
 have hbl : wa.heap[w.heap.size]? = some (.cells #[.int .i64 b, .int .i64 a, .int .i64 z, .complex .f64 x y] 93 (0, 0)) := by rw [hwa]; exact block_new w _
 have HH := hid (fun W => ahas_any b a z x y n W)
 have HMa := hid (h.below hb0)
 have HPa := hid hp
 have HB0 := hid hb0
 have HBl := hid hbl
 have hlen := hp.len b hb
 have HLen := hid hlen
 have f0 : ∀ (W : World), Below wa.heap.size wa W -> W.cell? ⟨w.heap.size, 0, none⟩ = some (.int .i64 b) /\ W.cell? ⟨w.heap.size, 1, none⟩ = some (.int .i64 a) /\ W.cell? ⟨w.heap.size, 2, none⟩ = some (.int .i64 z) /\ W.cell? ⟨w.heap.size, 3, none⟩ = some (.complex .f64 x y) := fun W hW => by
  have hw := below_block hW hbl (lt_of_heap hbl)
  exact ⟨cell_of_block hw 0, cell_of_block hw 1, cell_of_block hw 2, cell_of_block hw 3⟩
 have HC := hid f0
 clear h hp hb0 hbl hlen f0
 unfold numV takenP
 by_cases hin : (a : Int) <= n /\ n < (z : Int)
 ·rw [if_pos hin]
  rw [decide_eq_true hin] at HH
  obtain ⟨k, rfl⟩ : ∃ k : Nat, n = (k : Int) := ⟨n.toNat, by omega⟩
  have hk : k < 4096 := by omega
  rw [show ((k : Int)).toNat = k by omega]
  clear hin
  go_enter Tryz.func200, Tryz.ntmps200
  go_wp2_with fail
  rw [<- hwa]
  clear hwa
  unfold numV at HH
  refine (HH.out wa).mono ?_
  clear HH
  rintro e w1 ⟨rfl, hb1⟩
  obtain ⟨c0, c1, c2, c3⟩ := HC.out w1 hb1
  have HB1 := hid (HB0.out.trans (hb1.mono HB0.out.size))
  have HBi := hid (abits_any (HMa.out.below hb1) hmF b a z x y hb hu HPa.out HB1.out)
  unfold numV at HBi
  clear hb1
  go_wp2_with fail
  refine HBi.out.mono ?_
  clear HBi
  rintro e w2 ⟨g, cap, rfl, hcap, hg, hrow, hK2, hW2⟩
  have HIs := hid (isSet_any g k cap (Pg b) w2 hrow.1 HLen.out hk)
  have HK2 := hid ((Keeps.of_below HB1.out).trans hK2 (fun i e => .inl e))
  have HW2 := hid hW2
  clear hrow hK2 hW2 c0 c1 c2 c3
  go_wp2_with fail
  refine HIs.out.mono ?_
  clear HIs
  rintro e w3 ⟨rfl, h3⟩
  obtain rfl := h3.symm
  clear h3
  go_wp2
  go_ret
  exact ⟨rfl, HK2.out, HW2.out _ (Keeps.refl _ _)⟩
 ·rw [if_neg hin]
  rw [decide_eq_false hin] at HH
  clear hin
  unfold numV at HH
  by_cases h1 : 0 <= n
  ·by_cases h2 : n < (a : Int)
   ·rw [decide_eq_true ⟨h1, h2⟩]
    have h1' : decide (0 <= n) = true := decide_eq_true h1
    go_enter Tryz.func200, Tryz.ntmps200
    go_wp2_with fail
    rw [<- hwa]
    clear hwa
    refine (HH.out wa).mono ?_
    clear HH
    rintro e w1 ⟨rfl, hb1⟩
    obtain ⟨c0, c1, c2, c3⟩ := HC.out w1 hb1
    have HB1 := hid (HB0.out.trans (hb1.mono HB0.out.size))
    clear hb1
    go_wp2
    go_ret
    exact ⟨rfl, Keeps.of_below HB1.out, (HPa.out.below HB1.out).more (Nat.le_refl _) (Nat.le_succ _)⟩
   ·rw [decide_eq_false (fun h => h2 h.2)]
    have h1' : decide (0 <= n) = true := decide_eq_true h1
    have h2' : (a : Int) <= n := by omega
    go_enter Tryz.func200, Tryz.ntmps200
    go_wp2_with fail
    rw [<- hwa]
    clear hwa
    refine (HH.out wa).mono ?_
    clear HH
    rintro e w1 ⟨rfl, hb1⟩
    obtain ⟨c0, c1, c2, c3⟩ := HC.out w1 hb1
    have HB1 := hid (HB0.out.trans (hb1.mono HB0.out.size))
    clear hb1
    go_wp2
    go_ret
    refine ⟨?_, Keeps.of_below HB1.out, (HPa.out.below HB1.out).more (Nat.le_refl _) (Nat.le_succ _)⟩
    first | rfl | (simp [h2]; done) | (simp [h2]; omega)
  ·rw [decide_eq_false (fun h => h1 h.1)]
   go_enter Tryz.func200, Tryz.ntmps200
   go_wp2_with fail
   rw [<- hwa]
   clear hwa
   refine (HH.out wa).mono ?_
   clear HH
   rintro e w1 ⟨rfl, hb1⟩
   obtain ⟨c0, c1, c2, c3⟩ := HC.out w1 hb1
   have HB1 := hid (HB0.out.trans (hb1.mono HB0.out.size))
   clear hb1
   go_wp2
   go_ret
   exact ⟨rfl, Keeps.of_below HB1.out, (HPa.out.below HB1.out).more (Nat.le_refl _) (Nat.le_succ _)⟩
theorem aUsedInode_any (h : mapB w m c ino) (hmF : ¬ F m) (hi : ino <= 512) (n : Int) (hN : 3 <= N) (hu : u < 1000000) (hp : Pc w c F size N Pg Cm D o u) :
  Calls Tryz.prog 148 #[.pointer (some ⟨m, 0, none⟩), .int .i64 n] w fun e w' => e = .returned (.bool (takenP (Pg 1) 1 ino n)) /\ Keeps F w w' /\ Pc w' c F size N Pg Cm D o (u + 1) := by
 have HO := hid (amofInodes_any h)
 have HT := hid (fun W (hW : Below w.heap.size w W) => ataken_any (h.below hW) hmF 1 1 ino 0 oneF n (by omega) (by omega) hu (hp.below hW))
 generalize takenP (Pg 1) 1 ino n = t at *
 clear h hp
 go_enter Tryz.func148, Tryz.ntmps148
 go_wp2_with fail
 refine HO.out.mono ?_
 clear HO
 rintro e w1 ⟨rfl, hb1⟩
 have HT1 := hid (HT.out w1 hb1)
 have HK1 : Hid (Keeps F w w1) := Keeps.of_below hb1
 clear HT hb1
 go_wp2_with fail
 refine HT1.out.mono ?_
 clear HT1
 rintro e w2 ⟨rfl, hk2, hp2⟩
 have HK2 := hid (HK1.out.trans hk2 (fun i e => .inl e))
 have HP2 := hid hp2
 clear hk2 hp2
 go_wp2
 go_ret
 exact ⟨rfl, HK2.out, HP2.out⟩
theorem aTable_any (h : mapB w m c ino) (hi : ino <= 512) (n : Int) : Calls Tryz.prog 137 #[.pointer (some ⟨m, 0, none⟩), .int .i64 n] w fun e w' => e = .returned (if 0 <= n /\ n < (ino : Int) then .tuple #[.int .i64 (3 + n / 8), .int .i64 (n % 8 * 64), .int .i64 0] else .tuple #[.int .i64 0, .int .i64 0, .int .i64 2]) /\ w' = w := by
 have c1 : w.cell? ⟨m, 1, none⟩ = some (.int .i64 ino) := cell_of_block h 1
 clear h
 by_cases hin : 0 <= n /\ n < (ino : Int)
 ·rw [if_pos hin]
  obtain ⟨h0, h1⟩ := hin
  go_enter Tryz.func137, Tryz.ntmps137
  go_wp2
  go_returns
  exact ⟨rfl, rfl⟩
 ·rw [if_neg hin]
  by_cases h0 : n < 0
  ·go_enter Tryz.func137, Tryz.ntmps137
   go_wp2
   go_returns
   exact ⟨rfl, rfl⟩
  ·have h1 : (ino : Int) <= n := by omega
   have h2 : ¬ (n < 0) := h0
   clear hin
   go_enter Tryz.func137, Tryz.ntmps137
   go_wp2
   go_returns
   exact ⟨rfl, rfl⟩
end
end
section
open Go.RowKit
section
variable {w : World} {m c ino : Nat} {F : Nat -> Prop} {size N : Nat} {Pg Cm : Nat -> List UInt8} {D : Int -> Bool} {o u : Nat}
theorem rowU.wpg {w : World} {g : Nat} {l : List UInt8} (h : rowU w g l) (hl : l.length = 512) (b cap : Nat) (hb : b < N) (hF : ¬ F g) (hn : ¬ F w.heap.size) :
  WPgs (w.alloc (.cells #[.int .i64 b, .slice (some ⟨g, 0, none⟩) 512 cap] 122)) w.heap.size [⟨b, g, cap, l⟩] F N := by
 have hbl := block_new w (.cells #[.int .i64 b, .slice (some ⟨g, 0, none⟩) 512 cap] 122)
 have hb0 : Below w.heap.size w (w.alloc (.cells #[.int .i64 b, .slice (some ⟨g, 0, none⟩) 512 cap] 122)) := (Below.refl _ w).alloc (Nat.le_refl _) _
 refine ⟨fun i hi => ?_, fun _ => hn, fun p hp => ?_⟩
 ·obtain rfl : i = 0 := by simp at hi; omega
  exact ⟨cell_of_block hbl 0, cell_of_block hbl 1⟩
 ·obtain rfl : p = ⟨b, g, cap, l⟩ := by simpa using hp
  exact ⟨hb, hl, (h.below hb0).1, hF⟩
def GiveTo (w : World) (c : Nat) (F : Nat -> Prop) (size N : Nat) (Pg Cm : Nat -> List UInt8) (D : Int -> Bool) (o u b a z : Nat) (n : Int) (e : Ending) (w' : World) : Prop :=
 Keeps F w w' /\ ((¬ ((a : Int) <= n /\ n < (z : Int)) /\ e = .returned (.int .i64 2) /\ Pc w' c F size N Pg Cm D o (u + 1)) \/
  (((a : Int) <= n /\ n < (z : Int)) /\ bitL (Pg b) n.toNat = false /\ e = .returned (.int .i64 4) /\ Pc w' c F size N Pg Cm D o (u + 1)) \/
  (((a : Int) <= n /\ n < (z : Int)) /\ bitL (Pg b) n.toNat = true /\ min size 100 < (dkD N D).length + (if D b then 0 else 1) /\ e = .returned (.int .i64 7) /\ Pc w' c F size N Pg Cm D o (u + 1)) \/
  (((a : Int) <= n /\ n < (z : Int)) /\ bitL (Pg b) n.toNat = true /\ (dkD N D).length + (if D b then 0 else 1) <= min size 100 /\ e = .returned (.int .i64 0) /\ Pc w' c F size N (updP Pg b (flipL (Pg b) n.toNat)) Cm (updT D b) o (u + 1)))
theorem newC_one (D : Int -> Bool) (p : WPg) : newC D [p] = (if D (p.n : Int) then 0 else 1) := by
 rw [newC_cons]; rfl
theorem agive_any (h : mapB w m c ino) (hmF : ¬ F m) (b a z x y : Nat) (n : Int) (hb : b < N) (hz : z <= 4096) (hu : u < 1000000) (hp : Pc w c F size N Pg Cm D o u) :
  Calls Tryz.prog 240 #[.pointer (some ⟨m, 0, none⟩), numV b a z x y, .int .i64 n] w (GiveTo w c F size N Pg Cm D o u b a z n) := by
 obtain ⟨wa, hwa⟩ : ∃ wa, wa = w.alloc (.cells #[.int .i64 b, .int .i64 a, .int .i64 z, .complex .f64 x y] 93) := ⟨_, rfl⟩
 have hb0 : Below w.heap.size w wa := by rw [hwa]; exact (Below.refl _ w).alloc (Nat.le_refl _) _
 have hbl : wa.heap[w.heap.size]? = some (.cells #[.int .i64 b, .int .i64 a, .int .i64 z, .complex .f64 x y] 93 (0, 0)) := by rw [hwa]; exact block_new w _
 have HH := hid (fun W => ahas_any b a z x y n W)
 have HMa := hid (h.below hb0)
 have HPa := hid hp
 have HB0 := hid hb0
 have HLen := hid (hp.len b hb)
 have HFl := hid hp.lt
 have HC : Hid (∀ (W : World), Keeps F wa W -> W.cell? ⟨w.heap.size, 0, none⟩ = some (.int .i64 b) /\ W.cell? ⟨w.heap.size, 1, none⟩ = some (.int .i64 a) /\ W.cell? ⟨w.heap.size, 2, none⟩ = some (.int .i64 z) /\ W.cell? ⟨w.heap.size, 3, none⟩ = some (.complex .f64 x y)) := fun W hW => by
  have hw := hW.heap hbl (fun hf => Nat.lt_irrefl _ (hp.lt _ hf))
  exact ⟨cell_of_block hw 0, cell_of_block hw 1, cell_of_block hw 2, cell_of_block hw 3⟩
 have HSa : Hid (w.heap.size < wa.heap.size) := lt_of_heap hbl
 clear h hp hb0 hbl
 unfold numV
 unfold numV at HH
 by_cases hin : (a : Int) <= n /\ n < (z : Int)
 ·rw [decide_eq_true hin] at HH
  have HIn := hid hin
  obtain ⟨k, rfl⟩ : ∃ k : Nat, n = (k : Int) := ⟨n.toNat, by omega⟩
  have hk : k < 4096 := by omega
  have hkk : ((k : Int)).toNat = k := by omega
  have HKk := hid hkk
  clear hin hkk
  go_enter Tryz.func240, Tryz.ntmps240
  go_wp2_with fail
  rw [<- hwa]
  clear hwa
  refine (HH.out wa).mono ?_
  clear HH
  rintro e w1 ⟨rfl, hb1⟩
  obtain ⟨c0, c1, c2, c3⟩ := HC.out w1 (Keeps.of_below hb1)
  have HB1 := hid (HB0.out.trans (hb1.mono HB0.out.size))
  have HBi := hid (abits_any (HMa.out.below hb1) hmF b a z x y hb hu HPa.out HB1.out)
  unfold numV at HBi
  have HKa1 : Hid (Keeps F wa w1) := Keeps.of_below hb1
  have HM1 := hid (HMa.out.below hb1)
  have hs1 := hb1.size
  clear hb1
  go_wp2_with fail
  refine HBi.out.mono ?_
  clear HBi
  rintro e w2 ⟨g, cap, rfl, hcap, hg, hrow, hK2, hW2⟩
  have HRow := hid hrow
  have HIs := hid (isSet_any g k cap (Pg b) w2 hrow.1 HLen.out hk)
  have HKa2 := hid (HKa1.out.trans hK2 (fun i e => .inl e))
  have HK2 := hid ((Keeps.of_below HB1.out).trans hK2 (fun i e => .inl e))
  have HW2 := hid hW2
  have HM2 : Hid (mapB w2 m c ino) := HM1.out.keep hK2 hmF
  have HgF : Hid (¬ F g) := fun hf => by have := HFl.out _ hf; have := HB1.out.size; omega
  have Hgw : Hid (wa.heap.size <= g) := Nat.le_trans hs1 hg
  clear hrow hK2 hW2 c0 c1 c2 c3
  cases hbit : bitL (Pg b) k with
  | false =>
   rw [hbit] at HIs
   have HBit := hid hbit
   clear hbit
   go_wp2_with fail
   refine HIs.out.mono ?_
   clear HIs
   rintro e w3 ⟨rfl, h3⟩
   obtain rfl := h3.symm
   clear h3
   go_wp2
   go_ret
   exact ⟨HK2.out, .inr (.inl ⟨HIn.out, by rw [HKk.out]; exact HBit.out, rfl, HW2.out _ (Keeps.refl _ _)⟩)⟩
  | true =>
   rw [hbit] at HIs
   have HBit := hid hbit
   have HFp := hid (flip_any g k cap (Pg b) w2 HRow.out HLen.out hk)
   clear hbit
   go_wp2_with fail
   refine HIs.out.mono ?_
   clear HIs
   rintro e w3 ⟨rfl, h3⟩
   obtain rfl := h3.symm
   clear h3
   go_wp2_with fail
   refine HFp.out.mono ?_
   clear HFp
   rintro e w3 ⟨rfl, hr3, hk3⟩
   have hK3 : Keeps F w w3 := HK2.out.trans hk3 (fun i e => .inr (by have e' : i = g := e; have := HB1.out.size; have := Hgw.out; have := HSa.out; omega))
   have hgF := HgF.out
   have hcl := HC.out w2 HKa2.out
   have d0 : w3.cell? ⟨w.heap.size, 0, none⟩ = some (.int .i64 b) := hk3.cell hcl.1 (show ¬ w.heap.size = g by have := Hgw.out; have := HSa.out; omega)
   have hnF : ¬ F w3.heap.size := fun hf => by have := HFl.out _ hf; have := hK3.size; omega
   have hwp := hr3.wpg (N := N) (F := F) (by rw [length_flipL]; exact HLen.out) b cap hb hgF hnF
   have hb4 : Below w3.heap.size w3 (w3.alloc (.cells #[.int .i64 b, .slice (some ⟨g, 0, none⟩) 512 cap] 122)) := (Below.refl _ w3).alloc (Nat.le_refl _) _
   have hgm : ¬ m = g := fun e => by have h1 := HMa.out.lt; have := Hgw.out; omega
   have hP3 : Pc w3 c F size N Pg Cm D o (u + 1) := HW2.out _ (hk3.mono (fun i e => by have e' : i = g := e; have := Hgw.out; have := HSa.out; omega))
   have HWr := hid (awrite_any ((HM2.out.keep hk3 hgm).below hb4) hmF w3.heap.size [⟨b, g, cap, flipL (Pg b) k⟩] hwp 1 (by simp) (by simp) (hP3.below hb4))
   have HK4 : Hid (Keeps F w (w3.alloc (.cells #[.int .i64 b, .slice (some ⟨g, 0, none⟩) 512 cap] 122))) := hK3.trans (Keeps.of_below hb4 : Keeps (fun _ => False) w3 _) (fun i e => e.elim)
   clear hr3 hk3 hK3 hgF hcl hnF hwp hb4 hgm hP3
   go_wp2_with fail
   refine HWr.out.mono ?_
   clear HWr
   rintro e w5 ⟨hk5, hw5⟩
   have HK5 := hid (HK4.out.trans hk5 (fun i e => .inl e))
   rw [newC_one] at hw5
   rcases hw5 with ⟨hf, rfl, hp5⟩ | ⟨hf, rfl, hp5⟩
   ·have HP5 := hid hp5
    have Hf := hid hf
    clear hp5 hf hk5 d0
    go_wp2
    go_ret
    exact ⟨HK5.out, .inr (.inr (.inl ⟨HIn.out, by rw [HKk.out]; exact HBit.out, Hf.out, rfl, HP5.out⟩))⟩
   ·have HP5 := hid hp5
    have Hf := hid hf
    clear hp5 hf hk5 d0
    go_wp2
    go_ret
    refine ⟨HK5.out, .inr (.inr (.inr ⟨HIn.out, by rw [HKk.out]; exact HBit.out, Hf.out, rfl, ?_⟩))⟩
    rw [HKk.out]
    exact HP5.out
 ·rw [decide_eq_false hin] at HH
  have HIn := hid hin
  clear hin
  go_enter Tryz.func240, Tryz.ntmps240
  go_wp2_with fail
  rw [<- hwa]
  clear hwa
  refine (HH.out wa).mono ?_
  clear HH
  rintro e w1 ⟨rfl, hb1⟩
  have HB1 := hid (HB0.out.trans (hb1.mono HB0.out.size))
  clear hb1
  go_wp2
  go_ret
  exact ⟨Keeps.of_below HB1.out, .inl ⟨HIn.out, rfl, (HPa.out.below HB1.out).more (Nat.le_refl _) (Nat.le_succ _)⟩⟩
theorem GiveTo.from {w w0 : World} {b a z : Nat} {n : Int} {e : Ending} {w' : World} (h : GiveTo w c F size N Pg Cm D o u b a z n e w') (k : Keeps F w0 w) : GiveTo w0 c F size N Pg Cm D o u b a z n e w' := ⟨k.trans h.1 (fun _ e => .inl e), h.2⟩
theorem aGivePage_any (h : mapB w m c ino) (hmF : ¬ F m) (hi : ino <= 512) (n : Int) (hN : 3 <= N) (hu : u < 1000000) (hp : Pc w c F size N Pg Cm D o u) :
  Calls Tryz.prog 207 #[.pointer (some ⟨m, 0, none⟩), .int .i64 n] w (GiveTo w c F size N Pg Cm D o u 2 (3 + ino / 8) N n) := by
 have hN4 := hp.four
 have HO := hid (amofPages_any h hi hp)
 have HT := hid (fun W (hW : Below w.heap.size w W) => agive_any (h.below hW) hmF 2 (3 + ino / 8) N oneF 0 n (by omega) hN4 hu (hp.below hW))
 clear h hp hN4
 go_enter Tryz.func207, Tryz.ntmps207
 go_wp2_with fail
 refine HO.out.mono ?_
 clear HO
 rintro e w1 ⟨rfl, hb1⟩
 have HT1 := hid (HT.out w1 hb1)
 have HK1 : Hid (Keeps F w w1) := Keeps.of_below hb1
 clear HT hb1
 go_wp2_with fail
 refine HT1.out.mono ?_
 clear HT1
 intro e w2 hg
 have HG := hid (hg.from HK1.out)
 obtain ⟨v, rfl⟩ : ∃ v : Int, e = .returned (.int .i64 v) := by
  rcases hg.2 with ⟨-, h, -⟩ | ⟨-, -, h, -⟩ | ⟨-, -, -, h, -⟩ | ⟨-, -, -, h, -⟩ <;> exact ⟨_, h⟩
 clear hg
 go_wp2
 go_ret
 exact HG.out
end
end
section
open Go.RowKit
def bitsTo : Nat -> List UInt8
 | 0 => zN 512
 | n + 1 => flipL (bitsTo n) n
theorem length_bitsTo : ∀ n, (bitsTo n).length = 512
 | 0 => length_zN 512
 | n + 1 => by rw [bitsTo, length_flipL, length_bitsTo n]
theorem bitL_zN (n : Nat) : bitL (zN 512) n = false := by
 unfold bitL
 have : (zN 512).getD (n / 8) 0 = 0 := by
  rw [List.getD_eq_getElem?_getD]
  cases h : (zN 512)[n / 8]? with
  | none => rfl
  | some x =>
   have hm := List.mem_of_getElem? h
   unfold zN at hm
   exact List.eq_of_mem_replicate hm
 rw [this]
 exact Nat.zero_testBit _
theorem bitL_bitsTo : ∀ (a n : Nat), a <= 4096 -> bitL (bitsTo a) n = decide (n < a)
 | 0, n, _ => by rw [bitsTo, bitL_zN]; simp
 | a + 1, n, h => by
  rw [bitsTo, bitL_flipL _ _ _ (by rw [length_bitsTo]; omega), bitL_bitsTo a n (by omega), bitL_bitsTo a a (by omega)]
  by_cases e : n = a
  ·rw [if_pos e]; simp [e]
  ·rw [if_neg e]
   apply decide_eq_decide.2
   omega
theorem aalways_any (b a z x y : Nat) (ha : a <= 4096) (w : World) : Calls Tryz.prog 132 #[numV b a z x y] w fun e w' => ∃ g, e = .returned (.slice (some ⟨g, 0, none⟩) 512 512) /\ w.heap.size <= g /\ rowU w' g (bitsTo a) /\ Below w.heap.size w w' := by
 obtain ⟨wa, hwa⟩ : ∃ wa, wa = w.alloc (.cells #[.int .i64 b, .int .i64 a, .int .i64 z, .complex .f64 x y] 93) := ⟨_, rfl⟩
 have hb0 : Below w.heap.size w wa := by rw [hwa]; exact (Below.refl _ w).alloc (Nat.le_refl _) _
 have hbl : wa.heap[w.heap.size]? = some (.cells #[.int .i64 b, .int .i64 a, .int .i64 z, .complex .f64 x y] 93 (0, 0)) := by rw [hwa]; exact block_new w _
 have HB0 := hid hb0
 have HBl := hid hbl
 have ha' : (a : Int) <= 4096 := by omega
 clear hb0 hbl
 unfold numV
 go_enter Tryz.func132, Tryz.ntmps132
 go_wp2_with fail
 rw [<- hwa]
 clear hwa
 refine (noughts_any wa).mono ?_
 rintro e w1 ⟨rfl, hz1, hb1⟩
 have c1 : w1.cell? ⟨w.heap.size, 1, none⟩ = some (.int .i64 a) := cell_of_block (below_block hb1 HBl.out (lt_of_heap HBl.out)) 1
 have HZ1 := hid (rowU_own hz1)
 have HB1 := hid (HB0.out.trans (hb1.mono HB0.out.size))
 have hsa := HB0.out.size
 obtain ⟨g, hg⟩ : ∃ g, g = wa.heap.size := ⟨_, rfl⟩
 rw [<- hg] at HZ1 ⊢
 have hgw : w.heap.size <= g := by omega
 clear hz1 hb1 hsa hg
 go_wp2
 go_loopw [8] (fun i wr => ∃ k : Nat, k <= a /\ i = .int .i64 k /\ Hid (rowU wr g (bitsTo k)) /\ Hid (Below w.heap.size w wr)) (fun i _ => a - (intOf i).toNat)
 case atStart => exact ⟨0, by omega, rfl, HZ1, HB1⟩
 case round =>
  obtain ⟨k, hk, rfl, HR, HB⟩ := hrel
  clear HZ1 HB1 c1
  by_cases hlt : k < a
  ·have hk0 : (0 : Int) <= (k : Int) := by omega
   have hlt' : (k : Int) < (a : Int) := by omega
   have HFp := hid (flip_any g k 512 (bitsTo k) wr HR.out (length_bitsTo k) (by omega))
   go_wp2_with fail
   refine HFp.out.mono ?_
   clear HFp
   rintro e w2 ⟨rfl, hr2, hk2⟩
   have HR2 : Hid (rowU w2 g (bitsTo (k + 1))) := hr2
   have HB2 : Hid (Below w.heap.size w w2) := HB.out.trans (hk2.below HB.out.size (fun i e => by have e' : i = g := e; omega))
   clear hr2 hk2
   go_wp2
   exact ⟨⟨k + 1, by omega, by go_num, HR2, HB2⟩, by simp [intOf]; omega⟩
  ·obtain rfl : k = a := by omega
   have hge : ¬ ((k : Int) < (k : Int)) := by omega
   go_wp2
   go_ret
   exact ⟨g, rfl, hgw, HR.out, HB.out⟩
def super1 : List UInt8 := [68, 85, 78, 49] ++ (zN 512).drop 4
def superL (pages ino : Nat) : List UInt8 := ((super1.take 4 ++ beS 4 pages ++ super1.drop 8).take 8 ++ beS 4 ino ++ (super1.take 4 ++ beS 4 pages ++ super1.drop 8).drop 12)
theorem length_super1 : super1.length = 512 := by unfold super1; rw [List.length_append, List.length_drop, length_zN]; rfl
theorem length_super2 (n : Nat) : (super1.take 4 ++ beS 4 n ++ super1.drop 8).length = 512 := by
 rw [List.length_append, List.length_append, List.length_take, List.length_drop, length_beS, length_super1]; rfl
theorem length_superL (pages ino : Nat) : (superL pages ino).length = 512 := by
 unfold superL
 rw [List.length_append, List.length_append, List.length_take, List.length_drop, length_beS, length_super2]; rfl
theorem asuper_any (pages ino : Nat) (hp : pages <= 4096) (hi : ino <= 4096) (w : World) : Calls Tryz.prog 131 #[.int .i64 pages, .int .i64 ino] w fun e w' => e = .returned (.slice (some ⟨w.heap.size, 0, none⟩) 512 512) /\ ownB w' w.heap.size (superL pages ino) /\ Below w.heap.size w w' := by
 go_enter Tryz.func131, Tryz.ntmps131
 go_wp2_with fail
 refine (noughts_any w).mono ?_
 rintro e w1 ⟨rfl, hz1, hb1⟩
 have HZ1 := hid hz1
 have HB1 := hid hb1
 obtain ⟨g, hg⟩ : ∃ g, g = w.heap.size := ⟨_, rfl⟩
 rw [<- hg] at HZ1
 have HG := hid hg
 have hgle : w.heap.size <= g := by omega
 clear hz1 hb1
 rw [<- hg]
 clear hg
 go_wp2_with (refine wpList_copy_str rfl (.tmp 7) (.const (.string ⟨#[68, 85, 78, 49]⟩)) rfl g 512 (zN 512) ⟨#[68, 85, 78, 49]⟩ rfl rfl HZ1.out (length_zN 512) (by decide) ?_; intro r2 w2 hr2 hk2; have HB2 := hid (HB1.out.trans (hk2.below HB1.out.size (fun i e => by have e' : i = g := e; omega))); have HR2 : Hid (ownB w2 g super1) := hr2; clear hr2 hk2 HZ1 HB1)
 have HPu := hid (put_any g 4 4 508 pages super1 w2 HR2.out (by rw [length_super1]; omega) (by rw [length_super1]; omega) (by omega))
 refine HPu.out.mono ?_
 clear HPu
 rintro e w3 ⟨rfl, hr3, hk3⟩
 have HR3 : Hid (ownB w3 g (super1.take 4 ++ beS 4 pages ++ super1.drop 8)) := hr3
 have HB3 := hid (HB2.out.trans (hk3.below HB2.out.size (fun i e => by have e' : i = g := e; omega)))
 have HPv := hid (put_any g 8 4 504 ino _ w3 HR3.out (by rw [length_super2]; omega) (by rw [length_super2]; omega) (by omega))
 clear hr3 hk3 HR2 HB2
 go_wp2_with fail
 refine HPv.out.mono ?_
 clear HPv
 rintro e w4 ⟨rfl, hr4, hk4⟩
 have HR4 : Hid (ownB w4 g (superL pages ino)) := hr4
 have HB4 := hid (HB3.out.trans (hk4.below HB3.out.size (fun i e => by have e' : i = g := e; omega)))
 clear hr4 hk4 HR3 HB3
 go_wp2
 go_ret
 rw [<- HG.out]
 refine ⟨rfl, HR4.out, ?_⟩
 rw [HG.out]
 exact HB4.out
end
section
open Go.RowKit
def empK (N ino k : Nat) : List (Nat × List UInt8) := [(0, superL N ino), (1, bitsTo 1), (2, bitsTo (3 + ino / 8))] ++ (List.range k).map (fun j => (3 + j, zN 512))
def WPg.key (p : WPg) : Nat × List UInt8 := (p.n, p.l)
structure EmpIn (w0 w : World) (ps : List WPg) (N ino k : Nat) : Prop where
 keys : ps.map WPg.key = empK N ino k
 rows : ∀ p ∈ ps, p.l.length = 512 /\ bytesAt w ⟨p.g, 0, none⟩ p.l /\ w0.heap.size <= p.g
def psCells (ps : List WPg) : List Value := ps.flatMap WPg.cells
theorem psCells_snoc (ps : List WPg) (p : WPg) : psCells (ps ++ [p]) = psCells ps ++ [.int .i64 p.n, .slice (some ⟨p.g, 0, none⟩) 512 p.cap] := by simp [psCells, WPg.cells]
theorem psCells_at : ∀ (ps : List WPg) (i : Nat) (hi : i < ps.length), (psCells ps)[i * 2]? = some (.int .i64 ps[i].n) /\ (psCells ps)[i * 2 + 1]? = some (.slice (some ⟨ps[i].g, 0, none⟩) 512 ps[i].cap)
 | p :: ps, 0, _ => by simp [psCells, WPg.cells]
 | p :: ps, i + 1, hi => by
  have ih := psCells_at ps i (by simpa using hi)
  have e : psCells (p :: ps) = [.int .i64 p.n, .slice (some ⟨p.g, 0, none⟩) 512 p.cap] ++ psCells ps := by simp [psCells, WPg.cells]
  rw [e]
  refine ⟨?_, ?_⟩
  ·rw [show (i + 1) * 2 = i * 2 + 2 by omega, List.getElem?_append_right (by simp), show i * 2 + 2 - [Value.int .i64 p.n, .slice (some ⟨p.g, 0, none⟩) 512 p.cap].length = i * 2 by simp]
   simpa using ih.1
  ·rw [show (i + 1) * 2 + 1 = i * 2 + 1 + 2 by omega, List.getElem?_append_right (by simp), show i * 2 + 1 + 2 - [Value.int .i64 p.n, .slice (some ⟨p.g, 0, none⟩) 512 p.cap].length = i * 2 + 1 by simp]
   simpa using ih.2
theorem EmpIn.below {w0 w w' : World} {ps : List WPg} {N ino k : Nat} (h : EmpIn w0 w ps N ino k) (hb : Below w.heap.size w w') : EmpIn w0 w' ps N ino k :=
 ⟨h.keys, fun p hp => ⟨(h.rows p hp).1, fun j hj => (hb.cell (World.block_lt_of_cell? w _ ((h.rows p hp).2.1 j hj))).trans ((h.rows p hp).2.1 j hj), (h.rows p hp).2.2⟩⟩
theorem EmpIn.len {w0 w : World} {ps : List WPg} {N ino k : Nat} (h : EmpIn w0 w ps N ino k) : ps.length = 3 + k := by
 have := congrArg List.length h.keys
 simp [empK] at this
 omega
theorem row_off {w : World} {lo g gp n : Nat} {v : Value} {ps : List WPg} {l : List UInt8} (h : w.ownsRow lo 122 2 v n (psCells ps)) (e : v.ownBlock = some g) (hp : 0 < ps.length) (hl : bytesAt w ⟨gp, 0, none⟩ l) (h0 : 0 < l.length) : gp ≠ g := fun hg => by
 subst hg
 rcases h.2 with ⟨rfl, -⟩ | ⟨g', cap, cur, rfl, -, hh, hn, -, hs, ht⟩
 ·cases e
 ·obtain rfl : g' = gp := Option.some.inj e
  have h1 := hl 0 h0
  rw [Addr.add_mid, Nat.zero_add, cell_of_block hh] at h1
  have h2 := (psCells_at ps 0 hp).1
  rw [<- ht, Nat.zero_mul] at h2
  have h3 : cur.toList[0]? = some (.int .i64 ps[0].n) := by
   rw [List.getElem?_take] at h2
   split at h2
   ·exact h2
   ·cases h2
  rw [Array.getElem?_toList] at h3
  rw [h3] at h1
  simp at h1
section
variable {w : World} {m c ino : Nat} {F : Nat -> Prop} {size N : Nat} {Pg Cm : Nat -> List UInt8} {D : Int -> Bool} {o u : Nat}
theorem aempty_any (h : mapB w m c ino) (hi : ino <= 512) (hp : Pc w c F size N Pg Cm D o u) :
  Calls Tryz.prog 68 #[.pointer (some ⟨m, 0, none⟩)] w fun e w' => ∃ pb cap ps, e = .returned (.slice (some ⟨pb, 0, none⟩) (3 + ino / 8) cap) /\ w'.ownsRow w.heap.size 122 2 (.slice (some ⟨pb, 0, none⟩) (3 + ino / 8) cap) (3 + ino / 8) (psCells ps) /\ EmpIn w w' ps N ino (ino / 8) /\ Below w.heap.size w w' := by
 obtain ⟨i0, hi0, hz0, hz1, hz2⟩ := info_parts infoPage
 have HI0 := hid hi0
 have hN4 := hp.four
 have HPa := hid (fun W (hW : Below w.heap.size w W) => ampages_any (h.below hW) (hp.below hW))
 have HSu := hid (fun W => asuper_any N ino hN4 (by omega) W)
 have HOi := hid (fun W (hW : Below w.heap.size w W) => amofInodes_any (h.below hW))
 have HOp := hid (fun W (hW : Below w.heap.size w W) => amofPages_any (h.below hW) hi (hp.below hW))
 have HAi := hid (fun W => aalways_any 1 1 ino 0 oneF (by omega) W)
 have HAp := hid (fun W => aalways_any 2 (3 + ino / 8) N oneF 0 (by omega) W)
 have HFi := hid (fun W (hW : Below w.heap.size w W) => amFirst_any (h.below hW) hi)
 have HC : Hid (∀ W, Below w.heap.size w W -> W.cell? ⟨m, 1, none⟩ = some (.int .i64 ino)) := fun W hW => cell_of_block (h.below hW) 1
 have hC0 := HC.out w (Below.refl _ _)
 obtain ⟨f, hf⟩ : ∃ f, f = ino / 8 := ⟨_, rfl⟩
 rw [<- hf] at HOp HAp HFi ⊢
 have hf64 : f <= 64 := by omega
 have HEk : Hid (∀ k, empK N ino k = [(0, superL N ino), (1, bitsTo 1), (2, bitsTo (3 + f))] ++ (List.range k).map (fun j => (3 + j, zN 512))) := fun k => by rw [hf]; rfl
 clear h hp hf hi0 hN4
 go_enter Tryz.func68, Tryz.ntmps68
 go_wp2
 refine wp_region_noPanic ?_
 refine wp_region_held_drew (S := fun W => W.cell? ⟨m, 1, none⟩ = some (.int .i64 ino)) (by kernel_rfl) hC0 (fun hHeld => ?_)
 refine tq 0 _ ?_
 try simp only [tS]
 refine tq 2 _ ?_
 try simp only [tS]
 refine tq 3 _ ?_
 try simp only [tS]
 refine tq 4 _ ?_
 try simp only [tS]
 refine tq 5 _ ?_
 try simp only [tS]
 refine tq 8 _ ?_
 try simp only [tS]
 refine tq 12 _ ?_
 try simp only [tS]
 refine tr 1 (fun K hK => ?_)
 go_simp
 refine (HPa.out w.drew ((Below.refl _ w).drew)).mono ?_
 rintro e w1 ⟨rfl, hb1⟩
 have HB1 : Hid (Below w.heap.size w w1) := (Below.refl _ w).drew.trans (hb1.mono (Nat.le_refl _))
 have hz := HC.out w1 HB1.out
 clear hb1 hC0
 go_wp2_with fail
 refine hK.out _ _ hz (fun hHeld => ?_)
 clear hK K
 try simp only [tS]
 refine tr 6 (fun K hK => ?_)
 go_simp
 refine (HSu.out w1).mono ?_
 rintro e w2 ⟨rfl, hs2, hb2⟩
 have HB2 := hid (HB1.out.trans (hb2.mono HB1.out.size))
 have HS2 := hid hs2
 have Hn1 := hid HB1.out.size
 obtain ⟨g0, hg0⟩ : ∃ g0, g0 = w1.heap.size := ⟨_, rfl⟩
 rw [<- hg0] at HS2 Hn1 ⊢
 have hz2' := HC.out w2 HB2.out
 clear hb2 hs2 hg0 hz
 go_wp2_with fail
 refine hK.out _ _ hz2' (fun hHeld => ?_)
 clear hK K
 try simp only [tS]
 refine tq 7 _ ?_
 try simp only [tS]
 refine tr 9 (fun K hK => ?_)
 go_simp
 refine (HOi.out w2 HB2.out).mono ?_
 rintro e w3 ⟨rfl, hb3⟩
 have HB3 := hid (HB2.out.trans (hb3.mono HB2.out.size))
 have HS3 := hid (HS2.out.below hb3)
 have hz3 := HC.out w3 HB3.out
 clear hb3 hz2' HS2
 go_wp2_with fail
 refine hK.out _ _ hz3 (fun hHeld => ?_)
 clear hK K
 try simp only [tS]
 refine tr 10 (fun K hK => ?_)
 go_simp
 refine (HAi.out w3).mono ?_
 rintro e w4 ⟨g1, rfl, hg1, hr4, hb4⟩
 have HB4 := hid (HB3.out.trans (hb4.mono HB3.out.size))
 have HS4 := hid (HS3.out.below hb4)
 have HR4 := hid hr4.1
 have Hg1 : Hid (w.heap.size <= g1) := Nat.le_trans HB3.out.size hg1
 have hz4 := HC.out w4 HB4.out
 clear hb4 hz3 HS3 hr4 hg1
 go_wp2_with fail
 refine hK.out _ _ hz4 (fun hHeld => ?_)
 clear hK K
 try simp only [tS]
 refine tq 11 _ ?_
 try simp only [tS]
 refine tr 13 (fun K hK => ?_)
 go_simp
 refine (HOp.out w4 HB4.out).mono ?_
 rintro e w5 ⟨rfl, hb5⟩
 have HB5 := hid (HB4.out.trans (hb5.mono HB4.out.size))
 have HS5 := hid (HS4.out.below hb5)
 have HR5 : Hid (bytesAt w5 ⟨g1, 0, none⟩ (bitsTo 1)) := fun j hj => (hb5.cell (World.block_lt_of_cell? w4 _ (HR4.out j hj))).trans (HR4.out j hj)
 have hz5 := HC.out w5 HB5.out
 clear hb5 hz4 HS4 HR4
 go_wp2_with fail
 refine hK.out _ _ hz5 (fun hHeld => ?_)
 clear hK K
 try simp only [tS]
 refine tr 14 (fun K hK => ?_)
 go_simp
 refine (HAp.out w5).mono ?_
 rintro e w6 ⟨g2, rfl, hg2, hr6, hb6⟩
 have HB6 := hid (HB5.out.trans (hb6.mono HB5.out.size))
 have HS6 := hid (HS5.out.below hb6)
 have HR6 : Hid (bytesAt w6 ⟨g1, 0, none⟩ (bitsTo 1)) := fun j hj => (hb6.cell (World.block_lt_of_cell? w5 _ (HR5.out j hj))).trans (HR5.out j hj)
 have HT6 := hid hr6.1
 have Hg2 : Hid (w.heap.size <= g2) := Nat.le_trans HB5.out.size hg2
 have hz6 := HC.out w6 HB6.out
 clear hb6 hz5 HS5 HR5 hr6 hg2
 go_wp2_with fail
 refine hK.out _ _ hz6 (fun hHeld => ?_)
 clear hK K
 try simp only [tS]
 refine tq 15 _ ?_
 try simp only [tS]
 refine tr 16 (fun K hK => ?_)
 go_simp
 have hb7 : Below w6.heap.size w6 (w6.alloc (.cells #[.int .i64 0, .slice (some ⟨g0, 0, none⟩) 512 512, .int .i64 1, .slice (some ⟨g1, 0, none⟩) 512 512, .int .i64 2, .slice (some ⟨g2, 0, none⟩) 512 512] 122)) := (Below.refl _ w6).alloc (Nat.le_refl _) _
 have HB7 := hid (HB6.out.trans (hb7.mono HB6.out.size))
 have hz7 := HC.out _ HB7.out
 have hn6 := HB6.out.size
 have HE7 : Hid (EmpIn w (w6.alloc (.cells #[.int .i64 0, .slice (some ⟨g0, 0, none⟩) 512 512, .int .i64 1, .slice (some ⟨g1, 0, none⟩) 512 512, .int .i64 2, .slice (some ⟨g2, 0, none⟩) 512 512] 122)) [⟨0, g0, 512, superL N ino⟩, ⟨1, g1, 512, bitsTo 1⟩, ⟨2, g2, 512, bitsTo (3 + f)⟩] N ino 0) := by
  refine ⟨by rw [HEk.out]; rfl, fun p hp => ?_⟩
  have hcell : ∀ (g : Nat) (l : List UInt8), bytesAt w6 ⟨g, 0, none⟩ l -> bytesAt (w6.alloc (.cells #[.int .i64 0, .slice (some ⟨g0, 0, none⟩) 512 512, .int .i64 1, .slice (some ⟨g1, 0, none⟩) 512 512, .int .i64 2, .slice (some ⟨g2, 0, none⟩) 512 512] 122)) ⟨g, 0, none⟩ l := fun g l hl j hj => (hb7.cell (World.block_lt_of_cell? w6 _ (hl j hj))).trans (hl j hj)
  simp only [List.mem_cons, List.mem_nil_iff, or_false] at hp
  rcases hp with rfl | rfl | rfl
  ·exact ⟨length_superL _ _, hcell _ _ HS6.out.at, Hn1.out⟩
  ·exact ⟨length_bitsTo _, hcell _ _ HR6.out, Hg1.out⟩
  ·exact ⟨length_bitsTo _, hcell _ _ HT6.out, Hg2.out⟩
 have HO7 : Hid ((w6.alloc (.cells #[.int .i64 0, .slice (some ⟨g0, 0, none⟩) 512 512, .int .i64 1, .slice (some ⟨g1, 0, none⟩) 512 512, .int .i64 2, .slice (some ⟨g2, 0, none⟩) 512 512] 122)).ownsRow w.heap.size 122 2 (.slice (some ⟨w6.heap.size, 0, none⟩) 3 3) 3 (psCells [⟨0, g0, 512, superL N ino⟩, ⟨1, g1, 512, bitsTo 1⟩, ⟨2, g2, 512, bitsTo (3 + f)⟩])) :=
  ⟨rfl, .inr ⟨w6.heap.size, 3, _, rfl, hn6, block_new w6 _, Nat.le_refl _, by unfold maxLen; omega, rfl, rfl⟩⟩
 clear hb7 hz6 hn6 HS6 HR6 HT6
 generalize w6.alloc (.cells #[.int .i64 0, .slice (some ⟨g0, 0, none⟩) 512 512, .int .i64 1, .slice (some ⟨g1, 0, none⟩) 512 512, .int .i64 2, .slice (some ⟨g2, 0, none⟩) 512 512] 122) = w7 at *
 generalize w6.heap.size = pb at *
 refine hK.out _ _ hz7 (fun hHeld => ?_)
 clear hK K
 try simp only [tS]
 refine tq 17 _ ?_
 try simp only [tS]
 refine wpAnyH_done (by kernel_rfl) ?_ _
 refine NoPanic.normal ?_
 clear hHeld hz7 HPa HSu HOi HOp HAi HAp
 go_wp2
 go_loopw [3, 4] (fun v i wr => ∃ (k : Nat) (ps : List WPg), k <= f /\ i = .int .i64 ((3 + k : Nat) : Int) /\ Hid (wr.ownsRow w.heap.size 122 2 v (3 + k) (psCells ps)) /\ Hid (EmpIn w wr ps N ino k) /\ Hid (Below w.heap.size w wr)) (fun _ i _ => 3 + f - (intOf i).toNat)
 case atStart => exact ⟨0, _, by omega, rfl, HO7, HE7, HB7⟩
 case round =>
  obtain ⟨k, ps, hk, rfl, hO, hE, hB⟩ := hrel
  clear HO7 HE7 HB7
  by_cases hlt : k < f
  ·have hlt' : ((3 + k : Nat) : Int) < ((3 + f : Nat) : Int) := by omega
   have HF1 := hid (HFi.out wr hB.out)
   obtain ⟨n, hn⟩ : ∃ n, n = 3 + k := ⟨_, rfl⟩
   rw [<- hn] at hlt' hO ⊢
   have HN := hid hn
   have hn67 : n <= 67 := by omega
   clear hn
   obtain ⟨z, hz⟩ : ∃ z, z = 3 + f := ⟨_, rfl⟩
   rw [<- hz] at hlt' HF1
   clear hz
   go_wp2_with fail
   refine HF1.out.mono ?_
   clear HF1
   rintro e w8 ⟨rfl, h8⟩
   obtain rfl := h8.symm
   clear h8
   go_wp2_with fail
   refine (noughts_any wr).mono ?_
   rintro e w8 ⟨rfl, hz8, hb8⟩
   have HB8 := hid (hB.out.trans (hb8.mono hB.out.size))
   have hO8 := (Keeps.of_below hb8 : Keeps (fun _ => False) wr w8).row hO.out (fun _ _ h => h)
   have HO8 := hid hO8
   have HE8 := hid (hE.out.below hb8)
   have HZ8 := hid hz8
   have hwr := hB.out.size
   obtain ⟨gz, hgz⟩ : ∃ gz, gz = wr.heap.size := ⟨_, rfl⟩
   rw [<- hgz] at HZ8 ⊢
   have hgzw : w.heap.size <= gz := by omega
   clear hb8 hO8 hz8 hgz hwr hO hE hB
   have hs8 := HB8.out.size
   go_wp2_with (refine wpList_append_lies _ rfl (.tmp 28) (.tmp 32) 112 rfl w.heap.size 122 i0 (.agg #[.int .i64 0, .slice none 0 0]) 2 32 Tryz.underlying112 HI0.out hz0 hz1 hz2 rfl (by omega) u3 n _ rfl (HO8.out.alloc _) ⟨w8.heap.size, 0, none⟩ 1 1 [.int .i64 n, .slice (some ⟨gz, 0, none⟩) 512 512] rfl rfl (World.news_of_block (cs := #[.int .i64 n, .slice (some ⟨gz, 0, none⟩) 512 512]) (block_new w8 _)) (by intro u hu; rcases List.mem_cons.1 hu with rfl | hu; rfl; rw [List.mem_singleton.1 hu]; rfl) (by omega) (by unfold maxLen; omega) (by omega) (by simp; omega) (w8.heap.size + 1) (by simp) ?_; intro g9 cap9 w9 hown hgr hat hlt9; have HOw := hid hown; have HGr := hid hgr; clear hown hgr hat hlt9)
   have hnn := HN.out
   have hb9 : Below w8.heap.size w8 (w8.alloc (.cells #[.int .i64 n, .slice (some ⟨gz, 0, none⟩) 512 512] 122)) := (Below.refl _ w8).alloc (Nat.le_refl _) _
   have hk9 : Keeps (fun i => u3.ownBlock = some i) w8 w9 := (Keeps.of_below hb9).grown HGr.out (fun i e => .inl e)
   have hrowpl : ∀ i, u3.ownBlock = some i -> w.heap.size <= i := fun i e => (HO8.out.lt i e).1
   refine ⟨⟨k + 1, ps ++ [⟨n, gz, 512, zN 512⟩], by omega, by rw [hnn]; go_num, ?_, ?_, ?_⟩, by rw [hnn]; simp [intOf]; omega⟩
   ·unfold Hid
    rw [psCells_snoc, show 3 + (k + 1) = n + 1 by omega]
    exact HOw.out
   ·refine ⟨?_, fun p hp => ?_⟩
    ·rw [List.map_append, HE8.out.keys]
     simp [empK, List.range_succ, WPg.key, hnn]
    ·have hne : ∀ (gp : Nat) (l : List UInt8), l.length = 512 -> bytesAt w8 ⟨gp, 0, none⟩ l -> bytesAt w9 ⟨gp, 0, none⟩ l := fun gp l hl5 hl j hj => hk9.cell (hl j hj) (fun e => by
      rw [add_block] at e
      exact row_off HO8.out e (by rw [HE8.out.len]; omega) hl (by omega) rfl)
     rcases List.mem_append.1 hp with hp | hp
     ·exact ⟨(HE8.out.rows p hp).1, hne _ _ (HE8.out.rows p hp).1 (HE8.out.rows p hp).2.1, (HE8.out.rows p hp).2.2⟩
     ·obtain rfl : p = ⟨n, gz, 512, zN 512⟩ := by simpa using hp
      exact ⟨length_zN 512, hne _ _ (length_zN 512) HZ8.out.at, hgzw⟩
   ·exact HB8.out.trans (hk9.below HB8.out.size hrowpl)
  ·obtain rfl : k = f := by omega
   have HF1 := hid (HFi.out wr hB.out)
   obtain ⟨n, hn⟩ : ∃ n, n = 3 + k := ⟨_, rfl⟩
   rw [<- hn] at hO HF1 ⊢
   have hge : ¬ ((n : Int) < (n : Int)) := by omega
   have HN := hid hn
   clear hn
   have hpos : 3 <= n := by have := HN.out; omega
   obtain ⟨pb', cap', hv⟩ : ∃ pb' cap', u3 = .slice (some ⟨pb', 0, none⟩) n cap' := by
    rcases hO.out.2 with ⟨-, h0⟩ | ⟨g, cp, cur, e, -⟩
    ·omega
    ·exact ⟨g, cp, e⟩
   subst hv
   go_wp2_with fail
   refine HF1.out.mono ?_
   clear HF1
   rintro e w8 ⟨rfl, h8⟩
   obtain rfl := h8.symm
   clear h8
   go_wp2
   go_ret
   rw [<- HN.out]
   exact ⟨pb', cap', ps, rfl, hO.out, hE.out, hB.out⟩
end
end
section
open Go.RowKit
def putL (Pg : Nat -> List UInt8) (ks : List (Nat × List UInt8)) : Nat -> List UInt8 := ks.foldl (fun f p => updP f p.1 p.2) Pg
def putLD (D : Int -> Bool) (ks : List (Nat × List UInt8)) : Int -> Bool := ks.foldl (fun f p => updT f (p.1 : Int)) D
theorem putP_keys : ∀ (ps : List WPg) (Pg : Nat -> List UInt8), putP Pg ps = putL Pg (ps.map WPg.key)
 | [], _ => rfl
 | p :: ps, Pg => putP_keys ps (updP Pg p.n p.l)
theorem putD_keys : ∀ (ps : List WPg) (D : Int -> Bool), putD D ps = putLD D (ps.map WPg.key)
 | [], _ => rfl
 | p :: ps, D => putD_keys ps (updT D (p.n : Int))
theorem empK_lt {N ino k : Nat} {x : Nat × List UInt8} (h : x ∈ empK N ino k) : x.1 < 3 + k := by
 simp only [empK, List.cons_append, List.nil_append, List.mem_cons, List.mem_map, List.mem_range] at h
 rcases h with rfl | rfl | rfl | ⟨j, hj, rfl⟩
 ·show 0 < 3 + k; omega
 ·show 1 < 3 + k; omega
 ·show 2 < 3 + k; omega
 ·show 3 + j < 3 + k; omega
section
variable {w : World} {m c ino : Nat} {F : Nat -> Prop} {size N : Nat} {Pg Cm : Nat -> List UInt8} {D : Int -> Bool} {o u : Nat}
theorem EmpIn.wpgs {w0 w : World} {ps : List WPg} {k pb cap : Nat} (h : EmpIn w0 w ps N ino k) (hr : w.ownsRow w0.heap.size 122 2 (.slice (some ⟨pb, 0, none⟩) (3 + k) cap) (3 + k) (psCells ps)) (hF : ∀ i, F i -> i < w0.heap.size) (hN : 3 + k <= N) : WPgs w pb ps F N := by
 have hl := h.len
 refine ⟨fun i hi => ?_, fun _ hf => ?_, fun p hp => ?_⟩
 ·obtain ⟨h1, h2⟩ := psCells_at ps i hi
  rcases hr.2 with ⟨e, -⟩ | ⟨g, cp, cur, e, -, hh, hn, -, hs, ht⟩
  ·cases e
  ·obtain ⟨rfl, rfl⟩ : pb = g /\ cap = cp := by simpa using e
   have hc : ∀ j v, (psCells ps)[j]? = some v -> w.cell? ⟨pb, j, none⟩ = some v := fun j v hv => by
    rw [<- ht, List.getElem?_take] at hv
    split at hv
    ·rw [cell_of_block hh, <- Array.getElem?_toList]; exact hv
    ·cases hv
   exact ⟨hc _ _ h1, hc _ _ h2⟩
 ·have h1 := (hr.lt pb rfl).1
  have h2 := hF _ hf
  omega
 ·have hk : p.key ∈ empK N ino k := by rw [<- h.keys]; exact List.mem_map.2 ⟨p, hp, rfl⟩
  have h1 := empK_lt hk
  have h2 := h.rows p hp
  exact ⟨by show p.n < N; have h3 : p.n < 3 + k := h1; omega, h2.1, h2.2.1, fun hf => by have := hF _ hf; have := h2.2.2; omega⟩
def MakeTo (w : World) (c : Nat) (F : Nat -> Prop) (size N : Nat) (Pg Cm : Nat -> List UInt8) (D : Int -> Bool) (o u : Nat) (ino : Int) (e : Ending) (w' : World) : Prop :=
 Keeps F w w' /\ ((¬ mayP N ino /\ e = .returned (.tuple #[.pointer none, .int .i64 2]) /\ Pc w' c F size N Pg Cm D o u) \/
  ∃ n : Nat, ino = (n : Int) /\ mayP N ino /\ ((min size 100 < (dkD N D).length + (3 + n / 8) /\ e = .returned (.tuple #[.pointer none, .int .i64 7]) /\ Pc w' c F size N Pg Cm D o u) \/
   ((dkD N D).length + (3 + n / 8) <= min size 100 /\ ∃ m, w.heap.size <= m /\ ¬ F m /\ mapB w' m c n /\ e = .returned (.tuple #[.pointer (some ⟨m, 0, none⟩), .int .i64 0]) /\ Pc w' c F size N (putL Pg (empK N n (n / 8))) Cm (putLD D (empK N n (n / 8))) o u)))
theorem amake_any (ino : Int) (hp : Pc w c F size N Pg Cm D o u) : Calls Tryz.prog 24 #[.pointer (some ⟨c, 0, none⟩), .int .i64 ino] w (MakeTo w c F size N Pg Cm D o u ino) := by
 obtain ⟨p, hl1, hl2⟩ := hp.logPages
 have hN4 := hp.four
 have HL1 := hid hl1
 have HL2 := hid hl2
 have HMb := hid (fun W => amayBe_any N ino hN4 W)
 have HP := hid hp
 have HFl := hid hp.lt
 have hkl := hp.keysLen
 obtain ⟨K, hK⟩ : ∃ K, K = (dkD N D).length := ⟨_, rfl⟩
 have HK := hid hK
 obtain ⟨Z, hZ⟩ : ∃ Z, Z = min size 100 := ⟨_, rfl⟩
 have hZ1 : Z <= 100 := by omega
 have HZ := hid hZ
 rw [<- hK, <- hZ] at hkl
 clear hp hl1 hl2 hK hZ hN4
 by_cases hmay : mayP N ino
 ·rw [decide_eq_true hmay] at HMb
  have HMay := hid hmay
  obtain ⟨n, rfl⟩ : ∃ n : Nat, ino = (n : Int) := ⟨ino.toNat, by have := hmay.1; omega⟩
  have hn5 : n <= 512 := by have := hmay.2.1; omega
  have hfN : 3 + n / 8 <= N := by have := hmay.2.2.2.1; omega
  clear hmay
  go_enter Tryz.func24, Tryz.ntmps24
  go_wp2_with fail
  refine HL1.out.mono ?_
  clear HL1
  rintro e w1 ⟨rfl, h1⟩
  obtain rfl := h1.symm
  clear h1
  go_wp2_with fail
  refine HL2.out.mono ?_
  clear HL2
  rintro e w1 ⟨rfl, hb1⟩
  have HB1 := hid hb1
  clear hb1
  go_wp2_with fail
  refine (HMb.out w1).mono ?_
  clear HMb
  rintro e w2 ⟨rfl, h2⟩
  obtain rfl := h2.symm
  clear h2
  obtain ⟨wm, hwm⟩ : ∃ wm, wm = w1.alloc (.cells #[.pointer (some ⟨c, 0, none⟩), .int .i64 n] 111) := ⟨_, rfl⟩
  have hbm : Below w1.heap.size w1 wm := by rw [hwm]; exact (Below.refl _ w1).alloc (Nat.le_refl _) _
  have hmb : mapB wm w1.heap.size c n := by rw [hwm]; exact block_new w1 _
  have HBm := hid (HB1.out.trans (hbm.mono HB1.out.size))
  have HMm := hid hmb
  have hR := (HP.out.below HBm.out).roomC
  rw [<- HZ.out, <- HK.out] at hR
  have HR := hid hR
  have HmF : Hid (¬ F w1.heap.size) := fun hf => by have := HFl.out _ hf; have := HB1.out.size; omega
  have HSm := hid HB1.out.size
  obtain ⟨mb, hmbE⟩ : ∃ mb, mb = w1.heap.size := ⟨_, rfl⟩
  rw [<- hmbE] at HMm HmF HSm
  clear hbm hmb hR
  go_wp2_with fail
  rw [<- hwm, <- hmbE]
  clear hwm hmbE
  refine HR.out.mono ?_
  clear HR
  rintro e w3 ⟨rfl, hb3⟩
  have HB3 := hid (HBm.out.trans (hb3.mono HBm.out.size))
  have HM3 := hid (HMm.out.below hb3)
  have HFi := hid (amFirst_any HM3.out hn5)
  have HEm := hid (aempty_any HM3.out hn5 (HP.out.below HB3.out))
  obtain ⟨f, hf⟩ : ∃ f, f = n / 8 := ⟨_, rfl⟩
  rw [<- hf] at HFi HEm hfN
  have HF := hid hf
  clear hb3 hf
  have hff : f <= 64 := by have := HF.out; omega
  go_wp2_with fail
  refine HFi.out.mono ?_
  clear HFi
  rintro e w4 ⟨rfl, h4⟩
  obtain rfl := h4.symm
  clear h4
  by_cases hfull : Z < K + (3 + f)
  ·have hlt : (Z : Int) - (K : Int) < ((3 + f : Nat) : Int) := by omega
   obtain ⟨ff, hffE⟩ : ∃ ff, ff = 3 + f := ⟨_, rfl⟩
   rw [<- hffE] at hlt ⊢
   clear hffE
   go_wp2
   go_returns
   refine ⟨Keeps.of_below HB3.out, .inr ⟨n, rfl, HMay.out, .inl ⟨?_, rfl, HP.out.below HB3.out⟩⟩⟩
   rw [<- HK.out, <- HZ.out, <- HF.out]; exact hfull
  ·have hlt : ¬ ((Z : Int) - (K : Int) < ((3 + f : Nat) : Int)) := by omega
   obtain ⟨ff, hffE⟩ : ∃ ff, ff = 3 + f := ⟨_, rfl⟩
   rw [<- hffE] at hlt HEm ⊢
   have HFF := hid hffE
   clear hffE
   go_wp2_with fail
   refine HEm.out.mono ?_
   clear HEm
   rintro e w5 ⟨pb, cap, ps, rfl, hrow, hE, hb5⟩
   have hB5 := HB3.out.trans (hb5.mono HB3.out.size)
   have HB5 := hid hB5
   have hrow' : w5.ownsRow w3.heap.size 122 2 (.slice (some ⟨pb, 0, none⟩) (3 + f) cap) (3 + f) (psCells ps) := by rw [<- HFF.out]; exact hrow
   have hF3 : ∀ i, F i -> i < w3.heap.size := fun i hi => Nat.lt_of_lt_of_le (HFl.out i hi) HB3.out.size
   have hws := hE.wpgs (F := F) hrow' hF3 hfN
   have hlen : ps.length = ff := by rw [hE.len, HFF.out]
   have hwr := awrite_any (HM3.out.below hb5) HmF.out pb ps hws cap (by rw [hlen, HFF.out]; omega) (by rw [hlen, HFF.out]; omega) (HP.out.below hB5)
   rw [hlen] at hwr
   have HWr := hid hwr
   have HKe := hid hE.keys
   have HM5 := hid (HM3.out.below hb5)
   have HLn := hid hlen
   clear hb5 hB5 hrow hrow' hF3 hws hwr hE hlen
   go_wp2_with fail
   refine HWr.out.mono ?_
   clear HWr
   rintro e w6 ⟨hk6, hw6⟩
   have HK6 := hid ((Keeps.of_below HB5.out : Keeps F w w5).trans hk6 (fun i e => .inl e))
   have HM6 : Hid (mapB w6 mb c n) := HM5.out.keep hk6 HmF.out
   have hncl : newC D ps <= ff := by rw [<- HLn.out]; exact List.length_filter_le _ _
   clear hk6
   rcases hw6 with ⟨hf6, rfl, hp6⟩ | ⟨hf6, rfl, hp6⟩
   ·exfalso
    have h1 := HK.out
    have h2 := HZ.out
    have h3 := HFF.out
    omega
   ·have HP6 := hid hp6
    clear hp6 hf6
    go_wp2
    go_returns
    refine ⟨HK6.out, .inr ⟨n, rfl, HMay.out, .inr ⟨?_, mb, HSm.out, HmF.out, HM6.out, rfl, ?_⟩⟩⟩
    ·rw [<- HK.out, <- HZ.out, <- HF.out]; omega
    ·have h1 := HP6.out
     rw [putP_keys, putD_keys, HKe.out, HF.out] at h1
     exact h1
 ·rw [decide_eq_false hmay] at HMb
  have HMay := hid hmay
  clear hmay
  go_enter Tryz.func24, Tryz.ntmps24
  go_wp2_with fail
  refine HL1.out.mono ?_
  clear HL1
  rintro e w1 ⟨rfl, h1⟩
  obtain rfl := h1.symm
  clear h1
  go_wp2_with fail
  refine HL2.out.mono ?_
  clear HL2
  rintro e w1 ⟨rfl, hb1⟩
  have HB1 := hid hb1
  clear hb1
  go_wp2_with fail
  refine (HMb.out w1).mono ?_
  clear HMb
  rintro e w2 ⟨rfl, h2⟩
  obtain rfl := h2.symm
  clear h2
  go_wp2
  go_returns
  exact ⟨Keeps.of_below HB1.out, .inl ⟨HMay.out, rfl, HP.out.below HB1.out⟩⟩
end
end
section
open Go.RowKit
end
section
set_option maxRecDepth 100000
set_option maxHeartbeats 4000000
open Go.RowKit Go.Shelf
attribute [local go_sem] Oper.semAt_some
def isFree (L : List UInt8) (a z n : Nat) : Bool := decide (a <= n /\ n < z) && !bitL L n
def freeTo (L : List UInt8) (a z k : Nat) : List Nat := (List.range k).filter (isFree L a z)
theorem freeTo_yes {L : List UInt8} {a z k : Nat} (h : isFree L a z k = true) : freeTo L a z (k + 1) = freeTo L a z k ++ [k] := by
 unfold freeTo; rw [List.range_succ, List.filter_append]; simp [h]
theorem freeTo_no {L : List UInt8} {a z k : Nat} (h : isFree L a z k = false) : freeTo L a z (k + 1) = freeTo L a z k := by
 unfold freeTo; rw [List.range_succ, List.filter_append]; simp [h]
theorem freeTo_len (L : List UInt8) (a z k : Nat) : (freeTo L a z k).length <= k := by
 unfold freeTo; exact Nat.le_trans (List.length_filter_le _ _) (by simp)
theorem freeTo_end {L : List UInt8} {a z k : Nat} (h : z <= k) : ∀ d, freeTo L a z (k + d) = freeTo L a z k
 | 0 => rfl
 | d + 1 => by
  rw [show k + (d + 1) = (k + d) + 1 by omega, freeTo_no, freeTo_end h d]
  unfold isFree
  rw [decide_eq_false (fun hh => by omega)]; rfl
theorem noGoto_normal {Q : Exit -> Act -> World -> Prop} {a : Act} {w : World} (h : Q .normal a w) : Exit.noGoto Q .normal a w := h
theorem afree1_in (n : Nat) (hn : 2 <= n) (l bb kb g cap a z : Nat) (G : Nat -> Prop) (L : List UInt8) (hL : L.length = 512) (hz : z <= 4096) (hbn : ¬ G bb) (hkn : ¬ G kb) (hgn : ¬ G g) (J Jx : List Nat -> World -> Prop)
  (hY : ∀ pre (x : Nat) W, x < 4096 -> J pre W -> pre.length < z -> YieldAt Fence.wide (n - 1) Tryz.prog l #[.int .i64 (x : Int)] W fun e W' =>
   (e = .returned (.bool true) /\ J (pre ++ [x]) W' /\ Keeps G W W') \/ (e = .returned (.bool false) /\ Jx (pre ++ [x]) W'))
  (W : World) (hbb : W.cell? ⟨bb, 0, none⟩ = some (.slice (some ⟨g, 0, none⟩) 512 cap)) (hk1 : W.cell? ⟨kb, 1, none⟩ = some (.int .i64 a)) (hk2 : W.cell? ⟨kb, 2, none⟩ = some (.int .i64 z)) (hby : bytesAt W ⟨g, 0, none⟩ L) (h0 : J [] W) :
  CallsIn Fence.wide n Tryz.prog 159 #[.func (.yield l) #[] #[], .pointer (some ⟨bb, 0, none⟩), .pointer (some ⟨kb, 0, none⟩)] W fun e W' => (∃ v, e = .returned v) /\
   ((∃ ys, ys = freeTo L a z 4096 /\ J ys W') \/ (∃ pre, (∃ q, isFree L a z q = true /\ q < 4096 /\ pre = freeTo L a z q ++ [q]) /\ Jx pre W')) := by
 have HY := hid hY
 have HC : Hid (∀ wr, Keeps G W wr -> wr.cell? ⟨bb, 0, none⟩ = some (.slice (some ⟨g, 0, none⟩) 512 cap) /\ wr.cell? ⟨kb, 1, none⟩ = some (.int .i64 a) /\ wr.cell? ⟨kb, 2, none⟩ = some (.int .i64 z)) := fun wr hb => ⟨hb.cell hbb hbn, hb.cell hk1 hkn, hb.cell hk2 hkn⟩
 have HS : Hid (∀ wr q, Keeps G W wr -> q < 4096 -> CallsIn (Fence.wide) (n - 1) Tryz.prog 160 #[.slice (some ⟨g, 0, none⟩) 512 cap, .int .i64 (q : Nat)] wr fun e w' => e = .returned (.bool (bitL L q)) /\ w' = wr) := fun wr q hb hq =>
  callsIn_wide.2 (isSet_any g q cap L wr (fun j hj => hb.cell (hby j hj) (by rw [add_block]; exact hgn)) hL hq)
 have HJ0 := hid h0
 clear hY hk1 hk2 hby h0
 have hf9 : Fence.wide.fn 160 := trivial
 have h1n : 1 <= n := by omega
 refine callsIn_of_wp Tryz.func159 rfl trivial ?_ rfl
 simp only [Tryz.ntmps159, List.size_toArray, List.length_cons, List.length_nil, Nat.reduceAdd, Nat.reduceSub, Array.replicate_succ, Array.replicate_zero, List.push_toArray, List.append_toArray, List.nil_append, List.cons_append]
 refine wpIn_wide.2 (wp_scope_straight ((wpIn_wide (n := n)).1 ?_))
 gi_wp2
 refine wpIn_label ?_
 gi_wp2
 clear hbb
 gi_loopw [8] (fun i wr => ∃ k : Nat, k <= 512 /\ i = .int .i64 k /\ Hid (J (freeTo L a z (8 * k)) wr) /\ Hid (Keeps G W wr)) (fun i _ => 512 - (intOf i).toNat)
 case atStart => exact ⟨0, by omega, rfl, HJ0, Keeps.refl _ _⟩
 case round =>
  obtain ⟨k, hk, rfl, HJ, HB⟩ := hrel
  clear HJ0
  by_cases hlt : k < 512
  ·have hlt' : (k : Int) < 512 := by omega
   have hk0 : (0 : Int) <= (k : Int) := by omega
   gi_wp2
   gi_loopw [5] (fun i wi => ∃ q : Nat, 8 * k <= q /\ q <= 8 * k + 8 /\ i = .int .i64 q /\ Hid (J (freeTo L a z q) wi) /\ Hid (Keeps G W wi)) (fun i _ => 8 * k + 8 - (intOf i).toNat)
   case atStart => exact ⟨8 * k, by omega, by omega, by go_num, HJ, HB⟩
   case round =>
    obtain ⟨q, hq1, hq2, rfl, HJq, HBq⟩ := hrel
    clear HJ HB
    obtain ⟨cb, ck1, ck2⟩ := HC.out wr HBq.out
    by_cases hqe : q < 8 * k + 8
    ·have hqe' : (q : Int) < 8 * (k : Int) + 8 := by omega
     by_cases hzq : z <= q
     ·have hzq' : (z : Int) <= (q : Int) := by omega
      have he : freeTo L a z 4096 = freeTo L a z q := by
       have := freeTo_end (L := L) (a := a) hzq (4096 - q)
       rwa [show q + (4096 - q) = 4096 by omega] at this
      have HE : Hid (J (freeTo L a z 4096) wr) := by rw [he]; exact HJq
      clear he
      gi_wp2
      refine noGoto_normal ?_
      go_end0
      exact ⟨⟨_, rfl⟩, .inl ⟨_, rfl, HE.out⟩⟩
     ·have hzq' : ¬ ((z : Int) <= (q : Int)) := by omega
      by_cases haq : a <= q
      ·have haq' : (a : Int) <= (q : Int) := by omega
       have hSq := HS.out wr q HBq.out (by omega)
       cases hbit : bitL L q with
       | true =>
        rw [hbit] at hSq
        have HSq := hid hSq
        have hno : isFree L a z q = false := by unfold isFree; rw [hbit]; simp
        have HJ2 : Hid (J (freeTo L a z (q + 1)) wr) := by rw [freeTo_no hno]; exact HJq
        clear hSq hno
        gi_wp2_with (gi_at_call 160; refine HSq.out.mono ?_; rintro e w9 ⟨rfl, h9⟩; obtain rfl := h9.symm; clear h9)
        refine ⟨fun _ h => (by cases h), ?_⟩
        gi_wp2
        go_roundw
        case rel => exact ⟨q + 1, by omega, by omega, by go_num, HJ2, HBq⟩
        case measure => simp [intOf]; omega
       | false =>
        rw [hbit] at hSq
        have HSq := hid hSq
        have hyes : isFree L a z q = true := by unfold isFree; rw [hbit, decide_eq_true ⟨haq, by omega⟩]; rfl
        have HYes := hid hyes
        obtain ⟨fn, tmps, assign, body, hy, hR⟩ := HY.out _ q wr (by omega) HJq.out (Nat.lt_of_le_of_lt (freeTo_len _ _ _ _) (by omega))
        have HR := hid hR
        clear hSq hyes hR
        gi_wp2_with (gi_at_call 160; refine HSq.out.mono ?_; rintro e w9 ⟨rfl, h9⟩; obtain rfl := h9.symm; clear h9)
        refine HR.out.mono ?_
        rintro e W3 (⟨rfl, hJ3, hk3⟩ | ⟨rfl, hJx3⟩)
        ·have HJ3 : Hid (J (freeTo L a z (q + 1)) W3) := by rw [freeTo_yes HYes.out]; exact hJ3
         have HB3 := hid (HBq.out.trans hk3 (fun i e => .inl e))
         clear hJ3 hk3
         gi_wp2
         go_roundw
         case rel => exact ⟨q + 1, by omega, by omega, by go_num, HJ3, HB3⟩
         case measure => simp [intOf]; omega
        ·have HX := hid hJx3
         clear hJx3
         gi_wp2
         refine noGoto_normal ?_
         go_end0
         exact ⟨⟨_, rfl⟩, .inr ⟨_, ⟨q, HYes.out, by omega, rfl⟩, HX.out⟩⟩
      ·have haq' : ¬ ((a : Int) <= (q : Int)) := by omega
       have hno : isFree L a z q = false := by unfold isFree; rw [decide_eq_false (fun h => haq h.1)]; rfl
       have HJ2 : Hid (J (freeTo L a z (q + 1)) wr) := by rw [freeTo_no hno]; exact HJq
       clear hno
       gi_wp2
       refine ⟨fun _ h => (by cases h), ?_⟩
       gi_wp2
       go_roundw
       case rel => exact ⟨q + 1, by omega, by omega, by go_num, HJ2, HBq⟩
       case measure => simp [intOf]; omega
    ·obtain rfl : q = 8 * k + 8 := by omega
     have hqe' : ¬ (((8 * k + 8 : Nat) : Int) < 8 * (k : Int) + 8) := by omega
     gi_wp2
     go_roundw
     case rel => exact ⟨k + 1, by omega, by go_num, HJq, HBq⟩
     case measure => simp [intOf]; omega
  ·obtain rfl : k = 512 := by omega
   gi_wp2
   refine noGoto_normal ?_
   go_end0
   exact ⟨⟨_, rfl⟩, .inl ⟨_, rfl, HJ.out⟩⟩
theorem keepsK_t {G : Nat -> Prop} {A B C : World} (h : Keeps G A B) (k : Keeps G B C) : Keeps G A C := h.trans k (fun _ e => .inl e)
theorem keepsK_b {G : Nat -> Prop} {w : World} (hG : ∀ i, w.heap.size <= i -> G i) (W : World) (l : Nat) (o o' : Obj) (hl : w.heap.size <= l) (_ : W.heap[l]? = some o) (_ : o.isCells = false) (_ : o.isWalk = false) : Keeps G W (W.putObj l o') :=
 Keeps.of_grown (grownBy_putObj' W l o') (fun i e => by cases e; exact hG _ hl)
end
section
set_option maxRecDepth 100000
set_option maxHeartbeats 4000000
open Go.RowKit Go.Shelf
attribute [local go_sem] Oper.semAt_some
theorem freeTo_pre (L : List UInt8) (a z k : Nat) : ∀ d, ∃ t, freeTo L a z (k + d) = freeTo L a z k ++ t
 | 0 => ⟨[], by simp⟩
 | d + 1 => by
  obtain ⟨t, ht⟩ := freeTo_pre L a z k d
  rw [show k + (d + 1) = (k + d) + 1 by omega]
  cases h : isFree L a z (k + d) with
  | true => exact ⟨t ++ [k + d], by rw [freeTo_yes h, ht, List.append_assoc]⟩
  | false => exact ⟨t, by rw [freeTo_no h, ht]⟩
theorem freeTo_head {L : List UInt8} {a z q : Nat} (h1 : freeTo L a z q = []) (h2 : isFree L a z q = true) (hq : q < 4096) : ∃ rest, freeTo L a z 4096 = q :: rest := by
 obtain ⟨t, ht⟩ := freeTo_pre L a z (q + 1) (4096 - (q + 1))
 rw [show q + 1 + (4096 - (q + 1)) = 4096 by omega, freeTo_yes h2, h1] at ht
 exact ⟨t, ht⟩
theorem afree_any (b a z x y g cap : Nat) (w : World) : Calls Tryz.prog 91 #[numV b a z x y, .slice (some ⟨g, 0, none⟩) 512 cap] w fun e w' => e = .returned (.func (.func 159) #[] #[.pointer (some ⟨w.heap.size + 1, 0, none⟩), .pointer (some ⟨w.heap.size, 0, none⟩)]) /\ w' = (w.alloc (.cells #[.int .i64 b, .int .i64 a, .int .i64 z, .complex .f64 x y] 93)).alloc (.cells #[.slice (some ⟨g, 0, none⟩) 512 cap] 81) := by
 unfold numV
 go_enter Tryz.func91, Tryz.ntmps91
 go_wp2
 go_ret
 exact ⟨by simp, rfl⟩
theorem afree_stops (n : Nat) (hn : 2 <= n) (bb kb g cap a z : Nat) (G : Nat -> Prop) (L : List UInt8) (hL : L.length = 512) (hz : z <= 4096) (w : World) (hbn : ¬ G bb) (hkn : ¬ G kb) (hgn : ¬ G g)
  (hbb : w.cell? ⟨bb, 0, none⟩ = some (.slice (some ⟨g, 0, none⟩) 512 cap)) (hk1 : w.cell? ⟨kb, 1, none⟩ = some (.int .i64 a)) (hk2 : w.cell? ⟨kb, 2, none⟩ = some (.int .i64 z)) (hby : bytesAt w ⟨g, 0, none⟩ L) :
  SeqStopsK Fence.wide n Tryz.prog 159 #[.pointer (some ⟨bb, 0, none⟩), .pointer (some ⟨kb, 0, none⟩)] (fun x : Fin 4096 => #[Value.int .i64 ((x.val : Nat) : Int)]) (Keeps G) (fun ys => ys.map Fin.val = freeTo L a z 4096) (fun pre => ∃ q, isFree L a z q = true /\ q < 4096 /\ pre.map Fin.val = freeTo L a z q ++ [q]) z w := fun l J Jx W hW _ _ hY h0 => by
 have hb : Keeps (fun _ => False) w W := Keeps.of_below hW
 refine (afree1_in n hn l bb kb g cap a z G L hL hz hbn hkn hgn (fun pre W => ∃ p, p.map Fin.val = pre /\ J p W) (fun pre W => ∃ p, p.map Fin.val = pre /\ Jx p W) (fun pre x W1 hx hJ hl => ?_) W (hb.cell hbb (fun h => h)) (hb.cell hk1 (fun h => h)) (hb.cell hk2 (fun h => h)) (fun j hj => hb.cell (hby j hj) (fun h => h)) ⟨[], rfl, h0⟩).mono ?_
 ·obtain ⟨p, rfl, hJ⟩ := hJ
  obtain ⟨fn, tmps, assign, body, hy, hR⟩ := hY p ⟨x, hx⟩ W1 hJ (by rwa [List.length_map] at hl)
  refine ⟨fn, tmps, assign, body, hy, hR.mono ?_⟩
  rintro e W' (⟨rfl, h1, h2⟩ | ⟨rfl, h1⟩)
  ·exact .inl ⟨rfl, ⟨_, by rw [List.map_append]; rfl, h1⟩, h2⟩
  ·exact .inr ⟨rfl, ⟨_, by rw [List.map_append]; rfl, h1⟩⟩
 ·rintro e W' ⟨he, ⟨ys, rfl, p, hp, hj⟩ | ⟨pre, ⟨q, hq1, hq2, rfl⟩, p, hp, hj⟩⟩
  ·exact ⟨he, .inl ⟨p, hp, hj⟩⟩
  ·exact ⟨he, .inr ⟨p, ⟨q, hq1, hq2, hp⟩, hj⟩⟩
theorem results_next {w : World} {tmps : Array Value} {b1 b2 b3 : Nat} {x y z t : Value} (h1 : tmps.getD 4 undef = .pointer (some ⟨b1, 0, none⟩)) (h2 : tmps.getD 5 undef = .pointer (some ⟨b2, 0, none⟩)) (h3 : tmps.getD 6 undef = .pointer (some ⟨b3, 0, none⟩))
  (r1 : w.heap[b1]? = some (.cells #[x] 3 (0, 0))) (r2 : w.heap[b2]? = some (.cells #[y, z] 122 (0, 0))) (r3 : w.heap[b3]? = some (.cells #[t] 31 (0, 0))) :
  (results Tryz.f134 tmps).run Tryz.prog w = .ok (.tuple #[x, .agg #[y, z], t]) w := by
 have c1 : w.cell? ⟨b1, 0, none⟩ = some x := cell_of_block r1 0
 have c3 : w.cell? ⟨b3, 0, none⟩ = some t := cell_of_block r3 0
 have c2 : w.cell? ⟨b2, 0, none⟩ = some y := cell_of_block r2 0
 have c4 : w.cell? ⟨b2, 1, none⟩ = some z := cell_of_block r2 1
 have h1' : tmps[4]?.getD undef = .pointer (some ⟨b1, 0, none⟩) := by simpa using h1
 have h2' : tmps[5]?.getD undef = .pointer (some ⟨b2, 0, none⟩) := by simpa using h2
 have h3' : tmps[6]?.getD undef = .pointer (some ⟨b3, 0, none⟩) := by simpa using h3
 simp only [results, Tryz.results134]
 simp [go_sem, h1', h2', h3', asAddr, c1, c2, c3, c4]
structure NextX (w w1 wD : World) (g cap b q : Nat) (L : List UInt8) (W : World) : Prop where
 row : rowU W g (flipL L q)
 r1 : W.heap[w.heap.size + 1]? = some (.cells #[.int .i64 q] 3 (0, 0))
 r2 : W.heap[w.heap.size + 1 + 1]? = some (.cells #[.int .i64 b, .slice (some ⟨g, 0, none⟩) 512 cap] 122 (0, 0))
 r3 : W.heap[w.heap.size + 1 + 1 + 1]? = some (.cells #[.int .i64 0] 31 (0, 0))
 keep : Keeps (fun i => i = g \/ i = w.heap.size + 1 \/ i = w.heap.size + 1 + 1 \/ i = w.heap.size + 1 + 1 + 1) wD W
theorem NextX.own {w w1 wD A B : World} {g cap b q : Nat} {L : List UInt8} {row : Option Nat} (h : NextX w w1 wD g cap b q L A) (hw : w.heap.size + 1 + 1 + 1 < wD.heap.size) (hg : g < wD.heap.size) (hgr : A.grownBy B row) (hr : ∀ r, row = some r -> wD.heap.size <= r) : NextX w w1 wD g cap b q L B := by
 have hne : ∀ i, i < wD.heap.size -> row ≠ some i := fun i hi e => by have := hr i e; omega
 exact ⟨h.row.keep (Keeps.of_grown hgr (F := fun i => row = some i) (fun i e => e)) (hne g hg), grown_block hgr h.r1 (hne _ (by omega)), grown_block hgr h.r2 (hne _ (by omega)), grown_block hgr h.r3 (hne _ (by omega)), h.keep.grown hgr (fun i e => .inr (hr i e))⟩
theorem next_end {w w1 wD W W2 : World} {g cap b q : Nat} {L : List UInt8} (hw : w.heap.size + 1 + 1 + 1 < wD.heap.size) (hgw : w.heap.size + 1 + 1 + 1 < g) (hg : g < wD.heap.size) (hk : Keeps (fun i => i = g) W W2) (hkD : Keeps (fun i => i = g) wD W2) (hr : rowU W2 g (flipL L q))
  (v1 : W2.heap[w.heap.size + 1]? = some (.cells #[.int .i64 0] 3 (0, 0))) (v2 : W2.heap[w.heap.size + 1 + 1]? = some (.cells #[.int .i64 0, .slice none 0 0] 122 (0, 0))) (v3 : W2.heap[w.heap.size + 1 + 1 + 1]? = some (.cells #[.int .i64 0] 31 (0, 0))) :
  KeepsFrom wD.heap.size W ((((W2.setCell ⟨w.heap.size + 1, 0, none⟩ (.int .i64 (q : Int))).setCell ⟨w.heap.size + 1 + 1, 0, none⟩ (.int .i64 b)).setCell ⟨w.heap.size + 1 + 1, 1, none⟩ (.slice (some ⟨g, 0, none⟩) 512 cap)).setCell ⟨w.heap.size + 1 + 1 + 1, 0, none⟩ (.int .i64 0)).drew /\
  NextX w w1 wD g cap b q L ((((W2.setCell ⟨w.heap.size + 1, 0, none⟩ (.int .i64 (q : Int))).setCell ⟨w.heap.size + 1 + 1, 0, none⟩ (.int .i64 b)).setCell ⟨w.heap.size + 1 + 1, 1, none⟩ (.slice (some ⟨g, 0, none⟩) 512 cap)).setCell ⟨w.heap.size + 1 + 1 + 1, 0, none⟩ (.int .i64 0)).drew := by
 have k4 : Keeps (fun i => i = w.heap.size + 1 \/ i = w.heap.size + 1 + 1 \/ i = w.heap.size + 1 + 1 + 1) W2 ((((W2.setCell ⟨w.heap.size + 1, 0, none⟩ (.int .i64 (q : Int))).setCell ⟨w.heap.size + 1 + 1, 0, none⟩ (.int .i64 b)).setCell ⟨w.heap.size + 1 + 1, 1, none⟩ (.slice (some ⟨g, 0, none⟩) 512 cap)).setCell ⟨w.heap.size + 1 + 1 + 1, 0, none⟩ (.int .i64 0)).drew :=
  (((((Keeps.refl _ W2).grown (grown_setCell (grown_refl _ _) _ _) (fun i e => .inl (.inl (Option.some.inj e).symm))).grown (grown_setCell (grown_refl _ _) _ _) (fun i e => .inl (.inr (.inl (Option.some.inj e).symm)))).grown (grown_setCell (grown_refl _ _) _ _) (fun i e => .inl (.inr (.inl (Option.some.inj e).symm)))).grown (grown_setCell (grown_refl _ _) _ _) (fun i e => .inl (.inr (.inr (Option.some.inj e).symm)))).drew
 have hr4 := hr.keep k4 (by omega)
 refine ⟨⟨Nat.le_trans hk.size k4.size, fun i ob hi ho _ => k4.heap (hk.heap ho (by omega)) (by omega)⟩, hr4, ?_, ?_, ?_, ?_⟩
 ·refine (block_setCell_other _ _ (by omega)).trans ((block_setCell_other _ _ (by omega)).trans ((block_setCell_other _ _ (by omega)).trans (block_setCell v1 0 _)))
 ·refine (block_setCell_other _ _ (by omega)).trans ?_
  have h1 := (block_setCell_other (w := W2) (b := w.heap.size + 1) (k := w.heap.size + 1 + 1) 0 (.int .i64 (q : Int)) (by omega)).trans v2
  exact block_setCell (block_setCell h1 0 (.int .i64 b)) 1 _
 ·have h1 := (block_setCell_other (w := W2) (b := w.heap.size + 1) (k := w.heap.size + 1 + 1 + 1) 0 (.int .i64 (q : Int)) (by omega)).trans v3
  have h2 := (block_setCell_other (w := W2.setCell ⟨w.heap.size + 1, 0, none⟩ (.int .i64 (q : Int))) (b := w.heap.size + 1 + 1) (k := w.heap.size + 1 + 1 + 1) 0 (.int .i64 b) (by omega)).trans h1
  have h3 := (block_setCell_other (w := (W2.setCell ⟨w.heap.size + 1, 0, none⟩ (.int .i64 (q : Int))).setCell ⟨w.heap.size + 1 + 1, 0, none⟩ (.int .i64 b)) (b := w.heap.size + 1 + 1) (k := w.heap.size + 1 + 1 + 1) 1 (.slice (some ⟨g, 0, none⟩) 512 cap) (by omega)).trans h2
  exact block_setCell h3 0 _
 ·exact (hkD.mono (G := fun i => i = g \/ i = w.heap.size + 1 \/ i = w.heap.size + 1 + 1 \/ i = w.heap.size + 1 + 1 + 1) (fun i e => .inl e)).trans k4 (fun i e => .inl (.inr e))
section
variable {w : World} {m c ino : Nat} {F : Nat -> Prop} {size N : Nat} {Pg Cm : Nat -> List UInt8} {D : Int -> Bool} {o u : Nat}
def NextTo (w : World) (c : Nat) (F : Nat -> Prop) (size N : Nat) (Pg Cm : Nat -> List UInt8) (D : Int -> Bool) (o u b a z : Nat) (e : Ending) (w' : World) : Prop :=
 Keeps F w w' /\ Pc w' c F size N Pg Cm D o (u + 1) /\ ((freeTo (Pg b) a z 4096 = [] /\ e = .returned (.tuple #[.int .i64 0, .agg #[.int .i64 0, .slice none 0 0], .int .i64 7])) \/
  ∃ q rest g cap, freeTo (Pg b) a z 4096 = q :: rest /\ q < 4096 /\ e = .returned (.tuple #[.int .i64 (q : Nat), .agg #[.int .i64 b, .slice (some ⟨g, 0, none⟩) 512 cap], .int .i64 0]) /\ w.heap.size <= g /\ bytesAt w' ⟨g, 0, none⟩ (flipL (Pg b) q))
theorem anext_any (h : mapB w m c ino) (hmF : ¬ F m) (b a z x y : Nat) (hb : b < N) (hz : z <= 4096) (hu : u < 1000000) (hp : Pc w c F size N Pg Cm D o u) :
  Calls Tryz.prog 134 #[.pointer (some ⟨m, 0, none⟩), numV b a z x y] w (NextTo w c F size N Pg Cm D o u b a z) := by
 refine (callsIn_wide (n := 8)).1 ?_
 obtain ⟨wA, hA⟩ : ∃ wA, wA = (((w.alloc (.cells #[.int .i64 b, .int .i64 a, .int .i64 z, .complex .f64 x y] 93)).alloc (.cells #[.int .i64 0] 3)).alloc (.cells #[.int .i64 0, .slice none 0 0] 122)).alloc (.cells #[.int .i64 0] 31) := ⟨_, rfl⟩
 have hA0 : wA.heap[w.heap.size]? = some (.cells #[.int .i64 b, .int .i64 a, .int .i64 z, .complex .f64 x y] 93 (0, 0)) := by rw [hA]; exact block_alloc (block_alloc (block_alloc (block_new w _) _) _) _
 have hA1 : wA.heap[w.heap.size + 1]? = some (.cells #[.int .i64 0] 3 (0, 0)) := by
  have h1 := block_new (w.alloc (.cells #[.int .i64 b, .int .i64 a, .int .i64 z, .complex .f64 x y] 93)) (.cells #[.int .i64 0] 3)
  rw [World.size_alloc] at h1
  rw [hA]; exact block_alloc (block_alloc h1 _) _
 have hA2 : wA.heap[w.heap.size + 1 + 1]? = some (.cells #[.int .i64 0, .slice none 0 0] 122 (0, 0)) := by
  have h1 := block_new ((w.alloc (.cells #[.int .i64 b, .int .i64 a, .int .i64 z, .complex .f64 x y] 93)).alloc (.cells #[.int .i64 0] 3)) (.cells #[.int .i64 0, .slice none 0 0] 122)
  rw [World.size_alloc, World.size_alloc] at h1
  rw [hA]; exact block_alloc h1 _
 have hA3 : wA.heap[w.heap.size + 1 + 1 + 1]? = some (.cells #[.int .i64 0] 31 (0, 0)) := by
  have h1 := block_new (((w.alloc (.cells #[.int .i64 b, .int .i64 a, .int .i64 z, .complex .f64 x y] 93)).alloc (.cells #[.int .i64 0] 3)).alloc (.cells #[.int .i64 0, .slice none 0 0] 122)) (.cells #[.int .i64 0] 31)
  rw [World.size_alloc, World.size_alloc, World.size_alloc] at h1
  rw [hA]; exact h1
 have hAs : wA.heap.size = w.heap.size + 4 := by rw [hA]; simp
 have hAB : Below w.heap.size w wA := by rw [hA]; exact ((((Below.refl _ w).alloc (Nat.le_refl _) _).alloc (by simp) _).alloc (by simp; omega) _).alloc (by simp; omega) _
 have HBi := hid (abits_any (h.below hAB) hmF b a z x y hb hu hp hAB)
 have hlen := hp.len b hb
 have HFl := hid hp.lt
 have HA0 := hid hA0
 have HA1 := hid hA1
 have HA2 := hid hA2
 have HA3 := hid hA3
 have HAs := hid hAs
 have HAB := hid hAB
 have HLen := hid hlen
 clear hA0 hA1 hA2 hA3 hAs hAB h hp hlen
 refine callsIn_of_wp_marks Tryz.func134 rfl trivial ?_ rfl
 simp only [Tryz.ntmps134, List.size_toArray, List.length_cons, List.length_nil, Nat.reduceAdd, Nat.reduceSub, Array.replicate_succ, Array.replicate_zero, List.push_toArray, List.append_toArray, List.nil_append, List.cons_append]
 have hf1 : Fence.wide.fn 92 := trivial
 have hf2 : Fence.wide.fn 91 := trivial
 have hf3 : Fence.wide.fn 194 := trivial
 unfold numV
 gi_wp2
 rw [<- hA]
 clear hA
 refine (callsIn_wide.2 HBi.out).mono ?_
 clear HBi
 rintro e w1 ⟨g, cap, rfl, hcap, hg, hrow, hK1, hW1⟩
 have HRow := hid hrow
 have HK1 := hid hK1
 have HW1 := hid hW1
 have hs1 := hK1.size
 have HB0 : Hid (w1.heap[w.heap.size]? = some (.cells #[.int .i64 b, .int .i64 a, .int .i64 z, .complex .f64 x y] 93 (0, 0))) := hK1.heap HA0.out (fun hf => Nat.lt_irrefl _ (HFl.out _ hf))
 have HB1 : Hid (w1.heap[w.heap.size + 1]? = some (.cells #[.int .i64 0] 3 (0, 0))) := hK1.heap HA1.out (fun hf => by have := HFl.out _ hf; omega)
 have HB2 : Hid (w1.heap[w.heap.size + 1 + 1]? = some (.cells #[.int .i64 0, .slice none 0 0] 122 (0, 0))) := hK1.heap HA2.out (fun hf => by have := HFl.out _ hf; omega)
 have HB3 : Hid (w1.heap[w.heap.size + 1 + 1 + 1]? = some (.cells #[.int .i64 0] 31 (0, 0))) := hK1.heap HA3.out (fun hf => by have := HFl.out _ hf; omega)
 have HSz : Hid (wA.heap.size <= w1.heap.size /\ wA.heap.size <= g /\ g < w1.heap.size) := ⟨hs1, hg, hrow.lt⟩
 obtain ⟨wB, hB⟩ : ∃ wB, wB = w1.alloc (.cells #[.slice (some ⟨g, 0, none⟩) 512 cap] 81) := ⟨_, rfl⟩
 have hbB := (Below.refl w1.heap.size w1).alloc (Nat.le_refl _) (.cells #[.slice (some ⟨g, 0, none⟩) 512 cap] 81)
 have hB0 := below_block hbB HB0.out (lt_of_heap HB0.out)
 have d0 := cell_of_block hB0 0
 have d1 := cell_of_block hB0 1
 have d2 := cell_of_block hB0 2
 have d3 := cell_of_block hB0 3
 have d4 : (w1.alloc (.cells #[.slice (some ⟨g, 0, none⟩) 512 cap] 81)).cell? ⟨w1.heap.size, 0, none⟩ = some (.slice (some ⟨g, 0, none⟩) 512 cap) := cell_of_block (block_new w1 _) 0
 simp only [List.getElem?_toArray, List.getElem?_cons_zero, List.getElem?_cons_succ] at d0 d1 d2 d3
 clear hrow hK1 hW1 hs1 hg HA0 HA1 HA2 HA3 hB0 hbB
 gi_wp2
 refine (callsIn_wide.2 (afree_any b a z x y g cap _)).mono ?_
 rintro e wD ⟨rfl, hD⟩
 rw [<- hB] at hD
 have hsB : wB.heap.size = w1.heap.size + 1 := by rw [hB]; simp
 have hBB : Below w1.heap.size w1 wB := by rw [hB]; exact (Below.refl _ w1).alloc (Nat.le_refl _) _
 have hDB : Below wB.heap.size wB wD := by rw [hD]; exact ((Below.refl _ wB).alloc (Nat.le_refl _) _).alloc (by simp) _
 have hsD : wD.heap.size = w1.heap.size + 3 := by rw [hD]; simp [hsB]
 have h1D := hBB.trans (hDB.mono hBB.size)
 have x0 : wD.heap[w1.heap.size]? = some (.cells #[.slice (some ⟨g, 0, none⟩) 512 cap] 81 (0, 0)) := by
  have := block_new w1 (.cells #[.slice (some ⟨g, 0, none⟩) 512 cap] 81)
  rw [<- hB] at this
  exact below_block hDB this (by omega)
 have x1 : wD.heap[w1.heap.size + 1]? = some (.cells #[.int .i64 b, .int .i64 a, .int .i64 z, .complex .f64 x y] 93 (0, 0)) := by
  have := block_new wB (.cells #[.int .i64 b, .int .i64 a, .int .i64 z, .complex .f64 x y] 93)
  rw [hsB] at this
  rw [hD]; exact block_alloc this _
 have x2 : wD.heap[w1.heap.size + 1 + 1]? = some (.cells #[.slice (some ⟨g, 0, none⟩) 512 cap] 81 (0, 0)) := by
  have := block_new (wB.alloc (.cells #[.int .i64 b, .int .i64 a, .int .i64 z, .complex .f64 x y] 93)) (.cells #[.slice (some ⟨g, 0, none⟩) 512 cap] 81)
  rw [World.size_alloc, hsB] at this
  rw [hD]; exact this
 have y0 := below_block h1D HB0.out (lt_of_heap HB0.out)
 have y1 := below_block h1D HB1.out (lt_of_heap HB1.out)
 have y2 := below_block h1D HB2.out (lt_of_heap HB2.out)
 have y3 := below_block h1D HB3.out (lt_of_heap HB3.out)
 have HX0 := hid x0
 have HX1 := hid x1
 have HX2 := hid x2
 have HY0 := hid y0
 have HY1 := hid y1
 have HY2 := hid y2
 have HY3 := hid y3
 have HsD := hid hsD
 have HD1 := hid h1D
 have HRD := hid (HRow.out.below h1D)
 rw [<- hB, hsB]
 clear d0 d1 d2 d3 d4 hD hsB hBB hDB hsD h1D x0 x1 x2 y0 y1 y2 y3 HB0 HB1 HB2 HB3 hB wB
 gi_wp2
 have HFin : Hid (∀ V, Keeps (fun i => i = g \/ i = w.heap.size + 1 \/ i = w.heap.size + 1 + 1 \/ i = w.heap.size + 1 + 1 + 1) wD V -> Keeps F w V /\ Pc V c F size N Pg Cm D o (u + 1)) := fun V hV => by
  have hge : ∀ i, (i = g \/ i = w.heap.size + 1 \/ i = w.heap.size + 1 + 1 \/ i = w.heap.size + 1 + 1 + 1) -> w.heap.size <= i := fun i hi => by have := HSz.out; have := HAs.out; omega
  have k1 : Keeps F w wD := (((Keeps.of_below HAB.out : Keeps F w wA).trans HK1.out (fun i e => .inl e)).trans (Keeps.of_below HD1.out : Keeps (fun _ => False) w1 wD) (fun i e => e.elim))
  exact ⟨k1.trans hV (fun i e => .inr (hge i e)), HW1.out V ((Keeps.of_below HD1.out).trans hV (fun i e => .inl (hge i e)))⟩
 have HSt := hid (afree_stops 7 (by omega) (w1.heap.size + 1 + 1) (w1.heap.size + 1) g cap a z (fun i => wD.heap.size <= i) (Pg b) HLen.out hz wD (by have := HsD.out; omega) (by have := HsD.out; omega) (by have := HsD.out; have := HSz.out; omega) (cell_of_block HX2.out 0) (cell_of_block HX1.out 1) (cell_of_block HX1.out 2) HRD.out.1)
 refine wpIn_rangeFunc_ownG rfl (by omega) (gf := 159) (lb := #[.pointer (some ⟨w1.heap.size + 1 + 1, 0, none⟩), .pointer (some ⟨w1.heap.size + 1, 0, none⟩)]) rfl trivial (enters_of Tryz.func159 (by kernel_rfl) rfl)
  HSt.out keepsK_t (keepsK_b (fun i h => h)) (Below.refl _ _) (fun _ => rfl)
  (fun pre W => pre = [] /\ Hid (Below wD.heap.size wD W))
  (fun cd pre W => cd = .ret /\ ∃ q : Fin 4096, pre = [q] /\ Hid (NextX w w1 wD g cap b q.val (Pg b) W))
  (fun s A B row hs hgr hr => ⟨hs.1, hs.2.out.grown hgr hs.2.out.size (fun k e => (hr k e).1)⟩)
  (fun cd s A B row hs hgr hr => by obtain ⟨h1, q, h2, h3⟩ := hs; exact ⟨h1, q, h2, h3.out.own (by have := HsD.out; have := HSz.out; have := HAs.out; omega) (by have := HsD.out; have := HSz.out; omega) hgr (fun r e => (hr r e).1)⟩)
  ⟨rfl, Below.refl _ _⟩
  (fun q : Fin 4096 => { tmps := #[.pointer (some ⟨m, 0, none⟩), .agg #[.int .i64 b, .int .i64 a, .int .i64 z, .complex .f64 x y], undef, .pointer (some ⟨w.heap.size, 0, none⟩), .pointer (some ⟨w.heap.size + 1, 0, none⟩), .pointer (some ⟨w.heap.size + 1 + 1, 0, none⟩), .pointer (some ⟨w.heap.size + 1 + 1 + 1, 0, none⟩), .pointer (some ⟨w1.heap.size, 0, none⟩), .int .i64 ((q.val : Nat) : Int), .pointer (some ⟨m, 0, none⟩), .agg #[.int .i64 b, .int .i64 a, .int .i64 z, .complex .f64 x y], .slice (some ⟨g, 0, none⟩) 512 cap, .agg #[.int .i64 b, .int .i64 a, .int .i64 z, .complex .f64 x y], .slice (some ⟨g, 0, none⟩) 512 cap, .func (.func 159) #[] #[.pointer (some ⟨w1.heap.size + 1 + 1, 0, none⟩), .pointer (some ⟨w1.heap.size + 1, 0, none⟩)], .int .i64 ((q.val : Nat) : Int), undef, undef, undef, undef, undef, undef, undef, undef, undef], defers := [] }) ?assign ?body ?done ?stop
 case assign =>
  intro l q W K hK
  gi_wp2
  exact hK
 case body =>
  rintro l pre q W ⟨rfl, hB⟩ _
  have z0 := below_block hB.out HX0.out (lt_of_heap HX0.out)
  have c7 : W.cell? ⟨w1.heap.size, 0, none⟩ = some (.slice (some ⟨g, 0, none⟩) 512 cap) := cell_of_block z0 0
  have hf := flip_any g q.val cap (Pg b) W (HRD.out.below hB.out) HLen.out q.isLt
  have HF := hid hf
  clear z0 hf
  gi_wp2
  refine (CallsIn.inRound l (callsIn_wide.2 HF.out)).mono ?_
  clear HF
  rintro e W2 ⟨rfl, hr2, hk2⟩
  have hng : ∀ i, i < w1.heap.size -> i < wA.heap.size \/ i = w1.heap.size -> i ≠ g := fun i _ hi e => by have := HSz.out; omega
  have hSz := HSz.out
  have hAs := HAs.out
  have z0 := hk2.heap (below_block hB.out HX0.out (lt_of_heap HX0.out)) (show ¬ w1.heap.size = g by omega)
  have v0 := hk2.heap (below_block hB.out HY0.out (lt_of_heap HY0.out)) (show ¬ w.heap.size = g by omega)
  have v1 := hk2.heap (below_block hB.out HY1.out (lt_of_heap HY1.out)) (show ¬ w.heap.size + 1 = g by omega)
  have v2 := hk2.heap (below_block hB.out HY2.out (lt_of_heap HY2.out)) (show ¬ w.heap.size + 1 + 1 = g by omega)
  have v3 := hk2.heap (below_block hB.out HY3.out (lt_of_heap HY3.out)) (show ¬ w.heap.size + 1 + 1 + 1 = g by omega)
  have HV1 := hid v1
  have HV2 := hid v2
  have HV3 := hid v3
  have HR2 := hid hr2
  have HKW : Hid (Keeps (fun i => i = g) wD W2) := (Keeps.of_below hB.out).trans hk2 (fun i e => .inl e)
  have HK2 := hid hk2
  have e7 : W2.cell? ⟨w1.heap.size, 0, none⟩ = some (.slice (some ⟨g, 0, none⟩) 512 cap) := cell_of_block z0 0
  have e0 : W2.cell? ⟨w.heap.size, 0, none⟩ = some (.int .i64 b) := cell_of_block v0 0
  have e1 : W2.cell? ⟨w.heap.size + 1, 0, none⟩ = some (.int .i64 0) := cell_of_block v1 0
  have e2 : W2.cell? ⟨w.heap.size + 1 + 1, 0, none⟩ = some (.int .i64 0) := cell_of_block v2 0
  have e3 : W2.cell? ⟨w.heap.size + 1 + 1, 1, none⟩ = some (.slice none 0 0) := cell_of_block v2 1
  have e4 : W2.cell? ⟨w.heap.size + 1 + 1 + 1, 0, none⟩ = some (.int .i64 0) := cell_of_block v3 0
  have f1 : W2.frozen? ⟨w.heap.size + 1, 0, none⟩ = false := frozen_of_block v1 0
  have f2 : W2.frozen? ⟨w.heap.size + 1 + 1, 0, none⟩ = false := frozen_of_block v2 0
  have f3 : W2.frozen? ⟨w.heap.size + 1 + 1, 1, none⟩ = false := frozen_of_block v2 1
  have f4 : W2.frozen? ⟨w.heap.size + 1 + 1 + 1, 0, none⟩ = false := frozen_of_block v3 0
  have n1 : ¬ w1.heap.size = w.heap.size + 1 := by omega
  have n2 : ¬ w1.heap.size = w.heap.size + 1 + 1 := by omega
  have n3 : ¬ w1.heap.size = w.heap.size + 1 + 1 + 1 := by omega
  have n1' : ¬ w.heap.size + 1 = w1.heap.size := by omega
  have n2' : ¬ w.heap.size + 1 + 1 = w1.heap.size := by omega
  have n3' : ¬ w.heap.size + 1 + 1 + 1 = w1.heap.size := by omega
  clear hng hSz hAs z0 v0 v1 v2 v3 hr2 hk2 c7
  have HE : Hid (KeepsFrom wD.heap.size W ((((W2.setCell ⟨w.heap.size + 1, 0, none⟩ (.int .i64 ((q.val : Nat) : Int))).setCell ⟨w.heap.size + 1 + 1, 0, none⟩ (.int .i64 b)).setCell ⟨w.heap.size + 1 + 1, 1, none⟩ (.slice (some ⟨g, 0, none⟩) 512 cap)).setCell ⟨w.heap.size + 1 + 1 + 1, 0, none⟩ (.int .i64 0)).drew /\ NextX w w1 wD g cap b q.val (Pg b) ((((W2.setCell ⟨w.heap.size + 1, 0, none⟩ (.int .i64 ((q.val : Nat) : Int))).setCell ⟨w.heap.size + 1 + 1, 0, none⟩ (.int .i64 b)).setCell ⟨w.heap.size + 1 + 1, 1, none⟩ (.slice (some ⟨g, 0, none⟩) 512 cap)).setCell ⟨w.heap.size + 1 + 1 + 1, 0, none⟩ (.int .i64 0)).drew) :=
   next_end (by have := HsD.out; have := HSz.out; have := HAs.out; omega) (by have := HSz.out; have := HAs.out; omega) (by have := HsD.out; have := HSz.out; omega) HK2.out HKW.out HR2.out HV1.out HV2.out HV3.out
  clear HKW HK2 HR2 HV1 HV2 HV3
  gi_wp2
  gi_region
  all_goals (gi_wp2; exact ⟨HE.out.1, rfl, q, rfl, HE.out.2⟩)
 case done =>
  rintro D ys W hD hys ⟨rfl, hB⟩ hK
  have hfr : freeTo (Pg b) a z 4096 = [] := hys.symm
  have HFr := hid hfr
  have v1 := below_block hB.out HY1.out (lt_of_heap HY1.out)
  have v2 := below_block hB.out HY2.out (lt_of_heap HY2.out)
  have v3 := below_block hB.out HY3.out (lt_of_heap HY3.out)
  have e1 : W.cell? ⟨w.heap.size + 1, 0, none⟩ = some (.int .i64 0) := cell_of_block v1 0
  have e2 : W.cell? ⟨w.heap.size + 1 + 1, 0, none⟩ = some (.int .i64 0) := cell_of_block v2 0
  have e3 : W.cell? ⟨w.heap.size + 1 + 1, 1, none⟩ = some (.slice none 0 0) := cell_of_block v2 1
  have e4 : W.cell? ⟨w.heap.size + 1 + 1 + 1, 0, none⟩ = some (.int .i64 0) := cell_of_block v3 0
  have f1 : W.frozen? ⟨w.heap.size + 1, 0, none⟩ = false := frozen_of_block v1 0
  have f2 : W.frozen? ⟨w.heap.size + 1 + 1, 0, none⟩ = false := frozen_of_block v2 0
  have f3 : W.frozen? ⟨w.heap.size + 1 + 1, 1, none⟩ = false := frozen_of_block v2 1
  have f4 : W.frozen? ⟨w.heap.size + 1 + 1 + 1, 0, none⟩ = false := frozen_of_block v3 0
  have HV1 := hid v1
  have HV2 := hid v2
  have HV3 := hid v3
  have HKD := hid hK
  clear hys hfr v1 v2 v3 hK
  gi_wp2
  have hwD : w.heap.size + 1 + 1 + 1 < wD.heap.size := by have := HsD.out; have := HSz.out; have := HAs.out; omega
  have hK9 : ((((W.setCell ⟨w.heap.size + 1, 0, none⟩ (.int .i64 0)).setCell ⟨w.heap.size + 1 + 1, 0, none⟩ (.int .i64 0)).setCell ⟨w.heap.size + 1 + 1, 1, none⟩ (.slice none 0 0)).setCell ⟨w.heap.size + 1 + 1 + 1, 0, none⟩ (.int .i64 7)).heap[D]? = some (.deferred (some [])) :=
   (block_setCell_other _ _ (by omega)).trans ((block_setCell_other _ _ (by omega)).trans ((block_setCell_other _ _ (by omega)).trans ((block_setCell_other _ _ (by omega)).trans HKD.out)))
  have k4 : Keeps (fun i => i = g \/ i = w.heap.size + 1 \/ i = w.heap.size + 1 + 1 \/ i = w.heap.size + 1 + 1 + 1) wD (((W.setCell ⟨w.heap.size + 1, 0, none⟩ (.int .i64 0)).setCell ⟨w.heap.size + 1 + 1, 0, none⟩ (.int .i64 0)).setCell ⟨w.heap.size + 1 + 1, 1, none⟩ (.slice none 0 0)) :=
   ((((Keeps.of_below hB.out).grown (grown_setCell (grown_refl _ _) _ _) (fun i e => .inl (.inr (.inl (Option.some.inj e).symm)))).grown (grown_setCell (grown_refl _ _) _ _) (fun i e => .inl (.inr (.inr (.inl (Option.some.inj e).symm))))).grown (grown_setCell (grown_refl _ _) _ _) (fun i e => .inl (.inr (.inr (.inl (Option.some.inj e).symm)))))
  have k5 : Keeps (fun i => i = g \/ i = w.heap.size + 1 \/ i = w.heap.size + 1 + 1 \/ i = w.heap.size + 1 + 1 + 1) wD ((((W.setCell ⟨w.heap.size + 1, 0, none⟩ (.int .i64 0)).setCell ⟨w.heap.size + 1 + 1, 0, none⟩ (.int .i64 0)).setCell ⟨w.heap.size + 1 + 1, 1, none⟩ (.slice none 0 0)).setCell ⟨w.heap.size + 1 + 1 + 1, 0, none⟩ (.int .i64 7)) := k4.grown (grown_setCell (grown_refl _ _) _ _) (fun i e => .inl (.inr (.inr (.inr (Option.some.inj e).symm))))
  have hg9 := grownBy_putObj' ((((W.setCell ⟨w.heap.size + 1, 0, none⟩ (.int .i64 0)).setCell ⟨w.heap.size + 1 + 1, 0, none⟩ (.int .i64 0)).setCell ⟨w.heap.size + 1 + 1, 1, none⟩ (.slice none 0 0)).setCell ⟨w.heap.size + 1 + 1 + 1, 0, none⟩ (.int .i64 7)) D (.deferred none)
  have k6 := k5.grown hg9 (fun i e => .inr (by cases e; exact hD))
  have s1 : (((W.setCell ⟨w.heap.size + 1, 0, none⟩ (.int .i64 0)).setCell ⟨w.heap.size + 1 + 1, 0, none⟩ (.int .i64 0)).setCell ⟨w.heap.size + 1 + 1, 1, none⟩ (.slice none 0 0)).heap[w.heap.size + 1]? = some (.cells #[.int .i64 0] 3 (0, 0)) :=
   (block_setCell_other _ _ (by omega)).trans ((block_setCell_other _ _ (by omega)).trans (block_setCell HV1.out 0 _))
  have s2 : (((W.setCell ⟨w.heap.size + 1, 0, none⟩ (.int .i64 0)).setCell ⟨w.heap.size + 1 + 1, 0, none⟩ (.int .i64 0)).setCell ⟨w.heap.size + 1 + 1, 1, none⟩ (.slice none 0 0)).heap[w.heap.size + 1 + 1]? = some (.cells #[.int .i64 0, .slice none 0 0] 122 (0, 0)) :=
   block_setCell (block_setCell ((block_setCell_other _ _ (by omega)).trans HV2.out) 0 (.int .i64 0)) 1 _
  have s3 : (((W.setCell ⟨w.heap.size + 1, 0, none⟩ (.int .i64 0)).setCell ⟨w.heap.size + 1 + 1, 0, none⟩ (.int .i64 0)).setCell ⟨w.heap.size + 1 + 1, 1, none⟩ (.slice none 0 0)).heap[w.heap.size + 1 + 1 + 1]? = some (.cells #[.int .i64 0] 31 (0, 0)) :=
   (block_setCell_other _ _ (by omega)).trans ((block_setCell_other _ _ (by omega)).trans ((block_setCell_other _ _ (by omega)).trans HV3.out))
  refine ⟨by simp, .inl ⟨_, _, rfl, run_takeDeferred hK9, ?_⟩⟩
  refine ⟨_, results_next rfl rfl rfl (grown_block hg9 ((block_setCell_other _ _ (by omega)).trans s1) (fun e => by cases e; omega)) (grown_block hg9 ((block_setCell_other _ _ (by omega)).trans s2) (fun e => by cases e; omega)) (grown_block hg9 (block_setCell s3 0 _) (fun e => by cases e; omega)), ?_⟩
  exact ⟨(HFin.out _ k6).1, (HFin.out _ k6).2, .inl ⟨HFr.out, rfl⟩⟩
 case stop =>
  rintro D cd pre W hD hpre ⟨rfl, q, rfl, hX⟩ hK
  obtain ⟨q', hf1, hf2, hpq⟩ := hpre
  have hq : freeTo (Pg b) a z q.val = [] /\ isFree (Pg b) a z q.val = true := by
   have h1 : freeTo (Pg b) a z q' ++ [q'] = [] ++ [q.val] := hpq.symm
   obtain ⟨h2, h3⟩ := List.append_inj' h1 rfl
   have h4 : q' = q.val := by simpa using h3
   rw [<- h4]
   exact ⟨h2, hf1⟩
  obtain ⟨rest, hrest⟩ := freeTo_head hq.1 hq.2 q.isLt
  have HR := hid hrest
  have HKD := hid hK
  clear hK hpq hf1 hf2 hq hrest
  gi_wp2
  have hwD : w.heap.size + 1 + 1 + 1 < wD.heap.size := by have := HsD.out; have := HSz.out; have := HAs.out; omega
  have hg9 := grownBy_putObj' W D (.deferred none)
  have k6 := hX.out.keep.grown hg9 (fun i e => .inr (by cases e; exact hD))
  have hgD : g < wD.heap.size := by have := HsD.out; have := HSz.out; omega
  refine ⟨by simp, .inl ⟨_, _, rfl, run_takeDeferred HKD.out, ?_⟩⟩
  refine ⟨_, results_next rfl rfl rfl (grown_block hg9 hX.out.r1 (fun e => by cases e; omega)) (grown_block hg9 hX.out.r2 (fun e => by cases e; omega)) (grown_block hg9 hX.out.r3 (fun e => by cases e; omega)), ?_⟩
  exact ⟨(HFin.out _ k6).1, (HFin.out _ k6).2, .inr ⟨q.val, rest, g, cap, HR.out, q.isLt, rfl, by have := HSz.out; have := HAs.out; omega, (hX.out.row.keep (Keeps.of_grown hg9 (F := fun i => some D = some i) (fun i e => e)) (fun e => by cases e; omega)).1⟩⟩
end
end
section
set_option maxRecDepth 100000
open Go.RowKit
def fN (k : Nat) : Nat := floatOfInt .f64 (k : Int)
def fOk (k : Nat) : Bool := FloatKind.f64.format.add (fN k) 4607182418800017408 == some (fN (k + 1)) && FloatKind.f64.format.add (fN k) 0 == some (fN k) && (floatToIntVal .f64 (fN k) .i64 == some (k : Int))
theorem fOk_small : (List.range 520).all fOk = true := by decide +kernel
theorem fN_zero : fN 0 = 0 := by decide +kernel
theorem fOk_at (k : Nat) (hk : k < 520) : fOk k = true := List.all_eq_true.1 fOk_small k (List.mem_range.2 hk)
theorem fN_add (k : Nat) (hk : k < 520) : FloatKind.f64.format.add (fN k) 4607182418800017408 = some (fN (k + 1)) := by
 have h := fOk_at k hk
 unfold fOk at h
 simp only [Bool.and_eq_true, beq_iff_eq] at h
 exact h.1.1
theorem fN_same (k : Nat) (hk : k < 520) : FloatKind.f64.format.add (fN k) 0 = some (fN k) := by
 have h := fOk_at k hk
 unfold fOk at h
 simp only [Bool.and_eq_true, beq_iff_eq] at h
 exact h.1.2
theorem fN_int (k : Nat) (hk : k < 520) : floatToIntVal .f64 (fN k) .i64 = some (k : Int) := by
 have h := fOk_at k hk
 unfold fOk at h
 simp only [Bool.and_eq_true, beq_iff_eq] at h
 exact h.2
end
section
set_option maxRecDepth 100000
set_option maxHeartbeats 8000000
open Go.RowKit Go.Shelf
attribute [local go_sem] Oper.semAt_some
theorem run_store_cpl {P : Program} {w : World} {a : Addr} {m : Mode} (k : FloatKind) (x y : Nat) : (store a (.complex k x y) m).run P w = stored P w a (.complex k x y) m := run_store P w a _ m rfl
attribute [local go_sem] run_store_cpl
def cplB (w : World) (b x y : Nat) : Prop := w.heap[b]? = some (.cells #[.complex .f64 x y] 90 (0, 0))
def offB (w : World) (b : Nat) : Prop := (∀ ad v, w.cell? ad = some v -> ad.block = b -> ∃ k x y, v = .complex k x y) /\ (∀ e k, w.heap[b]? ≠ some (.map e k)) /\ ∀ cs t fr, w.heap[b]? = some (.cells cs t fr) -> t = 90
theorem cplB.off {w : World} {b x y : Nat} (h : cplB w b x y) : offB w b := by
 refine ⟨fun ad v hc e => ?_, fun e k hm => ?_, fun cs t fr hm => ?_⟩
 ·have hp := plain_addr hc
  rw [hp, e, cell_of_block h] at hc
  cases ho : ad.off with
  | zero => rw [ho] at hc; exact ⟨_, _, _, (Option.some.inj hc).symm⟩
  | succ n => rw [ho] at hc; cases hc
 ·rw [show w.heap[b]? = _ from h] at hm; cases hm
 ·rw [show w.heap[b]? = _ from h] at hm
  simp only [Option.some.injEq, Obj.cells.injEq] at hm
  exact hm.2.1.symm
theorem off_deferred {w : World} {b : Nat} {d : Option (List Deferred)} (h : w.heap[b]? = some (.deferred d)) : offB w b := by
 refine ⟨fun ad v hc e => ?_, fun e k hm => ?_, fun cs t fr hm => ?_⟩
 ·have hp := plain_addr hc
  rw [hp, e] at hc
  simp [World.cell?, h] at hc
 ·rw [h] at hm; cases hm
 ·rw [h] at hm; cases hm
theorem offB.not {w : World} {b : Nat} {ad : Addr} {v : Value} (h : offB w b) (hc : w.cell? ad = some v) (hv : ∀ k x y, v ≠ .complex k x y) : ad.block ≠ b := fun e => by
 obtain ⟨k, x, y, rfl⟩ := h.1 ad v hc e
 exact hv k x y rfl
theorem AnyAt.keepX {w w' : World} {d : DL} {S : DiskS} {F : Nat -> Prop} {b : Nat} (h : AnyAt w d S F) (hb : offB w b) (hF : ¬ F b) (k : Keeps (fun i => i = b) w w') : AnyAt w' d S F := by
 rcases h with ⟨h, hf⟩ | ⟨h, hf⟩
 ·refine .inl ⟨?_, hf⟩
  have hne : ∀ i, d.cutFoot S.waits i -> ¬ i = b := fun i hi e => hF (e ▸ hf i hi)
  obtain ⟨h1, ⟨a, e1, e2, e3⟩, ⟨ad, c, e4, e5, e6⟩, h4⟩ := h
  refine ⟨h1.keep k (hne _ (.inl rfl)) (fun i hi => hne i (.inr hi)), ⟨a, e1, e2, fun q hq => ⟨fun j u hu => ?_, Nat.lt_of_lt_of_le (e3 q hq).2 k.size⟩⟩, ⟨ad, c, e4, fun j s hj => ?_, e6⟩, h4⟩
  ·refine k.cell ((e3 q hq).1 j u hu) (hb.not ((e3 q hq).1 j u hu) ?_)
   rw [List.getElem?_map] at hu
   cases ho : S.ops[j]? with
   | none => rw [ho] at hu; cases hu
   | some o => rw [ho] at hu; obtain rfl := Option.some.inj hu; intro k x y; cases o <;> simp [encOp]
  ·exact k.cell (e5 j s hj) (hb.not (e5 j s hj) (fun k x y => by simp))
 ·refine .inr ⟨?_, hf⟩
  have hne : ∀ i, d.foot S.waits i -> ¬ i = b := fun i hi e => hF (e ▸ hf i hi)
  refine h.keep k hne (fun i hi e => ?_)
  obtain ⟨ad, c, e4, e5, e6⟩ := h.first
  have hpos : 0 < S.first.length := by rw [h.flen]; exact h.plates.pos
  have hc := e5 0 S.first[0] (List.getElem?_eq_getElem hpos)
  have h1 := hb.not hc (fun k x y => by simp)
  rw [add_block] at h1
  rw [e4] at hi
  exact h1 ((Option.some.inj hi).trans e)
theorem LogIn.keepX {w w' : World} {p : Nat} {d : DL} {S : DiskS} {size rec : Nat} {F : Nat -> Prop} {b : Nat} (h : LogIn w p d S size rec F) (hb : offB w b) (hF : ¬ F b) (k : Keeps (fun i => i = b) w w') : LogIn w' p d S size rec F := by
 refine ⟨k.heap h.heap (fun e => ?_), h.disk.keepX hb hF k, h.off⟩
 have e2 : p = b := e
 have h1 := h.heap
 rw [e2] at h1
 exact absurd (hb.2.2 _ _ _ h1) (by decide)
theorem CacheAt.keepX {w w' : World} {c : Nat} {L : CLay} {C : CS} (h : CacheAt w c L C) {b : Nat} (hg : offB w b) (hF : ¬ L.F b) (k : Keeps (fun i => i = b) w w') : CacheAt w' c L C := by
 obtain ⟨es, kk, hm⟩ := h.dmap
 obtain ⟨es', kk', hu⟩ := h.umap
 have hmap : ∀ m e k0, w.heap[m]? = some (.map e k0) -> m ≠ b := fun m e k0 hm e1 => by
  subst e1
  exact hg.2.1 _ _ hm
 exact {
  heap := k.heap h.heap (fun e => by
   have e1 : c = b := e
   have h1 := h.heap
   rw [e1] at h1
   exact absurd (hg.2.2 _ _ _ h1) (by decide))
  log := h.log.keepX hg hF k
  lt := fun i hi => Nat.lt_of_lt_of_le (h.lt i hi) k.size
  dirty := h.dirty.keep k (hmap _ _ _ hm)
  bytes := fun n v hv => by
   obtain ⟨g', cap, bs, h1, h2, h3, h4, h5⟩ := h.bytes n v hv
   subst h2
   refine ⟨g', cap, bs, h1, rfl, fun j hj => k.cell (h3 j hj) (hg.not (h3 j hj) (fun k x y => by simp)), h4, h5⟩
  clean := h.clean
  used := h.used.keep k (hmap _ _ _ hu)
  offc := h.offc
  offd := h.offd
  offu := h.offu
  ne := h.ne
  pages := h.pages
  fits := h.fits
  few := h.few
  ub := h.ub }
section
variable {w w' : World} {c : Nat} {F : Nat -> Prop} {size N : Nat} {Pg Cm : Nat -> List UInt8} {D : Int -> Bool} {o u : Nat}
theorem Pc.keepX (h : Pc w c F size N Pg Cm D o u) {b : Nat} (hg : offB w b) (hF : ¬ F b) (k : Keeps (fun i => i = b) w w') : Pc w' c F size N Pg Cm D o u := by
 obtain ⟨L, C, h⟩ := h
 exact ⟨L, C, h.at_.keepX hg (fun hf => hF (h.foot _ (.inl hf))) k, h.sz, h.nn, h.made, h.ops, h.uses, h.pg, h.cm, h.dirty, h.room, h.foot, fun i hi => Nat.lt_of_lt_of_le (h.lt i hi) k.size, Nat.lt_of_lt_of_le h.p0 k.size, h.sep.mono k.size, h.quiet⟩
end
theorem freeTo_few (L : List UInt8) (a z : Nat) {k : Nat} (hz : z <= k) : (freeTo L a z 4096).length <= k := by
 by_cases h : z <= 4096
 ·have h1 := freeTo_end (L := L) (a := a) (Nat.le_refl z) (4096 - z)
  rw [show z + (4096 - z) = 4096 by omega] at h1
  rw [h1]
  exact Nat.le_trans (freeTo_len L a z z) hz
 ·exact Nat.le_trans (freeTo_len L a z 4096) (by omega)
theorem run_cadd {P : Program} {a b x y r s : Nat} (w : World) (h1 : FloatKind.f64.format.add a x = some r) (h2 : FloatKind.f64.format.add b y = some s) : (binOp .add 90 (.complex .f64 a b) (.complex .f64 x y)).run P w = .ok (.complex .f64 r s) w := by
 simp [binOp, Op.complexOp, Op.Complex.arith, Op.floatArith, h1, h2]
section
variable {w : World} {m c ino : Nat} {F : Nat -> Prop} {size N : Nat} {Pg Cm : Nat -> List UInt8} {D : Int -> Bool} {o u : Nat}
theorem acount_any (h : mapB w m c ino) (hmF : ¬ F m) (kb f : Nat) (hkb : w.heap[kb]? = some (.cells #[.int .i64 2, .int .i64 f, .int .i64 N, .complex .f64 4607182418800017408 0, .int .i64 1, .int .i64 1, .int .i64 ino, .complex .f64 0 4607182418800017408] 93 (0, 0))) (hkF : ¬ F kb) (hN : N <= 519) (hN2 : 3 <= N) (hi : ino <= 512) (hu : u < 999999) (hp : Pc w c F size N Pg Cm D o u) :
  Calls Tryz.prog 40 #[.pointer (some ⟨m, 0, none⟩), .slice (some ⟨kb, 0, none⟩) 2 2] w fun e w' => e = .returned (.complex .f64 (fN (freeTo (Pg 2) f N 4096).length) (fN (freeTo (Pg 1) 1 ino 4096).length)) /\ Keeps F w w' /\ Pc w' c F size N Pg Cm D o (u + 2) := by
 have hp1 : (freeTo (Pg 2) f N 4096).length <= 519 := freeTo_few _ _ _ hN
 have hp2 : (freeTo (Pg 1) 1 ino 4096).length <= 519 := freeTo_few _ _ _ (by omega)
 obtain ⟨p1, hq1⟩ : ∃ p1, p1 = freeTo (Pg 2) f N 4096 := ⟨_, rfl⟩
 obtain ⟨p2, hq2⟩ : ∃ p2, p2 = freeTo (Pg 1) 1 ino 4096 := ⟨_, rfl⟩
 rw [<- hq1] at hp1 ⊢
 rw [<- hq2] at hp2 ⊢
 have HQ1 := hid hq1
 have HQ2 := hid hq2
 have HL1 := hid (hp.len 2 (by omega))
 have HL2 := hid (hp.len 1 (by omega))
 have HFl := hid hp.lt
 obtain ⟨V0, hV0⟩ : ∃ V0, V0 = w.alloc (.cells #[.complex .f64 0 0] 90) := ⟨_, rfl⟩
 have hb0 : Below w.heap.size w V0 := by rw [hV0]; exact (Below.refl _ w).alloc (Nat.le_refl _) _
 have HM0 := hid (h.below hb0)
 have HK0 := hid (below_block hb0 hkb (lt_of_heap hkb))
 obtain ⟨P0, hP0⟩ : ∃ P0 : Nat, P0 = 0 := ⟨_, rfl⟩
 obtain ⟨I0, hI0⟩ : ∃ I0 : Nat, I0 = 0 := ⟨_, rfl⟩
 have HS0 : Hid (cplB V0 w.heap.size (fN P0) (fN I0)) := by unfold Hid cplB; rw [hV0, hP0, hI0, fN_zero]; exact block_new w _
 have HP00 := hid hP0
 have HI00 := hid hI0
 clear hP0 hI0
 have HW0 : Hid (Keeps F w V0) := Keeps.of_below hb0
 have HP0 := hid (hp.below hb0)
 have HSz0 : Hid (V0.heap.size = w.heap.size + 1) := by unfold Hid; rw [hV0]; simp
 have HkF := hid hkF
 have HmF := hid hmF
 clear h hkb hp hq1 hq2 hb0 hkF hmF
 refine (callsIn_wide (n := 8)).1 ?_
 refine callsIn_of_wp_marks Tryz.func40 rfl trivial ?_ rfl
 simp only [Tryz.ntmps40, List.size_toArray, List.length_cons, List.length_nil, Nat.reduceAdd, Nat.reduceSub, Array.replicate_succ, Array.replicate_zero, List.push_toArray, List.append_toArray, List.nil_append, List.cons_append]
 have hf1 : Fence.wide.fn 92 := trivial
 have hf2 : Fence.wide.fn 91 := trivial
 gi_wp2
 rw [<- hV0]
 clear hV0
 refine wpIn_loop_rounds 3 ?_
 -- round 0
 rw [roundsIn_succ]
 refine wpIn_wide.2 ?_
 have hzb := block_new V0 (.cells #[.int .i64 0, .int .i64 0, .int .i64 0, .complex .f64 0 0] 93)
 have HZb := hid hzb
 have k0 : V0.cell? ⟨kb, 0, none⟩ = some (.int .i64 2) := cell_of_block HK0.out 0
 have k1 : V0.cell? ⟨kb, 1, none⟩ = some (.int .i64 f) := cell_of_block HK0.out 1
 have k2 : V0.cell? ⟨kb, 2, none⟩ = some (.int .i64 N) := cell_of_block HK0.out 2
 have k3 : V0.cell? ⟨kb, 3, none⟩ = some (.complex .f64 4607182418800017408 0) := cell_of_block HK0.out 3
 have HBF : Hid (¬ F V0.heap.size) := fun hf => by have := HFl.out _ hf; have := HW0.out.size; omega
 clear hzb
 go_wp2_with (refine wpList_store_block rfl 93 (.tmp 7) (.tmp 13) rfl V0.heap.size #[.int .i64 2, .int .i64 f, .int .i64 N, .complex .f64 4607182418800017408 0] rfl rfl _ 93 HZb.out rfl infoNum (by simp [Value.oneCell']) ?_; intro wB hgB hnB hzB; have HGB := hid hgB; have HBn := hid hnB; clear hgB hnB hzB)
 have hbB : Below V0.heap.size V0 wB := by
  have h0 : Below V0.heap.size V0 (V0.alloc (.cells #[.int .i64 0, .int .i64 0, .int .i64 0, .complex .f64 0 0] 93)) := (Below.refl _ V0).alloc (Nat.le_refl _) _
  exact h0.grown HGB.out h0.size (fun i e => by cases e; exact Nat.le_refl _)
 have HbB := hid hbB
 have hdr := (Below.refl wB.heap.size wB).drew
 have HBi := hid (abits_any ((HM0.out.below hbB).below hdr) HmF.out 2 f N 4607182418800017408 0 (by omega) (by omega) HP0.out (hbB.trans (hdr.mono hbB.size)))
 have HCk : Hid (∀ W, Keeps F wB W -> W.cell? ⟨V0.heap.size, 0, none⟩ = some (.int .i64 2) /\ W.cell? ⟨V0.heap.size, 1, none⟩ = some (.int .i64 f) /\ W.cell? ⟨V0.heap.size, 2, none⟩ = some (.int .i64 N) /\ W.cell? ⟨V0.heap.size, 3, none⟩ = some (.complex .f64 4607182418800017408 0)) := fun W hW => by
  have hw := hW.heap HBn.out HBF.out
  exact ⟨cell_of_block hw 0, cell_of_block hw 1, cell_of_block hw 2, cell_of_block hw 3⟩
 have hS0 := HCk.out _ (Keeps.refl _ _)
 clear hbB hdr k0 k1 k2 k3 HGB HZb
 refine wp_region_noPanic ?_
 refine wp_region_held_drew (S := fun W => W.cell? ⟨V0.heap.size, 0, none⟩ = some (.int .i64 2) /\ W.cell? ⟨V0.heap.size, 1, none⟩ = some (.int .i64 f) /\ W.cell? ⟨V0.heap.size, 2, none⟩ = some (.int .i64 N) /\ W.cell? ⟨V0.heap.size, 3, none⟩ = some (.complex .f64 4607182418800017408 0)) (by kernel_rfl) hS0 (fun hHeld => ?_)
 refine tq 0 _ ?_
 try simp only [tS]
 refine tq 1 _ ?_
 try simp only [tS]
 refine tq 2 _ ?_
 try simp only [tS]
 refine tr 3 (fun K hK => ?_)
 go_simp
 refine HBi.out.mono ?_
 clear HBi
 rintro e w1 ⟨g, cap, rfl, hcap, hg, hrow, hK1, hW1⟩
 have HRow := hid hrow
 have HW1 := hid hW1
 have HKB : Hid (Keeps F wB w1) := ((Keeps.refl F wB).drew).trans hK1 (fun i e => .inl e)
 have hg' : wB.heap.size <= g := hg
 have hz := HCk.out w1 HKB.out
 clear hrow hK1 hW1 hg hS0
 go_wp2_with fail
 refine hK.out _ _ hz (fun hHeld => ?_)
 clear hK K
 try simp only [tS]
 refine tr 4 (fun K hK => ?_)
 go_simp
 refine (afree_any 2 f N 4607182418800017408 0 g cap w1).mono ?_
 rintro e wD ⟨rfl, hD⟩
 have hbD : Below w1.heap.size w1 wD := by rw [hD]; exact ((Below.refl _ w1).alloc (Nat.le_refl _) _).alloc (by simp) _
 have hsD : wD.heap.size = w1.heap.size + 2 := by rw [hD]; simp
 have x1 : wD.heap[w1.heap.size]? = some (.cells #[.int .i64 2, .int .i64 f, .int .i64 N, .complex .f64 4607182418800017408 0] 93 (0, 0)) := by
  rw [hD]; exact block_alloc (block_new w1 _) _
 have x2 : wD.heap[w1.heap.size + 1]? = some (.cells #[.slice (some ⟨g, 0, none⟩) 512 cap] 81 (0, 0)) := by
  have := block_new (w1.alloc (.cells #[.int .i64 2, .int .i64 f, .int .i64 N, .complex .f64 4607182418800017408 0] 93)) (.cells #[.slice (some ⟨g, 0, none⟩) 512 cap] 81)
  rw [World.size_alloc] at this
  rw [hD]; exact this
 have HX1 := hid x1
 have HX2 := hid x2
 have HsD := hid hsD
 have HKD : Hid (Keeps F wB wD) := HKB.out.trans (Keeps.of_below hbD : Keeps (fun _ => False) w1 wD) (fun i e => e.elim)
 have HRD := hid (HRow.out.below hbD)
 have HVD : Hid (Keeps F V0 wD) := (Keeps.of_below HbB.out).trans HKD.out (fun i e => .inl e)
 have HSS : Hid (cplB wD w.heap.size (fN P0) (fN I0)) := HVD.out.heap HS0.out (fun hf => Nat.lt_irrefl _ (HFl.out _ hf))
 have HBnD : Hid (wD.heap[V0.heap.size]? = some (.cells #[.int .i64 2, .int .i64 f, .int .i64 N, .complex .f64 4607182418800017408 0] 93 (0, 0))) := HKD.out.heap HBn.out HBF.out
 have HPD : Hid (Pc wD c F size N Pg Cm D o (u + 1)) := HW1.out wD ((Keeps.of_below hbD).trans (Keeps.refl (fun i => V0.heap.size <= i) _) (fun i e => .inl e))
 have HgD : Hid (g < wD.heap.size /\ V0.heap.size < wD.heap.size /\ w.heap.size < V0.heap.size /\ V0.heap.size < w1.heap.size) := ⟨HRD.out.lt, lt_of_heap HBnD.out, lt_of_heap HS0.out, Nat.lt_of_lt_of_le (lt_of_heap HBn.out) HKB.out.size⟩
 have HkbD := hid (HVD.out.heap HK0.out HkF.out)
 have HmD : Hid (mapB wD m c ino) := HM0.out.keep HVD.out HmF.out
 have hz4 := HCk.out wD HKD.out
 clear hD hbD hsD x1 x2 hz
 go_wp2_with fail
 refine hK.out _ _ hz4 (fun hHeld => ?_)
 clear hK K
 try simp only [tS]
 refine wpAnyH_done (by kernel_rfl) ?_ _
 refine NoPanic.normal ?_
 clear hHeld hz4 HCk HKB HRow HW1 HBF
 go_wp2
 refine (wpIn_wide (n := 8)).1 ?_
 have HSt0 := hid (afree_stops 7 (by omega) (w1.heap.size + 1) w1.heap.size g cap f N (fun i => i = w.heap.size \/ wD.heap.size <= i) (Pg 2) HL1.out (by omega) wD (by have := HsD.out; have := HgD.out; omega) (by have := HsD.out; have := HgD.out; omega) (by have := HgD.out; have := HbB.out.size; omega) (cell_of_block HX2.out 0) (cell_of_block HX1.out 1) (cell_of_block HX1.out 2) HRD.out.1)
 refine wpIn_rangeFunc_ownG rfl (by omega) (gf := 159) (lb := #[.pointer (some ⟨w1.heap.size + 1, 0, none⟩), .pointer (some ⟨w1.heap.size, 0, none⟩)]) rfl trivial (enters_of Tryz.func159 (by kernel_rfl) rfl)
  HSt0.out keepsK_t (keepsK_b (fun i h => .inr h)) (Below.refl _ _) (fun _ => rfl)
  (fun pre W => Hid (cplB W w.heap.size (fN (P0 + pre.length)) (fN I0)) /\ Hid (Keeps (fun i => i = w.heap.size) wD W))
  (fun _ _ _ => False)
  (fun s A B row hs hgr hr => ⟨grown_block hgr hs.1.out (fun e => by have := (hr _ e).1; have := HgD.out; omega), hs.2.out.grown hgr (fun i e => .inr (hr i e).1)⟩)
  (fun _ _ _ _ _ hs _ _ => hs)
  ⟨HSS, Keeps.refl _ _⟩
  (fun xx : Fin 4096 => { tmps := #[.pointer (some ⟨m, 0, none⟩), .slice (some ⟨kb, 0, none⟩) 2 2, undef, undef, .complex .f64 0 0, .pointer (some ⟨w.heap.size, 0, none⟩), undef, .pointer (some ⟨V0.heap.size, 0, none⟩), .slice (some ⟨kb, 0, none⟩) 2 2, .int .i64 2, .int .i64 0, .bool true, .pointer (some ⟨kb, 0, none⟩), .agg #[.int .i64 2, .int .i64 f, .int .i64 N, .complex .f64 4607182418800017408 0], .agg #[.int .i64 2, .int .i64 f, .int .i64 N, .complex .f64 4607182418800017408 0], .pointer (some ⟨m, 0, none⟩), .agg #[.int .i64 2, .int .i64 f, .int .i64 N, .complex .f64 4607182418800017408 0], .slice (some ⟨g, 0, none⟩) 512 cap, .func (.func 159) #[] #[.pointer (some ⟨w1.heap.size + 1, 0, none⟩), .pointer (some ⟨w1.heap.size, 0, none⟩)], .int .i64 ((xx.val : Nat) : Int), undef, undef, undef, undef, undef, undef], defers := [] }) ?assign0 ?body0 ?done0 ?stop0
 case assign0 =>
  intro l xx W K hK
  gi_wp2
  simpa using hK
 case stop0 =>
  rintro D cd pre W hD hpre hX hK
  exact hX.elim
 case body0 =>
  rintro l pre xx W ⟨hS, hKW⟩ hlt
  have hgD := HgD.out
  have c5 : W.cell? ⟨w.heap.size, 0, none⟩ = some (.complex .f64 (fN (P0 + pre.length)) (fN I0)) := cell_of_block hS.out 0
  have g5 : W.frozen? ⟨w.heap.size, 0, none⟩ = false := frozen_of_block hS.out 0
  have hb7 := hKW.out.heap HBnD.out (show ¬ V0.heap.size = w.heap.size by omega)
  have c7 : W.cell? ⟨V0.heap.size, 3, none⟩ = some (.complex .f64 4607182418800017408 0) := cell_of_block hb7 3
  have hadd : ∀ W2, (binOp .add 90 (.complex .f64 (fN (P0 + pre.length)) (fN I0)) (.complex .f64 4607182418800017408 0)).run Tryz.prog W2 = .ok (.complex .f64 (fN (P0 + pre.length + 1)) (fN I0)) W2 := fun W2 => run_cadd W2 (fN_add _ (by have := HP00.out; have := HI00.out; omega)) (fN_same _ (by have := HP00.out; have := HI00.out; omega))
  have HE : Hid (cplB (W.setCell ⟨w.heap.size, 0, none⟩ (.complex .f64 (fN (P0 + pre.length + 1)) (fN I0))) w.heap.size (fN (P0 + pre.length + 1)) (fN I0) /\ Keeps (fun i => i = w.heap.size) W (W.setCell ⟨w.heap.size, 0, none⟩ (.complex .f64 (fN (P0 + pre.length + 1)) (fN I0)))) := ⟨block_setCell hS.out 0 _, (Keeps.refl _ _).grown (grown_setCell (grown_refl _ _) _ _) (fun i e => .inl (Option.some.inj e).symm)⟩
  clear hb7 hgD
  gi_wp2
  have hlen : (pre ++ [xx]).length = pre.length + 1 := by simp
  refine ⟨⟨HE.out.2.size, fun i ob hi ho _ => HE.out.2.heap ho (by have := HgD.out; omega)⟩, HE.out.2.mono (fun i e => .inl e), ?_, hKW.out.trans HE.out.2 (fun i e => .inl e)⟩
  rw [hlen]
  exact HE.out.1
 case done0 =>
  rintro D0 ys V1 hD0 hys ⟨hS, hKW⟩ hKd
  have hyl : ys.length = p1.length := by rw [HQ1.out, <- hys, List.length_map]
  have hS2 : cplB V1 w.heap.size (fN (P0 + p1.length)) (fN (I0)) := by rw [<- hyl]; exact hS.out
  obtain ⟨P1, hE0⟩ : ∃ P1, P1 = P0 + p1.length := ⟨_, rfl⟩
  rw [<- hE0] at hS2
  have HE0 := hid hE0
  have HS1 := hid hS2
  clear hE0 hS2
  have HW1 : Hid (Keeps F w V1) := (HW0.out.trans HVD.out (fun i e => .inl e)).trans hKW.out (fun i e => .inr (by have e' : i = w.heap.size := e; omega))
  have HP1 : Hid (Pc V1 c F size N Pg Cm D o (u + 1)) := HPD.out.keepX HSS.out.off (fun hf => Nat.lt_irrefl _ (HFl.out _ hf)) hKW.out
  have hkne : ¬ kb = w.heap.size := fun e => by have h1 := HkbD.out; rw [e, HSS.out] at h1; simp at h1
  have hmne : ¬ m = w.heap.size := fun e => by have h1 := HmD.out; unfold mapB at h1; rw [e, HSS.out] at h1; simp at h1
  have HK1 := hid (hKW.out.heap HkbD.out hkne)
  have HM1 : Hid (mapB V1 m c ino) := HmD.out.keep hKW.out hmne
  have HDf0 := hid hKd
  have HDn0 : Hid (w.heap.size < D0) := by have := HgD.out; show w.heap.size < D0; omega
  clear HSt0 HSS HBnD HPD HkbD HmD HgD HVD HRD HX1 HX2 HsD HKD HBn HbB hyl hS hKW hKd hkne hmne
  go_wp2
  -- round 1
  rw [roundsIn_succ]
  refine wpIn_wide.2 ?_
  have hzb := block_new V1 (.cells #[.int .i64 0, .int .i64 0, .int .i64 0, .complex .f64 0 0] 93)
  have HZb := hid hzb
  have k0 : V1.cell? ⟨kb, 4, none⟩ = some (.int .i64 1) := cell_of_block HK1.out 4
  have k1 : V1.cell? ⟨kb, 5, none⟩ = some (.int .i64 1) := cell_of_block HK1.out 5
  have k2 : V1.cell? ⟨kb, 6, none⟩ = some (.int .i64 ino) := cell_of_block HK1.out 6
  have k3 : V1.cell? ⟨kb, 7, none⟩ = some (.complex .f64 0 4607182418800017408) := cell_of_block HK1.out 7
  have HBF : Hid (¬ F V1.heap.size) := fun hf => by have := HFl.out _ hf; have := HW1.out.size; omega
  clear hzb
  go_wp2_with (refine wpList_store_block rfl 93 (.tmp 7) (.tmp 13) rfl V1.heap.size #[.int .i64 1, .int .i64 1, .int .i64 ino, .complex .f64 0 4607182418800017408] rfl rfl _ 93 HZb.out rfl infoNum (by simp [Value.oneCell']) ?_; intro wB hgB hnB hzB; have HGB := hid hgB; have HBn := hid hnB; clear hgB hnB hzB)
  have hbB : Below V1.heap.size V1 wB := by
   have h0 : Below V1.heap.size V1 (V1.alloc (.cells #[.int .i64 0, .int .i64 0, .int .i64 0, .complex .f64 0 0] 93)) := (Below.refl _ V1).alloc (Nat.le_refl _) _
   exact h0.grown HGB.out h0.size (fun i e => by cases e; exact Nat.le_refl _)
  have HbB := hid hbB
  have hdr := (Below.refl wB.heap.size wB).drew
  have HBi := hid (abits_any ((HM1.out.below hbB).below hdr) HmF.out 1 1 ino 0 4607182418800017408 (by omega) (by omega) HP1.out (hbB.trans (hdr.mono hbB.size)))
  have HCk : Hid (∀ W, Keeps F wB W -> W.cell? ⟨V1.heap.size, 0, none⟩ = some (.int .i64 1) /\ W.cell? ⟨V1.heap.size, 1, none⟩ = some (.int .i64 1) /\ W.cell? ⟨V1.heap.size, 2, none⟩ = some (.int .i64 ino) /\ W.cell? ⟨V1.heap.size, 3, none⟩ = some (.complex .f64 0 4607182418800017408)) := fun W hW => by
   have hw := hW.heap HBn.out HBF.out
   exact ⟨cell_of_block hw 0, cell_of_block hw 1, cell_of_block hw 2, cell_of_block hw 3⟩
  have hS0 := HCk.out _ (Keeps.refl _ _)
  clear hbB hdr k0 k1 k2 k3 HGB HZb
  refine wp_region_noPanic ?_
  refine wp_region_held_drew (S := fun W => W.cell? ⟨V1.heap.size, 0, none⟩ = some (.int .i64 1) /\ W.cell? ⟨V1.heap.size, 1, none⟩ = some (.int .i64 1) /\ W.cell? ⟨V1.heap.size, 2, none⟩ = some (.int .i64 ino) /\ W.cell? ⟨V1.heap.size, 3, none⟩ = some (.complex .f64 0 4607182418800017408)) (by kernel_rfl) hS0 (fun hHeld => ?_)
  refine tq 0 _ ?_
  try simp only [tS]
  refine tq 1 _ ?_
  try simp only [tS]
  refine tq 2 _ ?_
  try simp only [tS]
  refine tr 3 (fun K hK => ?_)
  go_simp
  refine HBi.out.mono ?_
  clear HBi
  rintro e w1 ⟨g, cap, rfl, hcap, hg, hrow, hK1, hW1⟩
  have HRow := hid hrow
  have HW1 := hid hW1
  have HKB : Hid (Keeps F wB w1) := ((Keeps.refl F wB).drew).trans hK1 (fun i e => .inl e)
  have hg' : wB.heap.size <= g := hg
  have hz := HCk.out w1 HKB.out
  clear hrow hK1 hW1 hg hS0
  go_wp2_with fail
  refine hK.out _ _ hz (fun hHeld => ?_)
  clear hK K
  try simp only [tS]
  refine tr 4 (fun K hK => ?_)
  go_simp
  refine (afree_any 1 1 ino 0 4607182418800017408 g cap w1).mono ?_
  rintro e wD ⟨rfl, hD⟩
  have hbD : Below w1.heap.size w1 wD := by rw [hD]; exact ((Below.refl _ w1).alloc (Nat.le_refl _) _).alloc (by simp) _
  have hsD : wD.heap.size = w1.heap.size + 2 := by rw [hD]; simp
  have x1 : wD.heap[w1.heap.size]? = some (.cells #[.int .i64 1, .int .i64 1, .int .i64 ino, .complex .f64 0 4607182418800017408] 93 (0, 0)) := by
   rw [hD]; exact block_alloc (block_new w1 _) _
  have x2 : wD.heap[w1.heap.size + 1]? = some (.cells #[.slice (some ⟨g, 0, none⟩) 512 cap] 81 (0, 0)) := by
   have := block_new (w1.alloc (.cells #[.int .i64 1, .int .i64 1, .int .i64 ino, .complex .f64 0 4607182418800017408] 93)) (.cells #[.slice (some ⟨g, 0, none⟩) 512 cap] 81)
   rw [World.size_alloc] at this
   rw [hD]; exact this
  have HX1 := hid x1
  have HX2 := hid x2
  have HsD := hid hsD
  have HKD : Hid (Keeps F wB wD) := HKB.out.trans (Keeps.of_below hbD : Keeps (fun _ => False) w1 wD) (fun i e => e.elim)
  have HRD := hid (HRow.out.below hbD)
  have HVD : Hid (Keeps F V1 wD) := (Keeps.of_below HbB.out).trans HKD.out (fun i e => .inl e)
  have HSS : Hid (cplB wD w.heap.size (fN P1) (fN I0)) := HVD.out.heap HS1.out (fun hf => Nat.lt_irrefl _ (HFl.out _ hf))
  have HBnD : Hid (wD.heap[V1.heap.size]? = some (.cells #[.int .i64 1, .int .i64 1, .int .i64 ino, .complex .f64 0 4607182418800017408] 93 (0, 0))) := HKD.out.heap HBn.out HBF.out
  have HPD : Hid (Pc wD c F size N Pg Cm D o (u + 1 + 1)) := HW1.out wD ((Keeps.of_below hbD).trans (Keeps.refl (fun i => V1.heap.size <= i) _) (fun i e => .inl e))
  have HgD : Hid (g < wD.heap.size /\ V1.heap.size < wD.heap.size /\ w.heap.size < V1.heap.size /\ V1.heap.size < w1.heap.size) := ⟨HRD.out.lt, lt_of_heap HBnD.out, lt_of_heap HS1.out, Nat.lt_of_lt_of_le (lt_of_heap HBn.out) HKB.out.size⟩
  have HkbD := hid (HVD.out.heap HK1.out HkF.out)
  have HmD : Hid (mapB wD m c ino) := HM1.out.keep HVD.out HmF.out
  have hz4 := HCk.out wD HKD.out
  clear hD hbD hsD x1 x2 hz
  go_wp2_with fail
  refine hK.out _ _ hz4 (fun hHeld => ?_)
  clear hK K
  try simp only [tS]
  refine wpAnyH_done (by kernel_rfl) ?_ _
  refine NoPanic.normal ?_
  clear hHeld hz4 HCk HKB HRow HW1 HBF
  go_wp2
  refine (wpIn_wide (n := 8)).1 ?_
  have HSt1 := hid (afree_stops 7 (by omega) (w1.heap.size + 1) w1.heap.size g cap 1 ino (fun i => i = w.heap.size \/ wD.heap.size <= i) (Pg 1) HL2.out (by omega) wD (by have := HsD.out; have := HgD.out; omega) (by have := HsD.out; have := HgD.out; omega) (by have := HgD.out; have := HbB.out.size; omega) (cell_of_block HX2.out 0) (cell_of_block HX1.out 1) (cell_of_block HX1.out 2) HRD.out.1)
  refine wpIn_rangeFunc_ownG rfl (by omega) (gf := 159) (lb := #[.pointer (some ⟨w1.heap.size + 1, 0, none⟩), .pointer (some ⟨w1.heap.size, 0, none⟩)]) rfl trivial (enters_of Tryz.func159 (by kernel_rfl) rfl)
   HSt1.out keepsK_t (keepsK_b (fun i h => .inr h)) (Below.refl _ _) (fun _ => rfl)
   (fun pre W => Hid (cplB W w.heap.size (fN P1) (fN (I0 + pre.length))) /\ Hid (Keeps (fun i => i = w.heap.size) wD W))
   (fun _ _ _ => False)
   (fun s A B row hs hgr hr => ⟨grown_block hgr hs.1.out (fun e => by have := (hr _ e).1; have := HgD.out; omega), hs.2.out.grown hgr (fun i e => .inr (hr i e).1)⟩)
   (fun _ _ _ _ _ hs _ _ => hs)
   ⟨HSS, Keeps.refl _ _⟩
   (fun xx : Fin 4096 => { tmps := #[.pointer (some ⟨m, 0, none⟩), .slice (some ⟨kb, 0, none⟩) 2 2, undef, undef, .complex .f64 0 0, .pointer (some ⟨w.heap.size, 0, none⟩), undef, .pointer (some ⟨V1.heap.size, 0, none⟩), .slice (some ⟨kb, 0, none⟩) 2 2, .int .i64 2, .int .i64 1, .bool true, .pointer (some ⟨kb, 4, none⟩), .agg #[.int .i64 1, .int .i64 1, .int .i64 ino, .complex .f64 0 4607182418800017408], .agg #[.int .i64 1, .int .i64 1, .int .i64 ino, .complex .f64 0 4607182418800017408], .pointer (some ⟨m, 0, none⟩), .agg #[.int .i64 1, .int .i64 1, .int .i64 ino, .complex .f64 0 4607182418800017408], .slice (some ⟨g, 0, none⟩) 512 cap, .func (.func 159) #[] #[.pointer (some ⟨w1.heap.size + 1, 0, none⟩), .pointer (some ⟨w1.heap.size, 0, none⟩)], .int .i64 ((xx.val : Nat) : Int), undef, undef, undef, undef, .int .i64 1, undef], defers := [] }) ?assign1 ?body1 ?done1 ?stop1
  case assign1 =>
   intro l xx W K hK
   gi_wp2
   simpa using hK
  case stop1 =>
   rintro D cd pre W hD hpre hX hK
   exact hX.elim
  case body1 =>
   rintro l pre xx W ⟨hS, hKW⟩ hlt
   have hgD := HgD.out
   have c5 : W.cell? ⟨w.heap.size, 0, none⟩ = some (.complex .f64 (fN P1) (fN (I0 + pre.length))) := cell_of_block hS.out 0
   have g5 : W.frozen? ⟨w.heap.size, 0, none⟩ = false := frozen_of_block hS.out 0
   have hb7 := hKW.out.heap HBnD.out (show ¬ V1.heap.size = w.heap.size by omega)
   have c7 : W.cell? ⟨V1.heap.size, 3, none⟩ = some (.complex .f64 0 4607182418800017408) := cell_of_block hb7 3
   have hadd : ∀ W2, (binOp .add 90 (.complex .f64 (fN P1) (fN (I0 + pre.length))) (.complex .f64 0 4607182418800017408)).run Tryz.prog W2 = .ok (.complex .f64 (fN P1) (fN (I0 + pre.length + 1))) W2 := fun W2 => run_cadd W2 (fN_same _ (by have := HP00.out; have := HE0.out; omega)) (fN_add _ (by have := HI00.out; omega))
   have HE : Hid (cplB (W.setCell ⟨w.heap.size, 0, none⟩ (.complex .f64 (fN P1) (fN (I0 + pre.length + 1)))) w.heap.size (fN P1) (fN (I0 + pre.length + 1)) /\ Keeps (fun i => i = w.heap.size) W (W.setCell ⟨w.heap.size, 0, none⟩ (.complex .f64 (fN P1) (fN (I0 + pre.length + 1))))) := ⟨block_setCell hS.out 0 _, (Keeps.refl _ _).grown (grown_setCell (grown_refl _ _) _ _) (fun i e => .inl (Option.some.inj e).symm)⟩
   clear hb7 hgD
   gi_wp2
   have hlen : (pre ++ [xx]).length = pre.length + 1 := by simp
   refine ⟨⟨HE.out.2.size, fun i ob hi ho _ => HE.out.2.heap ho (by have := HgD.out; omega)⟩, HE.out.2.mono (fun i e => .inl e), ?_, hKW.out.trans HE.out.2 (fun i e => .inl e)⟩
   rw [hlen]
   exact HE.out.1
  case done1 =>
   rintro D1 ys V2 hD1 hys ⟨hS, hKW⟩ hKd
   have hyl : ys.length = p2.length := by rw [HQ2.out, <- hys, List.length_map]
   have hS2 : cplB V2 w.heap.size (fN (P1)) (fN (I0 + p2.length)) := by rw [<- hyl]; exact hS.out
   obtain ⟨I1, hE1⟩ : ∃ I1, I1 = I0 + p2.length := ⟨_, rfl⟩
   rw [<- hE1] at hS2
   have HE1 := hid hE1
   have HS2 := hid hS2
   clear hE1 hS2
   have HW2 : Hid (Keeps F w V2) := (HW1.out.trans HVD.out (fun i e => .inl e)).trans hKW.out (fun i e => .inr (by have e' : i = w.heap.size := e; omega))
   have HP2 : Hid (Pc V2 c F size N Pg Cm D o (u + 1 + 1)) := HPD.out.keepX HSS.out.off (fun hf => Nat.lt_irrefl _ (HFl.out _ hf)) hKW.out
   have hkne : ¬ kb = w.heap.size := fun e => by have h1 := HkbD.out; rw [e, HSS.out] at h1; simp at h1
   have hmne : ¬ m = w.heap.size := fun e => by have h1 := HmD.out; unfold mapB at h1; rw [e, HSS.out] at h1; simp at h1
   have HK2 := hid (hKW.out.heap HkbD.out hkne)
   have HM2 : Hid (mapB V2 m c ino) := HmD.out.keep hKW.out hmne
   have HDf1 := hid hKd
   have HDn1 : Hid (w.heap.size < D1) := by have := HgD.out; show w.heap.size < D1; omega
   clear HSt1 HSS HBnD HPD HkbD HmD HgD HRD HX1 HX2 HsD HKD HBn HbB hyl hkne hmne
   have HDf2 : Hid (V2.heap[D0]? = some (.deferred (some []))) := hKW.out.heap (HVD.out.heap HDf0.out (fun hf => by have := HFl.out _ hf; have := HDn0.out; omega)) (by have := HDn0.out; omega)
   have hne : D1 ≠ D0 := fun e => by have h1 := lt_of_heap HDf0.out; have := HVD.out.size; omega
   clear hS hKW hKd HVD
   go_wp2
   rw [roundsIn_succ]
   have c5 : V2.cell? ⟨w.heap.size, 0, none⟩ = some (.complex .f64 (fN P1) (fN I1)) := cell_of_block HS2.out 0
   gi_wp2
   have hg1 := grownBy_putObj' V2 D1 (.deferred none)
   have hg2 := grownBy_putObj' (V2.putObj D1 (.deferred none)) D0 (.deferred none)
   have hk : Keeps (fun i => i = D1 \/ i = D0) V2 ((V2.putObj D1 (.deferred none)).putObj D0 (.deferred none)) := ((Keeps.refl _ _).grown hg1 (fun i e => .inl (.inl (Option.some.inj e).symm))).grown hg2 (fun i e => .inl (.inr (Option.some.inj e).symm))
   refine ⟨by simp, .inl ⟨_, _, rfl, run_takeDeferred HDf1.out, ⟨by simp, .inl ⟨_, _, rfl, run_takeDeferred (grown_block hg1 HDf2.out (fun e => hne (Option.some.inj e))), ?_⟩⟩⟩⟩
   refine ⟨_, results_tmp rfl _ _ _, ?_, HW2.out.trans hk (fun i e => .inr (by have := HDn0.out; have := HDn1.out; omega)), ?_⟩
   ·have e1 : P1 = p1.length := by have h1 := HE0.out; have h2 := HP00.out; omega
    have e2 : I1 = p2.length := by have h1 := HE1.out; have h2 := HI00.out; omega
    rw [<- e1, <- e2]; rfl
   ·have hF1 : ¬ F D1 := fun hf => by have := HFl.out _ hf; have := HDn1.out; omega
    have hF0 : ¬ F D0 := fun hf => by have := HFl.out _ hf; have := HDn0.out; omega
    exact (HP2.out.keepX (off_deferred HDf1.out) hF1 (Keeps.of_grown hg1 (fun i e => (Option.some.inj e).symm))).keepX (off_deferred (grown_block hg1 HDf2.out (fun e => hne (Option.some.inj e)))) hF0 (Keeps.of_grown hg2 (fun i e => (Option.some.inj e).symm))
end
end
end Go.Proofs.YtehkeadpgedolaaGreatDoor
