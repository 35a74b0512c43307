/- Several of my texts in one: InRd, InRead, InStR, InStZ, InStY, InStX, InFree, InStS, InModes, InCuts, IDeeds. -/
import Derived.Test.YtndceijbkcjekaaGreatJoined5
import Derived.Test.YtndceijbkcjekaaGreatJoined7
import Derived.Test.YtndceijbkcjekaaGreatJoined2
/- A cache that stays whatever becomes of later blocks: pages are read into rows of one's own. -/
set_option maxRecDepth 100000
namespace Go.Proofs.YtndceijbkcjekaaGreat
open Go.RowKit
def PcB (w : World) (B c : Nat) (F : Nat → Prop) (size N : Nat) (Pg Cm : Nat → List UInt8) (D : Int → Bool) (o u : Nat) : Prop := ∃ L C, PcIn w c F size N Pg Cm D o u L C ∧ c < B ∧ L.um < B ∧ B ≤ w.heap.size ∧ ∀ W, Keeps (fun i => B ≤ i) w W → CacheAt W c L C
section
variable {w w' : World} {B m c ino : Nat} {F : Nat → Prop} {size N : Nat} {Pg Cm : Nat → List UInt8} {D : Int → Bool} {o u : Nat}
theorem PcB.start (h : Pc w c F size N Pg Cm D o u) : PcB w w.heap.size c F size N Pg Cm D o u := by
 obtain ⟨L, C, h⟩ := h
 obtain ⟨es, k, hu⟩ := h.at_.umap
 exact ⟨L, C, h, lt_of_heap h.at_.heap, lt_of_heap hu, Nat.le_refl _, fun W hW => h.at_.below (hW.below (Nat.le_refl _) (fun i e => e))⟩
theorem PcB.keep (h : PcB w B c F size N Pg Cm D o u) (k : Keeps (fun i => B ≤ i) w w') : PcB w' B c F size N Pg Cm D o u := by
 obtain ⟨L, C, h, h1, h2, h3, h4⟩ := h
 exact ⟨L, C, ⟨h4 w' k, h.sz, h.nn, h.made, h.ops, h.uses, h.pg, h.cm, h.dirty, h.room, h.foot, fun i hi => Nat.lt_of_lt_of_le (h.lt i hi) k.size, Nat.lt_of_lt_of_le h.p0 k.size, h.quiet⟩, h1, h2, Nat.le_trans h3 k.size, fun W hW => h4 W (k.trans hW (fun i e => .inl e))⟩
theorem PcB.pc (h : PcB w B c F size N Pg Cm D o u) : Pc w c F size N Pg Cm D o u := by
 obtain ⟨L, C, h, -⟩ := h
 exact ⟨L, C, h⟩
theorem PcB.le (h : PcB w B c F size N Pg Cm D o u) : B ≤ w.heap.size := by
 obtain ⟨L, C, -, -, -, h, -⟩ := h
 exact h
theorem PcB.step {L L' : CLay} {C C' : CS} (hB : ∀ W, Keeps (fun i => B ≤ i) w W → CacheAt W c L C) (hc : c < B) (hu : L.um < B) (hBs : B ≤ w.heap.size) (hk : Keeps (fun i => i = c ∨ i = L.um) w w') (h' : CacheAt w' c L' C')
  (hL : L' = { L with Du := L'.Du }) (hC : C' = { C with uses := C'.uses, used := C'.used }) : ∀ W, Keeps (fun i => B ≤ i) w' W → CacheAt W c L' C' := fun V hV => by
 have h0 := hB w (Keeps.refl _ _)
 obtain ⟨es, kk, hum⟩ := h0.umap
 have hcw := h0.heap
 obtain ⟨W, hW⟩ : ∃ W : World, W = { V with heap := (V.heap.setIfInBounds c (.cells #[.pointer (some ⟨L.p, 0, none⟩), .map (some L.dm), .int .i64 C.most, .int .i64 C.uses, .map (some L.um)] 109 (0, 0))).setIfInBounds L.um (.map es kk) } := ⟨_, rfl⟩
 have hs1 := hk.size
 have hs2 := hV.size
 have hWs : W.heap.size = V.heap.size := by rw [hW]; simp
 have hne : ∀ k, k ≠ c → k ≠ L.um → W.heap[k]? = V.heap[k]? := fun k h1 h2 => by
  rw [hW]
  show ((V.heap.setIfInBounds c _).setIfInBounds L.um _)[k]? = V.heap[k]?
  rw [Array.getElem?_setIfInBounds_ne (fun e => h2 e.symm), Array.getElem?_setIfInBounds_ne (fun e => h1 e.symm)]
 have hcu : c ≠ L.um := fun e => by rw [e, hum] at hcw; cases hcw
 have hWc : W.heap[c]? = w.heap[c]? := by
  rw [hcw, hW]
  show ((V.heap.setIfInBounds c _).setIfInBounds L.um _)[c]? = _
  rw [Array.getElem?_setIfInBounds_ne (fun e => hcu e.symm), Array.getElem?_setIfInBounds_self_of_lt (by omega)]
 have hWu : W.heap[L.um]? = w.heap[L.um]? := by
  rw [hum, hW]
  show ((V.heap.setIfInBounds c _).setIfInBounds L.um _)[L.um]? = _
  rw [Array.getElem?_setIfInBounds_self_of_lt (by rw [Array.size_setIfInBounds]; omega)]
 have kW : Keeps (fun i => B ≤ i) w W := by
  refine ⟨?_, ?_, ?_, by omega, fun k hk1 hk2 => ?_⟩
  ·rw [hW]; exact hV.os.trans hk.os
  ·rw [hW]; exact hV.tape.trans hk.tape
  ·rw [hW]; exact hV.output.trans hk.output
  ·by_cases e1 : k = c
   ·rw [e1]; exact hWc
   ·by_cases e2 : k = L.um
    ·rw [e2]; exact hWu
    ·rw [hne k e1 e2, hV.block k (by omega) hk2, hk.block k hk1 (fun hh => hh.elim e1 e2)]
 have kV : Keeps (fun i => i = c ∨ i = L.um) W V := by
  refine ⟨by rw [hW], by rw [hW], by rw [hW], by omega, fun k _ hk2 => (hne k (fun e => hk2 (.inl e)) (fun e => hk2 (.inr e))).symm⟩
 have hA := hB W kW
 have hG : ∀ i, (i = c ∨ i = L.um) → i = c ∨ i = L.dm ∨ i = L.um := fun i hi => hi.elim .inl (fun e => .inr (.inr e))
 have eum : L'.um = L.um := by rw [hL]
 have hcV : V.heap[c]? = w'.heap[c]? := hV.block c (by omega) (fun e => by omega)
 rw [hL, hC] at h' ⊢
 exact {
  heap := hcV.trans h'.heap
  log := hA.logKeep hG kV
  lt := fun i hi => Nat.lt_of_lt_of_le (h'.lt i hi) hV.size
  dirty := hA.dirty.keep kV (fun e => e.elim (fun e => hA.cd e.symm) (fun e => hA.ne e))
  bytes := hA.bytesKeep hG kV
  clean := h'.clean
  used := h'.used.keep hV (fun e => by have e' : B ≤ L.um := e; omega)
  offc := h'.offc
  offd := h'.offd
  offu := h'.offu
  ne := h'.ne
  pages := h'.pages
  fits := h'.fits
  few := h'.few
  ub := h'.ub }
theorem PcB.read (h : PcB w B c F size N Pg Cm D o u) (n : Nat) (hn : n < N) (hu : u < 1000000) :
  Calls Tryz.prog 145 #[.pointer (some ⟨c, 0, none⟩), .int .i64 n] w fun e w' => ∃ g cap, e = .returned (.tuple #[.slice (some ⟨g, 0, none⟩) 512 cap, .int .i64 0]) ∧ 512 ≤ cap ∧ w.heap.size ≤ g ∧ rowU w' g (Pg n) ∧ Keeps F w w' ∧ PcB w' B c F size N Pg Cm D o (u + 1) := by
 obtain ⟨L, C, h, h1, h2, h3, h4⟩ := h
 refine (bread_row n w h.at_ (Below.refl _ w) h.made (by have := h.uses; omega) (by rw [h.nn]; exact hn)).mono ?_
 rintro e w' ⟨g, cap, D', u', k, rfl, hc, hg, hr, hk, hW, hK⟩
 have hf : ∀ i, (i = c ∨ i = L.um) → F i := fun i hi => h.foot i (hi.elim (fun e => .inr (.inl e)) (fun e => .inr (.inr (.inr e))))
 have hA := hW w' (Keeps.refl _ _)
 refine ⟨g, cap, rfl, hc, hg, by rw [← h.pg n hn]; exact hr, hK.mono hf, { L with Du := D' }, { C with uses := C.uses + k, used := u' }, ⟨hA, h.sz, h.nn, h.made, h.ops, by show C.uses + k ≤ u + 1; have := h.uses; omega, h.pg, h.cm, h.dirty, h.room, h.foot, fun i hi => Nat.lt_of_lt_of_le (h.lt i hi) hK.size, Nat.lt_of_lt_of_le h.p0 hK.size, h.quiet⟩, h1, h2, Nat.le_trans h3 hK.size, PcB.step h4 h1 h2 h3 hK hA rfl rfl⟩
theorem ipage_pb (h : mapB w m c ino) (n : Nat) (hn : n < N) (hu : u < 1000000) (hp : PcB w B c F size N Pg Cm D o u) :
  Calls Tryz.prog 94 #[gV m, .int .i64 n] w fun e w' => ∃ g, e = .returned (.slice (some ⟨g, 0, none⟩) 512 512) ∧ w.heap.size ≤ g ∧ ownB w' g (Pg n) ∧ Keeps F w w' ∧ PcB w' B c F size N Pg Cm D o (u + 1) := by
 unfold gV
 have HLen := hid (hp.pc.len n hn)
 have HFl := hid hp.pc.lt
 have hBl := hp.le
 have hal : Below w.heap.size w (w.alloc (.cells #[.pointer (some ⟨m, 0, none⟩)] 87)) := (Below.refl _ w).alloc (Nat.le_refl _) _
 have HAl : Hid ((w.alloc (.cells #[.pointer (some ⟨m, 0, none⟩)] 87)).heap[w.heap.size]? = some (.cells #[.pointer (some ⟨m, 0, none⟩)] 87 (0, 0))) := block_new w _
 have HBa := hid hal
 have HP := hid hp
 have HM := hid h
 clear h hp hal
 go_enter Tryz.func94, Tryz.ntmps94
 go_wp2_with (refine wpList_make_u8 rfl (.const (.int .i64 512)) (.const (.int .i64 512)) rfl 512 512 rfl rfl rfl (by omega) ?_; intro w1 hb1 hr1 hz1; have hB1 := HBa.out.trans (hb1.mono HBa.out.size); have HB1 := hid hB1; have c0 : w1.cell? ⟨w.heap.size, 0, none⟩ = some (.pointer (some ⟨m, 0, none⟩)) := (cell_of_block (below_block hb1 HAl.out (lt_of_heap HAl.out)) 0); have HO1 : Hid (ownB w1 (w.heap.size + 1) (zN 512)) := (by unfold Hid ownB; rw [← rep_U8]; simpa using hr1); have HCa := hid (amCache_any (HM.out.below hB1)); have HRd := hid ((HP.out.keep (Keeps.of_below hB1)).read n hn hu); clear hb1 hr1 hz1 hB1)
 refine HCa.out.mono ?_
 clear HCa
 rintro e w2 ⟨rfl, h2⟩
 obtain rfl := h2.symm
 clear h2
 go_wp2_with fail
 refine HRd.out.mono ?_
 clear HRd
 rintro e w3 ⟨g, cap, rfl, hcap, hg, hrow, hk, hW⟩
 have HO3 := hid (HO1.out.keep hk (fun hf => by have := HFl.out _ hf; omega))
 have HRow := hid hrow
 have HK : Hid (Keeps F w w3) := (Keeps.of_below HB1.out : Keeps F w w1).trans hk (fun i e => .inl e)
 have HW := hid hW
 have HSz : Hid (w.heap.size + 1 < w3.heap.size) := lt_of_heap HO3.out
 clear hrow hk hW hg HO1 c0
 go_wp2_with (refine wpList_copy_own8 rfl (.tmp 17) (.tmp 18) rfl (w.heap.size + 1) 0 512 512 ⟨g, 0, none⟩ 512 cap rfl rfl (zN 512) (Pg n) HO3.out HRow.out.1 (by rw [HLen.out]; rfl) (by rw [HLen.out, length_zN]; omega) ?_; intro w4 hk4 ho4 hz4; have HO4 := hid ho4; have HK4 := hid hk4; clear hk4 ho4 hz4)
 go_ret
 have ho := HO4.out
 rw [List.take_zero, List.nil_append, Nat.zero_add, HLen.out, drop_zN, show zN (512 - 512) = [] from rfl, List.append_nil] at ho
 have k34 : Keeps (fun i => B ≤ i) w3 w4 := HK4.out.mono (fun i e => by have e' : i = w.heap.size + 1 := e; show B ≤ i; omega)
 have k35 : Keeps (fun i => w.heap.size ≤ i) w3 w4 := HK4.out.mono (fun i e => by have e' : i = w.heap.size + 1 := e; show w.heap.size ≤ i; omega)
 exact ⟨w.heap.size + 1, rfl, by omega, ho, HK.out.trans k35 (fun i e => .inr e), HW.out.keep k34⟩
end
end Go.Proofs.YtndceijbkcjekaaGreat
/- read: bytes of a file. -/
set_option maxRecDepth 100000
set_option maxHeartbeats 4000000
namespace Go.Proofs.YtndceijbkcjekaaGreat
open Go.RowKit Go.Shelf
attribute [local go_sem] Oper.semAt_some
def rowY (w : World) (base : Nat) (v : Value) (xs : List UInt8) : Prop := w.ownsRow base 5 1 v xs.length (xs.map U8)
def boxY (w : World) (b base : Nat) (xs : List UInt8) : Prop := ∃ v, w.heap[b]? = some (.cells #[v] 44 (0, 0)) ∧ rowY w base v xs
def partL (sl : List Nat) (a z : Nat) (Pg : Nat → List UInt8) (k : Nat) : List UInt8 := ((Pg (sl.getD (dslot k) 0)).drop (a - k * 512)).take (min (z - k * 512) 512 - (a - k * 512))
def partsL (sl : List Nat) (a z : Nat) (Pg : Nat → List UInt8) (ks : List Nat) : List UInt8 := ks.flatMap (partL sl a z Pg)
theorem infoU8r : (Tryz.prog.info? 5).map (fun i => (i.zero, i.size, i.bytes)) = some (some (.int .u8 0), 1, 1) := by kernel_rfl
theorem wp_append_bytes {w : World} {base : Nat} {v : Value} {xs : List UInt8} {o : Oper} {a : Act} {K : Act → World → Prop} {Q : Exit → Act → World → Prop} (s x : Operand)
  (ho : o.op = .call { callee := .builtin .append, args := #[s, x], argTypes := #[44, 44] }) (hs : a.eval s = v) (ad : Addr) (m c : Nat) (hx : a.eval x = .slice (some ad) m c)
  (h : rowY w base v xs) (news : List UInt8) (hl : news.length = m) (hb : bytesAt w ad news) (h0 : 0 < m) (hn : xs.length + m ≤ 100000) (hbase : base ≤ w.heap.size)
  (k : ∀ g cap w', rowY w' base (.slice (some ⟨g, 0, none⟩) (xs.length + m) cap) (xs ++ news) → w.grownBy w' v.ownBlock → K (a.put o.dst (.slice (some ⟨g, 0, none⟩) (xs.length + m) cap)) w') : Oper.wp Tryz.prog o a w K Q := by
 obtain ⟨i0, hi, hz0, hz1, hz2⟩ := info_parts infoU8r
 have hnews : ∀ j y, (news.map U8)[j]? = some y → w.cell? (ad.add j) = some y := fun j y hy => by
  have hj : j < news.length := by simpa using (List.getElem?_eq_some_iff.1 hy).1
  rw [List.getElem?_map, List.getElem?_eq_getElem hj] at hy
  rw [hb j hj]; exact hy
 have h1 : ∀ y ∈ news.map U8, y.oneCell' = true := fun y hy => by
  obtain ⟨x, -, rfl⟩ := List.mem_map.1 hy
  rfl
 obtain ⟨g, cap, w', hr, h2, h3, -, -⟩ := run_append_lies (P := Tryz.prog) w 44 o.type base 5 i0 (.int .u8 0) 1 1 Tryz.underlying44 hi hz0 hz1 hz2 rfl (by omega) v xs.length (xs.map U8) h ad m c (news.map U8) (by rw [List.length_map]; omega) hnews h1 h0 (by unfold maxLen; omega) (by omega) hbase w.heap.size rfl
 unfold Oper.wp
 simp [execOp, ho, resolve, invoke, builtin, hs, hx, hr, Result.andThen]
 refine k g cap w' ?_ h3
 unfold rowY
 rw [List.length_append, hl, List.map_append]
 exact h2
theorem results_ifread {w : World} {tmps : Array Value} {x : Value} (h1 : tmps.getD 6 undef = x) : (results Tryz.f60 tmps).run Tryz.prog w = .ok x w := by
 have h1' : tmps[6]?.getD undef = x := by simpa using h1
 simp only [results, Tryz.results60]
 simp [go_sem, h1']
theorem rowY.down {w : World} {base b' : Nat} {v : Value} {xs : List UInt8} (h : rowY w base v xs) (hb : b' ≤ base) : rowY w b' v xs := by
 refine ⟨h.1, ?_⟩
 rcases h.2 with h1 | ⟨g0, cap0, cur, e, h1, h2⟩
 ·exact .inl h1
 ·exact .inr ⟨g0, cap0, cur, e, Nat.le_trans hb h1, h2⟩
theorem rowY.ge {w : World} {base : Nat} {v : Value} {xs : List UInt8} (h : rowY w base v xs) {g : Nat} (hg : v.ownBlock = some g) : base ≤ g ∧ ∃ cs, w.heap[g]? = some (.cells cs 5 (0, 0)) := by
 rcases h.2 with ⟨e, -⟩ | ⟨g0, cap0, cur, e, h1, h2, -⟩
 ·rw [e] at hg; cases hg
 ·rw [e] at hg; cases hg; exact ⟨h1, _, h2⟩
section
variable {w : World} {f m c ino : Nat} {F : Nat → Prop} {size N : Nat} {Pg Cm : Nat → List UInt8} {D : Int → Bool} {o u : Nat} {S : FileS}
theorem ifread_any (a z : Nat) (h : mapB w m c ino) (hmF : ¬ F m) (hf : fileB w f m S) (hfF : ¬ F f) (hS : S.slots.length = 139) (haz : a < z) (hz : z ≤ 70656) (hu : u < 990000) (hsl : ∀ k, a / 512 ≤ k → k < fillN z → S.slots.getD (dslot k) 0 < N) (hp : Pc w c F size N Pg Cm D o u) :
  Calls Tryz.prog 60 #[.pointer (some ⟨f, 0, none⟩), .int .i64 a, .int .i64 z] w fun e w' => ∃ v, e = .returned v ∧ rowY w' w.heap.size v (partsL S.slots a z Pg (upTo (a / 512) (fillN z))) ∧ Keeps F w w' ∧ Pc w' c F size N Pg Cm D o (u + 138) := by
 refine (callsIn_wide (n := 8)).1 ?_
 obtain ⟨wA, hA⟩ : ∃ wA, wA = (w.alloc (.cells #[.pointer (some ⟨f, 0, none⟩)] 114)).alloc (.cells #[.slice none 0 0] 44) := ⟨_, rfl⟩
 have hAB : Below w.heap.size w wA := by rw [hA]; exact ((Below.refl _ w).alloc (Nat.le_refl _) _).alloc (by simp) _
 have hA0 : wA.heap[w.heap.size]? = some (.cells #[.pointer (some ⟨f, 0, none⟩)] 114 (0, 0)) := by rw [hA]; exact block_alloc (block_new w _) _
 have hA1 : wA.heap[w.heap.size + 1]? = some (.cells #[.slice none 0 0] 44 (0, 0)) := by
  have h1 := block_new (w.alloc (.cells #[.pointer (some ⟨f, 0, none⟩)] 114)) (.cells #[.slice none 0 0] 44)
  rw [World.size_alloc] at h1
  rw [hA]; exact h1
 have hAs : wA.heap.size = w.heap.size + 2 := by rw [hA]; simp
 have hfA := hf.below hAB
 have HF := hid hfA
 have HMp := hid (h.below hAB)
 have HPc := hid ((PcB.start hp).keep (Keeps.of_below hAB))
 have HFl := hid hp.lt
 have HA0 := hid hA0
 have HA1 := hid hA1
 have HAB := hid hAB
 have HAs := hid hAs
 have HS := hid hS
 have HSl := hid hsl
 have hfl : f < w.heap.size := hf.lt
 have hml : m < w.heap.size := lt_of_heap h
 clear hf hfA hA0 hA1 hAB hAs hS h hp hsl
 refine callsIn_of_wp_marks Tryz.func60 rfl trivial ?_ rfl
 simp only [Tryz.ntmps60, List.size_toArray, List.length_cons, List.length_nil, Nat.reduceAdd, Nat.reduceSub, Array.replicate_succ, Array.replicate_zero, List.push_toArray, List.append_toArray, List.nil_append, List.cons_append]
 have hf2 : Fence.wide.fn 110 := trivial
 have hf4 : Fence.wide.fn 94 := trivial
 gi_wp2
 rw [← hA]
 clear hA
 refine (callsIn_wide.2 (iparts_any f a z wA)).mono ?_
 rintro e wD ⟨rfl, hD⟩
 have hDB : Below wA.heap.size wA wD := by rw [hD]; exact (((Below.refl _ wA).alloc (Nat.le_refl _) _).alloc (by simp) _).alloc (by simp; omega) _
 have hsD : wD.heap.size = wA.heap.size + 3 := by rw [hD]; simp
 have x0 : wD.cell? ⟨wA.heap.size, 0, none⟩ = some (.pointer (some ⟨f, 0, none⟩)) := by rw [hD]; exact cell_of_block (block_alloc (block_alloc (block_new wA _) _) _) 0
 have x1 : wD.cell? ⟨wA.heap.size + 1, 0, none⟩ = some (.int .i64 a) := by
  have h1 := block_new (wA.alloc (.cells #[.pointer (some ⟨f, 0, none⟩)] 114)) (.cells #[.int .i64 a] 3)
  rw [World.size_alloc] at h1
  rw [hD]; exact cell_of_block (block_alloc h1 _) 0
 have x2 : wD.cell? ⟨wA.heap.size + 1 + 1, 0, none⟩ = some (.int .i64 z) := by
  have h1 := block_new ((wA.alloc (.cells #[.pointer (some ⟨f, 0, none⟩)] 114)).alloc (.cells #[.int .i64 a] 3)) (.cells #[.int .i64 z] 3)
  rw [World.size_alloc, World.size_alloc] at h1
  rw [hD]; exact cell_of_block h1 0
 have HDB := hid hDB
 have HsD := hid hsD
 have hws := HAs.out
 have HFD := hid (HF.out.below hDB)
 have HMD := hid (HMp.out.below hDB)
 have HPD := hid (HPc.out.keep (Keeps.of_below hDB))
 have HR0 := hid (below_block hDB HA0.out (lt_of_heap HA0.out))
 have HR1 := hid (below_block hDB HA1.out (lt_of_heap HA1.out))
 have HSt := hid (iparts_stops 7 (by omega) wA.heap.size (wA.heap.size + 1) (wA.heap.size + 1 + 1) f m a z S HS.out (fun i => F i ∨ i = w.heap.size + 1 ∨ wD.heap.size ≤ i) hz (by omega) wD
  (fun hh => by rcases hh with hh | hh | hh; (have := HFl.out _ hh; omega); omega; omega) (fun hh => by rcases hh with hh | hh | hh; (have := HFl.out _ hh; omega); omega; omega) (fun hh => by rcases hh with hh | hh | hh; (have := HFl.out _ hh; omega); omega; omega)
  (fun hh => by rcases hh with hh | hh | hh; exact hfF hh; omega; omega) HFD.out x0 x1 x2 (fillN z - a / 512) rfl)
 clear hD hDB hsD x0 x1 x2 HF HMp HPc HA0 HA1 hws
 gi_wp2
 generalize hM : fillN z - a / 512 = M at *
 have HMM := hid hM
 clear hM
 refine wpIn_rangeFunc_ownH rfl (by omega) (gf := 157) (lb := #[.pointer (some ⟨wA.heap.size + 1, 0, none⟩), .pointer (some ⟨wA.heap.size + 1 + 1, 0, none⟩), .pointer (some ⟨wA.heap.size, 0, none⟩)]) rfl trivial (enters_of Tryz.func157 (by kernel_rfl) rfl)
  HSt.out (fun h k => keepsK_t h k) (keepsK_b (fun i h => .inr (.inr h))) (Below.refl _ _) (fun _ => rfl)
  (fun pre W => Hid (fileB W f m S) ∧ Hid (mapB W m c ino) ∧ Hid (PcB W w.heap.size c F size N Pg Cm D o (u + pre.length)) ∧
   Hid (boxY W (w.heap.size + 1) wD.heap.size (partsL S.slots a z Pg (pre.map (fun x : Fin M => a / 512 + x.val)))) ∧ Hid (Keeps (fun i => F i ∨ i = w.heap.size + 1) wD W))
  (fun _ _ _ => False)
  (fun s A B row hs hgr hr => ⟨grown_block hgr hs.1.out (fun e => by obtain ⟨-, ob, h1, h2⟩ := hr _ e; have h3 := hs.1.out; unfold fileB at h3; rw [h3] at h1; cases h1; cases h2), grown_block hgr hs.2.1.out (fun e => by obtain ⟨-, ob, h1, h2⟩ := hr _ e; have h3 := hs.2.1.out; unfold mapB at h3; rw [h3] at h1; cases h1; cases h2), ?own1, ?own2, ?own3⟩)
  (fun cd s A B row hs hgr hr => hs)
  ⟨HFD, HMD, HPD, ?st, Keeps.refl _ _⟩
  (fun x a' W => ∃ pb, wD.heap.size ≤ pb ∧ a' = { tmps := #[.pointer (some ⟨f, 0, none⟩), .int .i64 a, .int .i64 z, .pointer (some ⟨w.heap.size, 0, none⟩), undef, undef, .slice none 0 0, .pointer (some ⟨w.heap.size + 1, 0, none⟩), .int .i64 (S.slots.getD (dslot (a / 512 + x.val)) 0 : Nat), .pointer (some ⟨pb, 0, none⟩), .pointer (some ⟨f, 0, none⟩), .int .i64 a, .int .i64 z, .func (.func 157) #[] #[.pointer (some ⟨wA.heap.size + 1, 0, none⟩), .pointer (some ⟨wA.heap.size + 1 + 1, 0, none⟩), .pointer (some ⟨wA.heap.size, 0, none⟩)], .int .i64 (S.slots.getD (dslot (a / 512 + x.val)) 0 : Nat), .agg #[.int .i64 (a - (a / 512 + x.val) * 512 : Nat), .int .i64 (min (z - (a / 512 + x.val) * 512) 512 : Nat)], undef, undef, undef, undef, undef, undef, undef, undef, undef, undef, undef, undef, undef, undef], defers := [] } ∧ W.heap[pb]? = some (.cells #[.int .i64 (a - (a / 512 + x.val) * 512 : Nat), .int .i64 (min (z - (a / 512 + x.val) * 512) 512 : Nat)] 173 (0, 0))) (fun x a' s A B row hs hgr hr => ?own4) ?assign ?body ?done ?stop
 case assign =>
  rintro l1 pre x W K hI hK
  have HK := hid hK
  have HI := hid hI
  clear hK hI
  unfold partV
  obtain ⟨a1, ha1⟩ : ∃ a1 : Int, a1 = ((S.slots.getD (dslot (a / 512 + x.val)) 0 : Nat) : Int) := ⟨_, rfl⟩
  obtain ⟨a2, ha2⟩ : ∃ a2 : Int, a2 = ((a - (a / 512 + x.val) * 512 : Nat) : Int) := ⟨_, rfl⟩
  obtain ⟨a3, ha3⟩ : ∃ a3 : Int, a3 = ((min (z - (a / 512 + x.val) * 512) 512 : Nat) : Int) := ⟨_, rfl⟩
  rw [← ha1, ← ha2, ← ha3]
  have HA123 := hid (And.intro ha1 (And.intro ha2 ha3))
  clear ha1 ha2 ha3
  gi_wp2
  obtain ⟨rfl, rfl, rfl⟩ := HA123.out
  obtain ⟨i1, i2, i3, i4, i5⟩ := HI.out
  have hwD := i5.out.size
  have hba : Below W.heap.size W (W.alloc (.cells #[.int .i64 (a - (a / 512 + x.val) * 512 : Nat), .int .i64 (min (z - (a / 512 + x.val) * 512) 512 : Nat)] 173)) := (Below.refl _ W).alloc (Nat.le_refl _) _
  refine HK.out _ _ ⟨by simp, fun i ob hi ho _ => block_alloc ho _⟩ (Keeps.of_below hba) ⟨i1.out.below hba, i2.out.below hba, i3.out.keep (Keeps.of_below hba), ?_, i5.out.trans (Keeps.of_below hba : Keeps (fun _ => False) W _) (fun i e => e.elim)⟩ ⟨W.heap.size, hwD, rfl, block_new W _⟩
  obtain ⟨v, h1, h2⟩ := i4.out
  exact ⟨v, below_block hba h1 (lt_of_heap h1), (Keeps.of_below hba : Keeps (fun _ => False) W _).row h2 (fun _ _ h => h)⟩
 case body =>
  rintro l1 pre x a' W hl1 hrec ⟨HFw, HMw, HPw, HBw, HKw⟩ ⟨pb, hpb, rfl, hpW⟩ hlt
  obtain ⟨v, hv1, hv2⟩ := HBw.out
  have hsD := HsD.out
  have hsA := HAs.out
  have hx := x.isLt
  have hMM := HMM.out
  have hnw : ∀ i, w.heap.size ≤ i → ¬ F i := fun i hi hh => by have := HFl.out i hh; omega
  have c0b := HKw.out.heap HR0.out (fun hh => hh.elim (hnw _ (Nat.le_refl _)) (fun e => by omega))
  obtain ⟨pn, hpn⟩ : ∃ pn, pn = S.slots.getD (dslot (a / 512 + x.val)) 0 := ⟨_, rfl⟩
  obtain ⟨fa, hfa⟩ : ∃ fa, fa = a - (a / 512 + x.val) * 512 := ⟨_, rfl⟩
  obtain ⟨fz, hfz⟩ : ∃ fz, fz = min (z - (a / 512 + x.val) * 512) 512 := ⟨_, rfl⟩
  have hpN : pn < N := by rw [hpn]; exact HSl.out _ (by omega) (by omega)
  have HNx : Hid (partsL S.slots a z Pg ((pre ++ [x]).map (fun x : Fin M => a / 512 + x.val)) = partsL S.slots a z Pg (pre.map (fun x : Fin M => a / 512 + x.val)) ++ ((Pg pn).drop fa).take (fz - fa)) := by
   unfold Hid partsL
   rw [List.map_append, List.flatMap_append, List.map_singleton, List.flatMap_singleton]
   unfold partL
   rw [hpn, hfa, hfz]
  obtain ⟨xs, hxs⟩ : ∃ xs, xs = partsL S.slots a z Pg (pre.map (fun x : Fin M => a / 512 + x.val)) := ⟨_, rfl⟩
  rw [← hpn, ← hfa, ← hfz]
  rw [← hfa, ← hfz] at hpW
  rw [← hxs] at HNx hv2
  have hk1 : (a / 512 + x.val) * 512 < z := by unfold fillN at hMM; omega
  have hq1 : fa < fz := by omega
  have hq2 : fz ≤ 512 := by omega
  have hq3 : (fz : Int) ≤ 512 := by omega
  have hq4 : ¬ (512 = fa) := by omega
  have hxl : xs.length ≤ 512 * pre.length := by
   rw [hxs]; unfold partsL
   clear hxs hv2 HNx hlt HPw HBw hv1
   induction pre with
   | nil => simp
   | cons y ys ih =>
    rw [List.map_cons, List.flatMap_cons, List.length_append, List.length_cons]
    have h1 : (partL S.slots a z Pg (a / 512 + y.val)).length ≤ 512 := by unfold partL; rw [List.length_take]; omega
    have h2 := ih
    omega
  have hM1 : M ≤ 138 := by unfold fillN at hMM; omega
  have HPg := hid (fun V (hV : Below W.heap.size W V) => ipage_pb (HMw.out.below hV) pn hpN (show u + pre.length < 1000000 by omega) (HPw.out.keep (Keeps.of_below hV)))
  have HLn := hid (HPw.out.pc.len pn hpN)
  have HV1 := hid hv1
  have HV2 := hid hv2
  have HC0 := hid c0b
  have HPW := hid hpW
  have HXl := hid hxl
  have HM1 := hid hM1
  have HLt := hid hlt
  have hbd : Below W.heap.size W W.drew := (Below.refl _ W).drew
  have q0 : W.drew.cell? ⟨w.heap.size + 1, 0, none⟩ = some v := cell_of_block (below_block hbd hv1 (lt_of_heap hv1)) 0
  have q1 : W.drew.cell? ⟨w.heap.size, 0, none⟩ = some (.pointer (some ⟨f, 0, none⟩)) := cell_of_block (below_block hbd c0b (lt_of_heap c0b)) 0
  obtain ⟨q2, -⟩ := (HFw.out.below hbd).head
  have q3 : W.drew.cell? ⟨pb, 0, none⟩ = some (.int .i64 fa) := cell_of_block (below_block hbd hpW (lt_of_heap hpW)) 0
  have q4 : W.drew.cell? ⟨pb, 1, none⟩ = some (.int .i64 fz) := cell_of_block (below_block hbd hpW (lt_of_heap hpW)) 1
  have hpbW := lt_of_heap hpW
  have HBd := hid hbd
  have HPg2 := hid (HPg.out W.drew hbd)
  unfold gV at HPg2
  clear HPg hbd hpW c0b hv1 hv2 hxs hpn hfa hfz hMM hx hxl hM1 hk1 hsD hlt HBw
  refine wpIn_block ?_
  refine wpInR_drewL 13 (S := fun V => V.cell? ⟨w.heap.size + 1, 0, none⟩ = some v ∧ V.cell? ⟨w.heap.size, 0, none⟩ = some (.pointer (some ⟨f, 0, none⟩)) ∧ V.cell? ⟨f, 0, none⟩ = some (.pointer (some ⟨m, 0, none⟩)) ∧ V.cell? ⟨pb, 0, none⟩ = some (.int .i64 fa) ∧ V.cell? ⟨pb, 1, none⟩ = some (.int .i64 fz)) (by kernel_rfl) (by kernel_rfl) ⟨q0, q1, q2, q3, q4⟩ (fun hHeld => ?_)
  generalize W.drew = wd at *
  refine wpAnyL_take (hwt := by kernel_rfl) (i := 0) (v := ?_) rfl (by kernel_rfl) (by kernel_rfl) (by kernel_rfl) (fun _ _ _ h => h) (Or.inl ⟨by rfl, ?_⟩) (by assumption) ?_
  rotate_left
  ·(intro W hSw; (try dsimp only at hSw); obtain ⟨s0, s1, s2, s3, s4⟩ := hSw; go_simp; try with_reducible rfl)
  try simp only [List.getElem_toArray, List.getElem_cons_zero, Act.put, List.setIfInBounds_toArray, List.set_cons_zero, List.set_cons_succ]
  refine wpAnyL_take (hwt := by kernel_rfl) (i := 1) (v := ?_) rfl (by kernel_rfl) (by kernel_rfl) (by kernel_rfl) (fun _ _ _ h => h) (Or.inl ⟨by rfl, ?_⟩) (by assumption) ?_
  rotate_left
  ·(intro W hSw; (try dsimp only at hSw); obtain ⟨s0, s1, s2, s3, s4⟩ := hSw; go_simp; try with_reducible rfl)
  try simp only [List.getElem_toArray, List.getElem_cons_succ, List.getElem_cons_zero, Act.put, List.setIfInBounds_toArray, List.set_cons_zero, List.set_cons_succ]
  refine wpAnyL_take (hwt := by kernel_rfl) (i := 2) (v := ?_) rfl (by kernel_rfl) (by kernel_rfl) (by kernel_rfl) (fun _ _ _ h => h) (Or.inl ⟨by rfl, ?_⟩) (by assumption) ?_
  rotate_left
  ·(intro W hSw; (try dsimp only at hSw); obtain ⟨s0, s1, s2, s3, s4⟩ := hSw; go_simp; try with_reducible rfl)
  try simp only [List.getElem_toArray, List.getElem_cons_succ, List.getElem_cons_zero, Act.put, List.setIfInBounds_toArray, List.set_cons_zero, List.set_cons_succ]
  refine wpAnyL_take (hwt := by kernel_rfl) (i := 3) (v := ?_) rfl (by kernel_rfl) (by kernel_rfl) (by kernel_rfl) (fun _ _ _ h => h) (Or.inl ⟨by rfl, ?_⟩) (by assumption) ?_
  rotate_left
  ·(intro W hSw; (try dsimp only at hSw); obtain ⟨s0, s1, s2, s3, s4⟩ := hSw; go_simp; try with_reducible rfl)
  try simp only [List.getElem_toArray, List.getElem_cons_succ, List.getElem_cons_zero, Act.put, List.setIfInBounds_toArray, List.set_cons_zero, List.set_cons_succ]
  refine wpAnyL_take (hwt := by kernel_rfl) (i := 4) (v := ?_) rfl (by kernel_rfl) (by kernel_rfl) (by kernel_rfl) (fun _ _ _ h => h) (Or.inl ⟨by rfl, ?_⟩) (by assumption) ?_
  rotate_left
  ·(intro W hSw; (try dsimp only at hSw); obtain ⟨s0, s1, s2, s3, s4⟩ := hSw; go_simp; try with_reducible rfl)
  try simp only [List.getElem_toArray, List.getElem_cons_succ, List.getElem_cons_zero, Act.put, List.setIfInBounds_toArray, List.set_cons_zero, List.set_cons_succ]
  refine wpAnyL_take (hwt := by kernel_rfl) (i := 5) (v := ?_) rfl (by kernel_rfl) (by kernel_rfl) (by kernel_rfl) (fun _ _ _ h => h) (Or.inl ⟨by rfl, ?_⟩) (by assumption) ?_
  rotate_left
  ·(intro W hSw; (try dsimp only at hSw); obtain ⟨s0, s1, s2, s3, s4⟩ := hSw; go_simp; try with_reducible rfl)
  try simp only [List.getElem_toArray, List.getElem_cons_succ, List.getElem_cons_zero, Act.put, List.setIfInBounds_toArray, List.set_cons_zero, List.set_cons_succ]
  refine wpAnyL_take (hwt := by kernel_rfl) (i := 7) (v := ?_) rfl (by kernel_rfl) (by kernel_rfl) (by kernel_rfl) (fun _ _ _ h => h) (Or.inl ⟨by rfl, ?_⟩) (by assumption) ?_
  rotate_left
  ·(intro W hSw; (try dsimp only at hSw); obtain ⟨s0, s1, s2, s3, s4⟩ := hSw; go_simp; try with_reducible rfl)
  try simp only [List.getElem_toArray, List.getElem_cons_succ, List.getElem_cons_zero, Act.put, List.setIfInBounds_toArray, List.set_cons_zero, List.set_cons_succ]
  refine wpAnyL_take (hwt := by kernel_rfl) (i := 8) (v := ?_) rfl (by kernel_rfl) (by kernel_rfl) (by kernel_rfl) (fun _ _ _ h => h) (Or.inl ⟨by rfl, ?_⟩) (by assumption) ?_
  rotate_left
  ·(intro W hSw; (try dsimp only at hSw); obtain ⟨s0, s1, s2, s3, s4⟩ := hSw; go_simp; try with_reducible rfl)
  try simp only [List.getElem_toArray, List.getElem_cons_succ, List.getElem_cons_zero, Act.put, List.setIfInBounds_toArray, List.set_cons_zero, List.set_cons_succ]
  refine wpAnyL_take (hwt := by kernel_rfl) (i := 9) (v := ?_) rfl (by kernel_rfl) (by kernel_rfl) (by kernel_rfl) (fun _ _ _ h => h) (Or.inl ⟨by rfl, ?_⟩) (by assumption) ?_
  rotate_left
  ·(intro W hSw; (try dsimp only at hSw); obtain ⟨s0, s1, s2, s3, s4⟩ := hSw; go_simp; try with_reducible rfl)
  try simp only [List.getElem_toArray, List.getElem_cons_succ, List.getElem_cons_zero, Act.put, List.setIfInBounds_toArray, List.set_cons_zero, List.set_cons_succ]
  refine wpAnyL_take (hwt := by kernel_rfl) (i := 10) (v := ?_) rfl (by kernel_rfl) (by kernel_rfl) (by kernel_rfl) (fun _ _ _ h => h) (Or.inl ⟨by rfl, ?_⟩) (by assumption) ?_
  rotate_left
  ·(intro W hSw; (try dsimp only at hSw); obtain ⟨s0, s1, s2, s3, s4⟩ := hSw; go_simp; try with_reducible rfl)
  try simp only [List.getElem_toArray, List.getElem_cons_succ, List.getElem_cons_zero, Act.put, List.setIfInBounds_toArray, List.set_cons_zero, List.set_cons_succ]
  refine wpAnyL_one (i := 6) (by kernel_rfl) rfl (fun K hK => ?_)
  rw [if_pos (by rfl)]
  go_simp
  refine HPg2.out.mono ?_
  clear HPg2
  rintro e W2 ⟨g, rfl, hg, ho2, hk2, hp2⟩
  have hsD := HsD.out
  have hWD := HKw.out.size
  have hdW := HBd.out.size
  have kW2 : Keeps F W W2 := (Keeps.of_below HBd.out : Keeps F W wd).trans hk2 (fun i e => .inl e)
  have v2 := kW2.heap HV1.out (hnw _ (by omega))
  have r0 : W2.cell? ⟨w.heap.size + 1, 0, none⟩ = some v := cell_of_block v2 0
  have r1 : W2.cell? ⟨w.heap.size, 0, none⟩ = some (.pointer (some ⟨f, 0, none⟩)) := cell_of_block (kW2.heap HC0.out (hnw _ (Nat.le_refl _))) 0
  obtain ⟨r2, -⟩ := (HFw.out.keep kW2 hfF).head
  have p2 := kW2.heap HPW.out (hnw _ (by omega))
  have r3 : W2.cell? ⟨pb, 0, none⟩ = some (.int .i64 fa) := cell_of_block p2 0
  have r4 : W2.cell? ⟨pb, 1, none⟩ = some (.int .i64 fz) := cell_of_block p2 1
  have hrow2 : rowY W2 wD.heap.size v xs := kW2.row HV2.out (fun i e hh => hnw i (by have := (rowY.ge HV2.out e).1; omega) hh)
  have HRo2 := hid hrow2
  have HV2b := hid v2
  have HP2 := hid hp2
  have HO2 := hid ho2
  have HK2 := hid kW2
  have HPb2 := hid p2
  clear hk2 kW2 v2 p2 hrow2 ho2 hp2 q0 q1 q2 q3 q4
  go_wp2_with fail
  refine hK.out _ _ (fun _ => ⟨r0, r1, r2, r3, r4⟩) (fun hHeld6 => ?_)
  have hHeld := hHeld6 (by decide)
  clear hK K hHeld6
  try simp only [List.getElem_toArray, List.getElem_cons_succ, List.getElem_cons_zero, Act.put, List.setIfInBounds_toArray, List.set_cons_zero, List.set_cons_succ]
  refine wpAnyL_take (hwt := by kernel_rfl) (i := 11) (v := .slice (some ⟨g, fa, none⟩) (fz - fa) (512 - fa)) rfl (by kernel_rfl) (by kernel_rfl) (by kernel_rfl) (fun _ _ _ h => h) (Or.inl ⟨by rfl, ?_⟩) (by assumption) ?_
  ·(intro W hSw; (try dsimp only at hSw); obtain ⟨s0, s1, s2, s3, s4⟩ := hSw; go_simp; try first | with_reducible rfl | go_num | (rw [if_pos (by assumption)]; simp only [*]) | simp only [*])
  try simp only [List.getElem_toArray, List.getElem_cons_succ, List.getElem_cons_zero, Act.put, List.setIfInBounds_toArray, List.set_cons_zero, List.set_cons_succ]
  refine wpAnyL_one (i := 12) (by kernel_rfl) rfl (fun K hK => ?_)
  rw [if_pos (by rfl)]
  have hby : bytesAt W2 ⟨g, fa, none⟩ (((Pg pn).drop fa).take (fz - fa)) := fun j hj => by
   have hj1 : j < fz - fa := by rw [List.length_take] at hj; omega
   have h1 := HO2.out.cell (fa + j) (by rw [HLn.out]; omega)
   rw [Addr.add_mid, h1, List.getElem_take, List.getElem_drop]
  refine wp_append_bytes (.tmp 16) (.tmp 27) rfl rfl ⟨g, fa, none⟩ (fz - fa) (512 - fa) rfl HRo2.out _ (by rw [List.length_take, List.length_drop, HLn.out]; omega) hby (by omega) (by have h1 := HXl.out; have h2 := HM1.out; have h3 := HLt.out; omega) (by have := HK2.out.size; omega) ?_
  intro g9 cap9 w9 hr9 hg9
  have k9 : Keeps (fun i => v.ownBlock = some i) W2 w9 := Keeps.of_grown hg9 (fun i e => e)
  have hge : ∀ i, v.ownBlock = some i → wD.heap.size ≤ i := fun i e => (rowY.ge HRo2.out e).1
  have hv9 := k9.heap HV2b.out (fun e => by have := hge _ e; omega)
  have t0 : w9.cell? ⟨w.heap.size + 1, 0, none⟩ = some v := cell_of_block hv9 0
  have f9 : w9.frozen? ⟨w.heap.size + 1, 0, none⟩ = false := frozen_of_block hv9 0
  have t1 := k9.cell r1 (fun e => by have e' : v.ownBlock = some w.heap.size := e; have := hge _ e'; omega)
  have t2 := k9.cell r2 (fun e => by have e' : v.ownBlock = some f := e; have := hge _ e'; omega)
  have hnpb : ¬ v.ownBlock = some pb := fun e => by
   obtain ⟨cs, h1⟩ := (rowY.ge HRo2.out e).2
   rw [HPb2.out] at h1
   simp only [Option.some.injEq, Obj.cells.injEq] at h1
   exact absurd h1.2.1 (by decide)
  have t3 := k9.cell r3 (fun e => hnpb e)
  have t4 := k9.cell r4 (fun e => hnpb e)
  have HV9 := hid hv9
  have HR9 := hid hr9
  have HK9 := hid k9
  have HGe := hid hge
  clear hv9 hr9 hg9 k9 r0 r1 r2 r3 r4 hby hge
  refine hK.out _ _ (fun _ => ⟨t0, t1, t2, t3, t4⟩) (fun hHeld8 => ?_)
  have hHeld := hHeld8 (by decide)
  clear hK K hHeld8
  try simp only [List.getElem_toArray, List.getElem_cons_succ, List.getElem_cons_zero, Act.put, List.setIfInBounds_toArray, List.set_cons_zero, List.set_cons_succ]
  refine wpAnyL_one (i := 13) (by kernel_rfl) rfl (fun K hK => ?_)
  rw [if_pos (by rfl)]
  go_simp
  refine hK.out _ _ (fun hne => absurd rfl hne) (fun _ => ?_)
  clear hK K
  refine wpAnyL_done (by kernel_rfl) ?_ _
  refine JustN.normal ?_
  have kb : Keeps (fun i => i = w.heap.size + 1) w9 (w9.setCell ⟨w.heap.size + 1, 0, none⟩ (.slice (some ⟨g9, 0, none⟩) (xs.length + (fz - fa)) cap9)) := (Keeps.refl _ _).grown (grown_setCell (grown_refl _ _) _ _) (fun i e => .inl (Option.some.inj e).symm)
  have hvb := block_setCell HV9.out 0 (.slice (some ⟨g9, 0, none⟩) (xs.length + (fz - fa)) cap9)
  generalize w9.setCell ⟨w.heap.size + 1, 0, none⟩ (.slice (some ⟨g9, 0, none⟩) (xs.length + (fz - fa)) cap9) = wF at *
  have hg9b := (rowY.ge HR9.out (g := g9) rfl).1
  have k2F : Keeps (fun i => v.ownBlock = some i ∨ i = w.heap.size + 1) W2 wF := (HK9.out.mono (fun i e => .inl e)).trans kb (fun i e => .inl (.inr e))
  have k2B : Keeps (fun i => w.heap.size ≤ i) W2 wF := k2F.mono (fun i e => e.elim (fun e => by have := HGe.out i e; show w.heap.size ≤ i; omega) (fun e => by show w.heap.size ≤ i; omega))
  have kWF : Keeps (fun i => F i ∨ v.ownBlock = some i ∨ i = w.heap.size + 1) W wF := (HK2.out.mono (fun i e => .inl e)).trans k2F (fun i e => .inl (.inr e))
  have hnf : ∀ j, j < w.heap.size → ¬ F j → ¬ (F j ∨ v.ownBlock = some j ∨ j = w.heap.size + 1) := fun j hj hF hh => by
   rcases hh with hh | hh | hh
   ·exact hF hh
   ·have := HGe.out j hh; omega
   ·omega
  refine ⟨⟨kWF.size, fun i ob hi ho hn => ?_⟩, kWF.mono (fun i e => by rcases e with e | e | e; exact .inl e; exact .inr (.inr (HGe.out i e)); exact .inr (.inl e)), HFw.out.keep kWF (hnf f hfl hfF), HMw.out.keep kWF (hnf m hml hmF), ?_, ?_, HKw.out.trans kWF (fun i e => by rcases e with e | e | e; exact .inl (.inl e); exact .inr (HGe.out i e); exact .inl (.inr e))⟩
  ·refine kWF.heap ho (fun hh => ?_)
   rcases hh with hh | hh | hh
   ·exact hnw i (by omega) hh
   ·obtain ⟨cs, h1⟩ := (rowY.ge HV2.out hh).2
    rw [ho] at h1; cases h1; cases hn
   ·omega
  ·have h1 := HP2.out.keep k2B
   rw [show u + (pre ++ [x]).length = u + pre.length + 1 by rw [List.length_append, List.length_singleton, Nat.add_assoc]]
   exact h1
  ·unfold Hid boxY
   rw [HNx.out]
   exact ⟨_, hvb, kb.row HR9.out (fun i e => by obtain rfl : g9 = i := (by simpa [Value.ownBlock] using e); show ¬ g9 = w.heap.size + 1; omega)⟩
 case own1 => exact hs.2.2.1.out.keep (Keeps.of_grown hgr (fun i e => by have h1 := (hr i e).1; have h2 := HsD.out; have h3 := HAs.out; show w.heap.size ≤ i; omega))
 case own2 =>
  obtain ⟨v, h1, h2⟩ := hs.2.2.2.1.out
  have kk : Keeps (fun i => row = some i) A B := Keeps.of_grown hgr (fun i e => e)
  have hne : ∀ {i : Nat} {cs : Array Value} {t : TypeId} {fr : Nat × Nat}, A.heap[i]? = some (.cells cs t fr) → ¬ row = some i := fun {i cs t fr} hc e => by
   obtain ⟨-, ob, h4, h5⟩ := hr _ e
   rw [hc] at h4; cases h4; cases h5
  refine ⟨v, kk.heap h1 (hne h1), kk.row h2 (fun i hi => ?_)⟩
  obtain ⟨cs, hb⟩ := (rowY.ge h2 hi).2
  exact hne hb
 case own3 => exact hs.2.2.2.2.out.trans (Keeps.of_grown hgr (F := fun i => row = some i) (fun i e => e)) (fun i e => .inr (hr i e).1)
 case st => exact ⟨_, HR1.out, World.ownsRow_nil _ _ _ _⟩
 case own4 =>
  obtain ⟨pb, h1, h2, h3⟩ := hs
  exact ⟨pb, h1, h2, grown_block hgr h3 (fun e => by obtain ⟨-, ob, h4, h5⟩ := hr _ e; rw [h3] at h4; cases h4; cases h5)⟩
 case done =>
  rintro D1 ys W hD1 hys ⟨HFw, HMw, HPw, HBw, HKw⟩ hK1
  have hyl : ys.length = M := by
   have h1 := congrArg List.length hys
   rw [List.length_map, length_upTo, HMM.out] at h1
   exact h1
  rw [hys] at HBw
  rw [hyl] at HPw
  obtain ⟨v, hv1, hv2⟩ := HBw.out
  have c0 : W.cell? ⟨w.heap.size + 1, 0, none⟩ = some v := cell_of_block hv1 0
  have HV2 := hid hv2
  have HKD := hid hK1
  have HHD := hid hD1
  clear hys hyl hv1 hv2 hK1 HBw HSt hD1
  gi_wp2
  have hD1 := HHD.out
  have hWD := HKw.out.size
  have hsA := HAs.out
  have hsD := HsD.out
  have hM1 : M ≤ 138 := by have := HMM.out; unfold fillN at this; omega
  have hg5 := grownBy_putObj' W D1 (.deferred none)
  have k5 : Keeps (fun i => some D1 = some i) W (W.putObj D1 (.deferred none)) := Keeps.of_grown hg5 (fun i e => e)
  have hb0 : Below w.heap.size w wD := HAB.out.trans (HDB.out.mono HAB.out.size)
  have hr5 := k5.row HV2.out (fun i e e2 => by
   cases e2
   obtain ⟨cs, h1⟩ := (rowY.ge HV2.out e).2
   rw [HKD.out] at h1; cases h1)
  refine ⟨by simp, .inl ⟨_, _, rfl, run_takeDeferred HKD.out, ?_⟩⟩
  refine ⟨_, results_ifread rfl, ?_⟩
  refine ⟨_, rfl, rowY.down hr5 (by have h1 := hb0.size; omega), ?_, ?_⟩
  ·exact (((Keeps.of_below hb0 : Keeps F w wD).trans HKw.out (fun i e => e.elim .inl (fun e => .inr (by omega)))).trans k5 (fun i e => .inr (by cases e; omega)))
  ·exact (HPw.out.keep (k5.mono (fun i e => by cases e; show w.heap.size ≤ D1; omega))).pc.more (Nat.le_refl _) (by omega)
 case stop =>
  intro D c pre W hD hpre hx
  exact hx.elim
end
end Go.Proofs.YtndceijbkcjekaaGreat
/- The store's Read. -/
set_option maxRecDepth 100000
namespace Go.Proofs.YtndceijbkcjekaaGreat
open Go.RowKit
theorem getD_partL {sl : List Nat} {a z k : Nat} {Pg : Nat → List UInt8} (j : Nat) (hj : j < min (z - k * 512) 512 - (a - k * 512)) : (partL sl a z Pg k).getD j 0 = (Pg (sl.getD (dslot k) 0)).getD (a - k * 512 + j) 0 := by
 unfold partL
 rw [getD_take _ _ _ hj, getD_drop]
theorem length_partL {sl : List Nat} {a z k : Nat} {Pg : Nat → List UInt8} (hL : (Pg (sl.getD (dslot k) 0)).length = 512) : (partL sl a z Pg k).length = min (z - k * 512) 512 - (a - k * 512) := by
 unfold partL
 rw [List.length_take, List.length_drop, hL]
 omega
section
variable {sk : Nat → Prop} {N ino : Nat} {Pg : Nat → List UInt8} {fs : Nat → Option FileA} {i : Nat} {f : FileA}
theorem GoodX.parts (h : GoodX sk N ino Pg fs) (hf : fs i = some f) (a z : Nat) (haz : a < z) (hz : z ≤ f.data.length) : ∀ d, a / 512 + d ≤ fillN z → partsL f.slots a z Pg (upTo (a / 512) (a / 512 + d)) = (f.data.drop a).take (min z ((a / 512 + d) * 512) - a)
 | 0, _ => by
  rw [Nat.add_zero, upTo_none, show min z (a / 512 * 512) - a = 0 by omega, List.take_zero]
  rfl
 | d + 1, hd => by
  have ih := GoodX.parts h hf a z haz hz d (by omega)
  have hok := h.file i f hf
  have hkz : (a / 512 + d) * 512 < z := by unfold fillN at hd; omega
  have hat := h.at_ hf (k := (a / 512 + d) * 512) (by omega)
  rw [Nat.mul_div_cancel _ (by omega)] at hat
  have hL : (Pg (f.slots.getD (dslot (a / 512 + d)) 0)).length = 512 := h.len _ (hok.in_ _ hat.1).2
  rw [← Nat.add_assoc, upTo_succ (by omega)]
  have e1 : partsL f.slots a z Pg (upTo (a / 512) (a / 512 + d) ++ [a / 512 + d]) = partsL f.slots a z Pg (upTo (a / 512) (a / 512 + d)) ++ partL f.slots a z Pg (a / 512 + d) := by
   unfold partsL; rw [List.flatMap_append, List.flatMap_singleton]
  rw [e1, ih]
  have hl1 : ((f.data.drop a).take (min z ((a / 512 + d) * 512) - a)).length = (a / 512 + d) * 512 - a := by rw [List.length_take, List.length_drop]; omega
  have hl2 := length_partL (z := z) (a := a) hL
  refine List.ext_getElem (by rw [List.length_append, hl1, hl2, List.length_take, List.length_drop]; omega) (fun j h1 h2 => ?_)
  have hj : j < min z ((a / 512 + d + 1) * 512) - a := by rw [List.length_take, List.length_drop] at h2; omega
  rw [List.getElem_take, List.getElem_drop]
  by_cases hc : j < (a / 512 + d) * 512 - a
  ·rw [List.getElem_append_left (by rw [hl1]; exact hc), List.getElem_take, List.getElem_drop]
  ·rw [List.getElem_append_right (by rw [hl1]; omega)]
   have hq : j - ((a / 512 + d) * 512 - a) < min (z - (a / 512 + d) * 512) 512 - (a - (a / 512 + d) * 512) := by omega
   have g1 := getD_partL (sl := f.slots) (Pg := Pg) (k := a / 512 + d) (z := z) (a := a) (j - ((a / 512 + d) * 512 - a)) hq
   have hlt : j - ((f.data.drop a).take (min z ((a / 512 + d) * 512) - a)).length < (partL f.slots a z Pg (a / 512 + d)).length := by rw [hl1, hl2]; exact hq
   have g2 : (partL f.slots a z Pg (a / 512 + d))[j - ((f.data.drop a).take (min z ((a / 512 + d) * 512) - a)).length] = (partL f.slots a z Pg (a / 512 + d)).getD (j - ((a / 512 + d) * 512 - a)) 0 := by
    rw [List.getD_eq_getElem?_getD, List.getElem?_eq_getElem (by rw [hl2]; exact hq)]
    simp only [hl1, Option.getD_some]
   rw [g2, g1]
   have hda := h.data i f hf (a + j) (by omega)
   have e2 : (a + j) / 512 = a / 512 + d := by omega
   have e3 : (a + j) % 512 = a - (a / 512 + d) * 512 + (j - ((a / 512 + d) * 512 - a)) := by omega
   rw [e2, e3] at hda
   unfold FileA.slot at hda
   rw [hda, List.getD_eq_getElem?_getD, List.getElem?_eq_getElem (by omega)]
   rfl
end
section
variable {w w' : World} {s m c ino : Nat} {F : Nat → Prop} {N : Nat} {Pg Cm : Nat → List UInt8} {fs : Nat → Option FileA} {o u : Nat} {i : Nat} {f : FileA}
theorem iRead_none (h : St w s m c F N ino Pg Cm fs o u) (hf : fs i = some f) (hu : u < 900000) (a n : Nat) (ha : f.data.length ≤ a) :
  Calls Tryz.prog 21 #[.pointer (some ⟨s, 0, none⟩), .int .i64 i, .int .i64 a, .int .i64 n] w fun e w' => e = .returned (.tuple #[.slice none 0 0, .int .i64 0]) ∧ Keeps F w w' ∧ St w' s m c F N ino Pg Cm fs o (u + 2) := by
 have HGt := hid (iGet_st h hf (by omega))
 have hok := h.good.file i f hf
 have hnf := h.good.nf
 have HNl : Hid ((nodeC f.node).length = 15) := by unfold Hid nodeC; rw [List.length_append, List.length_map, (hok.node (by omega) h.good.n4).pages]; rfl
 have HN3 : Hid ((nodeC f.node)[3]? = some (.int .i64 f.data.length)) := rfl
 have HFl := hid h.lt
 have ha0 : ¬ ((a : Int) < 0) := by omega
 have hn0 : ¬ ((n : Int) < 0) := by omega
 have hz : (f.data.length : Int) ≤ (a : Int) := by omega
 unfold nodeV at HGt
 clear h hf hok hnf
 have hnc1 := nodeC_one f.node
 generalize nodeC f.node = nc at *
 have HN1 := hid hnc1
 clear hnc1
 go_enter Tryz.func21, Tryz.ntmps21
 go_wp2_with fail
 refine HGt.out.mono ?_
 clear HGt
 rintro e w1 ⟨rfl, hk1, hs1⟩
 have HS1 := hid hs1
 have HK1 := hid hk1
 clear hk1 hs1
 go_wp2_with (refine wpList_store_block rfl 53 (.tmp 10) (.tmp 16) rfl w1.heap.size nc.toArray rfl rfl _ _ (block_new w1 _) (by rw [List.size_toArray, HNl.out]; rfl) (by rw [List.size_toArray, HNl.out]; kernel_rfl) HN1.out ?_; intro w2 hg2 hb2 hz2; have c3 : w2.cell? ⟨w1.heap.size, 3, none⟩ = some (.int .i64 f.data.length) := (by rw [cell_of_block hb2, List.getElem?_toArray]; exact HN3.out); have hb12 : Below w1.heap.size w1 w2 := ((Below.refl _ w1).alloc (Nat.le_refl _) _).grown hg2 (by simp) (fun k e => by cases e; exact Nat.le_refl _); have HB12 := hid hb12; have HR2 := hid hb2; clear hg2 hb2 hz2 hb12)
 go_returns
 exact ⟨rfl, HK1.out.trans (Keeps.of_below HB12.out : Keeps F w1 w2) (fun i e => .inl e), HS1.out.below HB12.out⟩
theorem iRead_st (h : St w s m c F N ino Pg Cm fs o u) (hf : fs i = some f) (hu : u < 900000) (a n : Nat) (ha : a < f.data.length) (hn : 0 < n) (hn7 : n ≤ 1000000) :
  Calls Tryz.prog 21 #[.pointer (some ⟨s, 0, none⟩), .int .i64 i, .int .i64 a, .int .i64 n] w fun e w' => ∃ v, e = .returned (.tuple #[v, .int .i64 0]) ∧ rowY w' w.heap.size v ((f.data.drop a).take n) ∧ Keeps F w w' ∧ St w' s m c F N ino Pg Cm fs o (u + 141) := by
 obtain ⟨z, hz⟩ : ∃ z, z = a + min n (f.data.length - a) := ⟨_, rfl⟩
 have hok := h.good.file i f hf
 have hnf := h.good.nf
 have hsz := hok.size
 have hgp := h.good.parts hf a z (by omega) (by omega) (fillN z - a / 512) (by unfold fillN; omega)
 rw [show a / 512 + (fillN z - a / 512) = fillN z by unfold fillN; omega, show min z (fillN z * 512) - a = min n (f.data.length - a) by unfold fillN; omega] at hgp
 have hgp2 : (f.data.drop a).take (min n (f.data.length - a)) = (f.data.drop a).take n := by
  rw [show min n (f.data.length - a) = min n (f.data.drop a).length by rw [List.length_drop], List.take_eq_take_min.symm]
 rw [hgp2] at hgp
 have HGt := hid (iGet_st h hf (by omega))
 have HOp := hid (fun W D (hm : mapB W m c ino) (hp : Pc W c F 100 N Pg Cm D o (u + 2)) => iopen_good hm hp h.good hf (by omega))
 have HRd := hid (fun W p D (hm : mapB W m c ino) (hW : fileB W p m (f.S i f.data.length)) (hpF : ¬ F p) (hp : Pc W c F 100 N Pg Cm D o (u + 3)) => ifread_any a z hm h.mF hW hpF hok.len (by omega) (by omega) (by omega) (fun k _ hk => hok.lt (by omega) (dslot k)) hp)
 have HGp : Hid (partsL (f.S i f.data.length).slots a z Pg (upTo (a / 512) (fillN z)) = (f.data.drop a).take n) := hgp
 have HNl : Hid ((nodeC f.node).length = 15) := by unfold Hid nodeC; rw [List.length_append, List.length_map, (hok.node (by omega) h.good.n4).pages]; rfl
 have HN3 : Hid ((nodeC f.node)[3]? = some (.int .i64 f.data.length)) := rfl
 have HFl := hid h.lt
 have HGd := hid h.good
 have HFw := hid h.few
 have ha0 : ¬ ((a : Int) < 0) := by omega
 have hn0 : ¬ ((n : Int) < 0) := by omega
 obtain ⟨sz, hszd⟩ : ∃ sz, sz = f.data.length := ⟨_, rfl⟩
 rw [← hszd] at HN3 ha hsz hz
 have hlt : ¬ ((sz : Int) ≤ (a : Int)) := by omega
 have hmn : min (n : Int) ((sz : Int) - (a : Int)) = ((min n (sz - a) : Nat) : Int) := by omega
 have hzz : (a : Int) + ((min n (sz - a) : Nat) : Int) = (z : Int) := by omega
 have hsz7 : (sz : Int) ≤ 70656 := by omega
 have hz7 : (z : Int) ≤ 70656 := by omega
 have HMn := hid hmn
 have HZz := hid hzz
 unfold nodeV at HGt HOp
 unfold gV at HOp
 clear h hf hok hnf hgp hgp2 hz hmn hzz hszd
 have hnc1 := nodeC_one f.node
 generalize nodeC f.node = nc at *
 have HN1 := hid hnc1
 clear hnc1
 go_enter Tryz.func21, Tryz.ntmps21
 go_wp2_with fail
 refine HGt.out.mono ?_
 clear HGt
 rintro e w1 ⟨rfl, hk1, hs1⟩
 have c1 := hs1.store.cell
 have HS1 := hid hs1
 have HK1 := hid hk1
 clear hk1 hs1
 go_wp2_with (refine wpList_store_block rfl 53 (.tmp 10) (.tmp 16) rfl w1.heap.size nc.toArray rfl rfl _ _ (block_new w1 _) (by rw [List.size_toArray, HNl.out]; rfl) (by rw [List.size_toArray, HNl.out]; kernel_rfl) HN1.out ?_; intro w2 hg2 hb2 hz2; have c3 : w2.cell? ⟨w1.heap.size, 3, none⟩ = some (.int .i64 sz) := (by rw [cell_of_block hb2, List.getElem?_toArray]; exact HN3.out); have hb12 : Below w1.heap.size w1 w2 := ((Below.refl _ w1).alloc (Nat.le_refl _) _).grown hg2 (by simp) (fun k e => by cases e; exact Nat.le_refl _); have HB12 := hid hb12; have HR2 := hid hb2; clear hg2 hb2 hz2 hb12)
 have hs2 := HS1.out.below HB12.out
 have hbd : Below w2.heap.size w2 w2.drew := (Below.refl _ w2).drew
 have hs3 := hs2.below hbd
 have hr3 := below_block hbd HR2.out (lt_of_heap HR2.out)
 have d0 := hs3.store.cell
 have d3 := (hbd.cell (World.block_lt_of_cell? w2 _ c3)).trans c3
 have HBd := hid hbd
 have HS3 := hid hs3
 have HR3 := hid hr3
 obtain ⟨D, hp3⟩ := hs3.pc
 have HO3 := hid (HOp.out w2.drew D hs3.map hp3)
 clear hbd hs2 hs3 hp3 HOp c1 c3
 refine wp_region_noPanic ?_
 refine wp_region_held_drew (S := fun W => W.cell? ⟨s, 0, none⟩ = some (.pointer (some ⟨m, 0, none⟩)) ∧ W.heap[w1.heap.size]? = some (.cells nc.toArray 53 (0, 0)) ∧ W.cell? ⟨w1.heap.size, 3, none⟩ = some (.int .i64 sz)) (by kernel_rfl) ⟨d0, hr3, d3⟩ (fun hHeld => ?_)
 clear hr3
 generalize w2.drew = wd at *
 refine wpAnyH_take (i := 0) (v := ?_) rfl (by kernel_rfl) (by kernel_rfl) (by kernel_rfl) (fun _ _ _ h => h) (Or.inl ⟨by rfl, ?_⟩) (by assumption) ?_
 rotate_left
 ·(intro W hSw; (try dsimp only at hSw); obtain ⟨s0, s1, s2⟩ := hSw; go_simp; try with_reducible rfl)
 try simp only [List.getElem_toArray, List.getElem_cons_zero, Act.put, List.setIfInBounds_toArray, List.set_cons_zero, List.set_cons_succ]
 refine wpAnyH_take (i := 1) (v := ?_) rfl (by kernel_rfl) (by kernel_rfl) (by kernel_rfl) (fun _ _ _ h => h) (Or.inl ⟨by rfl, ?_⟩) (by assumption) ?_
 rotate_left
 ·(intro W hSw; (try dsimp only at hSw); obtain ⟨s0, s1, s2⟩ := hSw; go_simp; try with_reducible rfl)
 try simp only [List.getElem_toArray, List.getElem_cons_succ, List.getElem_cons_zero, Act.put, List.setIfInBounds_toArray, List.set_cons_zero, List.set_cons_succ]
 refine wpAnyH_take (i := 2) (v := ?_) rfl (by kernel_rfl) (by kernel_rfl) (by kernel_rfl) (fun _ _ _ h => h) (Or.inl ⟨by rfl, ?_⟩) (by assumption) ?_
 rotate_left
 ·(intro W hSw; (try dsimp only at hSw); obtain ⟨s0, s1, s2⟩ := hSw; go_simp; try with_reducible rfl)
 try simp only [List.getElem_toArray, List.getElem_cons_succ, List.getElem_cons_zero, Act.put, List.setIfInBounds_toArray, List.set_cons_zero, List.set_cons_succ]
 refine wpAnyH_take (i := 3) (v := ?_) rfl (by kernel_rfl) (by kernel_rfl) (by kernel_rfl) (fun _ _ _ h => h) (Or.inl ⟨by rfl, ?_⟩) (by assumption) ?_
 rotate_left
 ·(intro W hSw; (try dsimp only at hSw); obtain ⟨s0, s1, s2⟩ := hSw; go_simp; try with_reducible rfl)
 try simp only [List.getElem_toArray, List.getElem_cons_succ, List.getElem_cons_zero, Act.put, List.setIfInBounds_toArray, List.set_cons_zero, List.set_cons_succ]
 refine wpAnyH_take (i := 4) (v := ?_) rfl (by kernel_rfl) (by kernel_rfl) (by kernel_rfl) (fun _ _ _ h => h) (Or.inl ⟨by rfl, ?_⟩) (by assumption) ?_
 rotate_left
 ·(intro W hSw; (try dsimp only at hSw); obtain ⟨s0, s1, s2⟩ := hSw; go_simp; try with_reducible rfl)
 try simp only [List.getElem_toArray, List.getElem_cons_succ, List.getElem_cons_zero, Act.put, List.setIfInBounds_toArray, List.set_cons_zero, List.set_cons_succ]
 refine wpAnyH_take (i := 5) (v := .agg nc.toArray) rfl (by kernel_rfl) (by kernel_rfl) (by kernel_rfl) (fun _ _ _ h => h) (yieldsIf_load_mid (by rfl) 53 (.tmp 10) rfl w1.heap.size 0 rfl nc _ (fun W hW => by have := range_of_block hW.2.1; exact this) Tryz.underlying53 rfl (by rw [HNl.out]; kernel_rfl)) (by assumption) ?_
 try simp only [List.getElem_toArray, List.getElem_cons_succ, List.getElem_cons_zero, Act.put, List.setIfInBounds_toArray, List.set_cons_zero, List.set_cons_succ]
 refine wpAnyH_take (i := 7) (v := ?_) rfl (by kernel_rfl) (by kernel_rfl) (by kernel_rfl) (fun _ _ _ h => h) (Or.inl ⟨by rfl, ?_⟩) (by assumption) ?_
 rotate_left
 ·(intro W hSw; (try dsimp only at hSw); obtain ⟨s0, s1, s2⟩ := hSw; go_simp; try with_reducible rfl)
 try simp only [List.getElem_toArray, List.getElem_cons_succ, List.getElem_cons_zero, Act.put, List.setIfInBounds_toArray, List.set_cons_zero, List.set_cons_succ]
 refine wpAnyH_take (i := 8) (v := ?_) rfl (by kernel_rfl) (by kernel_rfl) (by kernel_rfl) (fun _ _ _ h => h) (Or.inl ⟨by rfl, ?_⟩) (by assumption) ?_
 rotate_left
 ·(intro W hSw; (try dsimp only at hSw); obtain ⟨s0, s1, s2⟩ := hSw; go_simp; try with_reducible rfl)
 try simp only [List.getElem_toArray, List.getElem_cons_succ, List.getElem_cons_zero, Act.put, List.setIfInBounds_toArray, List.set_cons_zero, List.set_cons_succ]
 refine wpAnyH_take (i := 9) (v := ?_) rfl (by kernel_rfl) (by kernel_rfl) (by kernel_rfl) (fun _ _ _ h => h) (Or.inl ⟨by rfl, ?_⟩) (by assumption) ?_
 rotate_left
 ·(intro W hSw; (try dsimp only at hSw); obtain ⟨s0, s1, s2⟩ := hSw; go_simp; try with_reducible rfl)
 try simp only [List.getElem_toArray, List.getElem_cons_succ, List.getElem_cons_zero, Act.put, List.setIfInBounds_toArray, List.set_cons_zero, List.set_cons_succ]
 refine wpAnyH_take (i := 10) (v := ?_) rfl (by kernel_rfl) (by kernel_rfl) (by kernel_rfl) (fun _ _ _ h => h) (Or.inl ⟨by rfl, ?_⟩) (by assumption) ?_
 rotate_left
 ·(intro W hSw; (try dsimp only at hSw); obtain ⟨s0, s1, s2⟩ := hSw; go_simp; try with_reducible rfl)
 try simp only [List.getElem_toArray, List.getElem_cons_succ, List.getElem_cons_zero, Act.put, List.setIfInBounds_toArray, List.set_cons_zero, List.set_cons_succ]
 refine wpAnyH_take (i := 11) (v := ?_) rfl (by kernel_rfl) (by kernel_rfl) (by kernel_rfl) (fun _ _ _ h => h) (Or.inl ⟨by rfl, ?_⟩) (by assumption) ?_
 rotate_left
 ·(intro W hSw; (try dsimp only at hSw); obtain ⟨s0, s1, s2⟩ := hSw; go_simp; try with_reducible rfl)
 try simp only [List.getElem_toArray, List.getElem_cons_succ, List.getElem_cons_zero, Act.put, List.setIfInBounds_toArray, List.set_cons_zero, List.set_cons_succ]
 refine wpAnyH_take (i := 12) (v := ?_) rfl (by kernel_rfl) (by kernel_rfl) (by kernel_rfl) (fun _ _ _ h => h) (Or.inl ⟨by rfl, ?_⟩) (by assumption) ?_
 rotate_left
 ·(intro W hSw; (try dsimp only at hSw); obtain ⟨s0, s1, s2⟩ := hSw; go_simp; try with_reducible rfl)
 try simp only [List.getElem_toArray, List.getElem_cons_succ, List.getElem_cons_zero, Act.put, List.setIfInBounds_toArray, List.set_cons_zero, List.set_cons_succ]
 have hw1 : IntKind.i64.wrap ((sz : Int) - (a : Int)) = (sz : Int) - (a : Int) := IntWalk.i64_in _ (by omega)
 refine wpAnyH_take (i := 13) (v := .int .i64 ((sz : Int) - (a : Int))) rfl (by kernel_rfl) (by kernel_rfl) (by kernel_rfl) (fun _ _ _ h => h) (Or.inl ⟨by rfl, ?_⟩) (by assumption) ?_
 ·(intro W hSw; (try dsimp only at hSw); obtain ⟨s0, s1, s2⟩ := hSw; go_simp; try first | with_reducible rfl | go_num | (rw [if_pos (by assumption)]; simp only [*]) | simp only [*])
 try simp only [List.getElem_toArray, List.getElem_cons_succ, List.getElem_cons_zero, Act.put, List.setIfInBounds_toArray, List.set_cons_zero, List.set_cons_succ]
 have hmn := HMn.out
 refine wpAnyH_take (i := 14) (v := .int .i64 (min n (sz - a) : Nat)) rfl (by kernel_rfl) (by kernel_rfl) (by kernel_rfl) (fun _ _ _ h => h) (Or.inl ⟨by rfl, ?_⟩) (by assumption) ?_
 ·(intro W hSw; (try dsimp only at hSw); obtain ⟨s0, s1, s2⟩ := hSw; go_simp; try first | with_reducible rfl | go_num | (rw [if_pos (by assumption)]; simp only [*]) | simp only [*])
 try simp only [List.getElem_toArray, List.getElem_cons_succ, List.getElem_cons_zero, Act.put, List.setIfInBounds_toArray, List.set_cons_zero, List.set_cons_succ]
 have hzz := HZz.out
 have hw2 : IntKind.i64.wrap (z : Int) = (z : Int) := IntWalk.i64_in _ (by omega)
 refine wpAnyH_take (i := 15) (v := .int .i64 (z : Int)) rfl (by kernel_rfl) (by kernel_rfl) (by kernel_rfl) (fun _ _ _ h => h) (Or.inl ⟨by rfl, ?_⟩) (by assumption) ?_
 ·(intro W hSw; (try dsimp only at hSw); obtain ⟨s0, s1, s2⟩ := hSw; go_simp; try first | with_reducible rfl | go_num | (rw [if_pos (by assumption)]; simp only [*]) | simp only [*])
 try simp only [List.getElem_toArray, List.getElem_cons_succ, List.getElem_cons_zero, Act.put, List.setIfInBounds_toArray, List.set_cons_zero, List.set_cons_succ]
 clear hw1 hmn hzz hw2
 refine wpAnyH_ready (rs := [6]) (by kernel_rfl) (by simp) (AllReadyH.cons rfl (fun K hK => ?_) AllReadyH.nil)
 rw [if_pos (by rfl)]
 go_simp
 refine HO3.out.mono ?_
 clear HO3
 rintro e w4 ⟨p, rfl, hp4, hf4, hk4, hq4⟩
 have hwl := HB12.out.size
 have hwk := HK1.out.size
 have hwd := HBd.out.size
 have kw4 : Keeps F w w4 := ((HK1.out.trans (Keeps.of_below HB12.out : Keeps F w1 w2) (fun i e => .inl e)).trans (Keeps.of_below HBd.out : Keeps F w2 wd) (fun i e => .inl e)).trans hk4 (fun i e => .inl e)
 have hnF : ∀ j, w.heap.size ≤ j → ¬ F j := fun j hj hh => by have := HFl.out j hh; omega
 have HP4 := hid (HRd.out w4 p D (HS3.out.map.keep hk4 HS3.out.mF) hf4 (hnF p (by omega)) hq4)
 have hst4 := HS3.out.store.keep hk4 HS3.out.sF
 have e0 := hst4.cell
 have r4 := hk4.heap HR3.out (hnF _ (by omega))
 have e3 := hk4.cell d3 (hnF _ (by omega))
 have HST4 : Hid (mapB w4 m c ino ∧ storeB w4 s m) := ⟨HS3.out.map.keep hk4 HS3.out.mF, hst4⟩
 have HR4 := hid r4
 have HK4 := hid kw4
 have HNF := hid hnF
 clear hf4 hk4 hq4 kw4 hst4 hnF HRd HR3 d0 d3
 go_wp2_with fail
 refine hK.out _ _ ⟨e0, r4, e3⟩ (fun hHeld => ?_)
 clear hK K r4
 try simp only [List.getElem_toArray, List.getElem_cons_succ, List.getElem_cons_zero, Act.put, List.setIfInBounds_toArray, List.set_cons_zero, List.set_cons_succ]
 refine wpAnyH_ready (rs := [16]) (by kernel_rfl) (by simp) (AllReadyH.cons rfl (fun K hK => ?_) AllReadyH.nil)
 rw [if_pos (by rfl)]
 go_simp
 refine HP4.out.mono ?_
 clear HP4
 rintro e w5 ⟨v, rfl, hr5, hk5, hp5⟩
 have r5 := hk5.heap HR4.out (HNF.out _ (by omega))
 have g3 := hk5.cell e3 (HNF.out _ (by omega))
 have hst5 : St w5 s m c F N ino Pg Cm fs o (u + 141) := ⟨HST4.out.1.keep hk5 HS3.out.mF, HST4.out.2.keep hk5 HS3.out.sF, HS3.out.mF, HS3.out.sF, HFw.out, ⟨D, hp5⟩, HGd.out⟩
 have g0 := hst5.store.cell
 have HST5 := hid hst5
 rw [HGp.out] at hr5
 have HR5 := hid (rowY.down (b' := w.heap.size) hr5 HK4.out.size)
 have HK5 : Hid (Keeps F w w5) := HK4.out.trans hk5 (fun i e => .inl e)
 clear hr5 hk5 hst5 e0 e3 hp5
 go_wp2_with fail
 refine hK.out _ _ ⟨g0, r5, g3⟩ (fun hHeld => ?_)
 clear hK K
 try simp only [List.getElem_toArray, List.getElem_cons_succ, List.getElem_cons_zero, Act.put, List.setIfInBounds_toArray, List.set_cons_zero, List.set_cons_succ]
 refine wpAnyH_take (i := 17) (v := ?_) rfl (by kernel_rfl) (by kernel_rfl) (by kernel_rfl) (fun _ _ _ h => h) (Or.inl ⟨by rfl, ?_⟩) (by assumption) ?_
 rotate_left
 ·(intro W hSw; (try dsimp only at hSw); obtain ⟨s0, s1, s2⟩ := hSw; go_simp; try with_reducible rfl)
 try simp only [List.getElem_toArray, List.getElem_cons_succ, List.getElem_cons_zero, Act.put, List.setIfInBounds_toArray, List.set_cons_zero, List.set_cons_succ]
 refine wpAnyH_take (i := 18) (v := ?_) rfl (by kernel_rfl) (by kernel_rfl) (by kernel_rfl) (fun _ _ _ h => h) (Or.inl ⟨by rfl, ?_⟩) (by assumption) ?_
 rotate_left
 ·(intro W hSw; (try dsimp only at hSw); obtain ⟨s0, s1, s2⟩ := hSw; go_simp; try with_reducible rfl)
 try simp only [List.getElem_toArray, List.getElem_cons_succ, List.getElem_cons_zero, Act.put, List.setIfInBounds_toArray, List.set_cons_zero, List.set_cons_succ]
 refine wpAnyH_done (by kernel_rfl) ?_ _
 refine NoPanic.normal ?_
 clear hHeld
 go_wp2_with fail
 go_returns
 exact ⟨v, rfl, HR5.out, HK5.out, HST5.out⟩
end
end Go.Proofs.YtndceijbkcjekaaGreat
/- The store's Resize and Drop. -/
set_option maxRecDepth 100000
namespace Go.Proofs.YtndceijbkcjekaaGreat
open Go.RowKit
section
variable {w w' : World} {s m c ino : Nat} {F : Nat → Prop} {N : Nat} {Pg Cm : Nat → List UInt8} {fs : Nat → Option FileA} {o u : Nat} {i : Nat} {f : FileA}
theorem iResize_by (h : St w s m c F N ino Pg Cm fs o u) (hf : fs i = some f) (hu : u < 900000) (a : Nat) (ha7 : a ≤ 70656) (R Q : Int → World → Prop)
  (hw : ∀ W p D, Keeps F w W → Pc W c F 100 N Pg Cm D o (u + 3) → mapB W m c ino → fileB W p m (f.S i f.data.length) → w.heap.size ≤ p →
   Calls Tryz.prog 72 #[.pointer (some ⟨p, 0, none⟩), .int .i64 a] W fun e w' => ∃ r : Int, e = .returned (.int .i64 r) ∧ Keeps (fun i => F i ∨ i = p) W w' ∧ R r w')
  (hen : ∀ W r, storeB W s m → mapB W m c ino → R r W → Calls Tryz.prog 46 #[.pointer (some ⟨s, 0, none⟩), .int .i64 r] W fun e w' => e = .returned (.int .i64 r) ∧ Keeps F W w' ∧ Q r w') :
  Calls Tryz.prog 31 #[.pointer (some ⟨s, 0, none⟩), .int .i64 i, .int .i64 a] w fun e w' => ∃ r : Int, e = .returned (.int .i64 r) ∧ Keeps F w w' ∧ Q r w' := by
 have HGt := hid (iGet_st h hf (by omega))
 have HOp := hid (fun W D (hm : mapB W m c ino) (hp : Pc W c F 100 N Pg Cm D o (u + 2)) => iopen_good hm hp h.good hf (by omega))
 have HWr := hid hw
 have HEn0 := hid hen
 have hok := h.good.file i f hf
 have hnf := h.good.nf
 have HNl : Hid ((nodeC f.node).length = 15) := by unfold Hid nodeC; rw [List.length_append, List.length_map, (hok.node (by omega) h.good.n4).pages]; rfl
 have ha0 : ¬ ((a : Int) < 0) := by omega
 have ha1 : ¬ ((70656 : Int) < (a : Int)) := by omega
 have HFl := hid h.lt
 have HSl : Hid (s < w.heap.size) := lt_of_heap h.store
 have HMl : Hid (m < w.heap.size) := lt_of_heap h.map
 unfold nodeV at HGt HOp
 unfold gV at HOp
 clear hw h hf hok hnf hen
 have hnc1 := nodeC_one f.node
 generalize nodeC f.node = nc at *
 have HN1 := hid hnc1
 clear hnc1
 go_enter Tryz.func31, Tryz.ntmps31
 go_wp2_with fail
 refine HGt.out.mono ?_
 clear HGt
 rintro e w1 ⟨rfl, hk1, hs1⟩
 have c1 := hs1.store.cell
 have HS1 := hid hs1
 have HK1 := hid hk1
 clear hk1 hs1
 go_wp2_with (refine wpList_store_block rfl 53 (.tmp 7) (.tmp 13) rfl w1.heap.size nc.toArray rfl rfl _ _ (block_new w1 _) (by rw [List.size_toArray, HNl.out]; rfl) (by rw [List.size_toArray, HNl.out]; kernel_rfl) HN1.out ?_; intro w2 hg2 hb2 hz2)
 have hb12 : Below w1.heap.size w1 w2 := ((Below.refl _ w1).alloc (Nat.le_refl _) _).grown hg2 (by simp) (fun k e => by cases e; exact Nat.le_refl _)
 have hs2 := HS1.out.below hb12
 have HB12 := hid hb12
 have HS2 := hid hs2
 have HR2 := hid hb2
 have hbd : Below w2.heap.size w2 w2.drew := (Below.refl _ w2).drew
 have hs3 := hs2.below hbd
 have hr3 := below_block hbd hb2 (lt_of_heap hb2)
 have d0 := hs3.store.cell
 have HBd := hid hbd
 have HS3 := hid hs3
 have HR3 := hid hr3
 obtain ⟨D, hp3⟩ := hs3.pc
 have HO3 := hid (HOp.out w2.drew D hs3.map hp3)
 clear hg2 hz2 hbd hs2 hb12 hs3 hp3 HOp c1
 refine wp_region_noPanic ?_
 refine wp_region_held_drew (S := fun W => W.cell? ⟨s, 0, none⟩ = some (.pointer (some ⟨m, 0, none⟩)) ∧ W.heap[w1.heap.size]? = some (.cells nc.toArray 53 (0, 0))) (by kernel_rfl) ⟨d0, hr3⟩ (fun hHeld => ?_)
 clear hb2 hr3
 generalize w2.drew = wd at *
 refine wpAnyH_take (i := 0) (v := ?_) rfl (by kernel_rfl) (by kernel_rfl) (by kernel_rfl) (fun _ _ _ h => h) (Or.inl ⟨by rfl, ?_⟩) (by assumption) ?_
 rotate_left
 ·(intro W hSw; (try dsimp only at hSw); obtain ⟨s0, s1⟩ := hSw; go_simp; try with_reducible rfl)
 try simp only [List.getElem_toArray, List.getElem_cons_zero, Act.put, List.setIfInBounds_toArray, List.set_cons_zero, List.set_cons_succ]
 refine wpAnyH_take (i := 1) (v := ?_) rfl (by kernel_rfl) (by kernel_rfl) (by kernel_rfl) (fun _ _ _ h => h) (Or.inl ⟨by rfl, ?_⟩) (by assumption) ?_
 rotate_left
 ·(intro W hSw; (try dsimp only at hSw); obtain ⟨s0, s1⟩ := hSw; go_simp; try with_reducible rfl)
 try simp only [List.getElem_toArray, List.getElem_cons_succ, List.getElem_cons_zero, Act.put, List.setIfInBounds_toArray, List.set_cons_zero, List.set_cons_succ]
 refine wpAnyH_take (i := 2) (v := ?_) rfl (by kernel_rfl) (by kernel_rfl) (by kernel_rfl) (fun _ _ _ h => h) (Or.inl ⟨by rfl, ?_⟩) (by assumption) ?_
 rotate_left
 ·(intro W hSw; (try dsimp only at hSw); obtain ⟨s0, s1⟩ := hSw; go_simp; try with_reducible rfl)
 try simp only [List.getElem_toArray, List.getElem_cons_succ, List.getElem_cons_zero, Act.put, List.setIfInBounds_toArray, List.set_cons_zero, List.set_cons_succ]
 refine wpAnyH_take (i := 3) (v := ?_) rfl (by kernel_rfl) (by kernel_rfl) (by kernel_rfl) (fun _ _ _ h => h) (Or.inl ⟨by rfl, ?_⟩) (by assumption) ?_
 rotate_left
 ·(intro W hSw; (try dsimp only at hSw); obtain ⟨s0, s1⟩ := hSw; go_simp; try with_reducible rfl)
 try simp only [List.getElem_toArray, List.getElem_cons_succ, List.getElem_cons_zero, Act.put, List.setIfInBounds_toArray, List.set_cons_zero, List.set_cons_succ]
 refine wpAnyH_take (i := 4) (v := ?_) rfl (by kernel_rfl) (by kernel_rfl) (by kernel_rfl) (fun _ _ _ h => h) (Or.inl ⟨by rfl, ?_⟩) (by assumption) ?_
 rotate_left
 ·(intro W hSw; (try dsimp only at hSw); obtain ⟨s0, s1⟩ := hSw; go_simp; try with_reducible rfl)
 try simp only [List.getElem_toArray, List.getElem_cons_succ, List.getElem_cons_zero, Act.put, List.setIfInBounds_toArray, List.set_cons_zero, List.set_cons_succ]
 refine wpAnyH_take (i := 5) (v := ?_) rfl (by kernel_rfl) (by kernel_rfl) (by kernel_rfl) (fun _ _ _ h => h) (Or.inl ⟨by rfl, ?_⟩) (by assumption) ?_
 rotate_left
 ·(intro W hSw; (try dsimp only at hSw); obtain ⟨s0, s1⟩ := hSw; go_simp; try with_reducible rfl)
 try simp only [List.getElem_toArray, List.getElem_cons_succ, List.getElem_cons_zero, Act.put, List.setIfInBounds_toArray, List.set_cons_zero, List.set_cons_succ]
 refine wpAnyH_take (i := 6) (v := .agg nc.toArray) rfl (by kernel_rfl) (by kernel_rfl) (by kernel_rfl) (fun _ _ _ h => h) (yieldsIf_load_mid (by rfl) 53 (.tmp 7) rfl w1.heap.size 0 rfl nc _ (fun W hW => by have := range_of_block hW.2; exact this) Tryz.underlying53 rfl (by rw [HNl.out]; kernel_rfl)) (by assumption) ?_
 try simp only [List.getElem_toArray, List.getElem_cons_succ, List.getElem_cons_zero, Act.put, List.setIfInBounds_toArray, List.set_cons_zero, List.set_cons_succ]
 refine wpAnyH_take (i := 8) (v := ?_) rfl (by kernel_rfl) (by kernel_rfl) (by kernel_rfl) (fun _ _ _ h => h) (Or.inl ⟨by rfl, ?_⟩) (by assumption) ?_
 rotate_left
 ·(intro W hSw; (try dsimp only at hSw); obtain ⟨s0, s1⟩ := hSw; go_simp; try with_reducible rfl)
 try simp only [List.getElem_toArray, List.getElem_cons_succ, List.getElem_cons_zero, Act.put, List.setIfInBounds_toArray, List.set_cons_zero, List.set_cons_succ]
 refine wpAnyH_ready (rs := [7]) (by kernel_rfl) (by simp) (AllReadyH.cons rfl (fun K hK => ?_) AllReadyH.nil)
 rw [if_pos (by rfl)]
 go_simp
 refine HO3.out.mono ?_
 clear HO3
 rintro e w4 ⟨p, rfl, hp4, hf4, hk4, hq4⟩
 have hwl := HB12.out.size
 have hwk := HK1.out.size
 have hwd := HBd.out.size
 have kw4 : Keeps F w w4 := ((HK1.out.trans (Keeps.of_below HB12.out : Keeps F w1 w2) (fun i e => .inl e)).trans (Keeps.of_below HBd.out : Keeps F w2 wd) (fun i e => .inl e)).trans hk4 (fun i e => .inl e)
 have hnF : ∀ j, w.heap.size ≤ j → ¬ F j := fun j hj hh => by have := HFl.out j hh; omega
 have HW4 := hid (HWr.out w4 p D kw4 hq4 (HS3.out.map.keep hk4 HS3.out.mF) hf4 (by omega))
 have hst4 := HS3.out.store.keep hk4 HS3.out.sF
 have e0 := hst4.cell
 have r4 := hk4.heap HR3.out (hnF _ (by omega))
 have HST4 := hid hst4
 have HMp4 := hid (HS3.out.map.keep hk4 HS3.out.mF)
 have HR4 := hid r4
 have HK4 := hid kw4
 have HNF := hid hnF
 have HP4 := hid hp4
 clear hf4 hk4 hq4 kw4 hst4 hnF HWr HR3 d0
 go_wp2_with fail
 refine hK.out _ _ ⟨e0, r4⟩ (fun hHeld => ?_)
 clear hK K r4
 try simp only [List.getElem_toArray, List.getElem_cons_succ, List.getElem_cons_zero, Act.put, List.setIfInBounds_toArray, List.set_cons_zero, List.set_cons_succ]
 refine wpAnyH_ready (rs := [9]) (by kernel_rfl) (by simp) (AllReadyH.cons rfl (fun K hK => ?_) AllReadyH.nil)
 rw [if_pos (by rfl)]
 go_simp
 refine HW4.out.mono ?_
 clear HW4
 rintro e w5 ⟨r, rfl, hk5, hR5⟩
 have hp4 := HP4.out
 have hsl := HSl.out
 have hbl := lt_of_heap HR2.out
 have hst5 := HST4.out.keep hk5 (fun hh => hh.elim HS3.out.sF (fun e => by omega))
 have r5 := hk5.heap HR4.out (fun hh => hh.elim (HNF.out _ (by omega)) (fun e => by omega))
 have g0 := hst5.cell
 have hm5 := HMp4.out.keep hk5 (fun hh => hh.elim HS3.out.mF (fun e => by have := HMl.out; omega))
 have HEn := hid (HEn0.out w5 r hst5 hm5 hR5)
 have HK5 : Hid (Keeps F w w5) := HK4.out.trans hk5 (fun i e => e.elim .inl (fun e => .inr (by omega)))
 have HST5 := hid hst5
 have HR5 := hid r5
 clear hk5 hR5 hst5 hp4 hsl hbl e0 hm5
 go_wp2_with fail
 refine hK.out _ _ ⟨g0, r5⟩ (fun hHeld => ?_)
 clear hK K
 try simp only [List.getElem_toArray, List.getElem_cons_succ, List.getElem_cons_zero, Act.put, List.setIfInBounds_toArray, List.set_cons_zero, List.set_cons_succ]
 refine wpAnyH_ready (rs := [10]) (by kernel_rfl) (by simp) (AllReadyH.cons rfl (fun K hK => ?_) AllReadyH.nil)
 rw [if_pos (by rfl)]
 go_simp
 refine HEn.out.mono ?_
 clear HEn
 rintro e w6 ⟨rfl, hk6, hQ6⟩
 have g6 := (HST5.out.keep hk6 HS3.out.sF).cell
 have r6 := hk6.heap HR5.out (HNF.out _ (by have := HB12.out.size; have := HK1.out.size; omega))
 have HK6 := hid (HK5.out.trans hk6 (fun i e => .inl e))
 have HQ6 := hid hQ6
 clear hk6 hQ6 g0 r5
 go_wp2_with fail
 refine hK.out _ _ ⟨g6, r6⟩ (fun hHeld => ?_)
 clear hK K
 try simp only [List.getElem_toArray, List.getElem_cons_succ, List.getElem_cons_zero, Act.put, List.setIfInBounds_toArray, List.set_cons_zero, List.set_cons_succ]
 refine wpAnyH_take (i := 11) (v := ?_) rfl (by kernel_rfl) (by kernel_rfl) (by kernel_rfl) (fun _ _ _ h => h) (Or.inl ⟨by rfl, ?_⟩) (by assumption) ?_
 rotate_left
 ·(intro W hSw; (try dsimp only at hSw); obtain ⟨s0, s1⟩ := hSw; go_simp; try with_reducible rfl)
 try simp only [List.getElem_toArray, List.getElem_cons_succ, List.getElem_cons_zero, Act.put, List.setIfInBounds_toArray, List.set_cons_zero, List.set_cons_succ]
 refine wpAnyH_done (by kernel_rfl) ?_ _
 refine NoPanic.normal ?_
 clear hHeld
 go_wp2_with fail
 go_ret
 exact ⟨r, rfl, HK6.out, HQ6.out⟩
end
end Go.Proofs.YtndceijbkcjekaaGreat
/- Files that are resized, or go. -/
set_option maxRecDepth 100000
namespace Go.Proofs.YtndceijbkcjekaaGreat
open Go.RowKit
section
variable {w w' : World} {m c ino p : Nat} {F : Nat → Prop} {size N : Nat} {Pg Cm : Nat → List UInt8} {fs : Nat → Option FileA} {o u k kk : Nat} {i : Nat} {f : FileA}
theorem ifresize_good (hm : mapB w m c ino) (hmF : ¬ F m) (hp : Pe w c F size N Pg Cm o u (k + kk)) (hg : GoodX noSk N ino Pg fs) (hf : fs i = some f) (hfi : fileB w p m (f.S i f.data.length)) (hpF : ¬ F p) (hmp : m ≠ p) (hu : u < 880000) (t : Nat) (ht : t ≤ 70656)
  (hkk : 1 + 2 * (needN t - f.cnt) + (f.cnt - needN t) + 2 ≤ kk) :
  Calls Tryz.prog 72 #[.pointer (some ⟨p, 0, none⟩), .int .i64 t] w fun e w' => Keeps (fun i => F i ∨ i = p) w w' ∧
   ((needN t - f.cnt ≤ (frL Pg N ino).length ∧ e = .returned (.int .i64 0) ∧ ∃ Pg' f', f'.kind = f.kind ∧ f'.mode = f.mode ∧ f'.links = f.links ∧ f'.data = rsz f.data t ∧ GoodX noSk N ino Pg' (updA fs i (some f')) ∧ Pe w' c F size N Pg' Cm o (u + 150) k) ∨
   ((frL Pg N ino).length < needN t - f.cnt ∧ e = .returned (.int .i64 7) ∧ ∃ Pg' D', Pc w' c F size N Pg' Cm D' o (u + 150))) := by
 have HHo := hid (ihold_good (k := k + 2) (kk := kk - 2) hm hmF (by obtain ⟨D, h1, h2⟩ := hp; exact ⟨D, h1.le (by omega), h2⟩) hg hf hfi hpF (by omega) t ht (by omega))
 have HG := hid hg
 have HFs := hid hf
 have HMp := hid hm
 clear hp hg hf hfi hm hkk
 go_enter Tryz.func72, Tryz.ntmps72
 go_wp2_with fail
 refine HHo.out.mono ?_
 clear HHo
 rintro e w1 ⟨hk1, ⟨hy, rfl, hf1, hp1⟩ | ⟨hx, rfl, Pg', D', hp1⟩⟩
 ·obtain ⟨q1, q2, q3, q4, q5, q6⟩ := HG.out.hold HFs.out t ht hy
  have HSv := hid (isave_good (z := t) hmF q6 (updA_self _ _ _) (by rw [q4, length_rsz]) q5 hpF (by omega) hf1 (HMp.out.keep hk1 (fun hh => hh.elim hmF hmp)) hp1)
  have HQ := hid (And.intro q1 (And.intro q2 (And.intro q3 (And.intro q4 (And.intro q5 q6)))))
  have HK1 := hid hk1
  clear hk1 hf1 hp1 q1 q2 q3 q4 q5 q6
  go_wp2_with fail
  refine HSv.out.mono ?_
  clear HSv
  rintro e w2 ⟨rfl, hk2, hp2⟩
  have HK2 := hid hk2
  have HP2 := hid hp2
  clear hk2 hp2
  go_wp2_with fail
  go_ret
  obtain ⟨q1, q2, q3, q4, q5, q6⟩ := HQ.out
  refine ⟨HK1.out.trans HK2.out (fun i e => .inl (.inl e)), .inl ⟨hy, rfl, _, _, q1, q2, q3, q4, q6.save (updA_self _ _ _) (by rw [q4, length_rsz]; exact q5), ?_⟩⟩
  obtain ⟨D, h1, h2⟩ := HP2.out
  exact ⟨D, h1, h2.more (Nat.le_refl _) (by omega)⟩
 ·have HK1 := hid hk1
  have HP1 := hid hp1
  clear hk1 hp1
  go_wp2_with fail
  go_ret
  exact ⟨HK1.out, .inr ⟨hx, rfl, Pg', D', HP1.out.more (Nat.le_refl _) (by omega)⟩⟩
end
end Go.Proofs.YtndceijbkcjekaaGreat
/- Resize and Drop of the store. -/
namespace Go.Proofs.YtndceijbkcjekaaGreat
open Go.RowKit
section
variable {w w' : World} {s m c ino : Nat} {F : Nat → Prop} {N : Nat} {Pg Cm : Nat → List UInt8} {fs cs : Nat → Option FileA} {o u : Nat} {i : Nat} {f : FileA}
def ChgTo (w' : World) (s m c : Nat) (F : Nat → Prop) (N ino : Nat) (Cm : Nat → List UInt8) (fs : Nat → Option FileA) (o u i : Nat) (f : FileA) (d : List UInt8) : Prop :=
 ∃ Pg' f', f'.kind = f.kind ∧ f'.mode = f.mode ∧ f'.links = f.links ∧ f'.data = d ∧ St w' s m c F N ino Pg' Cm (updA fs i (some f')) o u
theorem iResize_ok (h : St w s m c F N ino Pg Cm fs o u) (hf : fs i = some f) (hu : u < 800000) (t : Nat) (ht : t ≤ 70656) (hfr : needN t - f.cnt ≤ (frL Pg N ino).length) :
  Calls Tryz.prog 31 #[.pointer (some ⟨s, 0, none⟩), .int .i64 i, .int .i64 t] w fun e w' => e = .returned (.int .i64 0) ∧ Keeps F w w' ∧ ChgTo w' s m c F N ino Cm fs o (u + 303) i f (rsz f.data t) := by
 refine (iResize_by h hf (by omega) t ht
  (fun r W => r = 0 ∧ ∃ Pg' f', f'.kind = f.kind ∧ f'.mode = f.mode ∧ f'.links = f.links ∧ f'.data = rsz f.data t ∧ GoodX noSk N ino Pg' (updA fs i (some f')) ∧ ∃ D', Pc W c F 100 N Pg' Cm D' o (u + 303))
  (fun r W => r = 0 ∧ ∃ Pg' f', f'.kind = f.kind ∧ f'.mode = f.mode ∧ f'.links = f.links ∧ f'.data = rsz f.data t ∧ GoodX noSk N ino Pg' (updA fs i (some f')) ∧ ∃ D', Pc W c F 100 N Pg' Cm D' o (u + 303))
  (fun W p D hk hp hm hfi hpl => ?_) (fun W r hs hm hR => ?_)).mono ?_
 ·have hml : m < w.heap.size := lt_of_heap h.map
  refine (ifresize_good (k := 0) (kk := 1 + 2 * (needN t - f.cnt) + (f.cnt - needN t) + 2) hm h.mF ⟨D, rm100 h.few _ _, hp⟩ h.good hf hfi (fun hh => by have := h.lt _ hh; omega) (by omega) (by omega) t ht (Nat.le_refl _)).mono ?_
  rintro e w' ⟨hk', ⟨hy, rfl, Pg', f', h1, h2, h3, h4, h5, D', -, h6⟩ | ⟨hx, -⟩⟩
  ·exact ⟨0, rfl, hk', rfl, Pg', f', h1, h2, h3, h4, h5, D', h6.more (Nat.le_refl _) (by omega)⟩
  ·exact absurd hfr (Nat.not_le.2 hx)
 ·obtain ⟨rfl, hR⟩ := hR
  refine (iend_ok s W).mono ?_
  rintro e w' ⟨rfl, rfl⟩
  exact ⟨rfl, Keeps.refl _ _, rfl, hR⟩
 ·rintro e w' ⟨r, rfl, hk, rfl, Pg', f', h1, h2, h3, h4, h5, h6⟩
  exact ⟨rfl, hk, Pg', f', h1, h2, h3, h4, h.map.keep hk h.mF, h.store.keep hk h.sF, h.mF, h.sF, h.few, h6, h5⟩
end
end Go.Proofs.YtndceijbkcjekaaGreat
/- How many pages and inodes are free. -/
namespace Go.Proofs.YtndceijbkcjekaaGreat
open Go.RowKit
def cntO : Option FileA → Nat
 | some f => f.cnt
 | none => 0
def slotsO : Option FileA → List Nat
 | some f => (List.range f.cnt).map f.slot
 | none => []
def sumC (fs : Nat → Option FileA) (n : Nat) : Nat := ((List.range n).map (fun i => cntO (fs i))).sum
def allS (fs : Nat → Option FileA) (n : Nat) : List Nat := (List.range n).flatMap (fun i => slotsO (fs i))
theorem length_slotsO (a : Option FileA) : (slotsO a).length = cntO a := by cases a <;> simp [slotsO, cntO]
theorem mem_slotsO {a : Option FileA} {p : Nat} : p ∈ slotsO a ↔ ∃ f j, a = some f ∧ j < f.cnt ∧ f.slot j = p := by
 cases a with
 | none => simp [slotsO]
 | some f => simp [slotsO]
theorem length_allS (fs : Nat → Option FileA) (n : Nat) : (allS fs n).length = sumC fs n := by
 unfold allS sumC
 rw [List.length_flatMap]
 congr 1
 exact List.map_congr_left (fun i _ => length_slotsO _)
theorem mem_freeTo {L : List UInt8} {a z p : Nat} (hz : z ≤ 4096) : p ∈ freeTo L a z 4096 ↔ a ≤ p ∧ p < z ∧ bitL L p = false := by
 unfold freeTo isFree
 rw [List.mem_filter, List.mem_range]
 simp
 constructor
 ·intro h; exact ⟨h.2.1.1, h.2.1.2, h.2.2⟩
 ·intro h; exact ⟨by omega, ⟨h.1, h.2.1⟩, h.2.2⟩
theorem nodup_freeTo (L : List UInt8) (a z : Nat) : (freeTo L a z 4096).Nodup := List.Pairwise.filter _ List.nodup_range
section
variable {sk : Nat → Prop} {N ino : Nat} {Pg : Nat → List UInt8} {fs : Nat → Option FileA} {i : Nat} {f : FileA}
theorem GoodX.nodupS (h : GoodX sk N ino Pg fs) : (allS fs ino).Nodup := by
 unfold allS List.Nodup
 rw [List.pairwise_flatMap]
 constructor
 ·intro i _
  unfold slotsO
  split
  ·rename_i f hf
   rw [List.pairwise_map]
   refine (List.nodup_range (n := f.cnt)).imp_of_mem (fun {a b} ha hb hab e => hab ?_)
   exact (h.apart i f a i f b hf hf (List.mem_range.1 ha) (List.mem_range.1 hb) e).2
  ·exact List.Pairwise.nil
 ·refine (List.nodup_range (n := ino)).imp (fun {a b} hab => ?_)
  intro p hp q hq e
  obtain ⟨f, j, h1, h2, h3⟩ := mem_slotsO.1 hp
  obtain ⟨g, k, h4, h5, h6⟩ := mem_slotsO.1 hq
  exact hab (h.apart a f j b g k h1 h4 h2 h5 (by rw [h3, h6, e])).1
theorem GoodX.free (h : GoodX sk N ino Pg fs) : (frL Pg N ino).length + sumC fs ino + (3 + ino / 8) = N := by
 have hnf := h.nf
 have hn4 := h.n4
 have hmem : ∀ p, p ∈ allS fs ino ↔ 3 + ino / 8 ≤ p ∧ p < N ∧ bitL (Pg 2) p = true := fun p => by
  unfold allS
  rw [List.mem_flatMap]
  constructor
  ·rintro ⟨i, -, hp⟩
   obtain ⟨f, j, h1, h2, h3⟩ := mem_slotsO.1 hp
   have h4 := (h.file i f h1).in_ j h2
   rw [h3] at h4
   exact ⟨h4.1, h4.2, (h.pbit p h4.1 h4.2).2 ⟨i, f, j, h1, h2, h3⟩⟩
  ·rintro ⟨h1, h2, h3⟩
   obtain ⟨i, f, j, h4, h5, h6⟩ := (h.pbit p h1 h2).1 h3
   exact ⟨i, List.mem_range.2 (h.out i f h4).2, mem_slotsO.2 ⟨f, j, h4, h5, h6⟩⟩
 have hnd : (allS fs ino ++ frL Pg N ino).Nodup := by
  rw [List.nodup_append]
  refine ⟨h.nodupS, nodup_freeTo _ _ _, fun p hp q hq e => ?_⟩
  have h1 := (hmem p).1 hp
  have h2 := (mem_freeTo hn4).1 hq
  rw [← e] at h2
  rw [h1.2.2] at h2
  cases h2.2.2
 have hp : List.Perm (allS fs ino ++ frL Pg N ino) (List.range' (3 + ino / 8) (N - (3 + ino / 8))) := (List.perm_ext_iff_of_nodup hnd (List.nodup_range' (step := 1))).2 (fun p => by
  rw [List.mem_append, hmem, List.mem_range'_1]
  unfold frL
  rw [mem_freeTo hn4]
  constructor
  ·rintro (h1 | h1) <;> omega
  ·intro h1
   cases hb : bitL (Pg 2) p
   ·exact .inr ⟨by omega, by omega, rfl⟩
   ·exact .inl ⟨by omega, by omega, rfl⟩)
 have hl := hp.length_eq
 rw [List.length_append, length_allS, List.length_range'] at hl
 omega
end
theorem sum_upd (fs : Nat → Option FileA) (i : Nat) (g : Option FileA) : ∀ n, i < n → sumC (updA fs i g) n + cntO (fs i) = sumC fs n + cntO g := by
 have hlow : ∀ n, n ≤ i → sumC (updA fs i g) n = sumC fs n := fun n hn => by
  unfold sumC
  congr 1
  refine List.map_congr_left (fun j hj => ?_)
  rw [updA_ne (by have := List.mem_range.1 hj; omega)]
 intro n
 induction n with
 | zero => intro h; omega
 | succ n ih =>
  intro hin
  have e1 : ∀ fs : Nat → Option FileA, sumC fs (n + 1) = sumC fs n + cntO (fs n) := fun fs => by unfold sumC; rw [List.range_succ, List.map_append, List.sum_append]; simp
  rw [e1, e1]
  by_cases e : i = n
  ·subst e
   rw [hlow i (Nat.le_refl _), updA_self]; omega
  ·have := ih (by omega)
   rw [updA_ne (fun h => e h.symm)]; omega
theorem sum_none (n : Nat) : sumC (fun _ => none) n = 0 := by
 unfold sumC
 induction n with
 | zero => rfl
 | succ n ih => rw [List.range_succ, List.map_append, List.sum_append, ih]; rfl
end Go.Proofs.YtndceijbkcjekaaGreat
/- The store's Set. -/
namespace Go.Proofs.YtndceijbkcjekaaGreat
open Go.RowKit
end Go.Proofs.YtndceijbkcjekaaGreat
/- Write to a new file, Read of all bytes, Set of any numbers. -/
set_option maxRecDepth 100000
namespace Go.Proofs.YtndceijbkcjekaaGreat
open Go.RowKit
theorem wrD_nil (l : List UInt8) : wrD [] 0 l = l := by
 refine List.ext_getElem (by rw [length_wrD]; simp) (fun j h1 h2 => ?_)
 have h3 := getD_wrD [] 0 l j (by simpa using h2)
 rw [List.getD_eq_getElem?_getD, List.getElem?_eq_getElem h1, if_pos ⟨by omega, by omega⟩, List.getD_eq_getElem?_getD, Nat.sub_zero, List.getElem?_eq_getElem h2] at h3
 exact h3
section
variable {w w' : World} {s m c ino : Nat} {F : Nat → Prop} {N : Nat} {Pg Cm : Nat → List UInt8} {fs : Nat → Option FileA} {o u : Nat} {i : Nat} {f : FileA}
theorem iWrite_zero (h : St w s m c F N ino Pg Cm fs o u) (hf : fs i = some f) (hu : u < 900000) (a cp : Nat) (ad : Option Addr) :
  Calls Tryz.prog 23 #[.pointer (some ⟨s, 0, none⟩), .int .i64 i, .int .i64 a, .slice ad 0 cp] w fun e w' => e = .returned (.int .i64 0) ∧ Keeps F w w' ∧ St w' s m c F N ino Pg Cm fs o (u + 2) := by
 have HGt := hid (iGet_st h hf (by omega))
 have hok := h.good.file i f hf
 have hnf := h.good.nf
 have HNl : Hid ((nodeC f.node).length = 15) := by unfold Hid nodeC; rw [List.length_append, List.length_map, (hok.node (by omega) h.good.n4).pages]; rfl
 have ha0 : ¬ ((a : Int) < 0) := by omega
 unfold nodeV at HGt
 clear h hf hok hnf
 have hnc1 := nodeC_one f.node
 generalize nodeC f.node = nc at *
 have HN1 := hid hnc1
 clear hnc1
 go_enter Tryz.func23, Tryz.ntmps23
 go_wp2_with fail
 refine HGt.out.mono ?_
 clear HGt
 rintro e w1 ⟨rfl, hk1, hs1⟩
 have HS1 := hid hs1
 have HK1 := hid hk1
 clear hk1 hs1
 go_wp2_with (refine wpList_store_block rfl 53 (.tmp 9) (.tmp 15) rfl w1.heap.size nc.toArray rfl rfl _ _ (block_new w1 _) (by rw [List.size_toArray, HNl.out]; rfl) (by rw [List.size_toArray, HNl.out]; kernel_rfl) HN1.out ?_; intro w2 hg2 hb2 hz2; have hb12 : Below w1.heap.size w1 w2 := ((Below.refl _ w1).alloc (Nat.le_refl _) _).grown hg2 (by simp) (fun k e => by cases e; exact Nat.le_refl _); have HB12 := hid hb12; clear hg2 hb2 hz2 hb12)
 go_ret
 exact ⟨rfl, HK1.out.trans (Keeps.of_below HB12.out : Keeps F w1 w2) (fun i e => .inl e), HS1.out.below HB12.out⟩
theorem iWrite_new {k mode : Nat} (h : St w s m c F N ino Pg Cm fs o u) (hf : fs i = some (newA k mode)) (hu : u < 800000) (l : List UInt8) (g : Nat) (hl : ownB w g l) (hgF : ¬ F g) (hL : l.length ≤ 8000) (hfr : 20 ≤ (freeTo (Pg 2) (3 + ino / 8) N 4096).length) :
  Calls Tryz.prog 23 #[.pointer (some ⟨s, 0, none⟩), .int .i64 i, .int .i64 0, .slice (some ⟨g, 0, none⟩) l.length l.length] w fun e w' => e = .returned (.int .i64 0) ∧ Keeps F w w' ∧
   ∃ Pg' f', f'.kind = k ∧ f'.mode = mode ∧ f'.links = 1 ∧ f'.data = l ∧ St w' s m c F N ino Pg' Cm (updA fs i (some f')) o (u + 303) := by
 by_cases h0 : l.length = 0
 ·have hz := iWrite_zero h hf (by omega) 0 0 (some ⟨g, 0, none⟩)
  rw [h0]
  refine hz.mono ?_
  rintro e w' ⟨rfl, hk, hst⟩
  have hln : l = [] := List.eq_nil_of_length_eq_zero h0
  exact ⟨rfl, hk, Pg, newA k mode, rfl, rfl, rfl, hln.symm, by rw [updA_id hf]; exact hst.more (by omega)⟩
 ·have hnd : needN (0 + l.length) ≤ 20 := by unfold needN fillN; split; omega; split <;> omega
  have hw := iWrite_grow h hf (by omega) 0 (0 + l.length) l g 0 l.length hl.at (Nat.le_refl _) hgF hl.lt rfl (by omega) (by omega) (by show needN (max (0 + l.length) 0) - 0 ≤ _; rw [Nat.max_eq_left (Nat.zero_le _)]; omega)
  refine hw.mono ?_
  rintro e w' ⟨rfl, hk, Pg', f', h1, h2, h3, h4, hst⟩
  refine ⟨rfl, hk, Pg', f', h1, h2, h3, ?_, hst⟩
  rw [h4]
  exact wrD_nil l
theorem rowY.in_ {base : Nat} {v : Value} {xs : List UInt8} (h : rowY w base v xs) : ∃ ad cp, v = .slice ad xs.length cp ∧ bytesIn w ad xs := by
 rcases h.2 with ⟨e, h0⟩ | ⟨g0, cap0, cur, e, h1, h2, h3, h4, h5, h6⟩
 ·exact ⟨none, 0, by rw [e, h0], fun j hj => by omega⟩
 ·refine ⟨some ⟨g0, 0, none⟩, cap0, e, fun j hj => ⟨g0, 0, rfl, fun i hi => ?_⟩⟩
  rw [cell_of_block h2, Nat.zero_add]
  have h7 : (cur.toList.take (xs.length * 1))[i]? = (xs.map U8)[i]? := by rw [h6]
  rw [List.getElem?_take_of_lt (by omega), List.getElem?_map, List.getElem?_eq_getElem hi] at h7
  rw [← Array.getElem?_toList, h7]
  rfl
theorem iRead_all (h : St w s m c F N ino Pg Cm fs o u) (hf : fs i = some f) (hu : u < 900000) :
  Calls Tryz.prog 21 #[.pointer (some ⟨s, 0, none⟩), .int .i64 i, .int .i64 0, .int .i64 70656] w fun e w' => ∃ ad cp, e = .returned (.tuple #[.slice ad f.data.length cp, .int .i64 0]) ∧ bytesIn w' ad f.data ∧ Keeps F w w' ∧ St w' s m c F N ino Pg Cm fs o (u + 141) := by
 by_cases h0 : f.data.length = 0
 ·refine (iRead_none h hf hu 0 70656 (by omega)).mono ?_
  rintro e w' ⟨rfl, hk, hst⟩
  exact ⟨none, 0, by rw [h0], fun j hj => by omega, hk, hst.more (by omega)⟩
 ·refine (iRead_st h hf hu 0 70656 (by omega) (by omega) (by omega)).mono ?_
  rintro e w' ⟨v, rfl, hr, hk, hst⟩
  rw [List.drop_zero, List.take_of_length_le (h.good.file i f hf).size] at hr
  obtain ⟨ad, cp, rfl, hb⟩ := rowY.in_ hr
  exact ⟨ad, cp, rfl, hb, hk, hst⟩
end
end Go.Proofs.YtndceijbkcjekaaGreat
/- InodeCuts: a file that is cut and grows again reads as 0 there. -/
set_option maxRecDepth 100000
set_option maxHeartbeats 4000000
namespace Go.Proofs.YtndceijbkcjekaaGreat
open Go.RowKit
theorem needN_mono9 {z : Nat} (h : z ≤ 9000) : needN z ≤ 19 := by unfold needN fillN; split; omega; split <;> omega
theorem St.freeOf {w : World} {s m c ino : Nat} {F : Nat → Prop} {N : Nat} {Pg Cm : Nat → List UInt8} {o u : Nat} {i : Nat} {f : FileA} (h : St w s m c F N ino Pg Cm (updA (fun _ => none) i (some f)) o u) : (frL Pg N ino).length + needN f.data.length + (3 + ino / 8) = N := by
 have h1 := h.good.free
 have h2 := h.good.out i f (updA_self _ _ _)
 have h3 := sum_upd (fun _ => none) i (some f) ino h2.2
 rw [sum_none] at h3
 have h4 := (h.good.node i f (updA_self _ _ _) (fun e => e)).2.1
 have e1 : cntO (none : Option FileA) = 0 := rfl
 have e2 : cntO (some f) = f.cnt := rfl
 simp only [e1, e2] at h3
 omega
theorem cut_at (l : List UInt8) (ma mb j : Nat) (hj : j < mb) : (rsz (rsz l ma) mb).getD j 0 = if j < l.length ∧ j < ma then l.getD j 0 else 0 := by
 rw [getD_rsz _ hj]
 by_cases h1 : j < ma
 ·rw [getD_rsz _ h1]
  by_cases h2 : j < l.length
  ·rw [if_pos ⟨h2, h1⟩]
  ·rw [if_neg (fun h => h2 h.1), List.getD_eq_getElem?_getD, List.getElem?_eq_none (by omega)]; rfl
 ·rw [if_neg (fun h => h1 h.2), List.getD_eq_getElem?_getD, List.getElem?_eq_none (by rw [length_rsz]; omega)]; rfl
theorem inodeCuts_walk (kd ii aa n nd md lk : Int) (x : UInt8) (a b : Nat) (ha : a < 65536) (hb : b < 65536) (w : World) :
  Calls Tryz.prog 7 #[.agg #[.int .i64 kd, .int .i64 ii, .int .i64 aa, .int .i64 n, .int .i64 nd, .int .i64 md, .int .i64 lk, .int .u8 (x.toNat : Int)], .int .u16 a, .int .u16 b] w fun e w' => e = .returned (.bool true) ∧ Below w.heap.size w w' := by
 obtain ⟨wA, hA⟩ : ∃ wA, wA = w.alloc (.cells #[.int .i64 kd, .int .i64 ii, .int .i64 aa, .int .i64 n, .int .i64 nd, .int .i64 md, .int .i64 lk, .int .u8 (x.toNat : Int)] 28) := ⟨_, rfl⟩
 have HA0 : Hid (Below w.heap.size w wA) := by rw [hA]; exact (Below.refl _ w).alloc (Nat.le_refl _) _
 have HX0 : Hid (wA.heap[w.heap.size]? = some (.cells #[.int .i64 kd, .int .i64 ii, .int .i64 aa, .int .i64 n, .int .i64 nd, .int .i64 md, .int .i64 lk, .int .u8 (x.toNat : Int)] 28 (0, 0))) := by rw [hA]; exact block_new w _
 have HSA : Hid (wA.heap.size = w.heap.size + 1) := by rw [hA]; exact World.size_alloc _ _
 obtain ⟨ma, hma⟩ : ∃ ma : Nat, ma = a % 9000 := ⟨_, rfl⟩
 obtain ⟨mb, hmb⟩ : ∃ mb : Nat, mb = b % 9000 := ⟨_, rfl⟩
 have hma' : (a : Int) % 9000 = (ma : Int) := by omega
 have hmb' : (b : Int) % 9000 = (mb : Int) := by omega
 have hma9 : ma < 9000 := by omega
 have hmb9 : mb < 9000 := by omega
 clear hma hmb
 go_enter Tryz.func7, Tryz.ntmps7
 go_wp2_with fail
 rw [← hA]
 clear hA
 refine (l6opened_any 90 (by omega) (by omega) (by decide) wA).mono ?_
 rintro e w1 ⟨s, m, c, F, r, Pg, rfl, hF, hb1, hst1, hp1, hp2⟩
 have HF := hid hF
 have HB1 := hid hb1
 have HS1 := hid hst1
 have HP1 := hid hp1
 have HP2 := hid hp2
 have HL := hid (l6live_any w1)
 clear hF hb1 hst1 hp1 hp2
 go_wp2_with fail
 refine HL.out.mono ?_
 clear HL
 rintro e w2 ⟨rfl, hb2⟩
 have hst2 := HS1.out.below hb2
 obtain ⟨rest, hfr⟩ := bits1_first 16 (by omega) (by omega)
 rw [← HP1.out] at hfr
 have HMk := hid (iMake_st hst2 1 420 1 rest (by omega) (by omega) (by omega) hfr (by omega) (by omega))
 have HFl := hid hst2.lt
 have HB2 := hid hb2
 clear hst2 hfr hb2 HS1 HP1
 go_wp2_with fail
 refine HMk.out.mono ?_
 clear HMk
 rintro e w3 ⟨rfl, hk3, hst3⟩
 have hX3 := hk3.heap (below_block HB2.out (below_block HB1.out HX0.out (by rw [HSA.out]; omega)) (by have := HB1.out.size; have := HSA.out; omega)) (fun hh => by have := HF.out _ hh; have := HSA.out; omega)
 have HX3 := hid hX3
 have HK3 := hid hk3
 have HS3 := hid hst3
 have HBy := hid (l6bytes_any kd ii aa n nd md lk x w3)
 clear hk3 hst3 hX3
 have x0 : w3.cell? ⟨w.heap.size, 0, none⟩ = some (.int .i64 kd) := cell_of_block HX3.out 0
 have x1 : w3.cell? ⟨w.heap.size, 1, none⟩ = some (.int .i64 ii) := cell_of_block HX3.out 1
 have x2 : w3.cell? ⟨w.heap.size, 2, none⟩ = some (.int .i64 aa) := cell_of_block HX3.out 2
 have x3 : w3.cell? ⟨w.heap.size, 3, none⟩ = some (.int .i64 n) := cell_of_block HX3.out 3
 have x4 : w3.cell? ⟨w.heap.size, 4, none⟩ = some (.int .i64 nd) := cell_of_block HX3.out 4
 have x5 : w3.cell? ⟨w.heap.size, 5, none⟩ = some (.int .i64 md) := cell_of_block HX3.out 5
 have x6 : w3.cell? ⟨w.heap.size, 6, none⟩ = some (.int .i64 lk) := cell_of_block HX3.out 6
 have x7 : w3.cell? ⟨w.heap.size, 7, none⟩ = some (.int .u8 (x.toNat : Int)) := cell_of_block HX3.out 7
 have hL8 := bLen_le n
 have HBy2 := hid (fun W => l6bytes_any kd ii aa n nd md lk x W)
 generalize bLen n = L at *
 go_wp2_with fail
 refine HBy.out.mono ?_
 clear HBy
 rintro e w4 ⟨hb4, g, hg, rfl, ho4⟩
 clear x0 x1 x2 x3 x4 x5 x6 x7
 have hX4 := below_block hb4 HX3.out (lt_of_heap HX3.out)
 have hst4 := HS3.out.below hb4
 have hk3s := HK3.out.size
 have hll : (bL x L).length = L := length_bL x L
 have hwr := iWrite_new hst4 (updA_self _ _ _) (by omega) (bL x L) g ho4 (fun hh => by have := HFl.out _ hh; omega) (by rw [hll]; exact hL8) (by rw [makP_two, HP2.out, freeBits (by omega) (by omega) (by omega)]; decide)
 rw [hll] at hwr
 have HWr := hid hwr
 have HX4 := hid hX4
 have HB4 := hid hb4
 clear hb4 ho4 hX4 hst4 hwr hk3s hll hg
 go_wp2_with fail
 refine HWr.out.mono ?_
 clear HWr
 rintro e w5 ⟨rfl, hk5, Pg5, f5, h51, h52, h53, h54, hst5⟩
 rw [updA_twice] at hst5
 have hfr5 := hst5.freeOf
 rw [h54, length_bL] at hfr5
 have hn5 := needN_mono9 (z := L) (by omega)
 have hn6 := needN_mono9 (z := ma) (by omega)
 have HRz := hid (iResize_ok hst5 (updA_self _ _ _) (by omega) ma (by omega) (by omega))
 have HX5 := hid (hk5.heap HX4.out (fun hh => by have := HF.out _ hh; have := HSA.out; omega))
 have HK5 := hid hk5
 have H54 := hid h54
 clear hk5 hst5 h51 h52 h53 h54 hfr5 hn5 hn6
 go_wp2_with fail
 refine HRz.out.mono ?_
 clear HRz
 rintro e w6 ⟨rfl, hk6, Pg6, f6, h61, h62, h63, h64, hst6⟩
 rw [updA_twice] at hst6
 have hfr6 := hst6.freeOf
 rw [h64, length_rsz] at hfr6
 have hn6 := needN_mono9 (z := ma) (by omega)
 have hn7 := needN_mono9 (z := mb) (by omega)
 have HRz := hid (iResize_ok hst6 (updA_self _ _ _) (by omega) mb (by omega) (by omega))
 have HX6 := hid (hk6.heap HX5.out (fun hh => by have := HF.out _ hh; have := HSA.out; omega))
 have HK6 := hid (HK5.out.trans hk6 (fun i e => .inl e))
 have H64 := hid h64
 clear hk6 hst6 h61 h62 h63 h64 hfr6 hn6 hn7
 go_wp2_with fail
 refine HRz.out.mono ?_
 clear HRz
 rintro e w7 ⟨rfl, hk7, Pg7, f7, h71, h72, h73, h74, hst7⟩
 rw [updA_twice] at hst7
 have HRd := hid (iRead_all hst7 (updA_self _ _ _) (by omega))
 have hd7 : f7.data.length = mb := by rw [h74, length_rsz]
 rw [hd7] at HRd
 have HD7 : Hid (∀ j, j < mb → f7.data.getD j 0 = if j < L ∧ j < ma then (bL x L).getD j 0 else 0) := fun j hj => by rw [h74, H64.out, H54.out, cut_at _ _ _ _ hj, length_bL]
 have HDl := hid hd7
 have HX7 := hid (hk7.heap HX6.out (fun hh => by have := HF.out _ hh; have := HSA.out; omega))
 have HK7 := hid (HK6.out.trans hk7 (fun i e => .inl e))
 clear hk7 hst7 h71 h72 h73 h74 hd7
 go_wp2_with fail
 refine HRd.out.mono ?_
 clear HRd
 rintro e w8 ⟨ad, cp, rfl, hby, hk8, hst8⟩
 have HX8 := hid (hk8.heap HX7.out (fun hh => by have := HF.out _ hh; have := HSA.out; omega))
 have HK8 := hid (HK7.out.trans hk8 (fun i e => .inl e))
 have HBt := hid hby
 have x0 : w8.cell? ⟨w.heap.size, 0, none⟩ = some (.int .i64 kd) := cell_of_block HX8.out 0
 have x1 : w8.cell? ⟨w.heap.size, 1, none⟩ = some (.int .i64 ii) := cell_of_block HX8.out 1
 have x2 : w8.cell? ⟨w.heap.size, 2, none⟩ = some (.int .i64 aa) := cell_of_block HX8.out 2
 have x3 : w8.cell? ⟨w.heap.size, 3, none⟩ = some (.int .i64 n) := cell_of_block HX8.out 3
 have x4 : w8.cell? ⟨w.heap.size, 4, none⟩ = some (.int .i64 nd) := cell_of_block HX8.out 4
 have x5 : w8.cell? ⟨w.heap.size, 5, none⟩ = some (.int .i64 md) := cell_of_block HX8.out 5
 have x6 : w8.cell? ⟨w.heap.size, 6, none⟩ = some (.int .i64 lk) := cell_of_block HX8.out 6
 have x7 : w8.cell? ⟨w.heap.size, 7, none⟩ = some (.int .u8 (x.toNat : Int)) := cell_of_block HX8.out 7
 clear hby hk8 hst8
 go_wp2_with fail
 refine (HBy2.out w8).mono ?_
 clear HBy2
 rintro e w9 ⟨hb9, g2, hg2, rfl, ho9⟩
 have HO9 := hid ho9
 have HBt9 : Hid (bytesIn w9 ad f7.data) := fun j hj => by
  obtain ⟨b0, o0, e, hc⟩ := HBt.out j hj
  exact ⟨b0, o0, e, fun i hi => (hb9.cell (World.block_lt_of_cell? w8 _ (hc i hi))).trans (hc i hi)⟩
 have HB9 := hid hb9
 clear x0 x1 x2 x3 x4 x5 x6 x7 hb9 hg2 ho9 HBt
 have HEnd : Hid (Below w.heap.size w w9) := by
  have k49 : Keeps F w4 w9 := HK8.out.trans (Keeps.of_below HB9.out : Keeps F w8 w9) (fun i e => .inl e)
  have k29 : Keeps F w2 w9 := (HK3.out.trans (Keeps.of_below HB4.out : Keeps F w3 w4) (fun i e => .inl e)).trans k49 (fun i e => .inl e)
  have b2 : Below w.heap.size w w2 := HA0.out.trans ((HB1.out.trans (HB2.out.mono HB1.out.size)).mono HA0.out.size)
  exact b2.trans (k29.below b2.size (fun i hi => by have := HF.out i hi; have := HSA.out; omega))
 clear HX0 HX3 HX4 HX5 HX6 HX7 HX8 HK3 HK5 HK6 HK7 HK8 HB1 HB2 HB4 HB9 HS3 HF HFl HP2 H54 H64
 go_wp2_with fail
 go_loopw [17] (fun iv wr => ∃ k : Nat, k ≤ mb ∧ iv = .int .i64 k ∧ wr = w9) (fun iv _ => mb - (intOf iv).toNat)
 case atStart => exact ⟨0, Nat.zero_le _, rfl, rfl⟩
 case round =>
  obtain ⟨k, hk, rfl, rfl⟩ := hrel
  by_cases hlt : k < mb
  ·have hlt' : (k : Int) < (mb : Int) := by omega
   obtain ⟨b0, o0, rfl, hcs⟩ := HBt9.out k (by rw [HDl.out]; exact hlt)
   have hgk := hcs k (by rw [HDl.out]; exact hlt)
   have hdk := HD7.out k hlt
   rw [List.getD_eq_getElem?_getD, List.getElem?_eq_getElem (by rw [HDl.out]; exact hlt)] at hdk
   by_cases h1 : k < L
   ·have h1' : (k : Int) < (L : Int) := by omega
    by_cases h2 : k < ma
    ·have h2' : (k : Int) < (ma : Int) := by omega
     have hwk := HO9.out.cell k (by rw [length_bL]; exact h1)
     have hv : (f7.data[k]'(by rw [HDl.out]; exact hlt)) = (bL x L)[k]'(by rw [length_bL]; exact h1) := by
      rw [if_pos ⟨h1, h2⟩, List.getD_eq_getElem?_getD, List.getElem?_eq_getElem (by rw [length_bL]; exact h1)] at hdk
      exact hdk
     rw [hv] at hgk
     generalize (((bL x L)[k]'(by rw [length_bL]; exact h1)).toNat : Int) = v at *
     clear hcs hdk hv
     go_wp2
     go_roundw
     case rel => exact ⟨k + 1, by omega, by go_num, trivial⟩
     case measure => simp [intOf]; omega
    ·have h2' : ¬ ((k : Int) < (ma : Int)) := by omega
     have hv : (f7.data[k]'(by rw [HDl.out]; exact hlt)) = 0 := by
      rw [if_neg (fun h => h2 h.2)] at hdk
      exact hdk
     rw [hv] at hgk
     have hgk' : wr.cell? ⟨b0, o0 + k, none⟩ = some (.int .u8 0) := hgk
     clear hcs hdk hv hgk
     go_wp2
     go_roundw
     case rel => exact ⟨k + 1, by omega, by go_num, trivial⟩
     case measure => simp [intOf]; omega
   ·have h1' : ¬ ((k : Int) < (L : Int)) := by omega
    have hv : (f7.data[k]'(by rw [HDl.out]; exact hlt)) = 0 := by
     rw [if_neg (fun h => h1 h.1)] at hdk
     exact hdk
    rw [hv] at hgk
    have hgk' : wr.cell? ⟨b0, o0 + k, none⟩ = some (.int .u8 0) := hgk
    clear hcs hdk hv hgk
    go_wp2
    go_roundw
    case rel => exact ⟨k + 1, by omega, by go_num, trivial⟩
    case measure => simp [intOf]; omega
  ·have hge : ¬ ((k : Int) < (mb : Int)) := by omega
   go_wp2
   go_ret
   exact ⟨rfl, HEnd.out⟩
end Go.Proofs.YtndceijbkcjekaaGreat
/- Deeds of law06 that were handed in. -/
set_option maxRecDepth 100000
namespace Go.Proofs.YtndceijbkcjekaaGreat
open Go.ChangeShapes Go.WideShapes Go.ChangeAt Go.RowKit
structure IDeed where
 k : Int
 i : Int
 a : Int
 n : Int
 nd : Int
 md : Int
 lk : Int
 x : UInt8
def IDeed.cells (D : IDeed) : List Value := [.int .i64 D.k, .int .i64 D.i, .int .i64 D.a, .int .i64 D.n, .int .i64 D.nd, .int .i64 D.md, .int .i64 D.lk, .int .u8 (D.x.toNat : Int)]
def IDeed.ok (w : World) (D : IDeed) (b o : Nat) : Prop := ∀ j (hj : j < D.cells.length), w.cell? ⟨b, o + j, none⟩ = some D.cells[j]
def ideedsAt (w : World) (a : Option Addr) (ds : List IDeed) : Prop := ∀ j, j < ds.length → ∃ b o, a = some ⟨b, o, none⟩ ∧ ∀ i (hi : i < ds.length), IDeed.ok w ds[i] b (o + i * 8)
theorem IDeed.ok.below {w w' : World} {D : IDeed} {b o : Nat} (h : D.ok w b o) (k : Below w.heap.size w w') : D.ok w' b o := fun j hj => (k.cell (World.block_lt_of_cell? w _ (h j hj))).trans (h j hj)
theorem ideedsAt.below {w w' : World} {a : Option Addr} {ds : List IDeed} (h : ideedsAt w a ds) (k : Below w.heap.size w w') : ideedsAt w' a ds := fun j hj => by
 obtain ⟨b, o, e, hc⟩ := h j hj
 exact ⟨b, o, e, fun i hi => (hc i hi).below k⟩
theorem IDeed.ok.keep {w w' : World} {D : IDeed} {b o : Nat} {F : Nat → Prop} (h : D.ok w b o) (k : Keeps F w w') (hb : ¬ F b) : D.ok w' b o := fun j hj => k.cell (h j hj) hb
theorem cellsIDeed : Tryz.prog.cellsOf 28 = 8 := by kernel_rfl
theorem ideed_of {H : Type} {enc : TypeId × Value → H} {W : World} {base : Nat} {sp : Nat → Bool} {held : Bool} {fuel : Nat} {cs : List Value} {y : DataW H × List MemPlace} (hl : cs.length = 8) (h : DataW.trod enc Tryz.prog W base sp held fuel 28 cs = some y) : ∃ D : IDeed, cs = D.cells := by
 obtain ⟨xs, n, _, rfl, _, hlen, hf⟩ := DataW.trod_struct Tryz.underlying28 h
 match cs, hl, xs, hlen with
 | [c0, c1, c2, c3, c4, c5, c6, c7], _, [y0, y1, y2, y3, y4, y5, y6, y7], _ =>
  obtain ⟨v0, e0, _⟩ := DataW.trod_int Tryz.underlying3 (hf 0 _ rfl)
  obtain ⟨v1, e1, _⟩ := DataW.trod_int Tryz.underlying3 (hf 1 _ rfl)
  obtain ⟨v2, e2, _⟩ := DataW.trod_int Tryz.underlying3 (hf 2 _ rfl)
  obtain ⟨v3, e3, _⟩ := DataW.trod_int Tryz.underlying3 (hf 3 _ rfl)
  obtain ⟨v4, e4, _⟩ := DataW.trod_int Tryz.underlying26 (hf 4 _ rfl)
  obtain ⟨v5, e5, _⟩ := DataW.trod_int Tryz.underlying3 (hf 5 _ rfl)
  obtain ⟨v6, e6, _⟩ := DataW.trod_int Tryz.underlying3 (hf 6 _ rfl)
  obtain ⟨v7, e7, _, w7⟩ := DataW.trod_int Tryz.underlying5 (hf 7 _ rfl)
  have f0 : c0 = .int .i64 v0 := by simpa [show Tryz.prog.cellsOf 3 = 1 by kernel_rfl] using e0
  have f1 : c1 = .int .i64 v1 := by simpa [show Tryz.prog.cellsOf 3 = 1 by kernel_rfl] using e1
  have f2 : c2 = .int .i64 v2 := by simpa [show Tryz.prog.cellsOf 3 = 1 by kernel_rfl] using e2
  have f3 : c3 = .int .i64 v3 := by simpa [show Tryz.prog.cellsOf 3 = 1 by kernel_rfl] using e3
  have f4 : c4 = .int .i64 v4 := by simpa [show Tryz.prog.cellsOf 26 = 1 by kernel_rfl] using e4
  have f5 : c5 = .int .i64 v5 := by simpa [show Tryz.prog.cellsOf 3 = 1 by kernel_rfl] using e5
  have f6 : c6 = .int .i64 v6 := by simpa [show Tryz.prog.cellsOf 3 = 1 by kernel_rfl] using e6
  have f7 : c7 = .int .u8 v7 := by simpa [show Tryz.prog.cellsOf 5 = 1 by kernel_rfl] using e7
  subst f0 f1 f2 f3 f4 f5 f6 f7
  have hb := bounds_u8 w7
  refine ⟨⟨v0, v1, v2, v3, v4, v5, v6, UInt8.ofNat v7.toNat⟩, ?_⟩
  have e : ((UInt8.ofNat v7.toNat).toNat : Int) = v7 := by rw [UInt8.toNat_ofNat']; omega
  unfold IDeed.cells
  rw [e]
theorem ideed_open {H : Type} {enc : TypeId × Value → H} {W : World} {r : Reach} {b0 base : Nat} {sp : Nat → Bool} {held : Bool} {v : Value} {d : DataW H} {p : List MemPlace} (hv : Value.okWide Tryz.prog W r b0 28 v) (h : DataW.Trod enc Tryz.prog W base sp held 28 v d p) :
  ∃ D : IDeed, v = .agg D.cells.toArray := by
 obtain ⟨cs, rfl, hsz⟩ := okWide_struct Tryz.underlying28 hv
 obtain ⟨fuel, hf⟩ := h
 have hl : (Value.agg cs).cells.toList = cs.toList := rfl
 rw [hl] at hf
 obtain ⟨D, hD⟩ := ideed_of (by rw [Array.length_toList, hsz, cellsIDeed]) hf
 exact ⟨D, by rw [← hD]⟩
end Go.Proofs.YtndceijbkcjekaaGreat
