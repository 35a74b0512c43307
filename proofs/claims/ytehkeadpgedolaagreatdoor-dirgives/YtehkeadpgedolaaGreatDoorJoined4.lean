/- Several of my texts in one: AlPage, AlLive, AlClear, AlInode, BaseH, InRef, InCopy, InPure, InPlain, InPage, InEnc, InDec, InTab, InStore, InFile, InOpen, InOpen2. -/
import Derived.Laws.Cover3
import Derived.Test.YtehkeadpgedolaaGreatDoorJoined3
import Derived.Lib.SliceRun
import Derived.Test.YtehkeadpgedolaaGreatDoorJoined2
set_option maxRecDepth 100000
set_option maxHeartbeats 4000000
namespace Go.Proofs.YtehkeadpgedolaaGreatDoor
section
open Go.RowKit
section
variable {w : World} {m c ino : Nat} {F : Nat -> Prop} {size N : Nat} {Pg Cm : Nat -> List UInt8} {D : Int -> Bool} {o u : Nat}
theorem aFree_any (h : mapB w m c ino) (hmF : ¬ F m) (hN : N <= 519) (hN2 : 3 <= N) (hi : ino <= 512) (hu : u < 999999) (hp : Pc w c F size N Pg Cm D o u) :
  Calls Tryz.prog 14 #[.pointer (some ⟨m, 0, none⟩)] w fun e w' => e = .returned (.tuple #[.int .i64 (freeTo (Pg 2) (3 + ino / 8) N 4096).length, .int .i64 (freeTo (Pg 1) 1 ino 4096).length]) /\ Keeps F w w' /\ Pc w' c F size N Pg Cm D o (u + 2) := by
 have HO := hid (amofPages_any h hi hp)
 have HM := hid h
 have HP := hid hp
 have HFl := hid hp.lt
 obtain ⟨p1, hq1⟩ : ∃ p1, p1 = (freeTo (Pg 2) (3 + ino / 8) N 4096).length := ⟨_, rfl⟩
 obtain ⟨p2, hq2⟩ : ∃ p2, p2 = (freeTo (Pg 1) 1 ino 4096).length := ⟨_, rfl⟩
 have hl1 : p1 < 520 := by rw [hq1]; exact Nat.lt_succ_of_le (freeTo_few _ _ _ hN)
 have hl2 : p2 < 520 := by rw [hq2]; exact Nat.lt_succ_of_le (freeTo_few _ _ _ (by omega))
 have HCt := hid (fun (W : World) (hW : Below w.heap.size w W) (kb : Nat) (hkb : W.heap[kb]? = some (.cells #[.int .i64 2, .int .i64 (3 + ino / 8 : Nat), .int .i64 N, .complex .f64 4607182418800017408 0, .int .i64 1, .int .i64 1, .int .i64 ino, .complex .f64 0 4607182418800017408] 93 (0, 0))) (hkF : ¬ F kb) => acount_any (h.below hW) hmF kb (3 + ino / 8) hkb hkF hN hN2 hi hu (hp.below hW))
 rw [<- hq1, <- hq2] at HCt ⊢
 obtain ⟨f, hf⟩ : ∃ f, f = 3 + ino / 8 := ⟨_, rfl⟩
 rw [<- hf] at HO HCt
 have e1 := fN_int p1 hl1
 have e2 := fN_int p2 hl2
 clear h hp hq1 hq2 hf hl1 hl2
 unfold numV oneF at HO
 go_enter Tryz.func14, Tryz.ntmps14
 go_wp2_with fail
 refine HO.out.mono ?_
 clear HO
 rintro e w1 ⟨rfl, hb1⟩
 have HB1 := hid hb1
 have hoi := amofInodes_any (HM.out.below hb1)
 unfold numV oneF at hoi
 have HOi := hid hoi
 clear hb1 hoi
 go_wp2_with fail
 refine HOi.out.mono ?_
 clear HOi
 rintro e w2 ⟨rfl, hb2⟩
 have HB2 := hid (HB1.out.trans (hb2.mono HB1.out.size))
 clear hb2
 have hb3 : Below w2.heap.size w2 (w2.alloc (.cells #[.int .i64 2, .int .i64 f, .int .i64 N, .complex .f64 4607182418800017408 0, .int .i64 1, .int .i64 1, .int .i64 ino, .complex .f64 0 4607182418800017408] 93)) := (Below.refl _ w2).alloc (Nat.le_refl _) _
 have hb03 := HB2.out.trans (hb3.mono HB2.out.size)
 have HCc := hid (HCt.out _ hb03 w2.heap.size (block_new w2 _) (fun hf => by have := HFl.out _ hf; have := HB2.out.size; omega))
 have HK3 : Hid (Keeps F w (w2.alloc (.cells #[.int .i64 2, .int .i64 f, .int .i64 N, .complex .f64 4607182418800017408 0, .int .i64 1, .int .i64 1, .int .i64 ino, .complex .f64 0 4607182418800017408] 93))) := Keeps.of_below hb03
 clear hb3 hb03 HCt
 go_wp2_with fail
 refine HCc.out.mono ?_
 clear HCc
 rintro e w4 ⟨rfl, hk4, hp4⟩
 have HK4 := hid (HK3.out.trans hk4 (fun i e => .inl e))
 have HP4 := hid hp4
 have g1 : ∀ W, (convert 95 3 (.float .f64 (fN p1))).run Tryz.prog W = .ok (.int .i64 p1) W := fun W => run_convert_float_int W 95 3 .f64 .i64 (fN p1) p1 (by rw [Tryz.underlying95]; rfl) Tryz.underlying3 e1
 have g2 : ∀ W, (convert 95 3 (.float .f64 (fN p2))).run Tryz.prog W = .ok (.int .i64 p2) W := fun W => run_convert_float_int W 95 3 .f64 .i64 (fN p2) p2 (by rw [Tryz.underlying95]; rfl) Tryz.underlying3 e2
 clear hk4 hp4 e1 e2
 go_wp2
 go_returns
 exact ⟨rfl, HK4.out, HP4.out⟩
theorem freeTo_first {L : List UInt8} {a z q : Nat} {rest : List Nat} (h : freeTo L a z 4096 = q :: rest) : a <= q /\ q < z /\ bitL L q = false := by
 have hm : q ∈ freeTo L a z 4096 := by rw [h]; exact List.mem_cons_self
 unfold freeTo at hm
 have h2 := (List.mem_filter.1 hm).2
 unfold isFree at h2
 simp only [Bool.and_eq_true, decide_eq_true_eq, Bool.not_eq_true'] at h2
 exact ⟨h2.1.1, h2.1.2, h2.2⟩
theorem length_zN5 : (zN 512).length = 512 := length_zN 512
def PageTo (w : World) (c : Nat) (F : Nat -> Prop) (size N : Nat) (Pg Cm : Nat -> List UInt8) (D : Int -> Bool) (o u a : Nat) (e : Ending) (w' : World) : Prop :=
 Keeps F w w' /\ ((freeTo (Pg 2) a N 4096 = [] /\ e = .returned (.tuple #[.int .i64 0, .int .i64 7]) /\ Pc w' c F size N Pg Cm D o (u + 1)) \/
  ∃ (q : Nat) (rest : List Nat), freeTo (Pg 2) a N 4096 = q :: rest /\ ((min size 100 < (dkD N D).length + ((if D 2 then 0 else 1) + (if D q then 0 else 1)) /\ e = .returned (.tuple #[.int .i64 0, .int .i64 7]) /\ Pc w' c F size N Pg Cm D o (u + 1)) \/
   ((dkD N D).length + ((if D 2 then 0 else 1) + (if D q then 0 else 1)) <= min size 100 /\ e = .returned (.tuple #[.int .i64 q, .int .i64 0]) /\ Pc w' c F size N (updP (updP Pg 2 (flipL (Pg 2) q)) q (zN 512)) Cm (updT (updT D 2) q) o (u + 1))))
theorem aPage_any (h : mapB w m c ino) (hmF : ¬ F m) (hi : ino <= 512) (hN : 3 <= N) (hu : u < 1000000) (hp : Pc w c F size N Pg Cm D o u) :
  Calls Tryz.prog 205 #[.pointer (some ⟨m, 0, none⟩)] w (PageTo w c F size N Pg Cm D o u (3 + ino / 8)) := by
 have hN4 := hp.four
 have HO := hid (amofPages_any h hi hp)
 have HFl := hid hp.lt
 have HLen := hid (hp.len 2 (by omega))
 have HNx := hid (fun W (hW : Below w.heap.size w W) => anext_any (h.below hW) hmF 2 (3 + ino / 8) N oneF 0 (by omega) hN4 hu (hp.below hW))
 have HM := hid h
 obtain ⟨f, hf⟩ : ∃ f, f = 3 + ino / 8 := ⟨_, rfl⟩
 rw [<- hf] at HO HNx ⊢
 clear h hp hf
 go_enter Tryz.func205, Tryz.ntmps205
 go_wp2_with fail
 refine HO.out.mono ?_
 clear HO
 rintro e w1 ⟨rfl, hb1⟩
 have HB1 := hid hb1
 have HN1 := hid (HNx.out w1 hb1)
 clear HNx hb1
 go_wp2_with fail
 refine HN1.out.mono ?_
 clear HN1
 rintro e w2 ⟨hk2, hp2, hx⟩
 have HK2 := hid ((Keeps.of_below HB1.out : Keeps F w w1).trans hk2 (fun i e => .inl e))
 have HP2 := hid hp2
 have HM2 : Hid (mapB w2 m c ino) := (HM.out.below HB1.out).keep hk2 hmF
 have Hs := hid hk2.size
 clear hk2 hp2
 rcases hx with ⟨h0, rfl⟩ | ⟨q, rest, g, cap, h0, hq4, rfl, hg, hby⟩
 ·have H0 := hid h0
  have hb3 : Below w2.heap.size w2 (w2.alloc (.cells #[.int .i64 0, .slice none 0 0] 122)) := (Below.refl _ w2).alloc (Nat.le_refl _) _
  have HB3 := hid hb3
  clear h0 hb3
  go_wp2
  go_returns
  exact ⟨HK2.out.trans (Keeps.of_below HB3.out : Keeps (fun _ => False) w2 _) (fun i e => e.elim), .inl ⟨H0.out, rfl, HP2.out.below HB3.out⟩⟩
 ·have H0 := hid h0
  have hff := freeTo_first h0
  obtain ⟨wa, hwa⟩ : ∃ wa, wa = w2.alloc (.cells #[.int .i64 2, .slice (some ⟨g, 0, none⟩) 512 cap] 122) := ⟨_, rfl⟩
  have hb3 : Below w2.heap.size w2 wa := by rw [hwa]; exact (Below.refl _ w2).alloc (Nat.le_refl _) _
  have hbx : wa.heap[w2.heap.size]? = some (.cells #[.int .i64 2, .slice (some ⟨g, 0, none⟩) 512 cap] 122 (0, 0)) := by rw [hwa]; exact block_new w2 _
  have HBx := hid hbx
  have HB3 := hid hb3
  have HK3 : Hid (Keeps F w wa) := HK2.out.trans (Keeps.of_below hb3 : Keeps (fun _ => False) w2 _) (fun i e => e.elim)
  have Hby : Hid (bytesAt wa ⟨g, 0, none⟩ (flipL (Pg 2) q)) := fun j hj => (hb3.cell (World.block_lt_of_cell? w2 _ (hby j hj))).trans (hby j hj)
  have Hg : Hid (w.heap.size <= g) := Nat.le_trans HB1.out.size hg
  have hCx : ∀ W, Below wa.heap.size wa W -> W.cell? ⟨w2.heap.size, 0, none⟩ = some (.int .i64 2) /\ W.cell? ⟨w2.heap.size, 1, none⟩ = some (.slice (some ⟨g, 0, none⟩) 512 cap) := fun W hW => by
   have hw := below_block hW hbx (lt_of_heap hbx)
   exact ⟨cell_of_block hw 0, cell_of_block hw 1⟩
  have HCx := hid hCx
  have hS0 := hCx wa (Below.refl _ _)
  have Hff := hid hff
  clear h0 hff hb3 hbx hby hg hCx
  obtain ⟨nb, hnb⟩ : ∃ nb, nb = w2.heap.size := ⟨_, rfl⟩
  rw [<- hnb] at HCx hS0 HBx
  go_wp2
  rw [<- hwa, <- hnb]
  have HNb : Hid (w.heap.size <= nb) := by rw [hnb]; exact HK2.out.size
  clear hwa hnb
  refine wp_region_noPanic ?_
  refine wp_region_held_drew (S := fun W => W.cell? ⟨nb, 0, none⟩ = some (.int .i64 2) /\ W.cell? ⟨nb, 1, none⟩ = some (.slice (some ⟨g, 0, none⟩) 512 cap)) (by kernel_rfl) hS0 (fun hHeld => ?_)
  refine tq 0 _ ?_
  try simp only [tS]
  refine tq 1 _ ?_
  try simp only [tS]
  refine tq 2 _ ?_
  try simp only [tS]
  refine tq 3 _ ?_
  try simp only [tS]
  refine tr 4 (fun K hK => ?_)
  go_simp
  refine (noughts_any wa.drew).mono ?_
  rintro e w4 ⟨rfl, hz4, hb4⟩
  have hb04 : Below wa.heap.size wa w4 := (Below.refl _ wa).drew.trans (hb4.mono (Nat.le_refl _))
  have HZ4 := hid hz4
  have HB4 := hid hb04
  have hz := HCx.out w4 hb04
  clear hz4 hb4 hb04 hS0
  obtain ⟨zb, hzb⟩ : ∃ zb, zb = wa.drew.heap.size := ⟨_, rfl⟩
  rw [<- hzb] at HZ4 ⊢
  have HZb : Hid (zb = wa.heap.size) := hzb
  clear hzb
  go_wp2_with fail
  refine hK.out _ _ hz (fun hHeld => ?_)
  clear hK K
  try simp only [tS]
  refine tq 5 _ ?_
  try simp only [tS]
  refine tr 6 (fun K hK => ?_)
  go_simp
  have hb5 : Below w4.heap.size w4 (w4.alloc (.cells #[.int .i64 2, .slice (some ⟨g, 0, none⟩) 512 cap, .int .i64 q, .slice (some ⟨zb, 0, none⟩) 512 512] 122)) := (Below.refl _ w4).alloc (Nat.le_refl _) _
  have hb05 := HB4.out.trans (hb5.mono HB4.out.size)
  have hz5 := HCx.out _ hb05
  have hK5 : Keeps F w (w4.alloc (.cells #[.int .i64 2, .slice (some ⟨g, 0, none⟩) 512 cap, .int .i64 q, .slice (some ⟨zb, 0, none⟩) 512 512] 122)) := HK3.out.trans (Keeps.of_below hb05 : Keeps (fun _ => False) wa _) (fun i e => e.elim)
  have hbl5 := block_new w4 (.cells #[.int .i64 2, .slice (some ⟨g, 0, none⟩) 512 cap, .int .i64 q, .slice (some ⟨zb, 0, none⟩) 512 512] 122)
  have hws : WPgs (w4.alloc (.cells #[.int .i64 2, .slice (some ⟨g, 0, none⟩) 512 cap, .int .i64 q, .slice (some ⟨zb, 0, none⟩) 512 512] 122)) w4.heap.size [⟨2, g, cap, flipL (Pg 2) q⟩, ⟨q, zb, 512, zN 512⟩] F N := by
   refine ⟨fun i hi => ?_, fun _ hf => ?_, fun p hp => ?_⟩
   ·have hi2 : i = 0 \/ i = 1 := by simp at hi; omega
    rcases hi2 with rfl | rfl
    ·exact ⟨cell_of_block hbl5 0, cell_of_block hbl5 1⟩
    ·exact ⟨cell_of_block hbl5 2, cell_of_block hbl5 3⟩
   ·have h1 := HFl.out _ hf
    have h2 := HK3.out.size
    have h3 := HB4.out.size
    omega
   ·simp only [List.mem_cons, List.mem_nil_iff, or_false] at hp
    rcases hp with rfl | rfl
    ·refine ⟨by show 2 < N; omega, by show (flipL (Pg 2) q).length = 512; rw [length_flipL]; exact HLen.out, fun j hj => (hb05.cell (World.block_lt_of_cell? wa _ (Hby.out j hj))).trans (Hby.out j hj), fun hf => ?_⟩
     have h1 := HFl.out _ hf
     have h2 := Hg.out
     have h3 : g < w.heap.size := h1
     omega
    ·refine ⟨Hff.out.2.1, length_zN5, (HZ4.out.below hb5).at, fun hf => ?_⟩
     have h1 : zb < w.heap.size := HFl.out _ hf
     have h2 := HK3.out.size
     have h3 := HZb.out
     omega
  have HWr := hid (awrite_any (((HM2.out.below HB3.out).below hb05)) hmF w4.heap.size _ hws 2 (by simp) (by simp) ((HP2.out.below HB3.out).below hb05))
  have HK5 := hid hK5
  clear hb5 hb05 hK5 hbl5 hws hz
  generalize w4.alloc (.cells #[.int .i64 2, .slice (some ⟨g, 0, none⟩) 512 cap, .int .i64 q, .slice (some ⟨zb, 0, none⟩) 512 512] 122) = w5 at *
  generalize w4.heap.size = pb at *
  refine hK.out _ _ hz5 (fun hHeld => ?_)
  clear hK K
  try simp only [tS]
  have HCz : Hid (∀ W, Keeps F w5 W -> W.cell? ⟨nb, 0, none⟩ = some (.int .i64 2) /\ W.cell? ⟨nb, 1, none⟩ = some (.slice (some ⟨g, 0, none⟩) 512 cap)) := fun W hW => by
   have hF : ¬ F nb := fun hf => by
    have h1 := HFl.out _ hf
    have h2 := HNb.out
    omega
   exact ⟨hW.cell hz5.1 hF, hW.cell hz5.2 hF⟩
  refine tr 7 (fun K hK => ?_)
  go_simp
  refine HWr.out.mono ?_
  clear HWr
  rintro e w6 ⟨hk6, hw6⟩
  have HK6 := hid (HK5.out.trans hk6 (fun i e => .inl e))
  have hz6 := HCz.out w6 hk6
  rw [newC_cons, newC_one] at hw6
  clear hk6 hz5
  rcases hw6 with ⟨hf, rfl, hp6⟩ | ⟨hf, rfl, hp6⟩
  ·have HP6 := hid hp6
   have Hf := hid hf
   clear hp6 hf
   go_wp2_with fail
   refine hK.out _ _ hz6 (fun hHeld => ?_)
   clear hK K
   try simp only [tS]
   refine tr 8 (fun K hK => ?_)
   go_simp
   refine (aanswer_any (q : Int) 7 w6).mono ?_
   rintro e w7 ⟨rfl, h7⟩
   obtain rfl := h7.symm
   clear h7
   go_wp2_with fail
   refine hK.out _ _ hz6 (fun hHeld => ?_)
   clear hK K
   try simp only [tS]
   refine tq 9 _ ?_
   try simp only [tS]
   refine tq 10 _ ?_
   try simp only [tS]
   refine tq 11 _ ?_
   try simp only [tS]
   refine tq 12 _ ?_
   try simp only [tS]
   refine wpAnyH_done (by kernel_rfl) ?_ _
   refine NoPanic.normal ?_
   clear hHeld hz6
   go_wp2
   go_returns
   exact ⟨HK6.out, .inr ⟨q, rest, H0.out, .inl ⟨Hf.out, rfl, HP6.out⟩⟩⟩
  ·have HP6 := hid hp6
   have Hf := hid hf
   clear hp6 hf
   go_wp2_with fail
   refine hK.out _ _ hz6 (fun hHeld => ?_)
   clear hK K
   try simp only [tS]
   refine tr 8 (fun K hK => ?_)
   go_simp
   refine (aanswer_any (q : Int) 0 w6).mono ?_
   rintro e w7 ⟨rfl, h7⟩
   obtain rfl := h7.symm
   clear h7
   rw [if_pos rfl]
   go_wp2_with fail
   refine hK.out _ _ hz6 (fun hHeld => ?_)
   clear hK K
   try simp only [tS]
   refine tq 9 _ ?_
   try simp only [tS]
   refine tq 10 _ ?_
   try simp only [tS]
   refine tq 11 _ ?_
   try simp only [tS]
   refine tq 12 _ ?_
   try simp only [tS]
   refine wpAnyH_done (by kernel_rfl) ?_ _
   refine NoPanic.normal ?_
   clear hHeld hz6
   go_wp2
   go_returns
   exact ⟨HK6.out, .inr ⟨q, rest, H0.out, .inr ⟨Hf.out, rfl, HP6.out⟩⟩⟩
end
end
section
open Go.RowKit
theorem freeTo_none {L : List UInt8} {a z : Nat} : ∀ k, (∀ j, j < k -> isFree L a z j = false) -> freeTo L a z k = []
 | 0, _ => rfl
 | k + 1, h => by rw [freeTo_no (h k (by omega)), freeTo_none k (fun j hj => h j (by omega))]
theorem freeTo_is {L : List UInt8} {a z k : Nat} (h1 : ∀ j, j < k -> isFree L a z j = false) (h2 : isFree L a z k = true) (hk : k < 4096) : ∃ rest, freeTo L a z 4096 = k :: rest := freeTo_head (freeTo_none k h1) h2 hk
theorem dkD_putLD (N : Nat) : ∀ (ks : List (Nat × List UInt8)) (D : Int -> Bool), (dkD N (putLD D ks)).length <= (dkD N D).length + ks.length
 | [], _ => Nat.le_refl _
 | p :: ks, D => by
  have ih := dkD_putLD N ks (updT D p.1)
  have h1 := dkD_updT N D p.1
  have e : putLD D (p :: ks) = putLD (updT D p.1) ks := rfl
  rw [e, List.length_cons]
  have h2 : (if D (p.1 : Int) = true then 0 else 1) <= 1 := by split <;> omega
  omega
theorem dkD_upd1 (N : Nat) (D : Int -> Bool) (n : Nat) : (dkD N (updT D n)).length <= (dkD N D).length + 1 := by
 have h1 := dkD_updT N D n
 have h2 : (if D (n : Int) = true then 0 else 1) <= 1 := by split <;> omega
 omega
theorem length_empK (N ino k : Nat) : (empK N ino k).length = 3 + k := by simp [empK]; omega
theorem putL_other {Pg : Nat -> List UInt8} {n : Nat} : ∀ (ks : List (Nat × List UInt8)), (∀ x ∈ ks, x.1 ≠ n) -> putL Pg ks n = Pg n := by
 intro ks
 induction ks generalizing Pg with
 | nil => intro _; rfl
 | cons p ks ih =>
  intro h
  have e : putL Pg (p :: ks) = putL (updP Pg p.1 p.2) ks := rfl
  rw [e, ih (fun x hx => h x (List.mem_cons_of_mem _ hx))]
  unfold updP
  rw [if_neg (fun e => h p List.mem_cons_self e.symm)]
theorem made_at (N ino k : Nat) (Pg : Nat -> List UInt8) : putL Pg (empK N ino k) 0 = superL N ino /\ putL Pg (empK N ino k) 1 = bitsTo 1 /\ putL Pg (empK N ino k) 2 = bitsTo (3 + ino / 8) := by
 have e : putL Pg (empK N ino k) = putL (updP (updP (updP Pg 0 (superL N ino)) 1 (bitsTo 1)) 2 (bitsTo (3 + ino / 8))) ((List.range k).map (fun j => (3 + j, zN 512))) := rfl
 have hr : ∀ n, n < 3 -> ∀ x ∈ (List.range k).map (fun j => (3 + j, zN 512)), x.1 ≠ n := fun n hn x hx => by
  obtain ⟨j, -, rfl⟩ := List.mem_map.1 hx
  show 3 + j ≠ n
  omega
 rw [e, putL_other _ (hr 0 (by omega)), putL_other _ (hr 1 (by omega)), putL_other _ (hr 2 (by omega))]
 exact ⟨rfl, rfl, rfl⟩
end
section
set_option maxRecDepth 100000
set_option maxHeartbeats 2000000
open Go.RowKit
theorem byclone_any (l : List UInt8) (ad : Addr) (c : Nat) (w : World) (hpos : 0 < l.length) (hn : l.length <= 4096) (hb : bytesAt w ad l) :
  Calls Tryz.prog 195 #[.slice (some ad) l.length c] w fun e w' => ∃ g cap, e = .returned (.slice (some ⟨g, 0, none⟩) l.length cap) /\ w'.ownsRow w.heap.size 5 1 (.slice (some ⟨g, 0, none⟩) l.length cap) l.length (l.map U8) /\ Below w.heap.size w w' := by
 obtain ⟨i0, hi, hz0, hz1, hz2⟩ := info_parts infoU8
 have HI := hid hi
 have HX : Hid (∀ j u, (l.map U8)[j]? = some u -> w.cell? (ad.add j) = some u) := fun j u hu => by
  have hj : j < l.length := by simpa using (List.getElem?_eq_some_iff.1 hu).1
  rw [hb j hj]
  rw [List.getElem?_map, List.getElem?_eq_getElem hj] at hu
  exact hu
 clear hi hb
 go_enter Tryz.func195, Tryz.ntmps195
 have hq := fun W => run_slice_nil 81 _ ad l.length c Tryz.underlying81 W
 go_wp2_with (refine wpList_append_lies _ rfl (.tmp 5) (.tmp 6) 81 rfl w.heap.size 5 i0 (.int .u8 0) 1 1 Tryz.underlying81 HI.out hz0 hz1 hz2 rfl (by omega) (.slice (some ⟨w.heap.size, 0, none⟩) 0 0) 0 [] rfl (World.ownsRow_lit w #[] 0 (Nat.le_refl _) (by simp) rfl) ad l.length c (l.map U8) rfl (by simp) (fun j u hu => by rw [World.cell?_alloc_lt _ _ _ (World.block_lt_of_cell? w _ (HX.out j u hu))]; exact HX.out j u hu) (by intro u hu; obtain ⟨x, _, rfl⟩ := List.mem_map.1 hu; rfl) hpos (by unfold maxLen; omega) (by omega) (by simp) (w.heap.size + 1) (by simp) ?_; intro g cap w1 hown hgr hat hlt)
 go_ret
 rw [List.nil_append, Nat.zero_add] at hown
 refine ⟨g, cap, by simp, hown, ?_⟩
 exact ((Below.refl _ _).alloc (Nat.le_refl _) _).trans ⟨hgr.os, hgr.tape, hgr.output, hgr.size, fun k hk => hgr.block k (by simp; omega) (by simp [Value.ownBlock]; omega)⟩
def clr : List UInt8 -> Nat -> Nat -> List UInt8
 | l, _, 0 => l
 | l, o, n + 1 => clr (l.set o 0) (o + 1) n
theorem length_clr : ∀ (n : Nat) (l : List UInt8) (o : Nat), (clr l o n).length = l.length
 | 0, _, _ => rfl
 | n + 1, l, o => by rw [clr, length_clr n, List.length_set]
theorem rowU.clears {g : Nat} : ∀ (n o : Nat) (l : List UInt8) (w : World), rowU w g l -> o + n <= l.length -> rowU (w.setCells g o (List.replicate n (.int .u8 0))) g (clr l o n) /\ Keeps (fun i => i = g) w (w.setCells g o (List.replicate n (.int .u8 0)))
 | 0, _, _, w, h, _ => ⟨h, Keeps.refl _ w⟩
 | n + 1, o, l, w, h, hl => by
  have h1 := h.set o (by omega) 0
  have k1 : Keeps (fun i => i = g) w (w.setCell ⟨g, o, none⟩ (.int .u8 0)) := (Keeps.refl _ w).grown (grown_setCell (grown_refl _ _) _ _) (fun i e => .inl (Option.some.inj e).symm)
  obtain ⟨h2, k2⟩ := rowU.clears n (o + 1) (l.set o 0) _ h1 (by rw [List.length_set]; omega)
  rw [List.replicate_succ]
  exact ⟨h2, k1.trans k2 (fun i e => .inl e)⟩
theorem infoPg2 : (Tryz.prog.info? 122).map (·.size) = some 2 := by kernel_rfl
theorem results_clr {w : World} {tmps : Array Value} {b : Nat} {y z t : Value} (h1 : tmps.getD 4 undef = .pointer (some ⟨b, 0, none⟩)) (h2 : tmps.getD 5 undef = t) (r : w.heap[b]? = some (.cells #[y, z] 122 (0, 0))) :
  (results Tryz.f135 tmps).run Tryz.prog w = .ok (.tuple #[.agg #[y, z], t]) w := by
 have c2 : w.cell? ⟨b, 0, none⟩ = some y := cell_of_block r 0
 have c4 : w.cell? ⟨b, 1, none⟩ = some z := cell_of_block r 1
 have h1' : tmps[4]?.getD undef = .pointer (some ⟨b, 0, none⟩) := by simpa using h1
 have h2' : tmps[5]?.getD undef = t := by simpa using h2
 simp only [results, Tryz.results135]
 simp [go_sem, h1', h2', asAddr, c2, c4]
theorem zeroU8 (w : World) : (zeroValue 5).run Tryz.prog w = .ok (.int .u8 0) w := by kernel_rfl
theorem run_clear_row {w : World} {g : Nat} {l : List UInt8} (h : rowU w g l) (o n c : Nat) (hn : 0 < n) (hl : o + n <= l.length) : ∀ ty, (Builtin.clear_ #[81] ty #[.slice (some ⟨g, o, none⟩) n c]).run Tryz.prog w = .ok (.tuple #[]) (w.setCells g o (List.replicate n (.int .u8 0))) := fun ty =>
 Lib.run_clear_slice w 81 5 ty (.int .u8 0) Tryz.underlying81 zeroU8 rfl rfl g o n c hn (fun j hj => by rw [h.cell (o + j) (by omega)]; rfl) (fun j hj => h.frozen (o + j) (by omega))
section
variable {w : World} {m c ino : Nat} {F : Nat -> Prop} {size N : Nat} {Pg Cm : Nat -> List UInt8} {D : Int -> Bool} {o u : Nat}
theorem acleared_any (h : mapB w m c ino) (hi : ino <= 512) (q : Nat) (hq : q < ino) (hN : 3 + ino / 8 <= N) (h8 : ino % 8 = 0) (hu : u < 1000000) (hp : Pc w c F size N Pg Cm D o u) :
  Calls Tryz.prog 135 #[.pointer (some ⟨m, 0, none⟩), .int .i64 q] w fun e w' => ∃ g cap, e = .returned (.tuple #[.agg #[.int .i64 (3 + q / 8 : Nat), .slice (some ⟨g, 0, none⟩) 512 cap], .bool (decide (¬ clr (Pg (3 + q / 8)) (q % 8 * 64) 64 = Pg (3 + q / 8)))]) /\ w.heap.size <= g /\ bytesAt w' ⟨g, 0, none⟩ (clr (Pg (3 + q / 8)) (q % 8 * 64) 64) /\ Keeps F w w' /\ Pc w' c F size N Pg Cm D o (u + 1) := by
 obtain ⟨pg, hpg⟩ : ∃ pg, pg = 3 + q / 8 := ⟨_, rfl⟩
 obtain ⟨at_, hat⟩ : ∃ at_, at_ = q % 8 * 64 := ⟨_, rfl⟩
 have hpgN : pg < N := by omega
 have hat4 : at_ + 64 <= 512 := by omega
 have ht0 := fun W (hW : Below w.heap.size w W) => aTable_any (h.below hW) hi (q : Int)
 rw [if_pos (⟨by omega, by omega⟩ : (0 : Int) <= (q : Int) /\ (q : Int) < (ino : Int)), show (3 : Int) + (q : Int) / 8 = (pg : Int) by omega, show (q : Int) % 8 * 64 = (at_ : Int) by omega] at ht0
 rw [<- hpg, <- hat]
 have HT := hid ht0
 have HLen := hid (hp.len pg hpgN)
 have HRd := hid (fun W (hW : Below w.heap.size w W) => hp.read hW pg hpgN hu)
 have HFl := hid hp.lt
 have HM := hid h
 clear hpg hat ht0 hq hN h8 h hp
 generalize Pg pg = l at *
 go_enter Tryz.func135, Tryz.ntmps135
 go_wp2_with fail
 obtain ⟨wa, hwa⟩ : ∃ wa, wa = w.alloc (.cells #[.int .i64 0, .slice none 0 0] 122) := ⟨_, rfl⟩
 have hb0 : Below w.heap.size w wa := by rw [hwa]; exact (Below.refl _ w).alloc (Nat.le_refl _) _
 have hbl : wa.heap[w.heap.size]? = some (.cells #[.int .i64 0, .slice none 0 0] 122 (0, 0)) := by rw [hwa]; exact block_new w _
 rw [<- hwa]
 have HB0 := hid hb0
 have HBl := hid hbl
 have HTa := hid (HT.out wa hb0)
 have HRa := hid (HRd.out wa hb0)
 have c0 : wa.cell? ⟨m, 0, none⟩ = some (.pointer (some ⟨c, 0, none⟩)) := cell_of_block (HM.out.below hb0) 0
 clear HT HRd hwa hb0 hbl
 obtain ⟨rb, hrb⟩ : ∃ rb, rb = w.heap.size := ⟨_, rfl⟩
 rw [<- hrb] at HBl ⊢
 have HRb := hid hrb
 clear hrb
 refine HTa.out.mono ?_
 clear HTa
 rintro e w1 ⟨rfl, h1⟩
 obtain rfl := h1.symm
 clear h1
 go_wp2_with fail
 refine HRa.out.mono ?_
 clear HRa
 rintro e w2 ⟨g, cap, rfl, hcap, hg, hr2, hk2, hf2⟩
 have hFr : ¬ F rb := fun hf => by have := HFl.out _ hf; have := HRb.out; omega
 have HBl2 := hid (hk2.heap HBl.out hFr)
 have HK2 := hid ((Keeps.of_below HB0.out : Keeps F w wa).trans hk2 (fun i e => .inl e))
 have HF2 := hid hf2
 have HG := hid hg
 have HR2 := hid hr2
 have hcl := byclone_any l ⟨g, 0, none⟩ cap w2 (by rw [HLen.out]; omega) (by rw [HLen.out]; omega) hr2.1
 rw [HLen.out] at hcl
 have HCl := hid hcl
 have hcap' : (512 : Int) <= (cap : Int) := by omega
 have hat0 : (0 : Int) <= (at_ : Int) := by omega
 have hat5 : (at_ : Int) + 64 <= 512 := by omega
 clear hg hr2 hk2 hf2 hcl hFr c0
 go_wp2_with fail
 refine HCl.out.mono ?_
 clear HCl
 rintro e w3 ⟨g2, cap2, rfl, hrow, hb3⟩
 have HR3 := hid (HR2.out.below hb3)
 have HRow := hid (rowU_of_row (l := l) hrow HLen.out)
 have HG2 : Hid (w2.heap.size <= g2) := by
  rcases hrow.2 with ⟨e, -⟩ | ⟨g', cap', cur, e, hle, -⟩
  ·cases e
  ·obtain ⟨rfl, -⟩ : g2 = g' /\ cap2 = cap' := by simpa using e
   exact hle
 have HB3 := hid hb3
 have hcr := run_clear_row HR3.out at_ 64 (cap - at_) (by omega) (by rw [HLen.out]; exact hat4)
 have hst := rowU.clears 64 at_ l w3 HR3.out (by rw [HLen.out]; exact hat4)
 obtain ⟨w4, hw4⟩ : ∃ w4, w4 = w3.setCells g at_ (List.replicate 64 (.int .u8 0)) := ⟨_, rfl⟩
 rw [<- hw4] at hcr hst
 have HSt := hid hst
 clear hb3 hrow hw4 hst
 have hb4 : bytesAt w4 ⟨g2, 0, none⟩ l := (HRow.out.keep HSt.out.2 (fun e => by have e' : g2 = g := e; have h1 := HR2.out.lt; have h2 := HG2.out; omega)).1
 have heq := equal_any (clr l at_ 64) l ⟨g, 0, none⟩ ⟨g2, 0, none⟩ cap cap2 w4 HSt.out.1.1 hb4
 rw [length_clr, HLen.out] at heq
 have HEq := hid heq
 have HBl4 : Hid (w4.heap[rb]? = some (.cells #[.int .i64 0, .slice none 0 0] 122 (0, 0))) := HSt.out.2.heap (below_block HB3.out HBl2.out (lt_of_heap HBl2.out)) (fun e => by have e' : rb = g := e; have h1 := HG.out; have h2 := lt_of_heap HBl.out; omega)
 clear heq hb4 HBl2 HRow HR3 HR2
 go_wp2_with fail
 refine HEq.out.mono ?_
 clear HEq
 rintro e w5 ⟨rfl, h5⟩
 obtain rfl := h5.symm
 clear h5 hcr
 obtain ⟨bb, hbb⟩ : ∃ bb, bb = decide (clr l at_ 64 = l) := ⟨_, rfl⟩
 rw [<- hbb]
 have HBb := hid hbb
 clear hbb
 go_wp2_with (refine wpList_store_block rfl 122 (.tmp 4) (.tmp 37) rfl rb #[.int .i64 pg, .slice (some ⟨g, 0, none⟩) 512 cap] rfl rfl _ 122 HBl4.out rfl infoPg2 (by simp [Value.oneCell']) ?_; intro w6 hg6 hb6 hz6)
 have hrb := HRb.out
 have hsz0 := HB0.out.size
 have hga := HG.out
 have hsb := lt_of_heap HBl.out
 have k34 : Keeps (fun i => w.heap.size <= i) w3 w4 := HSt.out.2.mono (fun i e => by have e' : i = g := e; show w.heap.size <= i; omega)
 have k46 : Keeps (fun i => w.heap.size <= i) w4 w6 := Keeps.of_grown hg6 (fun i e => by cases e; show w.heap.size <= rb; omega)
 have k26 : Keeps (fun i => w.heap.size <= i) w2 w6 := ((Keeps.of_below HB3.out : Keeps (fun i => w.heap.size <= i) w2 w3).trans k34 (fun i e => .inl e)).trans k46 (fun i e => .inl e)
 refine bodyPost_ret (results_clr rfl rfl hb6) rfl ⟨g, cap, ?_, by omega, ?_, HK2.out.trans k26 (fun i e => .inr e), HF2.out w6 k26⟩
 ·rw [HBb.out, decide_not]; rfl
 ·exact (HSt.out.1.keep (Keeps.of_grown hg6 (F := fun i => some rb = some i) (fun i e => e)) (fun e => by cases e; omega)).1
end
end
section
set_option maxRecDepth 100000
set_option maxHeartbeats 2000000
open Go.RowKit
section
variable {w : World} {m c ino : Nat} {F : Nat -> Prop} {size N : Nat} {Pg Cm : Nat -> List UInt8} {D : Int -> Bool} {o u : Nat}
def inoT (Pg : Nat -> List UInt8) (q : Nat) : List UInt8 := clr (Pg (3 + q / 8)) (q % 8 * 64) 64
def inoC (Pg : Nat -> List UInt8) (D : Int -> Bool) (q : Nat) : Nat := (if D 1 then 0 else 1) + (if inoT Pg q = Pg (3 + q / 8) then 0 else if D (3 + q / 8 : Nat) then 0 else 1)
def inoP (Pg : Nat -> List UInt8) (q : Nat) : Nat -> List UInt8 := if inoT Pg q = Pg (3 + q / 8) then updP Pg 1 (flipL (Pg 1) q) else updP (updP Pg 1 (flipL (Pg 1) q)) (3 + q / 8) (inoT Pg q)
def inoD (Pg : Nat -> List UInt8) (D : Int -> Bool) (q : Nat) : Int -> Bool := if inoT Pg q = Pg (3 + q / 8) then updT D 1 else updT (updT D 1) (3 + q / 8 : Nat)
def InodeTo (w : World) (c : Nat) (F : Nat -> Prop) (size N : Nat) (Pg Cm : Nat -> List UInt8) (D : Int -> Bool) (o u ino : Nat) (e : Ending) (w' : World) : Prop :=
 Keeps F w w' /\ ((freeTo (Pg 1) 1 ino 4096 = [] /\ e = .returned (.tuple #[.int .i64 0, .int .i64 7]) /\ Pc w' c F size N Pg Cm D o (u + 2)) \/
  ∃ (q : Nat) (rest : List Nat), freeTo (Pg 1) 1 ino 4096 = q :: rest /\ ((min size 100 < (dkD N D).length + inoC Pg D q /\ e = .returned (.tuple #[.int .i64 0, .int .i64 7]) /\ Pc w' c F size N Pg Cm D o (u + 2)) \/
   ((dkD N D).length + inoC Pg D q <= min size 100 /\ e = .returned (.tuple #[.int .i64 q, .int .i64 0]) /\ Pc w' c F size N (inoP Pg q) Cm (inoD Pg D q) o (u + 2))))
theorem aInode_any (h : mapB w m c ino) (hmF : ¬ F m) (hi : ino <= 512) (h8 : ino % 8 = 0) (hN : 3 + ino / 8 <= N) (hN2 : 2 <= N) (hu : u < 999999) (hp : Pc w c F size N Pg Cm D o u) :
  Calls Tryz.prog 72 #[.pointer (some ⟨m, 0, none⟩)] w (InodeTo w c F size N Pg Cm D o u ino) := by
 have hN4 := hp.four
 have HO := hid (amofInodes_any h)
 have HFl := hid hp.lt
 have HLen := hid (hp.len 1 (by omega))
 have HNx := hid (fun W (hW : Below w.heap.size w W) => anext_any (h.below hW) hmF 1 1 ino 0 oneF (by omega) (by omega) (by omega) (hp.below hW))
 have HM := hid h
 clear h hp
 go_enter Tryz.func72, Tryz.ntmps72
 go_wp2_with fail
 refine HO.out.mono ?_
 clear HO
 rintro e w1 ⟨rfl, hb1⟩
 have HB1 := hid hb1
 have HN1 := hid (HNx.out w1 hb1)
 clear HNx hb1
 go_wp2_with fail
 refine HN1.out.mono ?_
 clear HN1
 rintro e w2 ⟨hk2, hp2, hx⟩
 have HK2 := hid ((Keeps.of_below HB1.out : Keeps F w w1).trans hk2 (fun i e => .inl e))
 have HP2 := hid hp2
 have HM2 : Hid (mapB w2 m c ino) := (HM.out.below HB1.out).keep hk2 hmF
 clear hk2 hp2
 rcases hx with ⟨h0, rfl⟩ | ⟨q, rest, g, cap, h0, hq4, rfl, hg, hby⟩
 ·have H0 := hid h0
  clear h0
  have hb3 : Below w2.heap.size w2 (w2.alloc (.cells #[.int .i64 0, .slice none 0 0] 122)) := (Below.refl _ w2).alloc (Nat.le_refl _) _
  have HB3 := hid hb3
  clear hb3
  go_wp2
  go_returns
  exact ⟨HK2.out.trans (Keeps.of_below HB3.out : Keeps (fun _ => False) w2 _) (fun i e => e.elim), .inl ⟨H0.out, rfl, (HP2.out.below HB3.out).more (Nat.le_refl _) (by omega)⟩⟩
 ·have H0 := hid h0
  have hff := freeTo_first h0
  obtain ⟨wa, hwa⟩ : ∃ wa, wa = w2.alloc (.cells #[.int .i64 1, .slice (some ⟨g, 0, none⟩) 512 cap] 122) := ⟨_, rfl⟩
  have hb3 : Below w2.heap.size w2 wa := by rw [hwa]; exact (Below.refl _ w2).alloc (Nat.le_refl _) _
  have hbx : wa.heap[w2.heap.size]? = some (.cells #[.int .i64 1, .slice (some ⟨g, 0, none⟩) 512 cap] 122 (0, 0)) := by rw [hwa]; exact block_new w2 _
  have HBx := hid hbx
  have HB3 := hid hb3
  have HK3 : Hid (Keeps F w wa) := HK2.out.trans (Keeps.of_below hb3 : Keeps (fun _ => False) w2 _) (fun i e => e.elim)
  have Hby : Hid (bytesAt wa ⟨g, 0, none⟩ (flipL (Pg 1) q)) := fun j hj => (hb3.cell (World.block_lt_of_cell? w2 _ (hby j hj))).trans (hby j hj)
  have Hg : Hid (w.heap.size <= g) := Nat.le_trans HB1.out.size hg
  have hcl := acleared_any (HM2.out.below hb3) hi q (by omega) hN h8 (by omega) (HP2.out.below hb3)
  obtain ⟨T, hT⟩ : ∃ T, T = inoT Pg q := ⟨_, rfl⟩
  obtain ⟨tp, htp⟩ : ∃ tp, tp = 3 + q / 8 := ⟨_, rfl⟩
  have htN : tp < N := by omega
  have HTl : Hid (T.length = 512) := by rw [hT]; unfold inoT; rw [Hid, length_clr]; exact HP2.out.len _ (by omega)
  rw [show clr (Pg (3 + q / 8)) (q % 8 * 64) 64 = T from hT.symm, <- htp] at hcl
  have HCl := hid hcl
  have HT := hid hT
  have HTp := hid htp
  clear hcl hT htp
  have Hff := hid hff
  clear h0 hff hb3 hbx hby hg
  obtain ⟨nb, hnb⟩ : ∃ nb, nb = w2.heap.size := ⟨_, rfl⟩
  rw [<- hnb] at HBx
  have HNb : Hid (w.heap.size <= nb) := by rw [hnb]; exact HK2.out.size
  go_wp2_with fail
  rw [<- hwa, <- hnb]
  clear hwa hnb
  refine HCl.out.mono ?_
  clear HCl
  rintro e w4 ⟨g3, cap3, rfl, hg3, hby3, hk4, hp4⟩
  have HK4 := hid (HK3.out.trans hk4 (fun i e => .inl e))
  have hFn : ¬ F nb := fun hf => by have h1 := HFl.out _ hf; have h2 := HNb.out; omega
  have HBx4 := hid (hk4.heap HBx.out hFn)
  have HP4 := hid hp4
  have HM4 : Hid (mapB w4 m c ino) := (HM2.out.below HB3.out).keep hk4 hmF
  have Hby4 : Hid (bytesAt w4 ⟨g, 0, none⟩ (flipL (Pg 1) q)) := fun j hj => hk4.cell (Hby.out j hj) (by rw [add_block]; exact fun hf => by have h1 : g < w.heap.size := HFl.out _ hf; have h2 := Hg.out; omega)
  have Hby3 := hid hby3
  have Hg3 : Hid (w.heap.size <= g3) := Nat.le_trans HK3.out.size hg3
  have HSz4 := hid HK4.out.size
  clear hg3 hby3 hk4 hp4 hFn HBx Hby HB3 HM2 HP2
  have hb5 : Below w4.heap.size w4 (w4.alloc (.cells #[.int .i64 tp, .slice (some ⟨g3, 0, none⟩) 512 cap3] 122)) := (Below.refl _ w4).alloc (Nat.le_refl _) _
  have hbt := block_new w4 (.cells #[.int .i64 tp, .slice (some ⟨g3, 0, none⟩) 512 cap3] 122)
  obtain ⟨w5, hw5⟩ : ∃ w5, w4.alloc (.cells #[.int .i64 tp, .slice (some ⟨g3, 0, none⟩) 512 cap3] 122) = w5 := ⟨_, rfl⟩
  rw [hw5] at hb5 hbt
  have hbx5 := below_block hb5 HBx4.out (lt_of_heap HBx4.out)
  have c0 : w5.cell? ⟨nb, 0, none⟩ = some (.int .i64 1) := cell_of_block hbx5 0
  have c1 : w5.cell? ⟨nb, 1, none⟩ = some (.slice (some ⟨g, 0, none⟩) 512 cap) := cell_of_block hbx5 1
  have HK5 : Hid (Keeps F w w5) := HK4.out.andBelow hb5
  have HP5 := hid (HP4.out.below hb5)
  have HM5 := hid (HM4.out.below hb5)
  have Hby5 : Hid (bytesAt w5 ⟨g, 0, none⟩ (flipL (Pg 1) q)) := fun j hj => (hb5.cell (World.block_lt_of_cell? w4 _ (Hby4.out j hj))).trans (Hby4.out j hj)
  have Hbt5 : Hid (bytesAt w5 ⟨g3, 0, none⟩ T) := fun j hj => (hb5.cell (World.block_lt_of_cell? w4 _ (Hby3.out j hj))).trans (Hby3.out j hj)
  have HFg : Hid (¬ F g) := fun hf => by have h1 : g < w.heap.size := HFl.out _ hf; have h2 := Hg.out; omega
  have HFg3 : Hid (¬ F g3) := fun hf => by have h1 : g3 < w.heap.size := HFl.out _ hf; have h2 := Hg3.out; omega
  have HFn5 : Hid (¬ F w5.heap.size) := fun hf => by have h1 := HFl.out _ hf; have h2 := HK5.out.size; omega
  have HLf : Hid ((flipL (Pg 1) q).length = 512) := by rw [Hid, length_flipL]; exact HLen.out
  by_cases hot : T = Pg tp
  ·rw [decide_eq_false (show ¬ ¬ T = Pg tp from fun h => h hot)]
   have HOt := hid hot
   have hb6 : Below w5.heap.size w5 (w5.alloc (.cells #[.int .i64 1, .slice (some ⟨g, 0, none⟩) 512 cap] 122)) := (Below.refl _ w5).alloc (Nat.le_refl _) _
   have hbl6 := block_new w5 (.cells #[.int .i64 1, .slice (some ⟨g, 0, none⟩) 512 cap] 122)
   have hws : WPgs (w5.alloc (.cells #[.int .i64 1, .slice (some ⟨g, 0, none⟩) 512 cap] 122)) w5.heap.size [⟨1, g, cap, flipL (Pg 1) q⟩] F N := by
    refine ⟨fun i hi => ?_, fun _ => HFn5.out, fun p hp => ?_⟩
    ·obtain rfl : i = 0 := by simp at hi; omega
     exact ⟨cell_of_block hbl6 0, cell_of_block hbl6 1⟩
    ·obtain rfl : p = ⟨1, g, cap, flipL (Pg 1) q⟩ := by simpa using hp
     exact ⟨by show 1 < N; omega, HLf.out, fun j hj => (hb6.cell (World.block_lt_of_cell? w5 _ (Hby5.out j hj))).trans (Hby5.out j hj), HFg.out⟩
   have HWr := hid (awrite_any (HM5.out.below hb6) hmF w5.heap.size _ hws 1 (by simp) (by simp) (HP5.out.below hb6))
   have HK6 := hid (HK5.out.andBelow hb6)
   clear hot hb6 hbl6 hws hbt hbx5 hb5
   have HC : Hid (inoC Pg D q = (if D 1 then 0 else 1)) := by rw [Hid, inoC, <- HT.out, <- HTp.out, if_pos HOt.out]; rfl
   have HP : Hid (inoP Pg q = updP Pg 1 (flipL (Pg 1) q)) := by rw [Hid, inoP, <- HT.out, <- HTp.out, if_pos HOt.out]
   have HD : Hid (inoD Pg D q = updT D 1) := by rw [Hid, inoD, <- HT.out, <- HTp.out, if_pos HOt.out]
   go_wp2_with fail
   refine HWr.out.mono ?_
   clear HWr
   rintro e w7 ⟨hk7, hw7⟩
   have HK7 := hid (HK6.out.trans hk7 (fun i e => .inl e))
   rw [newC_one] at hw7
   clear hk7 c0 c1 hw5
   rcases hw7 with ⟨hf, rfl, hp7⟩ | ⟨hf, rfl, hp7⟩
   ·have HP7 := hid hp7
    have Hf := hid hf
    clear hp7 hf
    go_wp2_with fail
    refine (aanswer_any (q : Int) 7 w7).mono ?_
    rintro e w8 ⟨rfl, h8'⟩
    obtain rfl := h8'.symm
    clear h8'
    go_wp2
    go_returns
    exact ⟨HK7.out, .inr ⟨q, rest, H0.out, .inl ⟨by rw [HC.out]; exact Hf.out, rfl, HP7.out⟩⟩⟩
   ·have HP7 := hid hp7
    have Hf := hid hf
    clear hp7 hf
    go_wp2_with fail
    refine (aanswer_any (q : Int) 0 w7).mono ?_
    rintro e w8 ⟨rfl, h8'⟩
    obtain rfl := h8'.symm
    clear h8'
    rw [if_pos rfl]
    go_wp2
    go_returns
    exact ⟨HK7.out, .inr ⟨q, rest, H0.out, .inr ⟨by rw [HC.out]; exact Hf.out, rfl, by rw [HP.out, HD.out]; exact HP7.out⟩⟩⟩
  ·rw [decide_eq_true hot]
   have HOt := hid hot
   have t0 : w5.cell? ⟨w4.heap.size, 0, none⟩ = some (.int .i64 tp) := cell_of_block hbt 0
   have t1 : w5.cell? ⟨w4.heap.size, 1, none⟩ = some (.slice (some ⟨g3, 0, none⟩) 512 cap3) := cell_of_block hbt 1
   have hb6 : Below w5.heap.size w5 (w5.alloc (.cells #[.int .i64 1, .slice (some ⟨g, 0, none⟩) 512 cap, .int .i64 tp, .slice (some ⟨g3, 0, none⟩) 512 cap3] 122)) := (Below.refl _ w5).alloc (Nat.le_refl _) _
   have hbl6 := block_new w5 (.cells #[.int .i64 1, .slice (some ⟨g, 0, none⟩) 512 cap, .int .i64 tp, .slice (some ⟨g3, 0, none⟩) 512 cap3] 122)
   have hws : WPgs (w5.alloc (.cells #[.int .i64 1, .slice (some ⟨g, 0, none⟩) 512 cap, .int .i64 tp, .slice (some ⟨g3, 0, none⟩) 512 cap3] 122)) w5.heap.size [⟨1, g, cap, flipL (Pg 1) q⟩, ⟨tp, g3, cap3, T⟩] F N := by
    refine ⟨fun i hi => ?_, fun _ => HFn5.out, fun p hp => ?_⟩
    ·have hi2 : i = 0 \/ i = 1 := by simp at hi; omega
     rcases hi2 with rfl | rfl
     ·exact ⟨cell_of_block hbl6 0, cell_of_block hbl6 1⟩
     ·exact ⟨cell_of_block hbl6 2, cell_of_block hbl6 3⟩
    ·simp only [List.mem_cons, List.mem_nil_iff, or_false] at hp
     rcases hp with rfl | rfl
     ·exact ⟨by show 1 < N; omega, HLf.out, fun j hj => (hb6.cell (World.block_lt_of_cell? w5 _ (Hby5.out j hj))).trans (Hby5.out j hj), HFg.out⟩
     ·exact ⟨htN, HTl.out, fun j hj => (hb6.cell (World.block_lt_of_cell? w5 _ (Hbt5.out j hj))).trans (Hbt5.out j hj), HFg3.out⟩
   have HWr := hid (awrite_any (HM5.out.below hb6) hmF w5.heap.size _ hws 2 (by simp) (by simp) (HP5.out.below hb6))
   have HK6 := hid (HK5.out.andBelow hb6)
   clear hot hb6 hbl6 hws hbt hbx5 hb5
   have HC : Hid (inoC Pg D q = (if D 1 then 0 else 1) + (if D (tp : Nat) then 0 else 1)) := by rw [Hid, inoC, <- HT.out, <- HTp.out, if_neg HOt.out]
   have HP : Hid (inoP Pg q = updP (updP Pg 1 (flipL (Pg 1) q)) tp T) := by rw [Hid, inoP, <- HT.out, <- HTp.out, if_neg HOt.out]
   have HD : Hid (inoD Pg D q = updT (updT D 1) (tp : Nat)) := by rw [Hid, inoD, <- HT.out, <- HTp.out, if_neg HOt.out]
   go_wp2_with fail
   refine HWr.out.mono ?_
   clear HWr
   rintro e w7 ⟨hk7, hw7⟩
   have HK7 := hid (HK6.out.trans hk7 (fun i e => .inl e))
   rw [newC_cons, newC_one] at hw7
   clear hk7 c0 c1 t0 t1 hw5
   rcases hw7 with ⟨hf, rfl, hp7⟩ | ⟨hf, rfl, hp7⟩
   ·have HP7 := hid hp7
    have Hf := hid hf
    clear hp7 hf
    go_wp2_with fail
    refine (aanswer_any (q : Int) 7 w7).mono ?_
    rintro e w8 ⟨rfl, h8'⟩
    obtain rfl := h8'.symm
    clear h8'
    go_wp2
    go_returns
    exact ⟨HK7.out, .inr ⟨q, rest, H0.out, .inl ⟨by rw [HC.out]; exact Hf.out, rfl, HP7.out⟩⟩⟩
   ·have HP7 := hid hp7
    have Hf := hid hf
    clear hp7 hf
    go_wp2_with fail
    refine (aanswer_any (q : Int) 0 w7).mono ?_
    rintro e w8 ⟨rfl, h8'⟩
    obtain rfl := h8'.symm
    clear h8'
    rw [if_pos rfl]
    go_wp2
    go_returns
    exact ⟨HK7.out, .inr ⟨q, rest, H0.out, .inr ⟨by rw [HC.out]; exact Hf.out, rfl, by rw [HP.out, HD.out]; exact HP7.out⟩⟩⟩
end
end
section
set_option maxRecDepth 100000
set_option maxHeartbeats 2000000
open Go.RowKit
def rowB (w : World) (g : Nat) (L : List Bool) : Prop := ∀ j (hj : j < L.length), w.cell? ⟨g, j, none⟩ = some (.bool L[j])
theorem rowB.keep {w w' : World} {g : Nat} {L : List Bool} {F : Nat -> Prop} (h : rowB w g L) (k : Keeps F w w') (hF : ¬ F g) : rowB w' g L := fun j hj => k.cell (h j hj) hF
end
section
open Go.RowKit
def TakeTo (w : World) (g cap : Nat) (L : List Bool) (e : Ending) (w' : World) : Prop :=
 ((∀ j (hj : j < L.length), L[j] = true) /\ e = .returned (.tuple #[.slice (some ⟨g, 0, none⟩) L.length cap, .int .i64 0, .int .i64 7]) /\ w' = w) \/
  ∃ (n : Nat) (hn : n < L.length) (g' cap' : Nat), L[n] = false /\ (∀ j (hj : j < n), L[j] = true) /\ e = .returned (.tuple #[.slice (some ⟨g', 0, none⟩) L.length cap', .int .i64 n, .int .i64 0]) /\ w.heap.size <= g' /\ rowB w' g' (L.set n true) /\ Below w.heap.size w w'
theorem v5take_any (g cap : Nat) (L : List Bool) (hL : L.length <= 4096) (w : World) (h : rowB w g L) :
  Calls Tryz.prog 141 #[.slice (some ⟨g, 0, none⟩) L.length cap] w (TakeTo w g cap L) := by
 have H := hid h
 obtain ⟨i0, hi0, hz0, hz1, hz2⟩ := info_parts infoBl
 have HI := hid hi0
 have HX : Hid (∀ j u, (L.map Value.bool)[j]? = some u -> w.cell? ((⟨g, 0, none⟩ : Addr).add j) = some u) := fun j u hu => by
  have hj : j < L.length := by simpa using (List.getElem?_eq_some_iff.1 hu).1
  rw [Addr.add_mid, Nat.zero_add, h j hj]
  rw [List.getElem?_map, List.getElem?_eq_getElem hj] at hu
  exact hu
 clear h hi0
 go_enter Tryz.func141, Tryz.ntmps141
 go_wp2
 go_loopw [5] (fun iv wr => ∃ j : Nat, j <= L.length /\ iv = .int .i64 j /\ Hid (∀ i (hi : i < L.length), i < j -> L[i] = true) /\ wr = w) (fun iv _ => L.length - (intOf iv).toNat)
 case atStart => exact ⟨0, by omega, rfl, fun i _ hi => by omega, rfl⟩
 case round =>
  obtain ⟨j, hj, rfl, HT, rfl⟩ := hrel
  by_cases hlt : j < L.length
  ·have hlt' : (j : Int) < (L.length : Int) := by omega
   have hj0 : (0 : Int) <= (j : Int) := by omega
   have c0 := H.out j hlt
   cases hb : L[j] with
   | true =>
    rw [hb] at c0
    go_wp2
    exact ⟨⟨j + 1, by omega, by go_num, fun i hi hij => by
     rcases Nat.lt_or_ge i j with h1 | h1
     ·exact HT.out i hi h1
     ·have e : i = j := by omega
      subst e; exact hb, trivial⟩, by simp [intOf]; omega⟩
   | false =>
    rw [hb] at c0
    have hpos : 0 < L.length := by omega
    go_wp2_with (refine wpList_append_lies _ rfl (.tmp 18) (.tmp 19) 143 rfl wr.heap.size 4 i0 (.bool false) 1 1 Tryz.underlying143 HI.out hz0 hz1 hz2 rfl (by omega) (.slice none 0 0) 0 [] rfl (World.ownsRow_nil _ _ _ _) ⟨g, 0, none⟩ L.length cap (L.map Value.bool) rfl (by simp) HX.out (by intro u hu; obtain ⟨x, _, rfl⟩ := List.mem_map.1 hu; rfl) hpos (by unfold maxLen; omega) (by omega) (Nat.le_refl _) wr.heap.size rfl ?_; intro g2 cap2 w2 hown hgr hat hlt2; rw [Nat.zero_add, List.nil_append] at hown; rw [Nat.zero_add]; have HO := hid hown; have c1 : w2.cell? ⟨g2, j, none⟩ = some (.bool L[j]) := (by rw [hown.cellAt j (by simpa using hlt), List.getElem?_map, List.getElem?_eq_getElem hlt]; rfl); have f1 : w2.frozen? ⟨g2, j, none⟩ = false := (by obtain ⟨-, h2⟩ := hown; rcases h2 with ⟨e, -⟩ | ⟨g3, cap3, cur, e, -, hh, -⟩; exact absurd e (by simp); obtain ⟨rfl, -⟩ : g2 = g3 /\ cap2 = cap3 := (by simpa using e); exact frozen_of_block hh _); have HG := hid hgr; have HAt := hid hat; clear hown hgr hat)
    go_returns
    have hw2 : wr.heap.size <= g2 := by rcases HAt.out with e | e; cases e; omega
    refine .inr ⟨j, hlt, g2, cap2, hb, fun i hi => HT.out i (by omega) hi, rfl, hw2, fun i hi => ?_, ?_⟩
    ·have hi' : i < L.length := by simpa using hi
     by_cases e : i = j
     ·subst e
      rw [List.getElem_set_self]
      exact World.cell?_setCell_same' w2 _ _ (by rw [c1]; rfl)
     ·rw [List.getElem_set_ne (fun h => e h.symm), World.cell?_setCell_other _ _ _ _ (fun h => e (by cases h; rfl)), HO.out.cellAt i (by simpa using hi'), List.getElem?_map, List.getElem?_eq_getElem hi']; rfl
    ·exact Below.setCell ⟨HG.out.os, HG.out.tape, HG.out.output, HG.out.size, fun k hk => HG.out.block k hk (by simp [Value.ownBlock])⟩ (show wr.heap.size <= Addr.block ⟨g2, j, none⟩ from hw2) _
  ·obtain rfl : j = L.length := by omega
   have hge : ¬ ((L.length : Int) < (L.length : Int)) := by omega
   go_wp2
   go_returns
   exact .inl ⟨fun j hj => HT.out j hj hj, rfl, rfl⟩
end
section
open Go.RowKit
end
section
open Go.RowKit
section
variable {L : List UInt8} {a : Nat} {B : List Bool}
def startB (a N : Nat) : List Bool := (List.range N).map (fun n => decide (n < a))
theorem length_startB (a N : Nat) : (startB a N).length = N := by simp [startB]
theorem startB_at (a N n : Nat) (h : n < (startB a N).length) : (startB a N)[n] = decide (n < a) := by simp [startB]
end
end
section
open Go.RowKit
structure R5In (w : World) (r g cp gi ci : Nat) (Lp Li : List Bool) : Prop where
 heap : w.heap[r]? = some (.cells #[.int .i64 Lp.length, .int .i64 Li.length, .slice (some ⟨g, 0, none⟩) Lp.length cp, .slice (some ⟨gi, 0, none⟩) Li.length ci] 145 (0, 0))
 rp : rowB w g Lp
 ri : rowB w gi Li
 np : g ≠ r
 ni : gi ≠ r
 lp : Lp.length <= 4096
 li : Li.length <= 512
 gp : g < w.heap.size
 gl : gi < w.heap.size
section
variable {w w' w1 : World} {r g cp gi ci : Nat} {Lp Li : List Bool}
theorem R5In.keep {F : Nat -> Prop} (h : R5In w r g cp gi ci Lp Li) (k : Keeps F w w') (hr : ¬ F r) (hg : ¬ F g) (hi : ¬ F gi) : R5In w' r g cp gi ci Lp Li :=
 ⟨k.heap h.heap hr, h.rp.keep k hg, h.ri.keep k hi, h.np, h.ni, h.lp, h.li, Nat.lt_of_lt_of_le h.gp k.size, Nat.lt_of_lt_of_le h.gl k.size⟩
theorem R5In.below (h : R5In w r g cp gi ci Lp Li) (hb : Below w.heap.size w w') : R5In w' r g cp gi ci Lp Li :=
 h.keep (F := fun _ => False) (Keeps.of_below hb) (fun h => h) (fun h => h) (fun h => h)
theorem R5In.lt (h : R5In w r g cp gi ci Lp Li) : r < w.heap.size := lt_of_heap h.heap
theorem rowB.set {b : Nat} {L : List Bool} (h : rowB w b L) (hb : b ≠ r) (j : Nat) (v : Value) : rowB (w.setCell ⟨r, j, none⟩ v) b L := fun i hi => by
 rw [World.cell?_setCell_other _ _ _ _ (fun e => hb (by cases e; rfl))]
 exact h i hi
theorem R5In.setI (h : R5In w r g cp gi ci Lp Li) (hb : Below w.heap.size w w1) (g' cp' : Nat) (Li' : List Bool) (hl : Li'.length = Li.length) (hr : rowB w1 g' Li') (hg : g' ≠ r) (hs : g' < w1.heap.size) :
  R5In (w1.setCell ⟨r, 3, none⟩ (.slice (some ⟨g', 0, none⟩) Li.length cp')) r g cp g' cp' Lp Li' /\ Keeps (fun i => i = r) w (w1.setCell ⟨r, 3, none⟩ (.slice (some ⟨g', 0, none⟩) Li.length cp')) := by
 have h1 := h.below hb
 have hh := block_setCell h1.heap 3 (.slice (some ⟨g', 0, none⟩) Li.length cp')
 have k : Keeps (fun i => i = r) w w1 := Keeps.of_below hb
 refine ⟨⟨?_, h1.rp.set h.np 3 _, hr.set hg 3 _, h.np, hg, h.lp, by rw [hl]; exact h.li, by simpa using h1.gp, by simpa using hs⟩, ?_⟩
 ·rw [hh, hl]; rfl
 ·exact k.grown (grown_setCell (grown_refl _ _) _ _) (fun i e => .inl (Option.some.inj e).symm)
theorem R5In.cells (h : R5In w r g cp gi ci Lp Li) : w.cell? ⟨r, 0, none⟩ = some (.int .i64 Lp.length) /\ w.cell? ⟨r, 1, none⟩ = some (.int .i64 Li.length) /\ w.cell? ⟨r, 2, none⟩ = some (.slice (some ⟨g, 0, none⟩) Lp.length cp) /\ w.cell? ⟨r, 3, none⟩ = some (.slice (some ⟨gi, 0, none⟩) Li.length ci) :=
 ⟨cell_of_block h.heap 0, cell_of_block h.heap 1, cell_of_block h.heap 2, cell_of_block h.heap 3⟩
theorem v5First_any (h : R5In w r g cp gi ci Lp Li) : Calls Tryz.prog 69 #[.pointer (some ⟨r, 0, none⟩)] w fun e w' => e = .returned (.int .i64 (3 + Li.length / 8 : Nat)) /\ w' = w := by
 obtain ⟨c0, c1, c2, c3⟩ := h.cells
 have hl := h.li
 obtain ⟨k, hk⟩ : ∃ k, k = Li.length := ⟨_, rfl⟩
 rw [<- hk] at c1 hl ⊢
 have e1 : IntKind.i64.wrap (3 + (k : Int) / 8) = ((3 + k / 8 : Nat) : Int) := by rw [IntWalk.i64_in _ (by omega)]; omega
 clear h c0 c2 c3 hk
 go_enter Tryz.func69, Tryz.ntmps69
 go_wp2
 go_ret
 refine ⟨?_, rfl⟩
 congr 2
theorem v5Inodes_any (h : R5In w r g cp gi ci Lp Li) : Calls Tryz.prog 70 #[.pointer (some ⟨r, 0, none⟩)] w fun e w' => e = .returned (.int .i64 Li.length) /\ w' = w := by
 obtain ⟨c0, c1, c2, c3⟩ := h.cells
 clear h c0 c2 c3
 go_enter Tryz.func70, Tryz.ntmps70
 go_wp2
 go_ret
 exact ⟨rfl, rfl⟩
end
end
section
open Go.RowKit
section
variable {w : World} {r g cp gi ci : Nat} {Lp Li : List Bool}
def Take5 (w : World) (r : Nat) (L : List Bool) (X : World -> List Bool -> Nat -> Nat -> Prop) (g cp : Nat) (e : Ending) (w' : World) : Prop :=
 Keeps (fun i => i = r) w w' /\ (((∀ j (hj : j < L.length), L[j] = true) /\ e = .returned (.tuple #[.int .i64 0, .int .i64 7]) /\ X w' L g cp) \/
  ∃ (n : Nat) (hn : n < L.length) (g' cp' : Nat), L[n] = false /\ (∀ j (hj : j < n), L[j] = true) /\ e = .returned (.tuple #[.int .i64 n, .int .i64 0]) /\ w.heap.size <= g' /\ X w' (L.set n true) g' cp')
theorem rowB.lt {b : Nat} {L : List Bool} (h : rowB w b L) (n : Nat) (hn : n < L.length) : b < w.heap.size := World.block_lt_of_cell? w _ (h n hn)
theorem v5Inode_any (h : R5In w r g cp gi ci Lp Li) : Calls Tryz.prog 75 #[.pointer (some ⟨r, 0, none⟩)] w (Take5 w r Li (fun W L g' cp' => R5In W r g cp g' cp' Lp L) gi ci) := by
 obtain ⟨c0, c1, c2, c3⟩ := h.cells
 have HT := hid (v5take_any gi ci Li (by have := h.li; omega) w h.ri)
 have H := hid h
 clear h c0 c1 c2
 go_enter Tryz.func75, Tryz.ntmps75
 go_wp2_with fail
 refine HT.out.mono ?_
 clear HT
 rintro e w1 (⟨hall, rfl, h1⟩ | ⟨n, hn, g', cp', hb, hlow, rfl, hg', hrow, hbel⟩)
 ·obtain rfl := h1.symm
  have f2 : w.frozen? ⟨r, 3, none⟩ = false := frozen_of_block H.out.heap 3
  have HA := hid hall
  have HX := hid (H.out.setI (Below.refl _ w) gi ci Li rfl H.out.ri H.out.ni H.out.gl)
  clear h1 hall H
  go_wp2
  go_returns
  exact ⟨HX.out.2, .inl ⟨HA.out, rfl, HX.out.1⟩⟩
 ·have h1 := (H.out.below hbel).heap
  have d2 : w1.cell? ⟨r, 3, none⟩ = some (.slice (some ⟨gi, 0, none⟩) Li.length ci) := cell_of_block h1 3
  have f2 : w1.frozen? ⟨r, 3, none⟩ = false := frozen_of_block h1 3
  have hne : g' ≠ r := by have := H.out.lt; omega
  have HX := hid (H.out.setI hbel g' cp' (Li.set n true) List.length_set hrow hne (hrow.lt n (by simpa using hn)))
  have HA := hid hlow
  have HG := hid hg'
  have HB := hid hb
  clear h1 hlow hrow hbel H hne hg' hb
  go_wp2
  go_returns
  exact ⟨HX.out.2, .inr ⟨n, hn, g', cp', HB.out, HA.out, rfl, HG.out, HX.out.1⟩⟩
end
end
section
open Go.RowKit
end
section
open Go.RowKit
theorem startB_zero (N : Nat) : startB 0 N = List.replicate N false := by
 refine List.ext_getElem (by rw [length_startB, List.length_replicate]) (fun i h1 h2 => ?_)
 rw [startB_at, List.getElem_replicate]
 exact decide_eq_false (by omega)
theorem startB_set (a N : Nat) : (startB a N).set a true = startB (a + 1) N := by
 refine List.ext_getElem (by rw [List.length_set, length_startB, length_startB]) (fun i h1 h2 => ?_)
 rw [startB_at, List.getElem_set]
 split
 ·rename_i e; subst e; exact (decide_eq_true (by omega)).symm
 ·rw [startB_at]
  apply decide_eq_decide.2
  omega
theorem ownBl.below {w w' : World} {b : Nat} {L : List Bool} (h : ownBl w b L) (k : Below w.heap.size w w') : ownBl w' b L := below_block k h (lt_of_heap h)
theorem ownBl.row {w : World} {b : Nat} {L : List Bool} (h : ownBl w b L) : rowB w b L := fun j hj => h.cell j hj
theorem ownBl.other {w : World} {b b' : Nat} {L : List Bool} (h : ownBl w b L) (hb : b' ≠ b) (j : Nat) (v : Value) : ownBl (w.setCell ⟨b', j, none⟩ v) b L := by
 have k : Keeps (fun i => i = b') w (w.setCell ⟨b', j, none⟩ v) := (Keeps.refl _ w).grown (grown_setCell (grown_refl _ _) _ _) (fun i e => .inl (Option.some.inj e).symm)
 exact k.heap h (fun e => hb e.symm)
theorem wp_make_bls {w : World} {o : Oper} {a : Act} {K : Act -> World -> Prop} {Q : Exit -> Act -> World -> Prop} (l c : Operand) (hop : o.op = Op.makeSlice 143 l c)
  (n : Nat) (hl : a.eval l = .int .i64 n) (hc : a.eval c = .int .i64 n) (hm : n <= 4096)
  (h : ∀ w1 : World, Below w.heap.size w w1 -> ownBl w1 w.heap.size (startB 0 n) -> w1.heap.size = w.heap.size + 1 -> K (a.put o.dst (.slice (some ⟨w.heap.size, 0, none⟩) n n)) w1) : o.wp Tryz.prog a w K Q := by
 obtain ⟨i, hi, hz, hs, hb⟩ := info_parts infoBl
 have hrun := run_make (P := Tryz.prog) w 143 4 i (.bool false) Tryz.underlying143 hi hz .i64 .i64 n n (by omega) (by omega) (by rw [hb]; omega) (by omega)
 unfold Oper.wp
 have hown : ownBl (w.alloc (.cells (List.replicate n (Value.bool false)).toArray 4)) w.heap.size (startB 0 n) := by
  rw [startB_zero]
  unfold ownBl
  rw [List.map_replicate]; exact block_new _ _
 simp only [Int.toNat_natCast, hs, madeBl] at hrun
 generalize (List.replicate n (Value.bool false)).toArray = Z at *
 simp [execOp, hop, hl, hc, hrun, Result.andThen]
 exact h _ ((Below.refl _ _).alloc (Nat.le_refl _) _) hown (by simp)
structure MkIn (w wr : World) (r g gi N k j : Nat) : Prop where
 heap : wr.heap[r]? = some (.cells #[.int .i64 N, .int .i64 k, .slice (some ⟨g, 0, none⟩) N N, .slice (some ⟨gi, 0, none⟩) k k] 145 (0, 0))
 p : ownBl wr g (startB j N)
 i : ownBl wr gi (startB 0 k)
 out : Below w.heap.size w wr
 r0 : w.heap.size <= r
 g0 : w.heap.size <= g
 i0 : w.heap.size <= gi
 ne : g ≠ r /\ gi ≠ r /\ g ≠ gi
theorem MkIn.r5 {w wr : World} {r g gi N k j : Nat} (h : MkIn w wr r g gi N k j) (hN : N <= 4096) (hk : k <= 512) : R5In wr r g N gi k (startB j N) (startB 0 k) := by
 refine ⟨?_, h.p.row, h.i.row, h.ne.1, h.ne.2.1, by rw [length_startB]; exact hN, by rw [length_startB]; exact hk, lt_of_heap h.p, lt_of_heap h.i⟩
 rw [length_startB, length_startB]; exact h.heap
theorem MkIn.next {w wr : World} {r g gi N k j : Nat} (h : MkIn w wr r g gi N k j) : MkIn w (wr.setCell ⟨g, j, none⟩ (.bool true)) r g gi N k (j + 1) := by
 have kk : Keeps (fun i => i = g) wr (wr.setCell ⟨g, j, none⟩ (.bool true)) := (Keeps.refl _ wr).grown (grown_setCell (grown_refl _ _) _ _) (fun i e => .inl (Option.some.inj e).symm)
 refine ⟨kk.heap h.heap (fun e => h.ne.1 e.symm), ?_, h.i.other h.ne.2.2 _ _, h.out.setCell (show w.heap.size <= Addr.block ⟨g, j, none⟩ from h.g0) _, h.r0, h.g0, h.i0, h.ne⟩
 have h1 := h.p.set j true
 rw [startB_set] at h1
 exact h1
theorem MkIn.last {w wr : World} {r g gi N k j : Nat} (h : MkIn w wr r g gi N k j) (hN : N <= 4096) (hk : k <= 512) :
  Below w.heap.size w (wr.setCell ⟨gi, 0, none⟩ (.bool true)) /\ w.heap.size <= r /\ w.heap.size <= g /\ w.heap.size <= gi /\ R5In (wr.setCell ⟨gi, 0, none⟩ (.bool true)) r g N gi k (startB j N) (startB 1 k) := by
 have kk : Keeps (fun i => i = gi) wr (wr.setCell ⟨gi, 0, none⟩ (.bool true)) := (Keeps.refl _ wr).grown (grown_setCell (grown_refl _ _) _ _) (fun i e => .inl (Option.some.inj e).symm)
 have h1 := h.i.set 0 true
 rw [startB_set] at h1
 have hp := h.p.other (fun e => h.ne.2.2 e.symm) 0 (.bool true)
 refine ⟨h.out.setCell (show w.heap.size <= Addr.block ⟨gi, 0, none⟩ from h.i0) _, h.r0, h.g0, h.i0, ?_, hp.row, h1.row, h.ne.1, h.ne.2.1, by rw [length_startB]; exact hN, by rw [length_startB]; exact hk, lt_of_heap hp, lt_of_heap h1⟩
 rw [length_startB, length_startB]
 exact kk.heap h.heap (fun e => h.ne.2.1 e.symm)
def Made5 (w : World) (N : Nat) (ino : Int) (e : Ending) (w' : World) : Prop :=
 Below w.heap.size w w' /\ ((¬ mayP N ino /\ e = .returned (.tuple #[.pointer none, .int .i64 2])) \/
  ∃ (k r g gi : Nat), ino = (k : Int) /\ mayP N ino /\ e = .returned (.tuple #[.pointer (some ⟨r, 0, none⟩), .int .i64 0]) /\ w.heap.size <= r /\ w.heap.size <= g /\ w.heap.size <= gi /\ R5In w' r g N gi k (startB (3 + k / 8) N) (startB 1 k))
theorem v5Make_any (N : Nat) (ino : Int) (hN : N <= 4096) (w : World) : Calls Tryz.prog 26 #[.int .i64 N, .int .i64 ino] w (Made5 w N ino) := by
 by_cases h1 : ino < 8
 ·go_enter Tryz.func26, Tryz.ntmps26
  go_wp2
  go_returns
  exact ⟨Below.refl _ w, .inl ⟨fun h => by unfold mayP at h; omega, rfl⟩⟩
 ·by_cases h2 : 512 < ino
  ·go_enter Tryz.func26, Tryz.ntmps26
   go_wp2
   go_returns
   exact ⟨Below.refl _ w, .inl ⟨fun h => by unfold mayP at h; omega, rfl⟩⟩
  ·obtain ⟨k, rfl⟩ : ∃ k : Nat, ino = (k : Int) := ⟨ino.toNat, by omega⟩
   have h4 : (N : Int) <= 4096 := by omega
   have hk5 : k <= 512 := by omega
   by_cases h3 : (k : Int) % 8 = 0
   ·by_cases h5 : (N : Int) <= 3 + (k : Int) / 8
    ·go_enter Tryz.func26, Tryz.ntmps26
     go_wp2
     go_returns
     exact ⟨Below.refl _ w, .inl ⟨fun h => by unfold mayP at h; omega, rfl⟩⟩
    ·have HMy : Hid (mayP N (k : Int)) := ⟨by omega, by omega, h3, by omega, hN⟩
     have hf3 : 3 + k / 8 < N := by omega
     go_enter Tryz.func26, Tryz.ntmps26
     go_wp2
     have hb0 : Below w.heap.size w w.drew := (Below.refl _ w).drew
     refine wp_region_noPanic ?_
     refine wp_region_held_drew (S := fun _ => True) (by kernel_rfl) trivial (fun hHeld => ?_)
     generalize w.drew = wd at *
     refine tq 0 _ ?_
     try simp only [tS]
     refine tq 1 _ ?_
     try simp only [tS]
     refine tq 2 _ ?_
     try simp only [tS]
     refine tq 4 _ ?_
     try simp only [tS]
     refine wpAnyH_ready (rs := [3, 5]) (by kernel_rfl) (by simp) (AllReadyH.cons rfl (fun K hK => ?_) (AllReadyH.cons rfl (fun K hK => ?_) AllReadyH.nil))
     ·rw [if_pos (by rfl)]
      refine wp_make_bls (.tmp 32) (.tmp 32) rfl N rfl rfl hN ?_
      intro w4 hb4 ho4 hz4
      refine hK.out _ _ trivial (fun hHeld => ?_)
      clear hK K
      try simp only [tS]
      refine tr 5 (fun K hK => ?_)
      refine wp_make_bls (.tmp 34) (.tmp 34) rfl k rfl rfl (by omega) ?_
      intro w5 hb5 ho5 hz5
      refine hK.out _ _ trivial (fun hHeld => ?_)
      clear hK K
      try simp only [tS]
      obtain ⟨g, hg⟩ : ∃ g, g = wd.heap.size := ⟨_, rfl⟩
      obtain ⟨gi, hgi⟩ : ∃ gi, gi = w4.heap.size := ⟨_, rfl⟩
      rw [<- hg] at ho4 ⊢
      rw [<- hgi] at ho5 ⊢
      have HG := hid (ho4.below hb5)
      have HI := hid ho5
      have hs0 := hb0.size
      have HB5 : Hid (Below w.heap.size w w5) := (hb0.trans (hb4.mono hs0)).trans (hb5.mono (by omega))
      have HS : Hid (w.heap.size <= g /\ w.heap.size <= gi /\ g ≠ gi) := ⟨by omega, by omega, by omega⟩
      clear ho4 ho5 hb4 hb5 hz4 hz5 hg hgi hb0 hs0
      refine tq 6 _ ?_
      try simp only [tS]
      refine tr 7 (fun K hK => ?_)
      unfold Oper.wp
      go_simp
      have hal : Below w5.heap.size w5 (w5.alloc (.cells #[.int .i64 N, .int .i64 k, .slice (some ⟨g, 0, none⟩) N N, .slice (some ⟨gi, 0, none⟩) k k] 145)) := (Below.refl _ w5).alloc (Nat.le_refl _) _
      have HM0 : Hid (MkIn w (w5.alloc (.cells #[.int .i64 N, .int .i64 k, .slice (some ⟨g, 0, none⟩) N N, .slice (some ⟨gi, 0, none⟩) k k] 145)) w5.heap.size g gi N k 0) :=
       ⟨block_new w5 _, HG.out.below hal, HI.out.below hal, HB5.out.trans (hal.mono HB5.out.size), HB5.out.size, HS.out.1, HS.out.2.1, ⟨by have := lt_of_heap HG.out; omega, by have := lt_of_heap HI.out; omega, HS.out.2.2⟩⟩
      clear hal HG HI HB5 HS
      generalize w5.alloc (.cells #[.int .i64 N, .int .i64 k, .slice (some ⟨g, 0, none⟩) N N, .slice (some ⟨gi, 0, none⟩) k k] 145) = w6 at *
      generalize w5.heap.size = r at *
      refine hK.out _ _ trivial (fun hHeld => ?_)
      clear hK K
      try simp only [tS]
      refine tq 8 _ ?_
      try simp only [tS]
      refine wpAnyH_done (by kernel_rfl) ?_ _
      refine NoPanic.normal ?_
      clear hHeld
      go_wp2
      go_loopw [7] (fun nv wr => ∃ j : Nat, j <= 3 + k / 8 /\ nv = .int .i64 j /\ Hid (MkIn w wr r g gi N k j)) (fun nv _ => 3 + k / 8 - (intOf nv).toNat)
      case atStart => exact ⟨0, by omega, rfl, HM0⟩
      case round =>
       obtain ⟨j, hj, rfl, HMj⟩ := hrel
       clear HM0
       have hFi := v5First_any (HMj.out.r5 hN hk5)
       rw [length_startB] at hFi
       obtain ⟨f, hf⟩ : ∃ f, f = 3 + k / 8 := ⟨_, rfl⟩
       rw [<- hf] at hFi hj hf3 ⊢
       have HFi := hid hFi
       have HFe := hid hf
       clear hFi hf
       by_cases hlt : j < f
       ·have hlt' : (j : Int) < (f : Int) := by omega
        have hj0 : (0 : Int) <= (j : Int) := by omega
        have hjN : (j : Int) < (N : Int) := by omega
        have c2 : wr.cell? ⟨r, 2, none⟩ = some (.slice (some ⟨g, 0, none⟩) N N) := cell_of_block HMj.out.heap 2
        have c3 : wr.cell? ⟨g, j, none⟩ = some (.bool false) := by
         rw [HMj.out.p.cell j (by rw [length_startB]; omega), startB_at]
         congr 2; exact decide_eq_false (by omega)
        have f3 : wr.frozen? ⟨g, j, none⟩ = false := frozen_of_block HMj.out.p _
        go_wp2_with fail
        refine HFi.out.mono ?_
        clear HFi
        rintro e w7 ⟨rfl, h7⟩
        obtain rfl := h7.symm
        clear h7
        have HM2 := hid HMj.out.next
        clear HMj
        go_wp2
        exact ⟨⟨j + 1, by omega, by go_num, HM2⟩, by simp [intOf]; omega⟩
       ·obtain rfl : j = f := by omega
        have hge : ¬ ((j : Int) < (j : Int)) := by omega
        have c2 : wr.cell? ⟨r, 3, none⟩ = some (.slice (some ⟨gi, 0, none⟩) k k) := cell_of_block HMj.out.heap 3
        have c3 : wr.cell? ⟨gi, 0, none⟩ = some (.bool false) := by
         rw [HMj.out.i.cell 0 (by rw [length_startB]; omega), startB_at]
         congr 2
        have f3 : wr.frozen? ⟨gi, 0, none⟩ = false := frozen_of_block HMj.out.i _
        have hk0 : (0 : Int) < (k : Int) := by omega
        go_wp2_with fail
        refine HFi.out.mono ?_
        clear HFi
        rintro e w7 ⟨rfl, h7⟩
        obtain rfl := h7.symm
        clear h7
        have HLs := hid HMj.out.last
        clear HMj
        go_wp2
        go_returns
        have h8 := HLs.out hN hk5
        rw [HFe.out] at h8
        exact ⟨h8.1, .inr ⟨k, r, g, gi, rfl, HMy.out, rfl, h8.2.1, h8.2.2.1, h8.2.2.2.1, h8.2.2.2.2⟩⟩
     ·rw [if_pos (by rfl)]
      refine wp_make_bls (.tmp 34) (.tmp 34) rfl k rfl rfl (by omega) ?_
      intro w4 hb4 ho4 hz4
      refine hK.out _ _ trivial (fun hHeld => ?_)
      clear hK K
      try simp only [tS]
      refine tr 3 (fun K hK => ?_)
      refine wp_make_bls (.tmp 32) (.tmp 32) rfl N rfl rfl hN ?_
      intro w5 hb5 ho5 hz5
      refine hK.out _ _ trivial (fun hHeld => ?_)
      clear hK K
      try simp only [tS]
      obtain ⟨gi, hgi⟩ : ∃ gi, gi = wd.heap.size := ⟨_, rfl⟩
      obtain ⟨g, hg⟩ : ∃ g, g = w4.heap.size := ⟨_, rfl⟩
      rw [<- hgi] at ho4 ⊢
      rw [<- hg] at ho5 ⊢
      have HI := hid (ho4.below hb5)
      have HG := hid ho5
      have hs0 := hb0.size
      have HB5 : Hid (Below w.heap.size w w5) := (hb0.trans (hb4.mono hs0)).trans (hb5.mono (by omega))
      have HS : Hid (w.heap.size <= g /\ w.heap.size <= gi /\ g ≠ gi) := ⟨by omega, by omega, by omega⟩
      clear ho4 ho5 hb4 hb5 hz4 hz5 hg hgi hb0 hs0
      refine tq 6 _ ?_
      try simp only [tS]
      refine tr 7 (fun K hK => ?_)
      unfold Oper.wp
      go_simp
      have hal : Below w5.heap.size w5 (w5.alloc (.cells #[.int .i64 N, .int .i64 k, .slice (some ⟨g, 0, none⟩) N N, .slice (some ⟨gi, 0, none⟩) k k] 145)) := (Below.refl _ w5).alloc (Nat.le_refl _) _
      have HM0 : Hid (MkIn w (w5.alloc (.cells #[.int .i64 N, .int .i64 k, .slice (some ⟨g, 0, none⟩) N N, .slice (some ⟨gi, 0, none⟩) k k] 145)) w5.heap.size g gi N k 0) :=
       ⟨block_new w5 _, HG.out.below hal, HI.out.below hal, HB5.out.trans (hal.mono HB5.out.size), HB5.out.size, HS.out.1, HS.out.2.1, ⟨by have := lt_of_heap HG.out; omega, by have := lt_of_heap HI.out; omega, HS.out.2.2⟩⟩
      clear hal HG HI HB5 HS
      generalize w5.alloc (.cells #[.int .i64 N, .int .i64 k, .slice (some ⟨g, 0, none⟩) N N, .slice (some ⟨gi, 0, none⟩) k k] 145) = w6 at *
      generalize w5.heap.size = r at *
      refine hK.out _ _ trivial (fun hHeld => ?_)
      clear hK K
      try simp only [tS]
      refine tq 8 _ ?_
      try simp only [tS]
      refine wpAnyH_done (by kernel_rfl) ?_ _
      refine NoPanic.normal ?_
      clear hHeld
      go_wp2
      go_loopw [7] (fun nv wr => ∃ j : Nat, j <= 3 + k / 8 /\ nv = .int .i64 j /\ Hid (MkIn w wr r g gi N k j)) (fun nv _ => 3 + k / 8 - (intOf nv).toNat)
      case atStart => exact ⟨0, by omega, rfl, HM0⟩
      case round =>
       obtain ⟨j, hj, rfl, HMj⟩ := hrel
       clear HM0
       have hFi := v5First_any (HMj.out.r5 hN hk5)
       rw [length_startB] at hFi
       obtain ⟨f, hf⟩ : ∃ f, f = 3 + k / 8 := ⟨_, rfl⟩
       rw [<- hf] at hFi hj hf3 ⊢
       have HFi := hid hFi
       have HFe := hid hf
       clear hFi hf
       by_cases hlt : j < f
       ·have hlt' : (j : Int) < (f : Int) := by omega
        have hj0 : (0 : Int) <= (j : Int) := by omega
        have hjN : (j : Int) < (N : Int) := by omega
        have c2 : wr.cell? ⟨r, 2, none⟩ = some (.slice (some ⟨g, 0, none⟩) N N) := cell_of_block HMj.out.heap 2
        have c3 : wr.cell? ⟨g, j, none⟩ = some (.bool false) := by
         rw [HMj.out.p.cell j (by rw [length_startB]; omega), startB_at]
         congr 2; exact decide_eq_false (by omega)
        have f3 : wr.frozen? ⟨g, j, none⟩ = false := frozen_of_block HMj.out.p _
        go_wp2_with fail
        refine HFi.out.mono ?_
        clear HFi
        rintro e w7 ⟨rfl, h7⟩
        obtain rfl := h7.symm
        clear h7
        have HM2 := hid HMj.out.next
        clear HMj
        go_wp2
        exact ⟨⟨j + 1, by omega, by go_num, HM2⟩, by simp [intOf]; omega⟩
       ·obtain rfl : j = f := by omega
        have hge : ¬ ((j : Int) < (j : Int)) := by omega
        have c2 : wr.cell? ⟨r, 3, none⟩ = some (.slice (some ⟨gi, 0, none⟩) k k) := cell_of_block HMj.out.heap 3
        have c3 : wr.cell? ⟨gi, 0, none⟩ = some (.bool false) := by
         rw [HMj.out.i.cell 0 (by rw [length_startB]; omega), startB_at]
         congr 2
        have f3 : wr.frozen? ⟨gi, 0, none⟩ = false := frozen_of_block HMj.out.i _
        have hk0 : (0 : Int) < (k : Int) := by omega
        go_wp2_with fail
        refine HFi.out.mono ?_
        clear HFi
        rintro e w7 ⟨rfl, h7⟩
        obtain rfl := h7.symm
        clear h7
        have HLs := hid HMj.out.last
        clear HMj
        go_wp2
        go_returns
        have h8 := HLs.out hN hk5
        rw [HFe.out] at h8
        exact ⟨h8.1, .inr ⟨k, r, g, gi, rfl, HMy.out, rfl, h8.2.1, h8.2.2.1, h8.2.2.2.1, h8.2.2.2.2⟩⟩
   ·go_enter Tryz.func26, Tryz.ntmps26
    go_wp2
    go_returns
    exact ⟨Below.refl _ w, .inl ⟨fun h => by unfold mayP at h; omega, rfl⟩⟩
end
section
open Go.RowKit
end
section
open Go.RowKit
end
section
open Go.RowKit
end
section
open Go.RowKit
end
section
set_option maxRecDepth 100000
set_option maxHeartbeats 1000000
open Go.RowKit
theorem v5Fork_any {w : World} {r g cp gi ci : Nat} {Lp Li : List Bool} (h : R5In w r g cp gi ci Lp Li) : Calls Tryz.prog 78 #[.pointer (some ⟨r, 0, none⟩)] w fun e w' => ∃ q, e = .returned (.pointer (some ⟨q, 0, none⟩)) /\ w.heap.size <= q /\ Below w.heap.size w w' /\ R5In w' q g cp gi ci Lp Li := by
 obtain ⟨c0, c1, c2, c3⟩ := h.cells
 have HR := hid h
 clear h
 go_enter Tryz.func78, Tryz.ntmps78
 go_wp2
 go_ret
 have hb := (Below.refl w.heap.size w).alloc (Nat.le_refl _) (.cells #[.int .i64 Lp.length, .int .i64 Li.length, .slice (some ⟨g, 0, none⟩) Lp.length cp, .slice (some ⟨gi, 0, none⟩) Li.length ci] 145)
 have h1 := HR.out.below hb
 have hgp := HR.out.gp
 have hgl := HR.out.gl
 exact ⟨w.heap.size, rfl, Nat.le_refl _, hb, ⟨block_new w _, h1.rp, h1.ri, by omega, by omega, h1.lp, h1.li, h1.gp, h1.gl⟩⟩
theorem infoFile : (Tryz.prog.info? 157).map (fun i => (i.zero, i.size, i.bytes)) = some (some (.agg #[.int .i64 0, .int .i64 0, .int .i64 0, .slice none 0 0, .slice none 0 0, .int .i64 0]), 6, 80) := by kernel_rfl
def files16 : Array Value := madeCells (Value.agg #[.int .i64 0, .int .i64 0, .int .i64 0, .slice none 0 0, .slice none 0 0, .int .i64 0]).cells (Int.toNat 16 * 6)
theorem run_mk16 (w : World) : (Instr.makeSlice 146 (.int .i64 16) (.int .i64 16)).run Tryz.prog w = .ok (.slice (some ⟨w.heap.size, 0, none⟩) 16 16) (w.alloc (.cells files16 157)) := by
 obtain ⟨i, hi, hz, hs, hb⟩ := info_parts infoFile
 have hrun := run_make (P := Tryz.prog) w 146 157 i _ Tryz.underlying146 hi hz .i64 .i64 16 16 (by omega) (by omega) (by rw [hb]; omega) (by omega)
 simp only [hs] at hrun
 exact hrun
theorem v6Commit_any {w : World} {q r g cp gi ci : Nat} {Lp Li : List Bool} {la : Option Addr} {ln lc : Nat} {p2 l2 : Value} (hq : w.heap[q]? = some (.cells #[.pointer (some ⟨r, 0, none⟩), .slice la ln lc, p2, l2] 148 (0, 0))) (h : R5In w r g cp gi ci Lp Li) (hqg : q ≠ g /\ q ≠ gi) :
  Calls Tryz.prog 30 #[.pointer (some ⟨q, 0, none⟩)] w fun e w' => e = .returned (.tuple #[]) /\ Keeps (fun i => i = q) w w' /\ ∃ x, w.heap.size <= x /\ R5In w' x g cp gi ci Lp Li /\ w'.heap[q]? = some (.cells #[.pointer (some ⟨r, 0, none⟩), .slice la ln lc, .pointer (some ⟨x, 0, none⟩), .slice la ln lc] 148 (0, 0)) := by
 have c0 : w.cell? ⟨q, 0, none⟩ = some (.pointer (some ⟨r, 0, none⟩)) := cell_of_block hq 0
 have c1 : w.cell? ⟨q, 1, none⟩ = some (.slice la ln lc) := cell_of_block hq 1
 have HFk := hid (fun W (hW : Below w.heap.size w W) => v5Fork_any (h.below hW))
 have HQ := hid hq
 clear h hq
 go_enter Tryz.func30, Tryz.ntmps30
 go_wp2_with fail
 have hbd : Below w.heap.size w w.drew := (Below.refl _ w).drew
 have hqd := below_block hbd HQ.out (lt_of_heap HQ.out)
 have d0 : w.drew.cell? ⟨q, 0, none⟩ = some (.pointer (some ⟨r, 0, none⟩)) := cell_of_block hqd 0
 have d1 : w.drew.cell? ⟨q, 1, none⟩ = some (.slice la ln lc) := cell_of_block hqd 1
 have HQd := hid hqd
 have HBd := hid hbd
 have HFk2 := hid (HFk.out w.drew hbd)
 clear hqd hbd HFk c0 c1
 refine wp_region_noPanic ?_
 refine wp_region_held_drew (S := fun W => W.cell? ⟨q, 0, none⟩ = some (.pointer (some ⟨r, 0, none⟩)) /\ W.cell? ⟨q, 1, none⟩ = some (.slice la ln lc)) (by kernel_rfl) ⟨d0, d1⟩ (fun hHeld => ?_)
 generalize w.drew = wd at *
 refine tq 0 _ ?_
 try simp only [tS]
 refine tq 1 _ ?_
 try simp only [tS]
 refine tq 2 _ ?_
 try simp only [tS]
 refine tq 3 _ ?_
 try simp only [tS]
 refine tq 4 _ ?_
 try simp only [tS]
 refine tq 5 _ ?_
 try simp only [tS]
 refine tq 7 _ ?_
 try simp only [tS]
 refine tq 8 _ ?_
 try simp only [tS]
 refine tq 9 _ ?_
 try simp only [tS]
 refine tq 10 _ ?_
 try simp only [tS]
 refine tr 6 (fun K hK => ?_)
 go_simp
 refine HFk2.out.mono ?_
 clear HFk2
 rintro e w1 ⟨x, rfl, hx, hb1, hr1⟩
 have HX := hid hx
 have HR1 := hid hr1
 clear hr1
 have hq1 := below_block hb1 HQd.out (lt_of_heap HQd.out)
 have e0 : w1.cell? ⟨q, 0, none⟩ = some (.pointer (some ⟨r, 0, none⟩)) := cell_of_block hq1 0
 have e1 : w1.cell? ⟨q, 1, none⟩ = some (.slice la ln lc) := cell_of_block hq1 1
 have e2 : w1.cell? ⟨q, 2, none⟩ = some p2 := cell_of_block hq1 2
 have e3 : w1.cell? ⟨q, 3, none⟩ = some l2 := cell_of_block hq1 3
 have f2 : w1.frozen? ⟨q, 2, none⟩ = false := frozen_of_block hq1 2
 have f3 : w1.frozen? ⟨q, 3, none⟩ = false := frozen_of_block hq1 3
 have HQ1 := hid hq1
 have HB1 := hid (HBd.out.trans (hb1.mono HBd.out.size))
 clear hq1 hb1 d0 d1
 go_wp2_with fail
 refine hK.out _ _ ⟨e0, e1⟩ (fun hHeld => ?_)
 clear hK K
 try simp only [tS]
 refine tq 11 _ ?_
 try simp only [tS]
 refine tq 12 _ ?_
 try simp only [tS]
 refine tr 13 (fun K hK => ?_)
 go_simp
 have k2 : Keeps (fun i => i = q) w1 (w1.setCell ⟨q, 2, none⟩ (.pointer (some ⟨x, 0, none⟩))) := (Keeps.refl _ w1).grown (grown_setCell (grown_refl _ _) _ _) (fun i e => .inl (Option.some.inj e).symm)
 have hq2 := block_setCell HQ1.out 2 (.pointer (some ⟨x, 0, none⟩))
 generalize w1.setCell ⟨q, 2, none⟩ (.pointer (some ⟨x, 0, none⟩)) = w2 at *
 have g0 : w2.cell? ⟨q, 0, none⟩ = some (.pointer (some ⟨r, 0, none⟩)) := cell_of_block hq2 0
 have g1 : w2.cell? ⟨q, 1, none⟩ = some (.slice la ln lc) := cell_of_block hq2 1
 have g3 : w2.cell? ⟨q, 3, none⟩ = some l2 := cell_of_block hq2 3
 have h3 : w2.frozen? ⟨q, 3, none⟩ = false := frozen_of_block hq2 3
 have HK2 := hid k2
 have HQ2 := hid hq2
 clear hq2 k2 e0 e1 e2 e3 f2 f3
 refine hK.out _ _ ⟨g0, g1⟩ (fun hHeld => ?_)
 clear hK K
 try simp only [tS]
 refine tq 14 _ ?_
 try simp only [tS]
 refine tq 15 _ ?_
 try simp only [tS]
 refine tr 16 (fun K hK => ?_)
 go_simp
 have k3 : Keeps (fun i => i = q) w2 (w2.setCell ⟨q, 3, none⟩ (.slice la ln lc)) := (Keeps.refl _ w2).grown (grown_setCell (grown_refl _ _) _ _) (fun i e => .inl (Option.some.inj e).symm)
 have hq3 := block_setCell HQ2.out 3 (.slice la ln lc)
 have i0 : (w2.setCell ⟨q, 3, none⟩ (.slice la ln lc)).cell? ⟨q, 0, none⟩ = some (.pointer (some ⟨r, 0, none⟩)) := cell_of_block hq3 0
 have i1 : (w2.setCell ⟨q, 3, none⟩ (.slice la ln lc)).cell? ⟨q, 1, none⟩ = some (.slice la ln lc) := cell_of_block hq3 1
 refine hK.out _ _ ⟨i0, i1⟩ (fun hHeld => ?_)
 clear hK K
 refine wpAnyH_done (by kernel_rfl) ?_ _
 refine NoPanic.normal ?_
 have HK3 := hid k3
 have HQ3 := hid hq3
 clear k3 hHeld i0 i1 g0 g1 g3 h3 hq3
 generalize w2.setCell ⟨q, 3, none⟩ (.slice la ln lc) = w3 at *
 go_wp2_with fail
 have k13 := HK2.out.trans HK3.out (fun i e => .inl e)
 have hws := HBd.out.size
 have hxl := HX.out
 have hql := lt_of_heap HQ.out
 refine ⟨rfl, _, results_none rfl _ _ _, rfl, (Keeps.of_below HB1.out : Keeps (fun i => i = q) w w1).trans k13 (fun i e => .inl e), x, by omega, HR1.out.keep k13 (fun e => by have e' : x = q := e; omega) (fun e => hqg.1 e.symm) (fun e => hqg.2 e.symm), ?_⟩
 exact HQ3.out
theorem v6Abort_any {w : World} {q r g cp gi ci : Nat} {Lp Li : List Bool} {la : Option Addr} {ln lc : Nat} {p2 l2 : Value} (hq : w.heap[q]? = some (.cells #[p2, l2, .pointer (some ⟨r, 0, none⟩), .slice la ln lc] 148 (0, 0))) (h : R5In w r g cp gi ci Lp Li) (hqg : q ≠ g /\ q ≠ gi) :
  Calls Tryz.prog 142 #[.pointer (some ⟨q, 0, none⟩)] w fun e w' => e = .returned (.tuple #[]) /\ Keeps (fun i => i = q) w w' /\ ∃ x, w.heap.size <= x /\ R5In w' x g cp gi ci Lp Li /\ w'.heap[q]? = some (.cells #[.pointer (some ⟨x, 0, none⟩), .slice la ln lc, .pointer (some ⟨r, 0, none⟩), .slice la ln lc] 148 (0, 0)) := by
 have c0 : w.cell? ⟨q, 2, none⟩ = some (.pointer (some ⟨r, 0, none⟩)) := cell_of_block hq 2
 have c1 : w.cell? ⟨q, 3, none⟩ = some (.slice la ln lc) := cell_of_block hq 3
 have HFk := hid (fun W (hW : Below w.heap.size w W) => v5Fork_any (h.below hW))
 have HQ := hid hq
 clear h hq
 go_enter Tryz.func142, Tryz.ntmps142
 go_wp2_with fail
 have hbd : Below w.heap.size w w.drew := (Below.refl _ w).drew
 have hqd := below_block hbd HQ.out (lt_of_heap HQ.out)
 have d0 : w.drew.cell? ⟨q, 2, none⟩ = some (.pointer (some ⟨r, 0, none⟩)) := cell_of_block hqd 2
 have d1 : w.drew.cell? ⟨q, 3, none⟩ = some (.slice la ln lc) := cell_of_block hqd 3
 have HQd := hid hqd
 have HBd := hid hbd
 have HFk2 := hid (HFk.out w.drew hbd)
 clear hqd hbd HFk c0 c1
 refine wp_region_noPanic ?_
 refine wp_region_held_drew (S := fun W => W.cell? ⟨q, 2, none⟩ = some (.pointer (some ⟨r, 0, none⟩)) /\ W.cell? ⟨q, 3, none⟩ = some (.slice la ln lc)) (by kernel_rfl) ⟨d0, d1⟩ (fun hHeld => ?_)
 generalize w.drew = wd at *
 refine tq 0 _ ?_
 try simp only [tS]
 refine tq 1 _ ?_
 try simp only [tS]
 refine tq 2 _ ?_
 try simp only [tS]
 refine tq 3 _ ?_
 try simp only [tS]
 refine tq 4 _ ?_
 try simp only [tS]
 refine tq 5 _ ?_
 try simp only [tS]
 refine tq 7 _ ?_
 try simp only [tS]
 refine tq 8 _ ?_
 try simp only [tS]
 refine tq 9 _ ?_
 try simp only [tS]
 refine tq 10 _ ?_
 try simp only [tS]
 refine tr 6 (fun K hK => ?_)
 go_simp
 refine HFk2.out.mono ?_
 clear HFk2
 rintro e w1 ⟨x, rfl, hx, hb1, hr1⟩
 have HX := hid hx
 have HR1 := hid hr1
 clear hr1
 have hq1 := below_block hb1 HQd.out (lt_of_heap HQd.out)
 have e0 : w1.cell? ⟨q, 2, none⟩ = some (.pointer (some ⟨r, 0, none⟩)) := cell_of_block hq1 2
 have e1 : w1.cell? ⟨q, 3, none⟩ = some (.slice la ln lc) := cell_of_block hq1 3
 have e2 : w1.cell? ⟨q, 0, none⟩ = some p2 := cell_of_block hq1 0
 have e3 : w1.cell? ⟨q, 1, none⟩ = some l2 := cell_of_block hq1 1
 have f2 : w1.frozen? ⟨q, 0, none⟩ = false := frozen_of_block hq1 0
 have f3 : w1.frozen? ⟨q, 1, none⟩ = false := frozen_of_block hq1 1
 have HQ1 := hid hq1
 have HB1 := hid (HBd.out.trans (hb1.mono HBd.out.size))
 clear hq1 hb1 d0 d1
 go_wp2_with fail
 refine hK.out _ _ ⟨e0, e1⟩ (fun hHeld => ?_)
 clear hK K
 try simp only [tS]
 refine tq 11 _ ?_
 try simp only [tS]
 refine tq 12 _ ?_
 try simp only [tS]
 refine tr 13 (fun K hK => ?_)
 go_simp
 have k2 : Keeps (fun i => i = q) w1 (w1.setCell ⟨q, 0, none⟩ (.pointer (some ⟨x, 0, none⟩))) := (Keeps.refl _ w1).grown (grown_setCell (grown_refl _ _) _ _) (fun i e => .inl (Option.some.inj e).symm)
 have hq2 := block_setCell HQ1.out 0 (.pointer (some ⟨x, 0, none⟩))
 generalize w1.setCell ⟨q, 0, none⟩ (.pointer (some ⟨x, 0, none⟩)) = w2 at *
 have g0 : w2.cell? ⟨q, 2, none⟩ = some (.pointer (some ⟨r, 0, none⟩)) := cell_of_block hq2 2
 have g1 : w2.cell? ⟨q, 3, none⟩ = some (.slice la ln lc) := cell_of_block hq2 3
 have g3 : w2.cell? ⟨q, 1, none⟩ = some l2 := cell_of_block hq2 1
 have h3 : w2.frozen? ⟨q, 1, none⟩ = false := frozen_of_block hq2 1
 have HK2 := hid k2
 have HQ2 := hid hq2
 clear hq2 k2 e0 e1 e2 e3 f2 f3
 refine hK.out _ _ ⟨g0, g1⟩ (fun hHeld => ?_)
 clear hK K
 try simp only [tS]
 refine tq 14 _ ?_
 try simp only [tS]
 refine tq 15 _ ?_
 try simp only [tS]
 refine tr 16 (fun K hK => ?_)
 go_simp
 have k3 : Keeps (fun i => i = q) w2 (w2.setCell ⟨q, 1, none⟩ (.slice la ln lc)) := (Keeps.refl _ w2).grown (grown_setCell (grown_refl _ _) _ _) (fun i e => .inl (Option.some.inj e).symm)
 have hq3 := block_setCell HQ2.out 1 (.slice la ln lc)
 have i0 : (w2.setCell ⟨q, 1, none⟩ (.slice la ln lc)).cell? ⟨q, 2, none⟩ = some (.pointer (some ⟨r, 0, none⟩)) := cell_of_block hq3 2
 have i1 : (w2.setCell ⟨q, 1, none⟩ (.slice la ln lc)).cell? ⟨q, 3, none⟩ = some (.slice la ln lc) := cell_of_block hq3 3
 refine hK.out _ _ ⟨i0, i1⟩ (fun hHeld => ?_)
 clear hK K
 refine wpAnyH_done (by kernel_rfl) ?_ _
 refine NoPanic.normal ?_
 have HK3 := hid k3
 have HQ3 := hid hq3
 clear k3 hHeld i0 i1 g0 g1 g3 h3 hq3
 generalize w2.setCell ⟨q, 1, none⟩ (.slice la ln lc) = w3 at *
 go_wp2_with fail
 have k13 := HK2.out.trans HK3.out (fun i e => .inl e)
 have hws := HBd.out.size
 have hxl := HX.out
 have hql := lt_of_heap HQ.out
 refine ⟨rfl, _, results_none rfl _ _ _, rfl, (Keeps.of_below HB1.out : Keeps (fun i => i = q) w w1).trans k13 (fun i e => .inl e), x, by omega, HR1.out.keep k13 (fun e => by have e' : x = q := e; omega) (fun e => hqg.1 e.symm) (fun e => hqg.2 e.symm), ?_⟩
 exact HQ3.out
end
section
open Go.RowKit
theorem infoU8s : (Tryz.prog.info? 5).map (·.size) = some 1 := by kernel_rfl
theorem own_laid {w1 : World} {g off : Nat} {L xs : List UInt8}
  (h : w1.heap[g]? = some (.cells (((L.map U8).toArray.toList).take off ++ ((xs.map U8) ++ ((L.map U8).toArray.toList).drop (off + (xs.map U8).length))).toArray 5 (0, 0))) : ownB w1 g (L.take off ++ xs ++ L.drop (off + xs.length)) := by
 unfold ownB
 rw [h, List.map_append, List.map_append, List.map_take, List.map_drop, List.length_map, List.append_assoc]
section
variable {w : World} {ops : Array Oper} {rest : List Oper} {o : Oper} {a : Act} {Q : Exit -> Act -> World -> Prop}
theorem wpList_copy_own8 (hgd : o.guard = none) (d s : Operand) (ho : o.op = .call { callee := .builtin .copy, args := #[d, s], argTypes := #[81, 81] })
  (g off dLen dCap : Nat) (ad : Addr) (sLen sCap : Nat) (hd : a.eval d = .slice (some ⟨g, off, none⟩) dLen dCap) (hs : a.eval s = .slice (some ad) sLen sCap)
  (L xs : List UInt8) (hg : ownB w g L) (hx : bytesAt w ad xs) (hn : xs.length = Nat.min sLen dLen) (hfit : off + xs.length <= L.length)
  (h : ∀ w1 : World, Keeps (fun i => i = g) w w1 -> ownB w1 g (L.take off ++ xs ++ L.drop (off + xs.length)) -> w1.heap.size = w.heap.size -> wpList Tryz.prog ops Q rest (a.put o.dst (goInt xs.length)) w1) : wpList Tryz.prog ops Q (o :: rest) a w := by
 refine wpList_copy_block hgd d s _ _ ho 5 Tryz.underlying81 infoU8s g off dLen dCap ad sLen sCap hd hs _ _ hg (xs.map U8) (by rw [List.length_map]; exact hn) (fun j v hv => ?_) (by simpa using hfit) (by intro v hv; obtain ⟨x, _, rfl⟩ := List.mem_map.1 hv; rfl) ?_
 ·have hj : j < xs.length := by simpa using (List.getElem?_eq_some_iff.1 hv).1
  rw [List.getElem?_map, List.getElem?_eq_getElem hj] at hv
  rw [hx j hj]; exact hv
 ·intro w1 hgr hb hz
  have := h w1 (Keeps.of_grown hgr (fun i e => (Option.some.inj e).symm)) (own_laid hb) hz
  rw [List.length_map]
  exact this
theorem wp_copy_own8 {K : Act -> World -> Prop} (d s : Operand) (ho : o.op = .call { callee := .builtin .copy, args := #[d, s], argTypes := #[81, 81] })
  (g off dLen dCap : Nat) (ad : Addr) (sLen sCap : Nat) (hd : a.eval d = .slice (some ⟨g, off, none⟩) dLen dCap) (hs : a.eval s = .slice (some ad) sLen sCap)
  (L xs : List UInt8) (hg : ownB w g L) (hx : bytesAt w ad xs) (hn : xs.length = Nat.min sLen dLen) (hfit : off + xs.length <= L.length)
  (h : ∀ w1 : World, Keeps (fun i => i = g) w w1 -> ownB w1 g (L.take off ++ xs ++ L.drop (off + xs.length)) -> w1.heap.size = w.heap.size -> K (a.put o.dst (goInt xs.length)) w1) : o.wp Tryz.prog a w K Q := by
 refine wp_copy_block d s _ _ ho 5 Tryz.underlying81 infoU8s g off dLen dCap ad sLen sCap hd hs _ _ hg (xs.map U8) (by rw [List.length_map]; exact hn) (fun j v hv => ?_) (by simpa using hfit) (by intro v hv; obtain ⟨x, _, rfl⟩ := List.mem_map.1 hv; rfl) ?_
 ·have hj : j < xs.length := by simpa using (List.getElem?_eq_some_iff.1 hv).1
  rw [List.getElem?_map, List.getElem?_eq_getElem hj] at hv
  rw [hx j hj]; exact hv
 ·intro w1 hgr hb hz
  have := h w1 (Keeps.of_grown hgr (fun i e => (Option.some.inj e).symm)) (own_laid hb) hz
  rw [List.length_map]
  exact this
end
end
section
set_option maxRecDepth 100000
open Go.RowKit
def fillN (n : Nat) : Nat := (n + 511) / 512
def needN (n : Nat) : Nat := if 70656 < n then 0 else if 5120 < n then fillN n + 1 else fillN n
theorem ifilled_any (n : Nat) (hn : n <= 1000000) (w : World) : Calls Tryz.prog 209 #[.int .i64 n] w fun e w' => e = .returned (.int .i64 (fillN n : Nat)) /\ w' = w := by
 unfold fillN
 go_enter Tryz.func209, Tryz.ntmps209
 go_wp2
 go_ret
 refine ⟨?_, rfl⟩
 show Ending.returned (.int .i64 (((n : Int) + 512 - 1) / 512)) = _
 congr 2
 omega
theorem ihasFar_any (n : Int) (w : World) : Calls Tryz.prog 150 #[.int .i64 n] w fun e w' => e = .returned (.bool (decide (5120 < n))) /\ w' = w := by
 go_enter Tryz.func150, Tryz.ntmps150
 go_wp2
 go_ret
 exact ⟨rfl, rfl⟩
theorem iisMode_any (n : Int) (w : World) : Calls Tryz.prog 71 #[.int .i64 n] w fun e w' => e = .returned (.bool (decide (0 <= n /\ n <= 4095))) /\ w' = w := by
 by_cases h : 0 <= n
 ·by_cases h2 : n <= 4095
  ·rw [decide_eq_true ⟨h, h2⟩]
   go_enter Tryz.func71, Tryz.ntmps71
   go_wp2
   go_ret
   exact ⟨rfl, rfl⟩
  ·rw [decide_eq_false (fun hh => h2 hh.2)]
   go_enter Tryz.func71, Tryz.ntmps71
   go_wp2
   go_ret
   exact ⟨rfl, rfl⟩
 ·rw [decide_eq_false (fun hh => h hh.1)]
  go_enter Tryz.func71, Tryz.ntmps71
  go_wp2
  go_ret
  exact ⟨rfl, rfl⟩
def needZ (n : Int) : Nat := if n < 0 then 0 else needN n.toNat
theorem iNeed_any (n : Int) (w : World) : Calls Tryz.prog 203 #[.int .i64 n] w fun e w' => e = .returned (.int .i64 (needZ n : Nat)) /\ w' = w := by
 unfold needZ
 by_cases h0 : n < 0
 ·rw [if_pos h0]
  go_enter Tryz.func203, Tryz.ntmps203
  go_wp2
  go_ret
  exact ⟨rfl, rfl⟩
 ·rw [if_neg h0]
  unfold needN
  by_cases h1 : 70656 < n
  ·rw [if_pos (by omega)]
   go_enter Tryz.func203, Tryz.ntmps203
   go_wp2
   go_ret
   exact ⟨rfl, rfl⟩
  ·rw [if_neg (by omega)]
   obtain ⟨k, rfl⟩ : ∃ k : Nat, n = (k : Int) := ⟨n.toNat, by omega⟩
   have HH := hid (ihasFar_any (k : Int) w)
   have HF := hid (ifilled_any k (by omega) w)
   have hb : fillN k <= 200 := by unfold fillN; omega
   rw [Int.toNat_natCast]
   generalize fillN k = f at *
   by_cases h2 : 5120 < k
   ·rw [if_pos h2]
    have h3 : (5120 : Int) < (k : Int) := by omega
    rw [decide_eq_true h3] at HH
    go_enter Tryz.func203, Tryz.ntmps203
    go_wp2_with fail
    refine HH.out.mono ?_
    rintro e w1 ⟨rfl, h1⟩
    obtain rfl := h1.symm
    clear h1 HH
    go_wp2_with fail
    refine HF.out.mono ?_
    rintro e w1 ⟨rfl, h1⟩
    obtain rfl := h1.symm
    clear h1 HF
    go_wp2
    go_ret
    refine ⟨?_, rfl⟩
    congr 2
   ·rw [if_neg h2]
    have h3 : ¬ ((5120 : Int) < (k : Int)) := by omega
    rw [decide_eq_false h3] at HH
    go_enter Tryz.func203, Tryz.ntmps203
    go_wp2_with fail
    refine HH.out.mono ?_
    rintro e w1 ⟨rfl, h1⟩
    obtain rfl := h1.symm
    clear h1 HH
    go_wp2_with fail
    refine HF.out.mono ?_
    rintro e w1 ⟨rfl, h1⟩
    obtain rfl := h1.symm
    clear h1 HF
    go_wp2
    go_ret
    exact ⟨rfl, rfl⟩
end
section
open Go.RowKit
structure NodeS where
 kind : Nat
 mode : Nat
 links : Nat
 size : Nat
 pages : List Nat
structure NodeS.ok (n : NodeS) : Prop where
 kind : n.kind < 256
 mode : n.mode < 65536
 links : n.links < 65536
 size : n.size < 4294967296
 pages : n.pages.length = 11
 each : ∀ p ∈ n.pages, p < 4294967296
def flat4 (l : List Nat) : List UInt8 := l.flatMap (beS 4)
theorem length_flat4 (l : List Nat) : (flat4 l).length = 4 * l.length := by
 induction l with
 | nil => rfl
 | cons x l ih => simp only [flat4, List.flatMap_cons, List.length_append, length_beS, List.length_cons] at ih ⊢; omega
theorem flat4_snoc (l : List Nat) (x : Nat) : flat4 (l ++ [x]) = flat4 l ++ beS 4 x := by simp [flat4]
theorem flat4_at : ∀ (l : List Nat) (k : Nat) (hk : k < l.length), ((flat4 l).drop (4 * k)).take 4 = beS 4 l[k]
 | x :: l, 0, _ => by
  show ((beS 4 x ++ flat4 l).drop 0).take 4 = beS 4 x
  rw [List.drop_zero, List.take_left' (length_beS 4 x)]
 | x :: l, k + 1, hk => by
  have hk' : k < l.length := by simpa using hk
  have ih := flat4_at l k hk'
  show ((beS 4 x ++ flat4 l).drop (4 * (k + 1))).take 4 = beS 4 l[k]
  rw [List.drop_append, List.drop_of_length_le (by rw [length_beS]; omega), length_beS, show 4 * (k + 1) - 4 = 4 * k by omega, List.nil_append]
  exact ih
def head9 (n : NodeS) : List UInt8 := [UInt8.ofNat n.kind] ++ beS 2 n.mode ++ beS 2 n.links ++ beS 4 n.size
theorem length_head9 (n : NodeS) : (head9 n).length = 9 := by simp [head9, length_beS]
def encTo (n : NodeS) (k : Nat) : List UInt8 := head9 n ++ flat4 (n.pages.take k) ++ zN (55 - 4 * k)
def encL (n : NodeS) : List UInt8 := encTo n 11
theorem length_encTo (n : NodeS) (k : Nat) (hk : k <= 11) (hp : n.pages.length = 11) : (encTo n k).length = 64 := by
 simp only [encTo, List.length_append, length_head9, length_flat4, List.length_take, length_zN]
 omega
theorem encTo_succ (n : NodeS) (k : Nat) (hk : k < n.pages.length) (h11 : k < 11) : (encTo n k).take (9 + 4 * k) ++ beS 4 n.pages[k] ++ (encTo n k).drop (9 + 4 * k + 4) = encTo n (k + 1) := by
 have hl : (head9 n ++ flat4 (n.pages.take k)).length = 9 + 4 * k := by
  rw [List.length_append, length_head9, length_flat4, List.length_take]; omega
 unfold encTo
 rw [List.take_left' hl, List.drop_append, List.drop_of_length_le (by rw [hl]; omega), hl, List.nil_append, drop_zN, show 9 + 4 * k + 4 - (9 + 4 * k) = 4 by omega, show 55 - 4 * k - 4 = 55 - 4 * (k + 1) by omega, List.take_add_one, List.getElem?_eq_getElem hk, Option.toList_some, flat4_snoc]
 simp only [List.append_assoc]
def decP (l : List UInt8) (k : Nat) : List Nat := (List.range k).map (fun j => numS ((l.drop (9 + 4 * j)).take 4))
def decL (l : List UInt8) : NodeS := ⟨(l.getD 0 0).toNat, numS ((l.drop 1).take 2), numS ((l.drop 3).take 2), numS ((l.drop 5).take 4), decP l 11⟩
theorem decP_succ (l : List UInt8) (k : Nat) : decP l (k + 1) = decP l k ++ [numS ((l.drop (9 + 4 * k)).take 4)] := by simp [decP, List.range_succ]
theorem length_decP (l : List UInt8) (k : Nat) : (decP l k).length = k := by simp [decP]
theorem mid_take {A B C : List UInt8} {a b : Nat} (ha : A.length = a) (hb : B.length = b) : ((A ++ B ++ C).drop a).take b = B := by
 rw [List.append_assoc, List.drop_left' ha, List.take_left' hb]
theorem decL_encL (n : NodeS) (h : n.ok) : decL (encL n) = n := by
 obtain ⟨kind, mode, links, size, pages⟩ := n
 have hk : kind < 256 := h.kind
 have hm : mode < 65536 := h.mode
 have hls : links < 65536 := h.links
 have hs : size < 4294967296 := h.size
 have hp : pages.length = 11 := h.pages
 have he : ∀ p ∈ pages, p < 4294967296 := h.each
 have htk : pages.take 11 = pages := List.take_of_length_le (by omega)
 have e1 : ((encL ⟨kind, mode, links, size, pages⟩).drop 1).take 2 = beS 2 mode := by
  unfold encL encTo head9
  have : ([UInt8.ofNat kind] ++ beS 2 mode ++ beS 2 links ++ beS 4 size ++ flat4 (pages.take 11) ++ zN (55 - 4 * 11)) = [UInt8.ofNat kind] ++ beS 2 mode ++ (beS 2 links ++ beS 4 size ++ flat4 (pages.take 11) ++ zN (55 - 4 * 11)) := by simp only [List.append_assoc]
  rw [this]
  exact mid_take rfl (length_beS 2 mode)
 have e2 : ((encL ⟨kind, mode, links, size, pages⟩).drop 3).take 2 = beS 2 links := by
  unfold encL encTo head9
  have : ([UInt8.ofNat kind] ++ beS 2 mode ++ beS 2 links ++ beS 4 size ++ flat4 (pages.take 11) ++ zN (55 - 4 * 11)) = ([UInt8.ofNat kind] ++ beS 2 mode) ++ beS 2 links ++ (beS 4 size ++ flat4 (pages.take 11) ++ zN (55 - 4 * 11)) := by simp only [List.append_assoc]
  rw [this]
  exact mid_take (by simp [length_beS]) (length_beS 2 links)
 have e3 : ((encL ⟨kind, mode, links, size, pages⟩).drop 5).take 4 = beS 4 size := by
  unfold encL encTo head9
  have : ([UInt8.ofNat kind] ++ beS 2 mode ++ beS 2 links ++ beS 4 size ++ flat4 (pages.take 11) ++ zN (55 - 4 * 11)) = ([UInt8.ofNat kind] ++ beS 2 mode ++ beS 2 links) ++ beS 4 size ++ (flat4 (pages.take 11) ++ zN (55 - 4 * 11)) := by simp only [List.append_assoc]
  rw [this]
  exact mid_take (by simp [length_beS]) (length_beS 4 size)
 have e4 : ∀ j, j < 11 -> ((encL ⟨kind, mode, links, size, pages⟩).drop (9 + 4 * j)).take 4 = beS 4 (pages.getD j 0) := fun j hj => by
  have hjl : j < pages.length := by omega
  have h1 := flat4_at pages j hjl
  unfold encL encTo
  rw [htk, List.append_assoc, <- List.drop_drop, List.drop_left' (length_head9 _), List.drop_append_of_le_length (by rw [length_flat4]; omega), List.take_append_of_le_length (by rw [List.length_drop, length_flat4]; omega), h1, List.getD_eq_getElem?_getD, List.getElem?_eq_getElem hjl]
  rfl
 have e0 : ((encL ⟨kind, mode, links, size, pages⟩).getD 0 0).toNat = kind := by
  show (UInt8.ofNat kind).toNat = kind
  rw [UInt8.toNat_ofNat']; omega
 have eP : decP (encL ⟨kind, mode, links, size, pages⟩) 11 = pages := by
  refine List.ext_getElem (by rw [length_decP, hp]) (fun j h1 h2 => ?_)
  have hj : j < 11 := by omega
  have hx : pages[j] < 4294967296 := he _ (List.getElem_mem h2)
  have hd : (decP (encL ⟨kind, mode, links, size, pages⟩) 11)[j] = numS (((encL ⟨kind, mode, links, size, pages⟩).drop (9 + 4 * j)).take 4) := by simp [decP]
  have hg : pages.getD j 0 = pages[j] := by rw [List.getD_eq_getElem?_getD, List.getElem?_eq_getElem h2]; rfl
  refine hd.trans ?_
  rw [e4 j hj, numS_be, hg]
  exact Nat.mod_eq_of_lt hx
 unfold decL
 rw [e0, e1, e2, e3, eP, numS_be, numS_be, numS_be, Nat.mod_eq_of_lt (show mode < 256 ^ 2 by omega), Nat.mod_eq_of_lt (show links < 256 ^ 2 by omega), Nat.mod_eq_of_lt (show size < 256 ^ 4 by omega)]
end
section
set_option maxRecDepth 100000
open Go.RowKit
def gV (m : Nat) : Value := .agg #[.pointer (some ⟨m, 0, none⟩)]
section
variable {w : World} {m c ino : Nat} {F : Nat -> Prop} {size N : Nat} {Pg Cm : Nat -> List UInt8} {D : Int -> Bool} {o u : Nat}
theorem ipage_any {w0 : World} (h : mapB w m c ino) (n : Nat) (hn : n < N) (hu : u < 1000000) (hp : Pc w0 c F size N Pg Cm D o u) (hw : Below w0.heap.size w0 w) :
  Calls Tryz.prog 138 #[gV m, .int .i64 n] w fun e w' => ∃ g, e = .returned (.slice (some ⟨g, 0, none⟩) 512 512) /\ w.heap.size <= g /\ ownB w' g (Pg n) /\ Keeps F w w' /\ ∀ W, Keeps (fun i => w0.heap.size <= i) w' W -> Pc W c F size N Pg Cm D o (u + 1) := by
 unfold gV
 have HLen := hid (hp.len n hn)
 have HFl : Hid (∀ i, F i -> i < w.heap.size) := fun i hi => Nat.lt_of_lt_of_le (hp.lt i hi) hw.size
 have HW0 := hid hw
 have hw0 := hw.size
 have hal : Below w.heap.size w (w.alloc (.cells #[.pointer (some ⟨m, 0, none⟩)] 87)) := (Below.refl _ w).alloc (Nat.le_refl _) _
 have HAl : Hid ((w.alloc (.cells #[.pointer (some ⟨m, 0, none⟩)] 87)).heap[w.heap.size]? = some (.cells #[.pointer (some ⟨m, 0, none⟩)] 87 (0, 0))) := block_new w _
 have HBa := hid hal
 have HP := hid hp
 have HM := hid h
 clear h hp hal hw
 go_enter Tryz.func138, Tryz.ntmps138
 go_wp2_with (refine wpList_make_u8 rfl (.const (.int .i64 512)) (.const (.int .i64 512)) rfl 512 512 rfl rfl rfl (by omega) ?_; intro w1 hb1 hr1 hz1; have hB1 := HBa.out.trans (hb1.mono HBa.out.size); have HB1 := hid hB1; have c0 : w1.cell? ⟨w.heap.size, 0, none⟩ = some (.pointer (some ⟨m, 0, none⟩)) := (cell_of_block (below_block hb1 HAl.out (lt_of_heap HAl.out)) 0); have HO1 : Hid (ownB w1 (w.heap.size + 1) (zN 512)) := (by unfold Hid ownB; rw [<- rep_U8]; simpa using hr1); have HCa := hid (amCache_any (HM.out.below hB1)); have HRd := hid (HP.out.read (HW0.out.trans (hB1.mono HW0.out.size)) n hn hu); clear hb1 hr1 hz1 hB1 HAl HBa HM HP)
 refine HCa.out.mono ?_
 clear HCa
 rintro e w2 ⟨rfl, h2⟩
 obtain rfl := h2.symm
 clear h2
 go_wp2_with fail
 refine HRd.out.mono ?_
 clear HRd
 rintro e w3 ⟨g, cap, rfl, hcap, hg, hrow, hk, hW⟩
 have HO3 := hid (HO1.out.keep hk (fun hf => by have := HFl.out _ hf; omega))
 have HRow := hid hrow
 have HK : Hid (Keeps F w w3) := (Keeps.of_below HB1.out : Keeps F w w1).trans hk (fun i e => .inl e)
 have HW := hid hW
 have HSz : Hid (w.heap.size + 1 < w3.heap.size) := lt_of_heap HO3.out
 clear hrow hk hW hg HO1 c0
 go_wp2_with (refine wpList_copy_own8 rfl (.tmp 17) (.tmp 18) rfl (w.heap.size + 1) 0 512 512 ⟨g, 0, none⟩ 512 cap rfl rfl (zN 512) (Pg n) HO3.out HRow.out.1 (by rw [HLen.out]; rfl) (by rw [HLen.out, length_zN]; omega) ?_; intro w4 hk4 ho4 hz4; have HO4 := hid ho4; have HK4 := hid hk4; clear hk4 ho4 hz4)
 go_ret
 have ho := HO4.out
 rw [List.take_zero, List.nil_append, Nat.zero_add, HLen.out, drop_zN, show zN (512 - 512) = [] from rfl, List.append_nil] at ho
 have k34 : Keeps (fun i => w0.heap.size <= i) w3 w4 := HK4.out.mono (fun i e => by have e' : i = w.heap.size + 1 := e; show w0.heap.size <= i; omega)
 have k35 : Keeps (fun i => w.heap.size <= i) w3 w4 := HK4.out.mono (fun i e => by have e' : i = w.heap.size + 1 := e; show w.heap.size <= i; omega)
 exact ⟨w.heap.size + 1, rfl, by omega, ho, HK.out.trans k35 (fun i e => .inr e), fun W hW => HW.out W (k34.trans hW (fun i e => .inl e))⟩
end
end
section
set_option maxRecDepth 100000
open Go.RowKit
theorem ifourth_any (b o n c k : Nat) (w : World) (hk : 4 * k + 4 <= n) (hc : n <= c) (hc2 : c <= 4096) :
  Calls Tryz.prog 151 #[.slice (some ⟨b, o, none⟩) n c, .int .i64 k] w fun e w' => e = .returned (.slice (some ⟨b, o + 4 * k, none⟩) 4 (c - 4 * k)) /\ w' = w := by
 have h0 : (0 : Int) <= (k : Int) := by omega
 have h1 : 4 * (k : Int) + 4 <= (n : Int) := by omega
 have h2 : (n : Int) <= (c : Int) := by omega
 go_enter Tryz.func151, Tryz.ntmps151
 go_wp2
 go_ret
 exact ⟨rfl, rfl⟩
def nodeC (n : NodeS) : List Value := [.int .i64 n.kind, .int .i64 n.mode, .int .i64 n.links, .int .i64 n.size] ++ n.pages.map (fun p : Nat => Value.int .i64 p)
def nodeV (n : NodeS) : Value := .agg (nodeC n).toArray
theorem list11 : ∀ {l : List Nat}, l.length = 11 -> ∃ a b c d e f g i j k m, l = [a, b, c, d, e, f, g, i, j, k, m]
 | [a, b, c, d, e, f, g, i, j, k, m], _ => ⟨a, b, c, d, e, f, g, i, j, k, m, rfl⟩
theorem put_next (A : List UInt8) (o n k : Nat) (hA : A.length = o) (B : List UInt8) (_ : k <= n) : (A ++ zN n).take o ++ B ++ (A ++ zN n).drop (o + k) = A ++ B ++ zN (n - k) := by
 rw [List.take_left' hA, List.drop_append, List.drop_of_length_le (by omega), hA, List.nil_append, drop_zN, show o + k - o = k by omega]
theorem ienc_any (n : NodeS) (h : n.ok) (w : World) : Calls Tryz.prog 139 #[nodeV n] w fun e w' => ∃ b, e = .returned (.slice (some ⟨b, 0, none⟩) 64 64) /\ w.heap.size <= b /\ ownB w' b (encL n) /\ Below w.heap.size w w' := by
 obtain ⟨kd, md, lk, sz, pages⟩ := n
 have HOk := hid h
 have hp : pages.length = 11 := h.pages
 have hkd : kd < 256 := h.kind
 have hmd : md < 65536 := h.mode
 have hlk : lk < 65536 := h.links
 have hsz : sz < 4294967296 := h.size
 obtain ⟨p0, p1, p2, p3, p4, p5, p6, p7, p8, p9, p10, rfl⟩ := list11 hp
 show Calls Tryz.prog 139 #[.agg #[.int .i64 kd, .int .i64 md, .int .i64 lk, .int .i64 sz, .int .i64 p0, .int .i64 p1, .int .i64 p2, .int .i64 p3, .int .i64 p4, .int .i64 p5, .int .i64 p6, .int .i64 p7, .int .i64 p8, .int .i64 p9, .int .i64 p10]] w _
 have HC : Hid (∀ W : World, W.heap[w.heap.size]? = some (.cells #[.int .i64 kd, .int .i64 md, .int .i64 lk, .int .i64 sz, .int .i64 p0, .int .i64 p1, .int .i64 p2, .int .i64 p3, .int .i64 p4, .int .i64 p5, .int .i64 p6, .int .i64 p7, .int .i64 p8, .int .i64 p9, .int .i64 p10] 153 (0, 0)) -> W.cell? ⟨w.heap.size, 0, none⟩ = some (.int .i64 kd) /\ W.cell? ⟨w.heap.size, 1, none⟩ = some (.int .i64 md) /\ W.cell? ⟨w.heap.size, 2, none⟩ = some (.int .i64 lk) /\ W.cell? ⟨w.heap.size, 3, none⟩ = some (.int .i64 sz) /\ W.cell? ⟨w.heap.size, 4, none⟩ = some (.int .i64 p0) /\ W.cell? ⟨w.heap.size, 5, none⟩ = some (.int .i64 p1) /\ W.cell? ⟨w.heap.size, 6, none⟩ = some (.int .i64 p2) /\ W.cell? ⟨w.heap.size, 7, none⟩ = some (.int .i64 p3) /\ W.cell? ⟨w.heap.size, 8, none⟩ = some (.int .i64 p4) /\ W.cell? ⟨w.heap.size, 9, none⟩ = some (.int .i64 p5) /\ W.cell? ⟨w.heap.size, 10, none⟩ = some (.int .i64 p6) /\ W.cell? ⟨w.heap.size, 11, none⟩ = some (.int .i64 p7) /\ W.cell? ⟨w.heap.size, 12, none⟩ = some (.int .i64 p8) /\ W.cell? ⟨w.heap.size, 13, none⟩ = some (.int .i64 p9) /\ W.cell? ⟨w.heap.size, 14, none⟩ = some (.int .i64 p10)) := fun W hW => ⟨cell_of_block hW 0, cell_of_block hW 1, cell_of_block hW 2, cell_of_block hW 3, cell_of_block hW 4, cell_of_block hW 5, cell_of_block hW 6, cell_of_block hW 7, cell_of_block hW 8, cell_of_block hW 9, cell_of_block hW 10, cell_of_block hW 11, cell_of_block hW 12, cell_of_block hW 13, cell_of_block hW 14⟩
 have hal : (w.alloc (.cells #[.int .i64 kd, .int .i64 md, .int .i64 lk, .int .i64 sz, .int .i64 p0, .int .i64 p1, .int .i64 p2, .int .i64 p3, .int .i64 p4, .int .i64 p5, .int .i64 p6, .int .i64 p7, .int .i64 p8, .int .i64 p9, .int .i64 p10] 153)).heap[w.heap.size]? = some (.cells #[.int .i64 kd, .int .i64 md, .int .i64 lk, .int .i64 sz, .int .i64 p0, .int .i64 p1, .int .i64 p2, .int .i64 p3, .int .i64 p4, .int .i64 p5, .int .i64 p6, .int .i64 p7, .int .i64 p8, .int .i64 p9, .int .i64 p10] 153 (0, 0)) := block_new w _
 have hbal : Below w.heap.size w (w.alloc (.cells #[.int .i64 kd, .int .i64 md, .int .i64 lk, .int .i64 sz, .int .i64 p0, .int .i64 p1, .int .i64 p2, .int .i64 p3, .int .i64 p4, .int .i64 p5, .int .i64 p6, .int .i64 p7, .int .i64 p8, .int .i64 p9, .int .i64 p10] 153)) := (Below.refl _ w).alloc (Nat.le_refl _) _
 have HAl := hid hal
 have HBa := hid hbal
 clear h hp hal hbal
 go_enter Tryz.func139, Tryz.ntmps139
 go_wp2_with (first
  | (refine wpList_make_u8 rfl (.const (.int .i64 64)) (.const (.int .i64 64)) rfl 64 64 rfl rfl rfl (by omega) ?_; intro w1 hb1 hr1 hz1; have HX1 := hid (below_block hb1 HAl.out (lt_of_heap HAl.out)); obtain ⟨c0, c1, c2, c3, c4, c5, c6, c7, c8, c9, c10, c11, c12, c13, c14⟩ := HC.out w1 HX1.out; have HB1 := hid (HBa.out.trans (hb1.mono HBa.out.size)); have HO1 : Hid (ownB w1 (w.heap.size + 1) (zN 64)) := (by unfold Hid ownB; rw [<- rep_U8]; simpa using hr1); have k0 := HO1.out.cell 0 (by rw [length_zN]; omega); have k1 := HO1.out.frozen 0; clear hb1 hr1 hz1 HAl HBa))
 -- PUTS
 have e0 : ((UInt8.ofNat kd).toNat : Int) = (kd : Int) := by rw [UInt8.toNat_ofNat']; omega
 have ho2 := HO1.out.set 0 (UInt8.ofNat kd)
 rw [e0, show (zN 64).set 0 (UInt8.ofNat kd) = [UInt8.ofNat kd] ++ zN 63 from rfl] at ho2
 have kk : Keeps (fun i => i = w.heap.size + 1) w1 (w1.setCell ⟨w.heap.size + 1, 0, none⟩ (.int .u8 (kd : Int))) := (Keeps.refl _ w1).grown (grown_setCell (grown_refl _ _) _ _) (fun i e => .inl (Option.some.inj e).symm)
 have HO2 := hid ho2
 have HX2 := hid (kk.heap HX1.out (fun e => by have e' : w.heap.size = w.heap.size + 1 := e; omega))
 have HB2 := hid (HB1.out.trans (kk.below HB1.out.size (fun i e => by have e' : i = w.heap.size + 1 := e; omega)))
 clear ho2 kk c0 c1 c2 c3 c4 c5 c6 c7 c8 c9 c10 c11 c12 c13 c14 k0 k1 HX1 HB1 HO1 e0
 generalize w1.setCell ⟨w.heap.size + 1, 0, none⟩ (.int .u8 (kd : Int)) = w2 at *
 have hdr : Below w2.heap.size w2 w2.drew := (Below.refl _ w2).drew
 have hln : ([UInt8.ofNat kd] ++ zN 63).length = 64 := by rw [List.length_append, length_zN]; rfl
 have hpt := put_any (w.heap.size + 1) 1 2 (64 - 1) md ([UInt8.ofNat kd] ++ zN 63) w2.drew (HO2.out.below hdr) (by rw [hln]; omega) (by rw [hln]; omega) (by omega)
 rw [put_next [UInt8.ofNat kd] 1 63 2 (by rfl) _ (by omega)] at hpt
 have HPt := hid hpt
 have hXd := below_block hdr HX2.out (lt_of_heap HX2.out)
 have HXd := hid hXd
 have HBd := hid (HB2.out.trans (hdr.mono HB2.out.size))
 have d1 : w2.cell? ⟨w.heap.size, 1, none⟩ = some (.int .i64 md) := cell_of_block HX2.out 1
 clear hpt hln hdr hXd HO2 HB2
 refine wp_region_noPanic ?_
 refine wp_region_held_drew (S := fun W => W.cell? ⟨w.heap.size, 1, none⟩ = some (.int .i64 md)) (by kernel_rfl) d1 (fun hHeld => ?_)
 refine tq 0 _ ?_
 try simp only [tS]
 refine tq 1 _ ?_
 try simp only [tS]
 refine tq 2 _ ?_
 try simp only [tS]
 refine tq 3 _ ?_
 try simp only [tS]
 refine tr 4 (fun K hK => ?_)
 go_simp
 refine HPt.out.mono ?_
 clear HPt
 rintro e w3 ⟨rfl, ho3, hk3⟩
 have HO3 := hid ho3
 have HX3 := hid (hk3.heap HXd.out (fun e => by have e' : w.heap.size = w.heap.size + 1 := e; omega))
 have HB3 := hid (HBd.out.trans (hk3.below HBd.out.size (fun i e => by have e' : i = w.heap.size + 1 := e; omega)))
 have d2 : w3.cell? ⟨w.heap.size, 1, none⟩ = some (.int .i64 md) := cell_of_block HX3.out 1
 clear ho3 hk3 HXd HBd HX2
 go_wp2_with fail
 refine hK.out _ _ d2 (fun hHeld => ?_)
 clear hK K
 try simp only [tS]
 refine wpAnyH_done (by kernel_rfl) ?_ _
 refine NoPanic.normal ?_
 clear hHeld d1 d2
 go_wp2
 have hdr : Below w3.heap.size w3 w3.drew := (Below.refl _ w3).drew
 have hln : (([UInt8.ofNat kd] ++ beS 2 md) ++ zN 61).length = 64 := by rw [List.length_append, length_zN]; simp [length_beS]
 have hpt := put_any (w.heap.size + 1) 3 2 (64 - 3) lk (([UInt8.ofNat kd] ++ beS 2 md) ++ zN 61) w3.drew (HO3.out.below hdr) (by rw [hln]; omega) (by rw [hln]; omega) (by omega)
 rw [put_next ([UInt8.ofNat kd] ++ beS 2 md) 3 61 2 (by simp [length_beS]) _ (by omega)] at hpt
 have HPt := hid hpt
 have hXd := below_block hdr HX3.out (lt_of_heap HX3.out)
 have HXd := hid hXd
 have HBd := hid (HB3.out.trans (hdr.mono HB3.out.size))
 have d1 : w3.cell? ⟨w.heap.size, 2, none⟩ = some (.int .i64 lk) := cell_of_block HX3.out 2
 clear hpt hln hdr hXd HO3 HB3
 refine wp_region_noPanic ?_
 refine wp_region_held_drew (S := fun W => W.cell? ⟨w.heap.size, 2, none⟩ = some (.int .i64 lk)) (by kernel_rfl) d1 (fun hHeld => ?_)
 refine tq 0 _ ?_
 try simp only [tS]
 refine tq 1 _ ?_
 try simp only [tS]
 refine tq 2 _ ?_
 try simp only [tS]
 refine tq 3 _ ?_
 try simp only [tS]
 refine tr 4 (fun K hK => ?_)
 go_simp
 refine HPt.out.mono ?_
 clear HPt
 rintro e w4 ⟨rfl, ho4, hk4⟩
 have HO4 := hid ho4
 have HX4 := hid (hk4.heap HXd.out (fun e => by have e' : w.heap.size = w.heap.size + 1 := e; omega))
 have HB4 := hid (HBd.out.trans (hk4.below HBd.out.size (fun i e => by have e' : i = w.heap.size + 1 := e; omega)))
 have d2 : w4.cell? ⟨w.heap.size, 2, none⟩ = some (.int .i64 lk) := cell_of_block HX4.out 2
 clear ho4 hk4 HXd HBd HX3
 go_wp2_with fail
 refine hK.out _ _ d2 (fun hHeld => ?_)
 clear hK K
 try simp only [tS]
 refine wpAnyH_done (by kernel_rfl) ?_ _
 refine NoPanic.normal ?_
 clear hHeld d1 d2
 go_wp2
 have hdr : Below w4.heap.size w4 w4.drew := (Below.refl _ w4).drew
 have hln : (([UInt8.ofNat kd] ++ beS 2 md ++ beS 2 lk) ++ zN 59).length = 64 := by rw [List.length_append, length_zN]; simp [length_beS]
 have hpt := put_any (w.heap.size + 1) 5 4 (64 - 5) sz (([UInt8.ofNat kd] ++ beS 2 md ++ beS 2 lk) ++ zN 59) w4.drew (HO4.out.below hdr) (by rw [hln]; omega) (by rw [hln]; omega) (by omega)
 rw [put_next ([UInt8.ofNat kd] ++ beS 2 md ++ beS 2 lk) 5 59 4 (by simp [length_beS]) _ (by omega)] at hpt
 have HPt := hid hpt
 have hXd := below_block hdr HX4.out (lt_of_heap HX4.out)
 have HXd := hid hXd
 have HBd := hid (HB4.out.trans (hdr.mono HB4.out.size))
 have d1 : w4.cell? ⟨w.heap.size, 3, none⟩ = some (.int .i64 sz) := cell_of_block HX4.out 3
 clear hpt hln hdr hXd HO4 HB4
 refine wp_region_noPanic ?_
 refine wp_region_held_drew (S := fun W => W.cell? ⟨w.heap.size, 3, none⟩ = some (.int .i64 sz)) (by kernel_rfl) d1 (fun hHeld => ?_)
 refine tq 0 _ ?_
 try simp only [tS]
 refine tq 1 _ ?_
 try simp only [tS]
 refine tq 2 _ ?_
 try simp only [tS]
 refine tq 3 _ ?_
 try simp only [tS]
 refine tr 4 (fun K hK => ?_)
 go_simp
 refine HPt.out.mono ?_
 clear HPt
 rintro e w5 ⟨rfl, ho5, hk5⟩
 have HO5 := hid ho5
 have HX5 := hid (hk5.heap HXd.out (fun e => by have e' : w.heap.size = w.heap.size + 1 := e; omega))
 have HB5 := hid (HBd.out.trans (hk5.below HBd.out.size (fun i e => by have e' : i = w.heap.size + 1 := e; omega)))
 have d2 : w5.cell? ⟨w.heap.size, 3, none⟩ = some (.int .i64 sz) := cell_of_block HX5.out 3
 clear ho5 hk5 HXd HBd HX4
 go_wp2_with fail
 refine hK.out _ _ d2 (fun hHeld => ?_)
 clear hK K
 try simp only [tS]
 refine wpAnyH_done (by kernel_rfl) ?_ _
 refine NoPanic.normal ?_
 clear hHeld d1 d2
 obtain ⟨c0, c1, c2, c3, c4, c5, c6, c7, c8, c9, c10, c11, c12, c13, c14⟩ := HC.out w5 HX5.out
 obtain ⟨ps, hps⟩ : ∃ ps : List Nat, ps = [p0, p1, p2, p3, p4, p5, p6, p7, p8, p9, p10] := ⟨_, rfl⟩
 have hpl : ps.length = 11 := by rw [hps]; rfl
 have hag : (#[.int .i64 p0, .int .i64 p1, .int .i64 p2, .int .i64 p3, .int .i64 p4, .int .i64 p5, .int .i64 p6, .int .i64 p7, .int .i64 p8, .int .i64 p9, .int .i64 p10] : Array Value) = (ps.map (fun p : Nat => Value.int .i64 p)).toArray := by rw [hps]; rfl
 have HAg := hid hag
 have HO0 : Hid (ownB w5 (w.heap.size + 1) (encTo ⟨kd, md, lk, sz, ps⟩ 0)) := HO5
 have HOk2 : Hid (NodeS.ok ⟨kd, md, lk, sz, ps⟩) := by rw [hps]; exact HOk
 have HPs := hid hps
 have HPl := hid hpl
 clear HO5 HX5 HC hag HOk hpl
 go_wp2
 rw [HAg.out]
 clear c0 c1 c2 c3 c4 c5 c6 c7 c8 c9 c10 c11 c12 c13 c14 HAg hps
 go_loopw [29] (fun iv wr => ∃ j : Nat, j <= 11 /\ iv = .int .i64 j /\ Hid (ownB wr (w.heap.size + 1) (encTo ⟨kd, md, lk, sz, ps⟩ j)) /\ Hid (Below w.heap.size w wr)) (fun iv _ => 11 - (intOf iv).toNat)
 case atStart => exact ⟨0, by omega, rfl, HO0, HB5⟩
 case round =>
  obtain ⟨j, hj, rfl, HO, HB⟩ := hrel
  clear HO0 HB5
  by_cases hlt : j < 11
  ·have hj0 : (0 : Int) <= (j : Int) := by omega
   have hj1 : (j : Int) < 11 := by omega
   have hjl : j < ps.length := by rw [HPl.out]; exact hlt
   have hix : (Instr.index 151 (.agg (ps.map (fun p : Nat => Value.int .i64 p)).toArray) (.int .i64 (j : Int))).run Tryz.prog wr = .ok (.int .i64 (ps[j] : Nat)) wr := run_index_one Tryz.underlying151 (by kernel_rfl) Tryz.underlying3 hlt (by simp [hjl])
   have HF := hid (ifourth_any (w.heap.size + 1) 9 55 55 j wr (by omega) (by omega) (by omega))
   have hx4 : ps[j] < 4294967296 := HOk2.out.each ps[j] (List.getElem_mem hjl)
   have hll : (encTo ⟨kd, md, lk, sz, ps⟩ j).length = 64 := length_encTo _ j hj HPl.out
   have hpt := put_any (w.heap.size + 1) (9 + 4 * j) 4 (55 - 4 * j) ps[j] (encTo ⟨kd, md, lk, sz, ps⟩ j) wr HO.out (by rw [hll]; omega) (by rw [hll]; omega) (by omega)
   rw [show (encTo ⟨kd, md, lk, sz, ps⟩ j).take (9 + 4 * j) ++ beS 4 ps[j] ++ (encTo ⟨kd, md, lk, sz, ps⟩ j).drop (9 + 4 * j + 4) = encTo ⟨kd, md, lk, sz, ps⟩ (j + 1) from encTo_succ ⟨kd, md, lk, sz, ps⟩ j hjl hlt] at hpt
   have HPt := hid hpt
   clear hpt hll hx4 HO
   generalize ps[j] = x at *
   go_wp2_with fail
   refine HF.out.mono ?_
   clear HF
   rintro e w7 ⟨rfl, h7⟩
   obtain rfl := h7.symm
   clear h7
   go_wp2_with fail
   refine HPt.out.mono ?_
   clear HPt
   rintro e w8 ⟨rfl, ho8, hk8⟩
   have HO8 := hid ho8
   have HB8 := hid (HB.out.trans (hk8.below HB.out.size (fun i e => by have e' : i = w.heap.size + 1 := e; omega)))
   clear ho8 hk8 HB hix
   go_wp2
   exact ⟨⟨j + 1, by omega, by go_num, HO8, HB8⟩, by simp [intOf]; omega⟩
  ·obtain rfl : j = 11 := by omega
   go_wp2
   go_ret
   refine ⟨w.heap.size + 1, rfl, by omega, ?_, HB.out⟩
   rw [<- HPs.out]
   exact HO.out
end
section
set_option maxRecDepth 100000
set_option maxHeartbeats 2000000
open Go.RowKit
theorem wp_store_block {op : Oper} {a : Act} {w : World} {K : Act -> World -> Prop} {Q : Exit -> Act -> World -> Prop} (ty : TypeId) (x y : Operand) (ho : op.op = .store ty x y)
  (b : Nat) (cs : Array Value) (hx : a.eval x = .pointer (some ⟨b, 0, none⟩)) (hy : a.eval y = .agg cs) (C : Array Value) (t : TypeId) (hb : w.heap[b]? = some (.cells C t (0, 0))) (hs : cs.size = C.size)
  (hi : (Tryz.prog.info? ty).map (·.size) = some cs.size) (h1 : cs.all (·.oneCell') = true)
  (h : ∀ w1 : World, w.grownBy w1 (some b) -> w1.heap[b]? = some (.cells cs t (0, 0)) -> w1.heap.size = w.heap.size -> K (a.put op.dst undef) w1) : op.wp Tryz.prog a w K Q := by
 obtain ⟨i1, i2, i3, i4, i5, i6⟩ := setCells_block b cs.toList 0 w C t hb (by simp; omega)
 refine wp_store_mid ty x y ho b 0 cs hx hy (there_of_block hb 0 _ (by omega)) hi h1 (h _ ⟨i3, i4, i5, by omega, fun k _ hk => i2 k (by simpa using hk)⟩ ?_ i6)
 rw [i1]
 rw [List.drop_eq_nil_of_le (by simp; omega)]
 simp
def nodeB (w : World) (b : Nat) (n : NodeS) : Prop := w.heap[b]? = some (.cells (nodeC n).toArray 153 (0, 0))
theorem nodeB.page {w : World} {b : Nat} {n : NodeS} (h : nodeB w b n) (j : Nat) (hj : j < n.pages.length) : w.cell? ⟨b, 4 + j, none⟩ = some (.int .i64 (n.pages[j] : Nat)) := by
 rw [cell_of_block h]
 unfold nodeC
 rw [List.getElem?_toArray, List.getElem?_append_right (by simp), List.length_cons, List.length_cons, List.length_cons, List.length_cons, List.length_nil, show 4 + j - (0 + 1 + 1 + 1 + 1) = j by omega, List.getElem?_map, List.getElem?_eq_getElem hj]
 rfl
theorem nodeB.setPage {w : World} {b : Nat} {n : NodeS} (h : nodeB w b n) (j x : Nat) : nodeB (w.setCell ⟨b, 4 + j, none⟩ (.int .i64 x)) b { n with pages := n.pages.set j x } := by
 have h1 := block_setCell h (4 + j) (.int .i64 x)
 unfold nodeB
 rw [h1, List.setIfInBounds_toArray]
 unfold nodeC
 rw [List.set_append_right _ _ (by simp)]
 simp only [List.length_cons, List.length_nil, List.map_set]
 rw [show 4 + j - (0 + 1 + 1 + 1 + 1) = j by omega]
def decQ (l : List UInt8) (k : Nat) : List Nat := decP l k ++ List.replicate (11 - k) 0
theorem length_decQ (l : List UInt8) (k : Nat) (hk : k <= 11) : (decQ l k).length = 11 := by unfold decQ; rw [List.length_append, length_decP, List.length_replicate]; omega
theorem decQ_set (l : List UInt8) (k : Nat) (hk : k < 11) : (decQ l k).set k (numS ((l.drop (9 + 4 * k)).take 4)) = decQ l (k + 1) := by
 unfold decQ
 rw [List.set_append_right _ _ (by rw [length_decP]; omega), length_decP, Nat.sub_self, decP_succ, show 11 - k = (11 - (k + 1)) + 1 by omega, List.replicate_succ, List.set_cons_zero]
 simp
theorem length_nodeC (a b c d : Nat) (l : List UInt8) : (nodeC ⟨a, b, c, d, decQ l 11⟩).length = 15 := by
 unfold nodeC; rw [List.length_append, List.length_map, length_decQ l 11 (Nat.le_refl _)]; rfl
theorem nodeC_one (n : NodeS) : (nodeC n).toArray.all (·.oneCell') = true := by
 rw [Array.all_eq_true_iff_forall_mem]
 intro v hv
 have hv' : v ∈ nodeC n := by simpa using hv
 unfold nodeC at hv'
 simp only [List.cons_append, List.nil_append, List.mem_cons, List.mem_map] at hv'
 rcases hv' with rfl | rfl | rfl | rfl | ⟨p, _, rfl⟩ <;> rfl
theorem results_dec {w : World} {tmps : Array Value} {b : Nat} {cs : List Value} (h1 : tmps.getD 2 undef = .pointer (some ⟨b, 0, none⟩)) (r : w.heap[b]? = some (.cells cs.toArray 153 (0, 0))) (hl : cs.length = 15) :
  (results Tryz.f201 tmps).run Tryz.prog w = .ok (.agg cs.toArray) w := by
 have h1' : tmps[2]?.getD undef = .pointer (some ⟨b, 0, none⟩) := by simpa using h1
 have hr := run_loadVar_mid (P := Tryz.prog) w b 0 153 cs _ (by have := range_of_block r; exact this) Tryz.underlying153 rfl (by rw [hl]; kernel_rfl)
 simp only [results, Tryz.results201]
 simp [h1', asAddr, hr]
theorem part_in {w : World} {b o : Nat} {l : List UInt8} (h : bytesAt w ⟨b, o, none⟩ l) (p n : Nat) (hp : p + n <= l.length) : bytesIn w (some ⟨b, o + p, none⟩) ((l.drop p).take n) := fun _ _ => ⟨b, o + p, rfl, fun k hk => by
 have hk' : k < n := by rw [List.length_take] at hk; omega
 have h1 := h (p + k) (by omega)
 rw [Addr.add_mid] at h1
 rw [Nat.add_assoc, h1]
 simp [List.getElem_take, List.getElem_drop]⟩
theorem len_part {l : List UInt8} {p n : Nat} (h : p + n <= l.length) : ((l.drop p).take n).length = n := by rw [List.length_take, List.length_drop]; omega
theorem idec_any (b o c : Nat) (l : List UInt8) (w : World) (h : bytesAt w ⟨b, o, none⟩ l) (hl : l.length = 64) (hc : 64 <= c) (hc2 : c <= 4096) : Calls Tryz.prog 201 #[.slice (some ⟨b, o, none⟩) 64 c] w fun e w' => e = .returned (nodeV (decL l)) /\ Below w.heap.size w w' := by
 have hba : Below w.heap.size w (w.alloc (.cells #[.int .i64 0, .int .i64 0, .int .i64 0, .int .i64 0, .int .i64 0, .int .i64 0, .int .i64 0, .int .i64 0, .int .i64 0, .int .i64 0, .int .i64 0, .int .i64 0, .int .i64 0, .int .i64 0, .int .i64 0] 153)) := (Below.refl _ w).alloc (Nat.le_refl _) _
 have hbd : Below (w.alloc (.cells #[.int .i64 0, .int .i64 0, .int .i64 0, .int .i64 0, .int .i64 0, .int .i64 0, .int .i64 0, .int .i64 0, .int .i64 0, .int .i64 0, .int .i64 0, .int .i64 0, .int .i64 0, .int .i64 0, .int .i64 0] 153)).heap.size (w.alloc (.cells #[.int .i64 0, .int .i64 0, .int .i64 0, .int .i64 0, .int .i64 0, .int .i64 0, .int .i64 0, .int .i64 0, .int .i64 0, .int .i64 0, .int .i64 0, .int .i64 0, .int .i64 0, .int .i64 0, .int .i64 0] 153)) (w.alloc (.cells #[.int .i64 0, .int .i64 0, .int .i64 0, .int .i64 0, .int .i64 0, .int .i64 0, .int .i64 0, .int .i64 0, .int .i64 0, .int .i64 0, .int .i64 0, .int .i64 0, .int .i64 0, .int .i64 0, .int .i64 0] 153)).drew := (Below.refl _ _).drew
 have hbw : Below w.heap.size w (w.alloc (.cells #[.int .i64 0, .int .i64 0, .int .i64 0, .int .i64 0, .int .i64 0, .int .i64 0, .int .i64 0, .int .i64 0, .int .i64 0, .int .i64 0, .int .i64 0, .int .i64 0, .int .i64 0, .int .i64 0, .int .i64 0] 153)).drew := hba.trans (hbd.mono hba.size)
 have hr0 := below_block hbd (block_new w (.cells #[.int .i64 0, .int .i64 0, .int .i64 0, .int .i64 0, .int .i64 0, .int .i64 0, .int .i64 0, .int .i64 0, .int .i64 0, .int .i64 0, .int .i64 0, .int .i64 0, .int .i64 0, .int .i64 0, .int .i64 0] 153)) (by simp)
 have hby : ∀ W, Below (w.alloc (.cells #[.int .i64 0, .int .i64 0, .int .i64 0, .int .i64 0, .int .i64 0, .int .i64 0, .int .i64 0, .int .i64 0, .int .i64 0, .int .i64 0, .int .i64 0, .int .i64 0, .int .i64 0, .int .i64 0, .int .i64 0] 153)).drew.heap.size (w.alloc (.cells #[.int .i64 0, .int .i64 0, .int .i64 0, .int .i64 0, .int .i64 0, .int .i64 0, .int .i64 0, .int .i64 0, .int .i64 0, .int .i64 0, .int .i64 0, .int .i64 0, .int .i64 0, .int .i64 0, .int .i64 0] 153)).drew W -> bytesAt W ⟨b, o, none⟩ l := fun W hW j hj => by
  have h1 := h j hj
  have hlt := World.block_lt_of_cell? w _ h1
  have h2 := (hbw.cell hlt).trans h1
  exact (hW.cell (World.block_lt_of_cell? _ _ h2)).trans h2
 have hnum : ∀ W, Below (w.alloc (.cells #[.int .i64 0, .int .i64 0, .int .i64 0, .int .i64 0, .int .i64 0, .int .i64 0, .int .i64 0, .int .i64 0, .int .i64 0, .int .i64 0, .int .i64 0, .int .i64 0, .int .i64 0, .int .i64 0, .int .i64 0] 153)).drew.heap.size (w.alloc (.cells #[.int .i64 0, .int .i64 0, .int .i64 0, .int .i64 0, .int .i64 0, .int .i64 0, .int .i64 0, .int .i64 0, .int .i64 0, .int .i64 0, .int .i64 0, .int .i64 0, .int .i64 0, .int .i64 0, .int .i64 0] 153)).drew W -> ∀ p n, p + n <= 64 -> n <= 7 -> Calls Tryz.prog 118 #[.slice (some ⟨b, o + p, none⟩) n (c - p)] W fun e w' => e = .returned (.int .i64 (numS ((l.drop p).take n) : Nat)) /\ w' = W := fun W hW p n hp hn => by
  have h1 := number_any ((l.drop p).take n) (some ⟨b, o + p, none⟩) (c - p) W (part_in (hby W hW) p n (by omega)) (by rw [len_part (by omega)]; exact hn)
  rw [len_part (by omega)] at h1
  exact h1
 have h00 := h 0 (by omega)
 rw [Addr.add_mid, Nat.add_zero] at h00
 have cd0 := (hbw.cell (World.block_lt_of_cell? w _ h00)).trans h00
 have ca0 := (hba.cell (World.block_lt_of_cell? w _ h00)).trans h00
 obtain ⟨x0, hx0⟩ : ∃ x0, x0 = l[0] := ⟨_, rfl⟩
 rw [<- hx0] at cd0 ca0
 have HNum := hid hnum
 have HBy := hid hby
 have HBw := hid hbw
 have HR0 := hid hr0
 have HX0 : Hid (x0 = l.getD 0 0) := by unfold Hid; rw [hx0, List.getD_eq_getElem?_getD, List.getElem?_eq_getElem (by omega)]; rfl
 have HL := hid hl
 have hc' : (64 : Int) <= (c : Int) := by omega
 clear hba hbd hbw hr0 hby hnum h00 hx0 h
 replace hl : True := trivial
 clear hl
 go_enter Tryz.func201, Tryz.ntmps201
 go_wp2
 refine wp_region_noPanic ?_
 refine wp_region_held_drew (S := fun W => W.cell? ⟨b, o, none⟩ = some (.int .u8 (x0.toNat : Int))) (by kernel_rfl) ca0 (fun hHeld => ?_)
 have HSz : Hid ((w.alloc (.cells #[.int .i64 0, .int .i64 0, .int .i64 0, .int .i64 0, .int .i64 0, .int .i64 0, .int .i64 0, .int .i64 0, .int .i64 0, .int .i64 0, .int .i64 0, .int .i64 0, .int .i64 0, .int .i64 0, .int .i64 0] 153)).drew.heap.size = w.heap.size + 1) := by unfold Hid; simp [World.drew]
 generalize (w.alloc (.cells #[.int .i64 0, .int .i64 0, .int .i64 0, .int .i64 0, .int .i64 0, .int .i64 0, .int .i64 0, .int .i64 0, .int .i64 0, .int .i64 0, .int .i64 0, .int .i64 0, .int .i64 0, .int .i64 0, .int .i64 0] 153)).drew = wd at *
 have hn6 := fun W hW => HNum.out W hW 1 2 (by omega) (by omega)
 have hn9 := fun W hW => HNum.out W hW 3 2 (by omega) (by omega)
 have hn12 := fun W hW => HNum.out W hW 5 4 (by omega) (by omega)
 obtain ⟨m1, hm1⟩ : ∃ m1, m1 = numS ((l.drop 1).take 2) := ⟨_, rfl⟩
 obtain ⟨m2, hm2⟩ : ∃ m2, m2 = numS ((l.drop 3).take 2) := ⟨_, rfl⟩
 obtain ⟨m3, hm3⟩ : ∃ m3, m3 = numS ((l.drop 5).take 4) := ⟨_, rfl⟩
 rw [<- hm1] at hn6
 rw [<- hm2] at hn9
 rw [<- hm3] at hn12
 have HN6 := hid hn6
 have HN9 := hid hn9
 have HN12 := hid hn12
 have HMs := hid (And.intro hm1 (And.intro hm2 hm3))
 clear hn6 hn9 hn12 hm1 hm2 hm3
 have hw0 : IntKind.i64.wrap (x0.toNat : Int) = (x0.toNat : Int) := by rw [IntWalk.i64_in _ (by have := x0.toNat_lt; omega)]
 have cd := cd0
 clear cd0 ca0
 refine tq 0 _ ?_
 try simp only [tS]
 have hq3 : (3 : Int) <= (c : Int) := by omega
 have hq5 : (5 : Int) <= (c : Int) := by omega
 have hq9 : (9 : Int) <= (c : Int) := by omega
 have hn1 : ¬ c = 1 := by omega
 have hn3 : ¬ c = 3 := by omega
 have hn5 : ¬ c = 5 := by omega
 refine tq 1 _ ?_
 try simp only [tS]
 refine tq 2 _ ?_
 try simp only [tS]
 refine tq 3 (.int .i64 (x0.toNat : Int)) ?_
 try simp only [tS]
 refine tq 4 _ ?_
 try simp only [tS]
 refine tq 5 (.slice (some ⟨b, o + 1, none⟩) 2 (c - 1)) ?_
 try simp only [tS]
 refine tq 7 _ ?_
 try simp only [tS]
 refine tq 8 (.slice (some ⟨b, o + 3, none⟩) 2 (c - 3)) ?_
 try simp only [tS]
 refine tq 10 _ ?_
 try simp only [tS]
 refine tq 11 (.slice (some ⟨b, o + 5, none⟩) 4 (c - 5)) ?_
 try simp only [tS]
 refine wpAnyH_ready (rs := [6, 14]) (by kernel_rfl) (by simp) (AllReadyH.cons rfl (fun K hK => ?_) (AllReadyH.cons rfl (fun K hK => ?_) AllReadyH.nil))
 ·rw [if_pos (by rfl)]
  go_simp
  refine (HN6.out wd (Below.refl _ _)).mono ?_
  rintro e w9 ⟨rfl, h9⟩
  obtain rfl := h9.symm
  clear h9
  go_wp2_with fail
  refine hK.out _ _ cd (fun hHeld => ?_)
  clear hK K
  try simp only [tS]
  refine wpAnyH_ready (rs := [9, 14]) (by kernel_rfl) (by simp) (AllReadyH.cons rfl (fun K hK => ?_) (AllReadyH.cons rfl (fun K hK => ?_) AllReadyH.nil))
  ·rw [if_pos (by rfl)]
   go_simp
   refine (HN9.out wd (Below.refl _ _)).mono ?_
   rintro e w9 ⟨rfl, h9⟩
   obtain rfl := h9.symm
   clear h9
   go_wp2_with fail
   refine hK.out _ _ cd (fun hHeld => ?_)
   clear hK K
   try simp only [tS]
   refine wpAnyH_ready (rs := [12, 14]) (by kernel_rfl) (by simp) (AllReadyH.cons rfl (fun K hK => ?_) (AllReadyH.cons rfl (fun K hK => ?_) AllReadyH.nil))
   ·rw [if_pos (by rfl)]
    go_simp
    refine (HN12.out wd (Below.refl _ _)).mono ?_
    rintro e w9 ⟨rfl, h9⟩
    obtain rfl := h9.symm
    clear h9
    go_wp2_with fail
    refine hK.out _ _ cd (fun hHeld => ?_)
    clear hK K
    try simp only [tS]
    refine tq 13 _ ?_
    try simp only [tS]
    refine tr 14 (fun K hK => ?_)
    unfold Oper.wp
    go_simp
    have HBz : Hid (Below wd.heap.size wd (wd.alloc (.cells #[.int .i64 0, .int .i64 0, .int .i64 0, .int .i64 0, .int .i64 0, .int .i64 0, .int .i64 0, .int .i64 0, .int .i64 0, .int .i64 0, .int .i64 0, .int .i64 0, .int .i64 0, .int .i64 0, .int .i64 0] 153))) := (Below.refl _ wd).alloc (Nat.le_refl _) _
    have HNz : Hid ((wd.alloc (.cells #[.int .i64 0, .int .i64 0, .int .i64 0, .int .i64 0, .int .i64 0, .int .i64 0, .int .i64 0, .int .i64 0, .int .i64 0, .int .i64 0, .int .i64 0, .int .i64 0, .int .i64 0, .int .i64 0, .int .i64 0] 153)).heap[wd.heap.size]? = some (.cells #[.int .i64 0, .int .i64 0, .int .i64 0, .int .i64 0, .int .i64 0, .int .i64 0, .int .i64 0, .int .i64 0, .int .i64 0, .int .i64 0, .int .i64 0, .int .i64 0, .int .i64 0, .int .i64 0, .int .i64 0] 153 (0, 0))) := block_new wd _
    have cz : (wd.alloc (.cells #[.int .i64 0, .int .i64 0, .int .i64 0, .int .i64 0, .int .i64 0, .int .i64 0, .int .i64 0, .int .i64 0, .int .i64 0, .int .i64 0, .int .i64 0, .int .i64 0, .int .i64 0, .int .i64 0, .int .i64 0] 153)).cell? ⟨b, o, none⟩ = some (.int .u8 (x0.toNat : Int)) := (HBz.out.cell (World.block_lt_of_cell? wd _ cd)).trans cd
    generalize wd.alloc (.cells #[.int .i64 0, .int .i64 0, .int .i64 0, .int .i64 0, .int .i64 0, .int .i64 0, .int .i64 0, .int .i64 0, .int .i64 0, .int .i64 0, .int .i64 0, .int .i64 0, .int .i64 0, .int .i64 0, .int .i64 0] 153) = wz at *
    refine hK.out _ _ cz (fun hHeld => ?_)
    clear hK K
    try simp only [tS]
    refine tr 15 (fun K hK => ?_)
    refine wp_store_block 153 (.tmp 3) (.tmp 18) rfl wd.heap.size #[.int .i64 (x0.toNat : Int), .int .i64 m1, .int .i64 m2, .int .i64 m3, .int .i64 0, .int .i64 0, .int .i64 0, .int .i64 0, .int .i64 0, .int .i64 0, .int .i64 0, .int .i64 0, .int .i64 0, .int .i64 0, .int .i64 0] rfl rfl _ _ HNz.out rfl (by kernel_rfl) (by simp [Value.oneCell']) ?_
    intro w5 hg5 hn5 hz5
    have hbne : b < wd.heap.size := World.block_lt_of_cell? wd _ cd
    have kk : Keeps (fun i => i = wd.heap.size) wz w5 := Keeps.of_grown hg5 (fun i e => (Option.some.inj e).symm)
    have c5 : w5.cell? ⟨b, o, none⟩ = some (.int .u8 (x0.toNat : Int)) := kk.cell cz (fun e => by have e' : b = wd.heap.size := e; omega)
    have HN5 := hid hn5
    have HB5 : Hid (Below wd.heap.size wd w5) := HBz.out.trans (kk.below HBz.out.size (fun i e => by have e' : i = wd.heap.size := e; omega))
    clear hg5 hn5 hz5 kk HBz HNz
    refine hK.out _ _ c5 (fun hHeld => ?_)
    clear hK K
    try simp only [List.getElem_toArray, List.getElem_cons_succ, List.getElem_cons_zero, Act.put]
    refine wpAnyH_done (by kernel_rfl) ?_ _
    refine NoPanic.normal ?_
    clear hHeld c5 cz cd HN6 HN9 HN12
    have HN0 : Hid (nodeB w5 wd.heap.size ⟨x0.toNat, m1, m2, m3, decQ l 0⟩) := HN5
    have hn9 : ¬ c = 9 := by omega
    clear HN5 hq3 hq5 hq9 hn1 hn3 hn5
    obtain ⟨nb, hnb⟩ : ∃ nb, nb = wd.heap.size := ⟨_, rfl⟩
    rw [<- hnb] at HN0 ⊢
    have HNb := hid hnb
    clear hnb
    go_wp2
    go_loopw [19] (fun iv wr => ∃ j : Nat, j <= 11 /\ iv = .int .i64 j /\ Hid (nodeB wr nb ⟨x0.toNat, m1, m2, m3, decQ l j⟩) /\ Hid (Below wd.heap.size wd wr)) (fun iv _ => 11 - (intOf iv).toNat)
    case atStart => exact ⟨0, by omega, rfl, HN0, HB5⟩
    case round =>
     obtain ⟨j, hj, rfl, HN, HB⟩ := hrel
     clear HN0 HB5
     by_cases hlt : j < 11
     ·have hj0 : (0 : Int) <= (j : Int) := by omega
      have hj1 : (j : Int) < 11 := by omega
      have HF := hid (ifourth_any b (o + 9) 55 (c - 9) j wr (by omega) (by omega) (by omega))
      have hnu := HNum.out wr HB.out (9 + 4 * j) 4 (by omega) (by omega)
      rw [show o + (9 + 4 * j) = o + 9 + 4 * j by omega, show c - (9 + 4 * j) = c - 9 - 4 * j by omega] at hnu
      have hdl : j < (decQ l j).length := by rw [length_decQ l j hj]; exact hlt
      have k1 := HN.out.page j hdl
      have k2 : wr.frozen? ⟨nb, 4 + j, none⟩ = false := frozen_of_block HN.out _
      have hst := HN.out.setPage j (numS ((l.drop (9 + 4 * j)).take 4))
      rw [show (decQ l j).set j (numS ((l.drop (9 + 4 * j)).take 4)) = decQ l (j + 1) from decQ_set l j hlt] at hst
      have HSt := hid hst
      have HNu := hid hnu
      clear hnu hst HN
      generalize numS ((l.drop (9 + 4 * j)).take 4) = x at *
      generalize hpj : (decQ l j)[j] = pj at *
      clear hpj hdl
      go_wp2_with fail
      refine HF.out.mono ?_
      clear HF
      rintro e w7 ⟨rfl, h7⟩
      obtain rfl := h7.symm
      clear h7
      go_wp2_with fail
      refine HNu.out.mono ?_
      clear HNu
      rintro e w8 ⟨rfl, h8⟩
      obtain rfl := h8.symm
      clear h8
      have HB8 : Hid (Below wd.heap.size wd (wr.setCell ⟨nb, 4 + j, none⟩ (.int .i64 x))) := HB.out.setCell (show wd.heap.size <= nb from by have := HNb.out; omega) _
      clear HB
      go_wp2
      exact ⟨⟨j + 1, by omega, by go_num, HSt, HB8⟩, by simp [intOf]; omega⟩
     ·obtain rfl : j = 11 := by omega
      have hr0 := below_block HB.out HR0.out (by have := HSz.out; omega)
      have HR1 := hid hr0
      clear hr0
      go_wp2_with (first
       | (refine wpList_load_mid rfl 153 (.tmp 3) rfl nb 0 rfl (nodeC ⟨x0.toNat, m1, m2, m3, decQ l 11⟩) _ (by have := range_of_block HN.out; exact this) Tryz.underlying153 rfl (by rw [length_nodeC]; kernel_rfl) ?_)
       | (refine wpList_store_block rfl 153 (.tmp 2) (.tmp 31) rfl w.heap.size (nodeC ⟨x0.toNat, m1, m2, m3, decQ l 11⟩).toArray rfl rfl _ _ HR1.out (by rw [List.size_toArray, length_nodeC]; rfl) (by rw [List.size_toArray, length_nodeC]; kernel_rfl) (nodeC_one _) ?_; intro w6 hg6 hb6 hz6))
      have hsz := HSz.out
      have hBw := HBw.out.size
      refine bodyPost_ret (results_dec rfl hb6 (length_nodeC _ _ _ _ _)) rfl ⟨?_, ?_⟩
      ·unfold nodeV decL
       rw [<- HX0.out, <- HMs.out.1, <- HMs.out.2.1, <- HMs.out.2.2]
       have e : decQ l 11 = decP l 11 := by unfold decQ; simp
       rw [e]
      ·have hbr : Below w.heap.size w wr := HBw.out.trans (HB.out.mono (by omega))
       exact hbr.trans ((Keeps.of_grown hg6 (F := fun i => some w.heap.size = some i) (fun i e => e)).below hbr.size (fun i e => by cases e; exact Nat.le_refl _))
   ·rw [if_pos (by rfl)]
    unfold Oper.wp
    go_simp
    have HBz : Hid (Below wd.heap.size wd (wd.alloc (.cells #[.int .i64 0, .int .i64 0, .int .i64 0, .int .i64 0, .int .i64 0, .int .i64 0, .int .i64 0, .int .i64 0, .int .i64 0, .int .i64 0, .int .i64 0, .int .i64 0, .int .i64 0, .int .i64 0, .int .i64 0] 153))) := (Below.refl _ wd).alloc (Nat.le_refl _) _
    have HNz : Hid ((wd.alloc (.cells #[.int .i64 0, .int .i64 0, .int .i64 0, .int .i64 0, .int .i64 0, .int .i64 0, .int .i64 0, .int .i64 0, .int .i64 0, .int .i64 0, .int .i64 0, .int .i64 0, .int .i64 0, .int .i64 0, .int .i64 0] 153)).heap[wd.heap.size]? = some (.cells #[.int .i64 0, .int .i64 0, .int .i64 0, .int .i64 0, .int .i64 0, .int .i64 0, .int .i64 0, .int .i64 0, .int .i64 0, .int .i64 0, .int .i64 0, .int .i64 0, .int .i64 0, .int .i64 0, .int .i64 0] 153 (0, 0))) := block_new wd _
    have cz : (wd.alloc (.cells #[.int .i64 0, .int .i64 0, .int .i64 0, .int .i64 0, .int .i64 0, .int .i64 0, .int .i64 0, .int .i64 0, .int .i64 0, .int .i64 0, .int .i64 0, .int .i64 0, .int .i64 0, .int .i64 0, .int .i64 0] 153)).cell? ⟨b, o, none⟩ = some (.int .u8 (x0.toNat : Int)) := (HBz.out.cell (World.block_lt_of_cell? wd _ cd)).trans cd
    generalize wd.alloc (.cells #[.int .i64 0, .int .i64 0, .int .i64 0, .int .i64 0, .int .i64 0, .int .i64 0, .int .i64 0, .int .i64 0, .int .i64 0, .int .i64 0, .int .i64 0, .int .i64 0, .int .i64 0, .int .i64 0, .int .i64 0] 153) = wz at *
    refine hK.out _ _ cz (fun hHeld => ?_)
    clear hK K
    try simp only [tS]
    refine tr 12 (fun K hK => ?_)
    go_simp
    refine (HN12.out wz HBz.out).mono ?_
    rintro e w9 ⟨rfl, h9⟩
    obtain rfl := h9.symm
    clear h9
    go_wp2_with fail
    refine hK.out _ _ cz (fun hHeld => ?_)
    clear hK K
    try simp only [tS]
    refine tq 13 _ ?_
    try simp only [tS]
    refine tr 15 (fun K hK => ?_)
    refine wp_store_block 153 (.tmp 3) (.tmp 18) rfl wd.heap.size #[.int .i64 (x0.toNat : Int), .int .i64 m1, .int .i64 m2, .int .i64 m3, .int .i64 0, .int .i64 0, .int .i64 0, .int .i64 0, .int .i64 0, .int .i64 0, .int .i64 0, .int .i64 0, .int .i64 0, .int .i64 0, .int .i64 0] rfl rfl _ _ HNz.out rfl (by kernel_rfl) (by simp [Value.oneCell']) ?_
    intro w5 hg5 hn5 hz5
    have hbne : b < wd.heap.size := World.block_lt_of_cell? wd _ cd
    have kk : Keeps (fun i => i = wd.heap.size) wz w5 := Keeps.of_grown hg5 (fun i e => (Option.some.inj e).symm)
    have c5 : w5.cell? ⟨b, o, none⟩ = some (.int .u8 (x0.toNat : Int)) := kk.cell cz (fun e => by have e' : b = wd.heap.size := e; omega)
    have HN5 := hid hn5
    have HB5 : Hid (Below wd.heap.size wd w5) := HBz.out.trans (kk.below HBz.out.size (fun i e => by have e' : i = wd.heap.size := e; omega))
    clear hg5 hn5 hz5 kk HBz HNz
    refine hK.out _ _ c5 (fun hHeld => ?_)
    clear hK K
    try simp only [List.getElem_toArray, List.getElem_cons_succ, List.getElem_cons_zero, Act.put]
    refine wpAnyH_done (by kernel_rfl) ?_ _
    refine NoPanic.normal ?_
    clear hHeld c5 cz cd HN6 HN9 HN12
    have HN0 : Hid (nodeB w5 wd.heap.size ⟨x0.toNat, m1, m2, m3, decQ l 0⟩) := HN5
    have hn9 : ¬ c = 9 := by omega
    clear HN5 hq3 hq5 hq9 hn1 hn3 hn5
    obtain ⟨nb, hnb⟩ : ∃ nb, nb = wd.heap.size := ⟨_, rfl⟩
    rw [<- hnb] at HN0 ⊢
    have HNb := hid hnb
    clear hnb
    go_wp2
    go_loopw [19] (fun iv wr => ∃ j : Nat, j <= 11 /\ iv = .int .i64 j /\ Hid (nodeB wr nb ⟨x0.toNat, m1, m2, m3, decQ l j⟩) /\ Hid (Below wd.heap.size wd wr)) (fun iv _ => 11 - (intOf iv).toNat)
    case atStart => exact ⟨0, by omega, rfl, HN0, HB5⟩
    case round =>
     obtain ⟨j, hj, rfl, HN, HB⟩ := hrel
     clear HN0 HB5
     by_cases hlt : j < 11
     ·have hj0 : (0 : Int) <= (j : Int) := by omega
      have hj1 : (j : Int) < 11 := by omega
      have HF := hid (ifourth_any b (o + 9) 55 (c - 9) j wr (by omega) (by omega) (by omega))
      have hnu := HNum.out wr HB.out (9 + 4 * j) 4 (by omega) (by omega)
      rw [show o + (9 + 4 * j) = o + 9 + 4 * j by omega, show c - (9 + 4 * j) = c - 9 - 4 * j by omega] at hnu
      have hdl : j < (decQ l j).length := by rw [length_decQ l j hj]; exact hlt
      have k1 := HN.out.page j hdl
      have k2 : wr.frozen? ⟨nb, 4 + j, none⟩ = false := frozen_of_block HN.out _
      have hst := HN.out.setPage j (numS ((l.drop (9 + 4 * j)).take 4))
      rw [show (decQ l j).set j (numS ((l.drop (9 + 4 * j)).take 4)) = decQ l (j + 1) from decQ_set l j hlt] at hst
      have HSt := hid hst
      have HNu := hid hnu
      clear hnu hst HN
      generalize numS ((l.drop (9 + 4 * j)).take 4) = x at *
      generalize hpj : (decQ l j)[j] = pj at *
      clear hpj hdl
      go_wp2_with fail
      refine HF.out.mono ?_
      clear HF
      rintro e w7 ⟨rfl, h7⟩
      obtain rfl := h7.symm
      clear h7
      go_wp2_with fail
      refine HNu.out.mono ?_
      clear HNu
      rintro e w8 ⟨rfl, h8⟩
      obtain rfl := h8.symm
      clear h8
      have HB8 : Hid (Below wd.heap.size wd (wr.setCell ⟨nb, 4 + j, none⟩ (.int .i64 x))) := HB.out.setCell (show wd.heap.size <= nb from by have := HNb.out; omega) _
      clear HB
      go_wp2
      exact ⟨⟨j + 1, by omega, by go_num, HSt, HB8⟩, by simp [intOf]; omega⟩
     ·obtain rfl : j = 11 := by omega
      have hr0 := below_block HB.out HR0.out (by have := HSz.out; omega)
      have HR1 := hid hr0
      clear hr0
      go_wp2_with (first
       | (refine wpList_load_mid rfl 153 (.tmp 3) rfl nb 0 rfl (nodeC ⟨x0.toNat, m1, m2, m3, decQ l 11⟩) _ (by have := range_of_block HN.out; exact this) Tryz.underlying153 rfl (by rw [length_nodeC]; kernel_rfl) ?_)
       | (refine wpList_store_block rfl 153 (.tmp 2) (.tmp 31) rfl w.heap.size (nodeC ⟨x0.toNat, m1, m2, m3, decQ l 11⟩).toArray rfl rfl _ _ HR1.out (by rw [List.size_toArray, length_nodeC]; rfl) (by rw [List.size_toArray, length_nodeC]; kernel_rfl) (nodeC_one _) ?_; intro w6 hg6 hb6 hz6))
      have hsz := HSz.out
      have hBw := HBw.out.size
      refine bodyPost_ret (results_dec rfl hb6 (length_nodeC _ _ _ _ _)) rfl ⟨?_, ?_⟩
      ·unfold nodeV decL
       rw [<- HX0.out, <- HMs.out.1, <- HMs.out.2.1, <- HMs.out.2.2]
       have e : decQ l 11 = decP l 11 := by unfold decQ; simp
       rw [e]
      ·have hbr : Below w.heap.size w wr := HBw.out.trans (HB.out.mono (by omega))
       exact hbr.trans ((Keeps.of_grown hg6 (F := fun i => some w.heap.size = some i) (fun i e => e)).below hbr.size (fun i e => by cases e; exact Nat.le_refl _))
  ·rw [if_pos (by rfl)]
   unfold Oper.wp
   go_simp
   have HBz : Hid (Below wd.heap.size wd (wd.alloc (.cells #[.int .i64 0, .int .i64 0, .int .i64 0, .int .i64 0, .int .i64 0, .int .i64 0, .int .i64 0, .int .i64 0, .int .i64 0, .int .i64 0, .int .i64 0, .int .i64 0, .int .i64 0, .int .i64 0, .int .i64 0] 153))) := (Below.refl _ wd).alloc (Nat.le_refl _) _
   have HNz : Hid ((wd.alloc (.cells #[.int .i64 0, .int .i64 0, .int .i64 0, .int .i64 0, .int .i64 0, .int .i64 0, .int .i64 0, .int .i64 0, .int .i64 0, .int .i64 0, .int .i64 0, .int .i64 0, .int .i64 0, .int .i64 0, .int .i64 0] 153)).heap[wd.heap.size]? = some (.cells #[.int .i64 0, .int .i64 0, .int .i64 0, .int .i64 0, .int .i64 0, .int .i64 0, .int .i64 0, .int .i64 0, .int .i64 0, .int .i64 0, .int .i64 0, .int .i64 0, .int .i64 0, .int .i64 0, .int .i64 0] 153 (0, 0))) := block_new wd _
   have cz : (wd.alloc (.cells #[.int .i64 0, .int .i64 0, .int .i64 0, .int .i64 0, .int .i64 0, .int .i64 0, .int .i64 0, .int .i64 0, .int .i64 0, .int .i64 0, .int .i64 0, .int .i64 0, .int .i64 0, .int .i64 0, .int .i64 0] 153)).cell? ⟨b, o, none⟩ = some (.int .u8 (x0.toNat : Int)) := (HBz.out.cell (World.block_lt_of_cell? wd _ cd)).trans cd
   generalize wd.alloc (.cells #[.int .i64 0, .int .i64 0, .int .i64 0, .int .i64 0, .int .i64 0, .int .i64 0, .int .i64 0, .int .i64 0, .int .i64 0, .int .i64 0, .int .i64 0, .int .i64 0, .int .i64 0, .int .i64 0, .int .i64 0] 153) = wz at *
   refine hK.out _ _ cz (fun hHeld => ?_)
   clear hK K
   try simp only [tS]
   refine tr 9 (fun K hK => ?_)
   go_simp
   refine (HN9.out wz HBz.out).mono ?_
   rintro e w9 ⟨rfl, h9⟩
   obtain rfl := h9.symm
   clear h9
   go_wp2_with fail
   refine hK.out _ _ cz (fun hHeld => ?_)
   clear hK K
   try simp only [tS]
   refine tr 12 (fun K hK => ?_)
   go_simp
   refine (HN12.out wz HBz.out).mono ?_
   rintro e w9 ⟨rfl, h9⟩
   obtain rfl := h9.symm
   clear h9
   go_wp2_with fail
   refine hK.out _ _ cz (fun hHeld => ?_)
   clear hK K
   try simp only [tS]
   refine tq 13 _ ?_
   try simp only [tS]
   refine tr 15 (fun K hK => ?_)
   refine wp_store_block 153 (.tmp 3) (.tmp 18) rfl wd.heap.size #[.int .i64 (x0.toNat : Int), .int .i64 m1, .int .i64 m2, .int .i64 m3, .int .i64 0, .int .i64 0, .int .i64 0, .int .i64 0, .int .i64 0, .int .i64 0, .int .i64 0, .int .i64 0, .int .i64 0, .int .i64 0, .int .i64 0] rfl rfl _ _ HNz.out rfl (by kernel_rfl) (by simp [Value.oneCell']) ?_
   intro w5 hg5 hn5 hz5
   have hbne : b < wd.heap.size := World.block_lt_of_cell? wd _ cd
   have kk : Keeps (fun i => i = wd.heap.size) wz w5 := Keeps.of_grown hg5 (fun i e => (Option.some.inj e).symm)
   have c5 : w5.cell? ⟨b, o, none⟩ = some (.int .u8 (x0.toNat : Int)) := kk.cell cz (fun e => by have e' : b = wd.heap.size := e; omega)
   have HN5 := hid hn5
   have HB5 : Hid (Below wd.heap.size wd w5) := HBz.out.trans (kk.below HBz.out.size (fun i e => by have e' : i = wd.heap.size := e; omega))
   clear hg5 hn5 hz5 kk HBz HNz
   refine hK.out _ _ c5 (fun hHeld => ?_)
   clear hK K
   try simp only [List.getElem_toArray, List.getElem_cons_succ, List.getElem_cons_zero, Act.put]
   refine wpAnyH_done (by kernel_rfl) ?_ _
   refine NoPanic.normal ?_
   clear hHeld c5 cz cd HN6 HN9 HN12
   have HN0 : Hid (nodeB w5 wd.heap.size ⟨x0.toNat, m1, m2, m3, decQ l 0⟩) := HN5
   have hn9 : ¬ c = 9 := by omega
   clear HN5 hq3 hq5 hq9 hn1 hn3 hn5
   obtain ⟨nb, hnb⟩ : ∃ nb, nb = wd.heap.size := ⟨_, rfl⟩
   rw [<- hnb] at HN0 ⊢
   have HNb := hid hnb
   clear hnb
   go_wp2
   go_loopw [19] (fun iv wr => ∃ j : Nat, j <= 11 /\ iv = .int .i64 j /\ Hid (nodeB wr nb ⟨x0.toNat, m1, m2, m3, decQ l j⟩) /\ Hid (Below wd.heap.size wd wr)) (fun iv _ => 11 - (intOf iv).toNat)
   case atStart => exact ⟨0, by omega, rfl, HN0, HB5⟩
   case round =>
    obtain ⟨j, hj, rfl, HN, HB⟩ := hrel
    clear HN0 HB5
    by_cases hlt : j < 11
    ·have hj0 : (0 : Int) <= (j : Int) := by omega
     have hj1 : (j : Int) < 11 := by omega
     have HF := hid (ifourth_any b (o + 9) 55 (c - 9) j wr (by omega) (by omega) (by omega))
     have hnu := HNum.out wr HB.out (9 + 4 * j) 4 (by omega) (by omega)
     rw [show o + (9 + 4 * j) = o + 9 + 4 * j by omega, show c - (9 + 4 * j) = c - 9 - 4 * j by omega] at hnu
     have hdl : j < (decQ l j).length := by rw [length_decQ l j hj]; exact hlt
     have k1 := HN.out.page j hdl
     have k2 : wr.frozen? ⟨nb, 4 + j, none⟩ = false := frozen_of_block HN.out _
     have hst := HN.out.setPage j (numS ((l.drop (9 + 4 * j)).take 4))
     rw [show (decQ l j).set j (numS ((l.drop (9 + 4 * j)).take 4)) = decQ l (j + 1) from decQ_set l j hlt] at hst
     have HSt := hid hst
     have HNu := hid hnu
     clear hnu hst HN
     generalize numS ((l.drop (9 + 4 * j)).take 4) = x at *
     generalize hpj : (decQ l j)[j] = pj at *
     clear hpj hdl
     go_wp2_with fail
     refine HF.out.mono ?_
     clear HF
     rintro e w7 ⟨rfl, h7⟩
     obtain rfl := h7.symm
     clear h7
     go_wp2_with fail
     refine HNu.out.mono ?_
     clear HNu
     rintro e w8 ⟨rfl, h8⟩
     obtain rfl := h8.symm
     clear h8
     have HB8 : Hid (Below wd.heap.size wd (wr.setCell ⟨nb, 4 + j, none⟩ (.int .i64 x))) := HB.out.setCell (show wd.heap.size <= nb from by have := HNb.out; omega) _
     clear HB
     go_wp2
     exact ⟨⟨j + 1, by omega, by go_num, HSt, HB8⟩, by simp [intOf]; omega⟩
    ·obtain rfl : j = 11 := by omega
     have hr0 := below_block HB.out HR0.out (by have := HSz.out; omega)
     have HR1 := hid hr0
     clear hr0
     go_wp2_with (first
      | (refine wpList_load_mid rfl 153 (.tmp 3) rfl nb 0 rfl (nodeC ⟨x0.toNat, m1, m2, m3, decQ l 11⟩) _ (by have := range_of_block HN.out; exact this) Tryz.underlying153 rfl (by rw [length_nodeC]; kernel_rfl) ?_)
      | (refine wpList_store_block rfl 153 (.tmp 2) (.tmp 31) rfl w.heap.size (nodeC ⟨x0.toNat, m1, m2, m3, decQ l 11⟩).toArray rfl rfl _ _ HR1.out (by rw [List.size_toArray, length_nodeC]; rfl) (by rw [List.size_toArray, length_nodeC]; kernel_rfl) (nodeC_one _) ?_; intro w6 hg6 hb6 hz6))
     have hsz := HSz.out
     have hBw := HBw.out.size
     refine bodyPost_ret (results_dec rfl hb6 (length_nodeC _ _ _ _ _)) rfl ⟨?_, ?_⟩
     ·unfold nodeV decL
      rw [<- HX0.out, <- HMs.out.1, <- HMs.out.2.1, <- HMs.out.2.2]
      have e : decQ l 11 = decP l 11 := by unfold decQ; simp
      rw [e]
     ·have hbr : Below w.heap.size w wr := HBw.out.trans (HB.out.mono (by omega))
      exact hbr.trans ((Keeps.of_grown hg6 (F := fun i => some w.heap.size = some i) (fun i e => e)).below hbr.size (fun i e => by cases e; exact Nat.le_refl _))
 ·rw [if_pos (by rfl)]
  unfold Oper.wp
  go_simp
  have HBz : Hid (Below wd.heap.size wd (wd.alloc (.cells #[.int .i64 0, .int .i64 0, .int .i64 0, .int .i64 0, .int .i64 0, .int .i64 0, .int .i64 0, .int .i64 0, .int .i64 0, .int .i64 0, .int .i64 0, .int .i64 0, .int .i64 0, .int .i64 0, .int .i64 0] 153))) := (Below.refl _ wd).alloc (Nat.le_refl _) _
  have HNz : Hid ((wd.alloc (.cells #[.int .i64 0, .int .i64 0, .int .i64 0, .int .i64 0, .int .i64 0, .int .i64 0, .int .i64 0, .int .i64 0, .int .i64 0, .int .i64 0, .int .i64 0, .int .i64 0, .int .i64 0, .int .i64 0, .int .i64 0] 153)).heap[wd.heap.size]? = some (.cells #[.int .i64 0, .int .i64 0, .int .i64 0, .int .i64 0, .int .i64 0, .int .i64 0, .int .i64 0, .int .i64 0, .int .i64 0, .int .i64 0, .int .i64 0, .int .i64 0, .int .i64 0, .int .i64 0, .int .i64 0] 153 (0, 0))) := block_new wd _
  have cz : (wd.alloc (.cells #[.int .i64 0, .int .i64 0, .int .i64 0, .int .i64 0, .int .i64 0, .int .i64 0, .int .i64 0, .int .i64 0, .int .i64 0, .int .i64 0, .int .i64 0, .int .i64 0, .int .i64 0, .int .i64 0, .int .i64 0] 153)).cell? ⟨b, o, none⟩ = some (.int .u8 (x0.toNat : Int)) := (HBz.out.cell (World.block_lt_of_cell? wd _ cd)).trans cd
  generalize wd.alloc (.cells #[.int .i64 0, .int .i64 0, .int .i64 0, .int .i64 0, .int .i64 0, .int .i64 0, .int .i64 0, .int .i64 0, .int .i64 0, .int .i64 0, .int .i64 0, .int .i64 0, .int .i64 0, .int .i64 0, .int .i64 0] 153) = wz at *
  refine hK.out _ _ cz (fun hHeld => ?_)
  clear hK K
  try simp only [tS]
  refine tr 6 (fun K hK => ?_)
  go_simp
  refine (HN6.out wz HBz.out).mono ?_
  rintro e w9 ⟨rfl, h9⟩
  obtain rfl := h9.symm
  clear h9
  go_wp2_with fail
  refine hK.out _ _ cz (fun hHeld => ?_)
  clear hK K
  try simp only [tS]
  refine tr 9 (fun K hK => ?_)
  go_simp
  refine (HN9.out wz HBz.out).mono ?_
  rintro e w9 ⟨rfl, h9⟩
  obtain rfl := h9.symm
  clear h9
  go_wp2_with fail
  refine hK.out _ _ cz (fun hHeld => ?_)
  clear hK K
  try simp only [tS]
  refine tr 12 (fun K hK => ?_)
  go_simp
  refine (HN12.out wz HBz.out).mono ?_
  rintro e w9 ⟨rfl, h9⟩
  obtain rfl := h9.symm
  clear h9
  go_wp2_with fail
  refine hK.out _ _ cz (fun hHeld => ?_)
  clear hK K
  try simp only [tS]
  refine tq 13 _ ?_
  try simp only [tS]
  refine tr 15 (fun K hK => ?_)
  refine wp_store_block 153 (.tmp 3) (.tmp 18) rfl wd.heap.size #[.int .i64 (x0.toNat : Int), .int .i64 m1, .int .i64 m2, .int .i64 m3, .int .i64 0, .int .i64 0, .int .i64 0, .int .i64 0, .int .i64 0, .int .i64 0, .int .i64 0, .int .i64 0, .int .i64 0, .int .i64 0, .int .i64 0] rfl rfl _ _ HNz.out rfl (by kernel_rfl) (by simp [Value.oneCell']) ?_
  intro w5 hg5 hn5 hz5
  have hbne : b < wd.heap.size := World.block_lt_of_cell? wd _ cd
  have kk : Keeps (fun i => i = wd.heap.size) wz w5 := Keeps.of_grown hg5 (fun i e => (Option.some.inj e).symm)
  have c5 : w5.cell? ⟨b, o, none⟩ = some (.int .u8 (x0.toNat : Int)) := kk.cell cz (fun e => by have e' : b = wd.heap.size := e; omega)
  have HN5 := hid hn5
  have HB5 : Hid (Below wd.heap.size wd w5) := HBz.out.trans (kk.below HBz.out.size (fun i e => by have e' : i = wd.heap.size := e; omega))
  clear hg5 hn5 hz5 kk HBz HNz
  refine hK.out _ _ c5 (fun hHeld => ?_)
  clear hK K
  try simp only [List.getElem_toArray, List.getElem_cons_succ, List.getElem_cons_zero, Act.put]
  refine wpAnyH_done (by kernel_rfl) ?_ _
  refine NoPanic.normal ?_
  clear hHeld c5 cz cd HN6 HN9 HN12
  have HN0 : Hid (nodeB w5 wd.heap.size ⟨x0.toNat, m1, m2, m3, decQ l 0⟩) := HN5
  have hn9 : ¬ c = 9 := by omega
  clear HN5 hq3 hq5 hq9 hn1 hn3 hn5
  obtain ⟨nb, hnb⟩ : ∃ nb, nb = wd.heap.size := ⟨_, rfl⟩
  rw [<- hnb] at HN0 ⊢
  have HNb := hid hnb
  clear hnb
  go_wp2
  go_loopw [19] (fun iv wr => ∃ j : Nat, j <= 11 /\ iv = .int .i64 j /\ Hid (nodeB wr nb ⟨x0.toNat, m1, m2, m3, decQ l j⟩) /\ Hid (Below wd.heap.size wd wr)) (fun iv _ => 11 - (intOf iv).toNat)
  case atStart => exact ⟨0, by omega, rfl, HN0, HB5⟩
  case round =>
   obtain ⟨j, hj, rfl, HN, HB⟩ := hrel
   clear HN0 HB5
   by_cases hlt : j < 11
   ·have hj0 : (0 : Int) <= (j : Int) := by omega
    have hj1 : (j : Int) < 11 := by omega
    have HF := hid (ifourth_any b (o + 9) 55 (c - 9) j wr (by omega) (by omega) (by omega))
    have hnu := HNum.out wr HB.out (9 + 4 * j) 4 (by omega) (by omega)
    rw [show o + (9 + 4 * j) = o + 9 + 4 * j by omega, show c - (9 + 4 * j) = c - 9 - 4 * j by omega] at hnu
    have hdl : j < (decQ l j).length := by rw [length_decQ l j hj]; exact hlt
    have k1 := HN.out.page j hdl
    have k2 : wr.frozen? ⟨nb, 4 + j, none⟩ = false := frozen_of_block HN.out _
    have hst := HN.out.setPage j (numS ((l.drop (9 + 4 * j)).take 4))
    rw [show (decQ l j).set j (numS ((l.drop (9 + 4 * j)).take 4)) = decQ l (j + 1) from decQ_set l j hlt] at hst
    have HSt := hid hst
    have HNu := hid hnu
    clear hnu hst HN
    generalize numS ((l.drop (9 + 4 * j)).take 4) = x at *
    generalize hpj : (decQ l j)[j] = pj at *
    clear hpj hdl
    go_wp2_with fail
    refine HF.out.mono ?_
    clear HF
    rintro e w7 ⟨rfl, h7⟩
    obtain rfl := h7.symm
    clear h7
    go_wp2_with fail
    refine HNu.out.mono ?_
    clear HNu
    rintro e w8 ⟨rfl, h8⟩
    obtain rfl := h8.symm
    clear h8
    have HB8 : Hid (Below wd.heap.size wd (wr.setCell ⟨nb, 4 + j, none⟩ (.int .i64 x))) := HB.out.setCell (show wd.heap.size <= nb from by have := HNb.out; omega) _
    clear HB
    go_wp2
    exact ⟨⟨j + 1, by omega, by go_num, HSt, HB8⟩, by simp [intOf]; omega⟩
   ·obtain rfl : j = 11 := by omega
    have hr0 := below_block HB.out HR0.out (by have := HSz.out; omega)
    have HR1 := hid hr0
    clear hr0
    go_wp2_with (first
     | (refine wpList_load_mid rfl 153 (.tmp 3) rfl nb 0 rfl (nodeC ⟨x0.toNat, m1, m2, m3, decQ l 11⟩) _ (by have := range_of_block HN.out; exact this) Tryz.underlying153 rfl (by rw [length_nodeC]; kernel_rfl) ?_)
     | (refine wpList_store_block rfl 153 (.tmp 2) (.tmp 31) rfl w.heap.size (nodeC ⟨x0.toNat, m1, m2, m3, decQ l 11⟩).toArray rfl rfl _ _ HR1.out (by rw [List.size_toArray, length_nodeC]; rfl) (by rw [List.size_toArray, length_nodeC]; kernel_rfl) (nodeC_one _) ?_; intro w6 hg6 hb6 hz6))
    have hsz := HSz.out
    have hBw := HBw.out.size
    refine bodyPost_ret (results_dec rfl hb6 (length_nodeC _ _ _ _ _)) rfl ⟨?_, ?_⟩
    ·unfold nodeV decL
     rw [<- HX0.out, <- HMs.out.1, <- HMs.out.2.1, <- HMs.out.2.2]
     have e : decQ l 11 = decP l 11 := by unfold decQ; simp
     rw [e]
    ·have hbr : Below w.heap.size w wr := HBw.out.trans (HB.out.mono (by omega))
     exact hbr.trans ((Keeps.of_grown hg6 (F := fun i => some w.heap.size = some i) (fun i e => e)).below hbr.size (fun i e => by cases e; exact Nat.le_refl _))
end
section
set_option maxRecDepth 100000
open Go.RowKit
def inoL (L : List UInt8) (i : Nat) : List UInt8 := (L.drop (i % 8 * 64)).take 64
def putT (L : List UInt8) (i : Nat) (e : List UInt8) : List UInt8 := L.take (i % 8 * 64) ++ e ++ L.drop (i % 8 * 64 + 64)
theorem length_inoL {L : List UInt8} (h : L.length = 512) (i : Nat) : (inoL L i).length = 64 := by
 unfold inoL; rw [List.length_take, List.length_drop]; omega
theorem length_putT {L : List UInt8} (h : L.length = 512) (i : Nat) {e : List UInt8} (he : e.length = 64) : (putT L i e).length = 512 := by
 unfold putT; rw [List.length_append, List.length_append, List.length_take, List.length_drop]; omega
theorem inoL_at {L : List UInt8} (i j : Nat) (h : j < (inoL L i).length) (h2 : i % 8 * 64 + j < L.length) : (inoL L i)[j] = L[i % 8 * 64 + j] := by
 simp [inoL]
theorem length_nodeD (l : List UInt8) : (nodeC (decL l)).length = 15 := by
 unfold nodeC decL; rw [List.length_append, List.length_map, length_decP]; rfl
theorem results_get {w : World} {tmps : Array Value} {b : Nat} {cs : List Value} (h1 : tmps.getD 4 undef = .pointer (some ⟨b, 0, none⟩)) (r : w.heap[b]? = some (.cells cs.toArray 153 (0, 0))) (hl : cs.length = 15) :
  (results Tryz.f149 tmps).run Tryz.prog w = .ok (.agg cs.toArray) w := by
 have h1' : tmps[4]?.getD undef = .pointer (some ⟨b, 0, none⟩) := by simpa using h1
 have hr := run_loadVar_mid (P := Tryz.prog) w b 0 153 cs _ (by have := range_of_block r; exact this) Tryz.underlying153 rfl (by rw [hl]; kernel_rfl)
 simp only [results, Tryz.results149]
 simp [h1', asAddr, hr]
section
variable {w : World} {m c ino : Nat} {F : Nat -> Prop} {size N : Nat} {Pg Cm : Nat -> List UInt8} {D : Int -> Bool} {o u : Nat}
theorem aTable_in (h : mapB w m c ino) (hi : ino <= 512) (i : Nat) (hin : i < ino) : Calls Tryz.prog 137 #[.pointer (some ⟨m, 0, none⟩), .int .i64 i] w fun e w' => e = .returned (.tuple #[.int .i64 (3 + i / 8 : Nat), .int .i64 (i % 8 * 64 : Nat), .int .i64 0]) /\ w' = w := by
 refine (aTable_any h hi (i : Int)).mono ?_
 rintro e w' ⟨rfl, rfl⟩
 rw [if_pos ⟨by omega, by omega⟩]
 refine ⟨?_, rfl⟩
 have e1 : (3 : Int) + (i : Int) / 8 = ((3 + i / 8 : Nat) : Int) := by omega
 have e2 : (i : Int) % 8 * 64 = ((i % 8 * 64 : Nat) : Int) := by omega
 rw [e1, e2]
theorem iget_any (h : mapB w m c ino) (hi : ino <= 512) (i : Nat) (hin : i < ino) (hN : 3 + i / 8 < N) (hu : u < 1000000) (hp : Pc w c F size N Pg Cm D o u) :
  Calls Tryz.prog 149 #[gV m, .int .i64 i] w fun e w' => e = .returned (nodeV (decL (inoL (Pg (3 + i / 8)) i))) /\ Keeps F w w' /\ ∀ W, Keeps (fun i => w.heap.size <= i) w' W -> Pc W c F size N Pg Cm D o (u + 1) := by
 have HLen := hid (hp.len _ hN)
 have HT := hid (fun W (hW : Below w.heap.size w W) => aTable_in (h.below hW) hi i hin)
 have HPg := hid (fun W (hW : Below w.heap.size w W) => ipage_any (h.below hW) (3 + i / 8) hN hu hp hW)
 obtain ⟨a, ha⟩ : ∃ a, a = i % 8 * 64 := ⟨_, rfl⟩
 obtain ⟨p, hpp⟩ : ∃ p, p = 3 + i / 8 := ⟨_, rfl⟩
 have HA := hid ha
 have ha4 : a <= 448 := by omega
 have ha5 : (a : Int) <= 448 := by omega
 have ha0 : (0 : Int) <= (a : Int) := by omega
 rw [<- ha, <- hpp] at HT
 rw [<- hpp] at HPg HLen ⊢
 have HFl := hid hp.lt
 clear h hp hpp ha
 unfold gV at HPg ⊢
 obtain ⟨wb, hwb⟩ : ∃ wb, wb = (w.alloc (.cells #[.pointer (some ⟨m, 0, none⟩)] 87)).alloc (.cells #[.int .i64 0, .int .i64 0, .int .i64 0, .int .i64 0, .int .i64 0, .int .i64 0, .int .i64 0, .int .i64 0, .int .i64 0, .int .i64 0, .int .i64 0, .int .i64 0, .int .i64 0, .int .i64 0, .int .i64 0] 153) := ⟨_, rfl⟩
 have hB : Below w.heap.size w wb := by rw [hwb]; exact ((Below.refl _ w).alloc (Nat.le_refl _) _).alloc (by simp) _
 have hb0 : wb.heap[w.heap.size]? = some (.cells #[.pointer (some ⟨m, 0, none⟩)] 87 (0, 0)) := by rw [hwb]; exact block_alloc (block_new w _) _
 have hb1 : wb.heap[w.heap.size + 1]? = some (.cells #[.int .i64 0, .int .i64 0, .int .i64 0, .int .i64 0, .int .i64 0, .int .i64 0, .int .i64 0, .int .i64 0, .int .i64 0, .int .i64 0, .int .i64 0, .int .i64 0, .int .i64 0, .int .i64 0, .int .i64 0] 153 (0, 0)) := by
  have h1 := block_new (w.alloc (.cells #[.pointer (some ⟨m, 0, none⟩)] 87)) (.cells #[.int .i64 0, .int .i64 0, .int .i64 0, .int .i64 0, .int .i64 0, .int .i64 0, .int .i64 0, .int .i64 0, .int .i64 0, .int .i64 0, .int .i64 0, .int .i64 0, .int .i64 0, .int .i64 0, .int .i64 0] 153)
  rw [World.size_alloc] at h1
  rw [hwb]; exact h1
 have HB := hid hB
 have HB0 := hid hb0
 have HB1 := hid hb1
 have c0 : ((w.alloc (.cells #[.pointer (some ⟨m, 0, none⟩)] 87)).alloc (.cells #[.int .i64 0, .int .i64 0, .int .i64 0, .int .i64 0, .int .i64 0, .int .i64 0, .int .i64 0, .int .i64 0, .int .i64 0, .int .i64 0, .int .i64 0, .int .i64 0, .int .i64 0, .int .i64 0, .int .i64 0] 153)).cell? ⟨w.heap.size, 0, none⟩ = some (.pointer (some ⟨m, 0, none⟩)) := by rw [<- hwb]; exact cell_of_block hb0 0
 clear hB hb0 hb1
 go_enter Tryz.func149, Tryz.ntmps149
 go_wp2_with fail
 rw [<- hwb] at c0 ⊢
 clear hwb
 refine (HT.out wb HB.out).mono ?_
 clear HT
 rintro e w1 ⟨rfl, h1⟩
 obtain rfl := h1.symm
 clear h1
 go_wp2_with fail
 refine (HPg.out wb HB.out).mono ?_
 clear HPg
 rintro e w3 ⟨g, rfl, hg, ho3, hk3, hW3⟩
 have hn5 : ¬ (512 = a) := by omega
 have hby : bytesAt w3 ⟨g, a, none⟩ (inoL (Pg p) i) := fun j hj => by
  have hj6 : j < 64 := by rw [length_inoL HLen.out] at hj; exact hj
  have h1 := ho3.cell (a + j) (by rw [HLen.out]; omega)
  rw [Addr.add_mid, h1, inoL_at i j hj (by rw [HLen.out, <- HA.out]; omega)]
  simp only [HA.out]
 have HD := hid (idec_any g a (512 - a) (inoL (Pg p) i) w3 hby (length_inoL HLen.out i) (by omega) (by omega))
 have HK3 := hid hk3
 have HW3 := hid hW3
 clear hby ho3 hk3 hW3
 go_wp2_with fail
 refine HD.out.mono ?_
 clear HD
 rintro e w5 ⟨rfl, hb5⟩
 have hs3 := HB.out.size
 have hk5 : Keeps F wb w5 := HK3.out.trans (Keeps.of_below hb5 : Keeps (fun _ => False) w3 w5) (fun i e => e.elim)
 have HR5 := hid (hk5.heap HB1.out (fun hf => by have := HFl.out _ hf; omega))
 have HK5 := hid hk5
 have HB5 := hid hb5
 clear hb5 hk5 HK3
 unfold nodeV
 generalize hdl : decL (inoL (Pg p) i) = nd at *
 have hnl : (nodeC nd).length = 15 := by rw [<- hdl]; exact length_nodeD _
 have HNl := hid hnl
 have HDl := hid hdl
 clear hdl hnl
 go_wp2_with (refine wpList_store_block rfl 153 (.tmp 4) (.tmp 22) rfl (w.heap.size + 1) (nodeC nd).toArray rfl rfl _ _ HR5.out (by rw [List.size_toArray, HNl.out]; rfl) (by rw [List.size_toArray, HNl.out]; kernel_rfl) (nodeC_one _) ?_; intro w6 hg6 hb6 hz6)
 have k56 : Keeps (fun i => w.heap.size <= i) w5 w6 := Keeps.of_grown hg6 (fun i e => by cases e; show w.heap.size <= w.heap.size + 1; omega)
 refine bodyPost_ret (results_get rfl hb6 HNl.out) rfl ⟨by rw [HDl.out]; rfl, ?_, fun W hW => HW3.out W ((Keeps.of_below HB5.out).trans (k56.trans hW (fun i e => .inl e)) (fun i e => .inl e))⟩
 exact (((Keeps.of_below HB.out : Keeps F w wb).trans HK5.out (fun i e => .inl e)).trans k56 (fun i e => .inr e))
theorem iput_any (h : mapB w m c ino) (hmF0 : ¬ F m) (hi : ino <= 512) (i : Nat) (hin : i < ino) (n : NodeS) (hn : n.ok) (hN : 3 + i / 8 < N) (hu : u < 1000000) (hr : D ((3 + i / 8 : Nat) : Int) = true \/ (dkD N D).length < min size 100) (hp : Pc w c F size N Pg Cm D o u) :
  Calls Tryz.prog 73 #[gV m, .int .i64 i, nodeV n] w fun e w' => e = .returned (.int .i64 0) /\ Keeps F w w' /\ Pc w' c F size N (updP Pg (3 + i / 8) (putT (Pg (3 + i / 8)) i (encL n))) Cm (updT D ((3 + i / 8 : Nat) : Int)) o (u + 1) := by
 have HLen := hid (hp.len _ hN)
 have HMb := hid h
 have HT := hid (fun W (hW : Below w.heap.size w W) => aTable_in (h.below hW) hi i hin)
 have HPg := hid (fun W (hW : Below w.heap.size w W) => ipage_any (h.below hW) (3 + i / 8) hN hu hp hW)
 have HEn := hid (fun W => ienc_any n hn W)
 obtain ⟨a, ha⟩ : ∃ a, a = i % 8 * 64 := ⟨_, rfl⟩
 have HPu : Hid (∀ L e, putT L i e = L.take a ++ e ++ L.drop (a + 64)) := fun L e => by unfold putT; rw [ha]
 obtain ⟨p, hpp⟩ : ∃ p, p = 3 + i / 8 := ⟨_, rfl⟩
 have ha4 : a <= 448 := by omega
 have ha5 : (a : Int) <= 448 := by omega
 have ha0 : (0 : Int) <= (a : Int) := by omega
 rw [<- ha, <- hpp] at HT
 rw [<- hpp] at HPg HLen hr ⊢
 have HPN : Hid (p < N) := by rw [hpp]; exact hN
 have HFl := hid hp.lt
 have HRo := hid hr
 have hel : (encL n).length = 64 := length_encTo n 11 (Nat.le_refl _) hn.pages
 have HEl := hid hel
 have hpl := hn.pages
 clear h hp hpp ha hr hn hel hN
 unfold gV at HPg ⊢
 unfold nodeV at HEn ⊢
 have hncs : (nodeC n).length = 15 := by unfold nodeC; rw [List.length_append, List.length_map, hpl]; rfl
 generalize nodeC n = nc at *
 have HNs := hid hncs
 clear hncs hpl
 obtain ⟨wb, hwb⟩ : ∃ wb, wb = (w.alloc (.cells #[.pointer (some ⟨m, 0, none⟩)] 87)).alloc (.cells nc.toArray 153) := ⟨_, rfl⟩
 have hB : Below w.heap.size w wb := by rw [hwb]; exact ((Below.refl _ w).alloc (Nat.le_refl _) _).alloc (by simp) _
 have hb0 : wb.heap[w.heap.size]? = some (.cells #[.pointer (some ⟨m, 0, none⟩)] 87 (0, 0)) := by rw [hwb]; exact block_alloc (block_new w _) _
 have hb1 : wb.heap[w.heap.size + 1]? = some (.cells nc.toArray 153 (0, 0)) := by
  have h1 := block_new (w.alloc (.cells #[.pointer (some ⟨m, 0, none⟩)] 87)) (.cells nc.toArray 153)
  rw [World.size_alloc] at h1
  rw [hwb]; exact h1
 have hsb : wb.heap.size = w.heap.size + 2 := by rw [hwb]; simp
 have HSb := hid hsb
 clear hsb
 have HB := hid hB
 have HB0 := hid hb0
 have HB1 := hid hb1
 have c0 : ((w.alloc (.cells #[.pointer (some ⟨m, 0, none⟩)] 87)).alloc (.cells nc.toArray 153)).cell? ⟨w.heap.size, 0, none⟩ = some (.pointer (some ⟨m, 0, none⟩)) := by rw [<- hwb]; exact cell_of_block hb0 0
 clear hB hb0 hb1
 go_enter Tryz.func73, Tryz.ntmps73
 go_wp2_with fail
 rw [<- hwb] at c0 ⊢
 clear hwb
 refine (HT.out wb HB.out).mono ?_
 clear HT
 rintro e w1 ⟨rfl, h1⟩
 obtain rfl := h1.symm
 clear h1
 go_wp2_with fail
 refine (HPg.out wb HB.out).mono ?_
 clear HPg
 rintro e w3 ⟨g, rfl, hg, ho3, hk3, hW3⟩
 have hn5 : ¬ (512 = a) := by omega
 have hs3 := HB.out.size
 have HR0 := hid (hk3.heap HB0.out (fun hf => by have := HFl.out _ hf; omega))
 have HR1 := hid (hk3.heap HB1.out (fun hf => by have := HFl.out _ hf; omega))
 have HO3 := hid ho3
 have HG := hid hg
 have HK3 := hid hk3
 have HW3 := hid hW3
 clear ho3 hk3 hW3 hg HB0 HB1 c0
 go_wp2_with fail
 have hbd : Below w3.heap.size w3 w3.drew := (Below.refl _ w3).drew
 have HBd := hid hbd
 have HR1d := hid (below_block hbd HR1.out (lt_of_heap HR1.out))
 clear hbd
 refine wp_region_noPanic ?_
 refine wp_region_held_drew (S := fun W => W.heap[w.heap.size + 1]? = some (.cells nc.toArray 153 (0, 0))) (by kernel_rfl) HR1.out (fun hHeld => ?_)
 generalize w3.drew = wd at *
 refine tq 0 _ ?_
 try simp only [tS]
 refine tq 1 _ ?_
 try simp only [tS]
 have hq5 : (a : Int) <= 512 := by omega
 refine tq 2 (.slice (some ⟨g, a, none⟩) (512 - a) (512 - a)) ?_
 try simp only [tS]
 refine wpAnyH_take (i := 3) (v := .agg nc.toArray) rfl (by kernel_rfl) (by kernel_rfl) (by kernel_rfl) (fun _ _ _ h => h) (yieldsIf_load_mid (by rfl) 153 (.tmp 5) rfl (w.heap.size + 1) 0 rfl nc _ (fun W hW => by have := range_of_block hW; exact this) Tryz.underlying153 rfl (by rw [HNs.out]; kernel_rfl)) (by assumption) ?_
 try simp only [tS]
 refine tr 4 (fun K hK => ?_)
 go_simp
 refine (HEn.out wd).mono ?_
 clear HEn
 rintro e w5 ⟨b5, rfl, hb5, ho5, hB5⟩
 have HR5 := hid (below_block hB5 HR1d.out (lt_of_heap HR1d.out))
 have HO5 := hid ho5
 have HB5 := hid hB5
 have hd3 := HBd.out.size
 have HOg := hid (((HO3.out.below HBd.out).below hB5))
 have hgb : g < w3.heap.size := HO3.out.lt
 clear hB5 ho5
 go_wp2_with fail
 refine hK.out _ _ HR5.out (fun hHeld => ?_)
 clear hK K
 try simp only [tS]
 refine tr 5 (fun K hK => ?_)
 refine wp_copy_own8 (.tmp 24) (.tmp 26) rfl g a (512 - a) (512 - a) ⟨b5, 0, none⟩ 64 64 rfl rfl (Pg p) (encL n) HOg.out HO5.out.at (by rw [HEl.out]; show 64 = min 64 (512 - a); omega) (by rw [HEl.out, HLen.out]; omega) ?_
 intro w6 hk6 ho6 hz6
 rw [HEl.out] at ho6
 have hge := HG.out
 have hsb := HSb.out
 have k36 : Keeps (fun i => i = g) w3 w6 := (Keeps.of_below HBd.out : Keeps (fun i => i = g) w3 wd).trans ((Keeps.of_below HB5.out : Keeps (fun i => i = g) wd w5).trans hk6 (fun i e => .inl e)) (fun i e => .inl e)
 have HR6 := hid (k36.heap HR1.out (fun e => by have e' : w.heap.size + 1 = g := e; omega))
 have c6 : w6.cell? ⟨w.heap.size, 0, none⟩ = some (.pointer (some ⟨m, 0, none⟩)) := cell_of_block (k36.heap HR0.out (fun e => by have e' : w.heap.size = g := e; omega)) 0
 have hpl : putT (Pg p) i (encL n) = (Pg p).take a ++ encL n ++ (Pg p).drop (a + 64) := HPu.out _ _
 rw [<- hpl] at ho6
 have k36' : Keeps (fun i => w.heap.size <= i) w3 w6 := k36.mono (fun i e => by have e' : i = g := e; show w.heap.size <= i; omega)
 have hp6 := HW3.out w6 k36'
 have hpln : (putT (Pg p) i (encL n)).length = 512 := length_putT HLen.out i HEl.out
 have HWr := hid (hp6.write p HPN.out (putT (Pg p) i (encL n)) hpln ⟨g, 0, none⟩ 512 ho6.at HRo.out)
 have kw6 : Keeps F w w6 := ((Keeps.of_below HB.out : Keeps F w wb).trans HK3.out (fun i e => .inl e)).trans k36' (fun i e => .inr e)
 have HKw := hid kw6
 have HCa := hid (amCache_any (HMb.out.keep kw6 hmF0))
 clear hk6 ho6 hz6 hge k36 k36' hp6 hpln hpl kw6
 refine hK.out _ _ HR6.out (fun hHeld => ?_)
 clear hK K
 try simp only [tS]
 refine wpAnyH_done (by kernel_rfl) ?_ _
 refine NoPanic.normal ?_
 clear hHeld
 go_wp2_with fail
 refine HCa.out.mono ?_
 clear HCa
 rintro e w7 ⟨rfl, h7⟩
 obtain rfl := h7.symm
 clear h7
 go_wp2_with fail
 refine HWr.out.mono ?_
 clear HWr
 rintro e w8 ⟨rfl, hk8, hp8⟩
 have HK8 := hid hk8
 have HP8 := hid hp8
 clear hk8 hp8
 go_wp2
 go_ret
 exact ⟨rfl, HKw.out.trans HK8.out (fun i e => .inl e), HP8.out⟩
end
end
section
set_option maxRecDepth 100000
open Go.RowKit
def storeB (w : World) (s m : Nat) : Prop := w.heap[s]? = some (.cells #[.pointer (some ⟨m, 0, none⟩)] 89 (0, 0))
theorem storeB.keep {w w' : World} {s m : Nat} {F : Nat -> Prop} (h : storeB w s m) (k : Keeps F w w') (hF : ¬ F s) : storeB w' s m := k.heap h hF
theorem storeB.below {w w' : World} {s m : Nat} (h : storeB w s m) (k : Below w.heap.size w w') : storeB w' s m := below_block k h (lt_of_heap h)
theorem storeB.cell {w : World} {s m : Nat} (h : storeB w s m) : w.cell? ⟨s, 0, none⟩ = some (.pointer (some ⟨m, 0, none⟩)) := cell_of_block h 0
theorem iNew_ok (m : Nat) (w : World) : Calls Tryz.prog 25 #[.pointer (some ⟨m, 0, none⟩)] w fun e w' => e = .returned (.tuple #[.pointer (some ⟨w.heap.size, 0, none⟩), .int .i64 0]) /\ storeB w' w.heap.size m /\ Below w.heap.size w w' := by
 have hb : Below w.heap.size w (w.alloc (.cells #[.pointer (some ⟨m, 0, none⟩)] 89)) := (Below.refl _ w).alloc (Nat.le_refl _) _
 have hn : storeB (w.alloc (.cells #[.pointer (some ⟨m, 0, none⟩)] 89)) w.heap.size m := block_new w _
 have HB := hid hb
 have HN := hid hn
 clear hb hn
 go_enter Tryz.func25, Tryz.ntmps25
 go_wp2
 go_returns
 exact ⟨rfl, HN.out, HB.out⟩
theorem iend_ok (s : Nat) (w : World) : Calls Tryz.prog 74 #[.pointer (some ⟨s, 0, none⟩), .int .i64 0] w fun e w' => e = .returned (.int .i64 0) /\ w' = w := by
 go_enter Tryz.func74, Tryz.ntmps74
 go_wp2
 go_ret
 exact ⟨rfl, rfl⟩
theorem iMap_any {w : World} {s m : Nat} (h : storeB w s m) : Calls Tryz.prog 13 #[.pointer (some ⟨s, 0, none⟩)] w fun e w' => e = .returned (.pointer (some ⟨m, 0, none⟩)) /\ w' = w := by
 have c0 := h.cell
 clear h
 go_enter Tryz.func13, Tryz.ntmps13
 go_wp2
 go_ret
 exact ⟨rfl, rfl⟩
theorem node_off {w : World} {b : Nat} {cs : List Value} {fr : Nat × Nat} (h : w.heap[b]? = some (.cells cs.toArray 153 fr)) (hc : ∀ v ∈ cs, ∃ n, v = .int .i64 n) : offN w b :=
 ⟨_, _, _, h, by decide, fun v hv => .inl (hc v (by simpa using hv))⟩
theorem zero15 : ∀ v ∈ (List.replicate 15 (Value.int .i64 0)), ∃ n, v = .int .i64 n := fun _ hv => ⟨0, List.eq_of_mem_replicate hv⟩
theorem results_Get {w : World} {tmps : Array Value} {b : Nat} {cs : List Value} {t : Value} (h1 : tmps.getD 4 undef = .pointer (some ⟨b, 0, none⟩)) (h2 : tmps.getD 5 undef = t) (r : w.heap[b]? = some (.cells cs.toArray 153 (0, 0))) (hl : cs.length = 15) :
  (results Tryz.f85 tmps).run Tryz.prog w = .ok (.tuple #[.agg cs.toArray, t]) w := by
 have h1' : tmps[4]?.getD undef = .pointer (some ⟨b, 0, none⟩) := by simpa using h1
 have h2' : tmps[5]?.getD undef = t := by simpa using h2
 have hr := run_loadVar_mid (P := Tryz.prog) w b 0 153 cs _ (by have := range_of_block r; exact this) Tryz.underlying153 rfl (by rw [hl]; kernel_rfl)
 simp only [results, Tryz.results85]
 simp [h1', h2', asAddr, hr]
section
variable {w : World} {s m c ino : Nat} {F : Nat -> Prop} {size N : Nat} {Pg Cm : Nat -> List UInt8} {D : Int -> Bool} {o u : Nat}
theorem iGet_ok (h : mapB w m c ino) (hmF : ¬ F m) (hs : storeB w s m) (hsF : ¬ F s) (hi : ino <= 512) (i : Nat) (hi0 : 0 < i) (hin : i < ino) (hb : bitL (Pg 1) i = true) (hN : 3 + i / 8 < N) (hu : u < 999990) (hp : Pc w c F size N Pg Cm D o u) :
  Calls Tryz.prog 85 #[.pointer (some ⟨s, 0, none⟩), .int .i64 i] w fun e w' => e = .returned (.tuple #[nodeV (decL (inoL (Pg (3 + i / 8)) i)), .int .i64 0]) /\ Keeps F w w' /\ Pc w' c F size N Pg Cm D o (u + 2) := by
 have ht : takenP (Pg 1) 1 ino (i : Int) = true := by
  unfold takenP
  rw [if_pos ⟨by omega, by omega⟩, Int.toNat_natCast]; exact hb
 obtain ⟨wb, hwb⟩ : ∃ wb, wb = w.alloc (.cells #[.int .i64 0, .int .i64 0, .int .i64 0, .int .i64 0, .int .i64 0, .int .i64 0, .int .i64 0, .int .i64 0, .int .i64 0, .int .i64 0, .int .i64 0, .int .i64 0, .int .i64 0, .int .i64 0, .int .i64 0] 153) := ⟨_, rfl⟩
 have hB : Below w.heap.size w wb := by rw [hwb]; exact (Below.refl _ w).alloc (Nat.le_refl _) _
 have hr0 : wb.heap[w.heap.size]? = some (.cells #[.int .i64 0, .int .i64 0, .int .i64 0, .int .i64 0, .int .i64 0, .int .i64 0, .int .i64 0, .int .i64 0, .int .i64 0, .int .i64 0, .int .i64 0, .int .i64 0, .int .i64 0, .int .i64 0, .int .i64 0] 153 (0, 0)) := by rw [hwb]; exact block_new w _
 have HIn := hid (amInodes_any (h.below hB))
 have hus := aUsedInode_any (h.below hB) hmF hi (i : Int) (by omega) (by omega) (hp.below hB)
 rw [ht] at hus
 have HUs := hid hus
 have HGt := hid (fun W (hk : Keeps F wb W) (hW : Pc W c F size N Pg Cm D o (u + 1)) => iget_any ((h.below hB).keep hk hmF) hi i hin hN (by omega) hW)
 have c0 : (w.alloc (.cells #[.int .i64 0, .int .i64 0, .int .i64 0, .int .i64 0, .int .i64 0, .int .i64 0, .int .i64 0, .int .i64 0, .int .i64 0, .int .i64 0, .int .i64 0, .int .i64 0, .int .i64 0, .int .i64 0, .int .i64 0] 153)).cell? ⟨s, 0, none⟩ = some (.pointer (some ⟨m, 0, none⟩)) := by rw [<- hwb]; exact (hs.below hB).cell
 have HSt := hid (hs.below hB)
 have HB := hid hB
 have HR0 := hid hr0
 have HFl := hid hp.lt
 have hi0' : ¬ ((i : Int) <= 0) := by omega
 have hin' : ¬ ((ino : Int) <= (i : Int)) := by omega
 clear h hp hs hB hr0 hus ht hb
 generalize hnd : decL (inoL (Pg (3 + i / 8)) i) = nd at *
 have hnl : (nodeC nd).length = 15 := by rw [<- hnd]; exact length_nodeD _
 have HNl := hid hnl
 clear hnd hnl
 unfold gV at HGt
 go_enter Tryz.func85, Tryz.ntmps85
 go_wp2_with fail
 rw [<- hwb] at c0 ⊢
 clear hwb
 refine HIn.out.mono ?_
 clear HIn
 rintro e w1 ⟨rfl, h1⟩
 obtain rfl := h1.symm
 clear h1
 go_wp2_with fail
 refine HUs.out.mono ?_
 clear HUs
 rintro e w2 ⟨rfl, hk2, hp2⟩
 have HG2 := hid (HGt.out w2 hk2 hp2)
 have c2 := (HSt.out.keep hk2 hsF).cell
 have HK2 := hid hk2
 have HR2 := hid (hk2.heap HR0.out (fun hf => by have := HFl.out _ hf; omega))
 clear hk2 hp2 c0 HGt
 go_wp2_with fail
 refine HG2.out.mono ?_
 clear HG2
 rintro e w3 ⟨rfl, hk3, hW3⟩
 have HR3 := hid (hk3.heap HR2.out (fun hf => by have := HFl.out _ hf; omega))
 have HK3 := hid hk3
 have HW3 := hid hW3
 clear hk3 hW3 c2
 unfold nodeV
 go_wp2_with (refine wpList_store_block rfl 153 (.tmp 4) (.tmp 36) rfl w.heap.size (nodeC nd).toArray rfl rfl _ _ HR3.out (by rw [List.size_toArray, HNl.out]; rfl) (by rw [List.size_toArray, HNl.out]; kernel_rfl) (nodeC_one _) ?_; intro w6 hg6 hb6 hz6)
 have hp3 := HW3.out w3 (Keeps.refl _ _)
 have hoff : offN w3 w.heap.size := node_off (cs := List.replicate 15 (Value.int .i64 0)) HR3.out zero15
 have k36 : Keeps (fun i => i = w.heap.size) w3 w6 := Keeps.of_grown hg6 (fun i e => (Option.some.inj e).symm)
 have hp6 := hp3.keepY hoff (fun hf => by have := HFl.out _ hf; omega) k36
 refine bodyPost_ret (results_Get rfl rfl hb6 HNl.out) rfl ⟨rfl, ?_, hp6⟩
 exact (((Keeps.of_below HB.out : Keeps F w wb).trans HK2.out (fun i e => .inl e)).trans HK3.out (fun i e => .inl e)).trans k36 (fun i e => .inr (by have e' : i = w.heap.size := e; omega))
def newN (k mode : Nat) : NodeS := ⟨k, mode, 1, 0, List.replicate 11 0⟩
theorem newN_ok (k mode : Nat) (hk : k <= 3) (hm : mode <= 4095) : (newN k mode).ok := ⟨by show k < 256; omega, by show mode < 65536; omega, by show 1 < 65536; omega, by show 0 < 4294967296; omega, rfl, fun p hp => by rw [List.eq_of_mem_replicate hp]; omega⟩
theorem inoC_two (Pg : Nat -> List UInt8) (D : Int -> Bool) (q : Nat) : inoC Pg D q <= 2 := by
 unfold inoC
 have a1 : (if D 1 = true then 0 else 1) <= 1 := by split <;> omega
 have a2 : (if inoT Pg q = Pg (3 + q / 8) then 0 else if D (3 + q / 8 : Nat) then 0 else 1) <= 1 := by
  split
  ·omega
  ·split <;> omega
 omega
theorem dkD_ino2 (N : Nat) (Pg : Nat -> List UInt8) (D : Int -> Bool) (q : Nat) : (dkD N (inoD Pg D q)).length <= (dkD N D).length + 2 := by
 have d1 : (dkD N (updT D 1)).length <= (dkD N D).length + 1 := dkD_upd1 N D 1
 unfold inoD
 split
 ·omega
 ·have d2 := dkD_upd1 N (updT D 1) (3 + q / 8)
  omega
def makP (Pg : Nat -> List UInt8) (q k mode : Nat) : Nat -> List UInt8 := updP (inoP Pg q) (3 + q / 8) (putT (inoP Pg q (3 + q / 8)) q (encL (newN k mode)))
theorem iMake_ok (h : mapB w m c ino) (hmF : ¬ F m) (hs : storeB w s m) (hsF : ¬ F s) (hi : ino <= 512) (h8 : ino % 8 = 0) (hN : 3 + ino / 8 <= N) (k mode q : Nat) (rest : List Nat) (hk1 : 1 <= k) (hk3 : k <= 3) (hm : mode <= 4095) (hf : freeTo (Pg 1) 1 ino 4096 = q :: rest) (hr : (dkD N D).length + 3 <= min size 100) (hu : u < 999990) (hp : Pc w c F size N Pg Cm D o u) :
  Calls Tryz.prog 28 #[.pointer (some ⟨s, 0, none⟩), .int .i64 k, .int .i64 mode] w fun e w' => e = .returned (.tuple #[.int .i64 q, .int .i64 0]) /\ Keeps F w w' /\ Pc w' c F size N (makP Pg q k mode) Cm (updT (inoD Pg D q) ((3 + q / 8 : Nat) : Int)) o (u + 3) := by
 have hq := freeTo_first hf
 have hc2 := inoC_two Pg D q
 have hd2 := dkD_ino2 N Pg D q
 have HIn := hid (aInode_any h hmF hi h8 hN (by omega) (by omega) hp)
 have HPt := hid (fun W (hk : Keeps F w W) (hW : Pc W c F size N (inoP Pg q) Cm (inoD Pg D q) o (u + 2)) => iput_any (h.keep hk hmF) hmF hi q hq.2.1 (newN k mode) (newN_ok k mode hk3 hm) (by omega) (by omega) (.inr (by omega)) hW)
 have c0 := hs.cell
 have HS := hid hs
 have HMo := hid (iisMode_any (mode : Int) w)
 rw [decide_eq_true ⟨by omega, by omega⟩] at HMo
 have HF := hid hf
 have HR := hid hr
 have HC := hid hc2
 have hka : ¬ ((k : Int) < 1) := by omega
 have hkb : ¬ ((3 : Int) < (k : Int)) := by omega
 unfold gV nodeV at HPt
 have hnc : nodeC (newN k mode) = [.int .i64 k, .int .i64 mode, .int .i64 1, .int .i64 0, .int .i64 0, .int .i64 0, .int .i64 0, .int .i64 0, .int .i64 0, .int .i64 0, .int .i64 0, .int .i64 0, .int .i64 0, .int .i64 0, .int .i64 0] := rfl
 rw [hnc] at HPt
 clear h hp hs hf hr hc2 hd2 hnc
 go_enter Tryz.func28, Tryz.ntmps28
 go_wp2_with fail
 refine HMo.out.mono ?_
 clear HMo
 rintro e w1 ⟨rfl, h1⟩
 obtain rfl := h1.symm
 clear h1
 go_wp2_with fail
 refine HIn.out.mono ?_
 clear HIn
 rintro e w2 ⟨hk2, hx⟩
 rcases hx with ⟨h0, -⟩ | ⟨q', rest', h0, hx⟩
 ·rw [HF.out] at h0; cases h0
 obtain rfl : q = q' := (List.cons.inj (HF.out.symm.trans h0)).1
 rcases hx with ⟨hfl, -, -⟩ | ⟨-, rfl, hp2⟩
 ·have := HR.out; have := HC.out; omega
 have HP2 := hid (HPt.out w2 hk2 hp2)
 have HK2 := hid hk2
 have c2 := (HS.out.keep hk2 hsF).cell
 clear hk2 hp2 h0 c0 HPt
 go_wp2_with fail
 refine HP2.out.mono ?_
 clear HP2
 rintro e w3 ⟨rfl, hk3', hp3⟩
 have HK3 := hid (HK2.out.trans hk3' (fun i e => .inl e))
 have HP3 := hid hp3
 have HEn := hid (iend_ok s w3)
 clear hk3' hp3
 go_wp2_with fail
 refine HEn.out.mono ?_
 clear HEn
 rintro e w4 ⟨rfl, h4⟩
 obtain rfl := h4.symm
 clear h4
 go_wp2
 go_returns
 exact ⟨rfl, HK3.out, HP3.out⟩
end
end
section
set_option maxRecDepth 100000
open Go.RowKit
structure FileS where
 num : Nat
 kind : Nat
 mode : Nat
 links : Nat
 size : Nat
 slots : List Nat
def FileS.cells (m : Nat) (S : FileS) : List Value := [.pointer (some ⟨m, 0, none⟩), .int .i64 S.num, .int .i64 S.kind, .int .i64 S.mode, .int .i64 S.links, .int .i64 S.size] ++ S.slots.map (fun n : Nat => Value.int .i64 n)
def fileB (w : World) (f m : Nat) (S : FileS) : Prop := w.heap[f]? = some (.cells (S.cells m).toArray 234 (0, 0))
section
variable {w w' : World} {f m : Nat} {S : FileS}
theorem fileB.lt (h : fileB w f m S) : f < w.heap.size := lt_of_heap h
theorem fileB.keep {F : Nat -> Prop} (h : fileB w f m S) (k : Keeps F w w') (hF : ¬ F f) : fileB w' f m S := k.heap h hF
theorem fileB.below (h : fileB w f m S) (k : Below w.heap.size w w') : fileB w' f m S := below_block k h (lt_of_heap h)
theorem fileB.head (h : fileB w f m S) : w.cell? ⟨f, 0, none⟩ = some (.pointer (some ⟨m, 0, none⟩)) /\ w.cell? ⟨f, 1, none⟩ = some (.int .i64 S.num) /\ w.cell? ⟨f, 2, none⟩ = some (.int .i64 S.kind) /\ w.cell? ⟨f, 3, none⟩ = some (.int .i64 S.mode) /\ w.cell? ⟨f, 4, none⟩ = some (.int .i64 S.links) /\ w.cell? ⟨f, 5, none⟩ = some (.int .i64 S.size) := by
 refine ⟨?_, ?_, ?_, ?_, ?_, ?_⟩ <;> (rw [cell_of_block h]; rfl)
theorem fileB.slot (h : fileB w f m S) (j : Nat) (hj : j < S.slots.length) : w.cell? ⟨f, 6 + j, none⟩ = some (.int .i64 (S.slots[j] : Nat)) := by
 rw [cell_of_block h]
 unfold FileS.cells
 rw [List.getElem?_toArray, List.getElem?_append_right (by simp), List.length_cons, List.length_cons, List.length_cons, List.length_cons, List.length_cons, List.length_cons, List.length_nil, show 6 + j - (0 + 1 + 1 + 1 + 1 + 1 + 1) = j by omega, List.getElem?_map, List.getElem?_eq_getElem hj]
 rfl
theorem fileB.frozen (h : fileB w f m S) (j : Nat) : w.frozen? ⟨f, j, none⟩ = false := frozen_of_block h _
theorem fileB.setSlot (h : fileB w f m S) (j x : Nat) : fileB (w.setCell ⟨f, 6 + j, none⟩ (.int .i64 x)) f m { S with slots := S.slots.set j x } := by
 have h1 := block_setCell h (6 + j) (.int .i64 x)
 unfold fileB
 rw [h1, List.setIfInBounds_toArray]
 unfold FileS.cells
 rw [List.set_append_right _ _ (by simp)]
 simp only [List.length_cons, List.length_nil, List.map_set]
 rw [show 6 + j - (0 + 1 + 1 + 1 + 1 + 1 + 1) = j by omega]
theorem fileB.setSize (h : fileB w f m S) (x : Nat) : fileB (w.setCell ⟨f, 5, none⟩ (.int .i64 x)) f m { S with size := x } := by
 have h1 := block_setCell h 5 (.int .i64 x)
 unfold fileB
 rw [h1, List.setIfInBounds_toArray]
 rfl
theorem islot_any (f j : Nat) (hj : j < 139) (w : World) : Calls Tryz.prog 210 #[.pointer (some ⟨f, 0, none⟩), .int .i64 j] w fun e w' => e = .returned (.pointer (some ⟨f, 6 + j, none⟩)) /\ w' = w := by
 have h0 : (0 : Int) <= (j : Int) := by omega
 by_cases h1 : j <= 10
 ·have h2 : (j : Int) <= 10 := by omega
  go_enter Tryz.func210, Tryz.ntmps210
  go_wp2
  go_ret
  exact ⟨rfl, rfl⟩
 ·obtain ⟨i, rfl⟩ : ∃ i, j = i + 11 := ⟨j - 11, by omega⟩
  have h2 : ¬ (((i + 11 : Nat) : Int) <= 10) := by omega
  have h3 : ((i + 11 : Nat) : Int) - 10 - 1 = (i : Int) := by omega
  rw [show 6 + (i + 11) = 17 + i by omega]
  go_enter Tryz.func210, Tryz.ntmps210
  go_wp2
  go_ret
  exact ⟨rfl, rfl⟩
end
end
section
set_option maxRecDepth 100000
set_option maxHeartbeats 2000000
open Go.RowKit
def farL (L : List UInt8) (k : Nat) : List Nat := (List.range k).map (fun j => numS ((L.drop (4 * j)).take 4))
theorem farL_succ (L : List UInt8) (k : Nat) : farL L (k + 1) = farL L k ++ [numS ((L.drop (4 * k)).take 4)] := by simp [farL, List.range_succ]
theorem length_farL (L : List UInt8) (k : Nat) : (farL L k).length = k := by simp [farL]
theorem file_cells (m i kd md lk sz p0 p1 p2 p3 p4 p5 p6 p7 p8 p9 p10 : Nat) : (((((((((((((((((Tryz.zeroCells234.setIfInBounds 0 (.pointer (some ⟨m, 0, none⟩))).setIfInBounds 1 (.int .i64 i)).setIfInBounds 2 (.int .i64 kd)).setIfInBounds 3 (.int .i64 md)).setIfInBounds 4 (.int .i64 lk)).setIfInBounds 5 (.int .i64 sz)).setIfInBounds 6 (.int .i64 p0)).setIfInBounds 7 (.int .i64 p1)).setIfInBounds 8 (.int .i64 p2)).setIfInBounds 9 (.int .i64 p3)).setIfInBounds 10 (.int .i64 p4)).setIfInBounds 11 (.int .i64 p5)).setIfInBounds 12 (.int .i64 p6)).setIfInBounds 13 (.int .i64 p7)).setIfInBounds 14 (.int .i64 p8)).setIfInBounds 15 (.int .i64 p9)).setIfInBounds 16 (.int .i64 p10)) = (FileS.cells m ⟨i, kd, md, lk, sz, [p0, p1, p2, p3, p4, p5, p6, p7, p8, p9, p10] ++ List.replicate 128 0⟩).toArray := by
 kernel_rfl
section
variable {w : World} {m c ino : Nat} {F : Nat -> Prop} {size N : Nat} {Pg Cm : Nat -> List UInt8} {D : Int -> Bool} {o u : Nat}
theorem iopen_near (i : Nat) (n : NodeS) (hn : n.ok) (hs : n.size <= 5120) (w : World) : Calls Tryz.prog 86 #[gV m, .int .i64 i, nodeV n] w fun e w' => ∃ f, e = .returned (.pointer (some ⟨f, 0, none⟩)) /\ w.heap.size <= f /\ fileB w' f m ⟨i, n.kind, n.mode, n.links, n.size, n.pages ++ List.replicate 128 0⟩ /\ Below w.heap.size w w' := by
 obtain ⟨kd, md, lk, sz, pages⟩ := n
 have hp : pages.length = 11 := hn.pages
 obtain ⟨p0, p1, p2, p3, p4, p5, p6, p7, p8, p9, p10, rfl⟩ := list11 hp
 have hs' : ¬ ((5120 : Int) < (sz : Int)) := by have : sz <= 5120 := hs; omega
 have HH := hid (fun W => ihasFar_any (sz : Int) W)
 rw [decide_eq_false hs'] at HH
 unfold gV
 show Calls Tryz.prog 86 #[.agg #[.pointer (some ⟨m, 0, none⟩)], .int .i64 i, .agg #[.int .i64 kd, .int .i64 md, .int .i64 lk, .int .i64 sz, .int .i64 p0, .int .i64 p1, .int .i64 p2, .int .i64 p3, .int .i64 p4, .int .i64 p5, .int .i64 p6, .int .i64 p7, .int .i64 p8, .int .i64 p9, .int .i64 p10]] w _
 clear hn hp hs hs'
 obtain ⟨wb, hwb⟩ : ∃ wb, wb = ((w.alloc (.cells #[.pointer (some ⟨m, 0, none⟩)] 87)).alloc (.cells #[.int .i64 kd, .int .i64 md, .int .i64 lk, .int .i64 sz, .int .i64 p0, .int .i64 p1, .int .i64 p2, .int .i64 p3, .int .i64 p4, .int .i64 p5, .int .i64 p6, .int .i64 p7, .int .i64 p8, .int .i64 p9, .int .i64 p10] 153)).alloc (.cells (((((((((((((((((Tryz.zeroCells234.setIfInBounds 0 (.pointer (some ⟨m, 0, none⟩))).setIfInBounds 1 (.int .i64 i)).setIfInBounds 2 (.int .i64 kd)).setIfInBounds 3 (.int .i64 md)).setIfInBounds 4 (.int .i64 lk)).setIfInBounds 5 (.int .i64 sz)).setIfInBounds 6 (.int .i64 p0)).setIfInBounds 7 (.int .i64 p1)).setIfInBounds 8 (.int .i64 p2)).setIfInBounds 9 (.int .i64 p3)).setIfInBounds 10 (.int .i64 p4)).setIfInBounds 11 (.int .i64 p5)).setIfInBounds 12 (.int .i64 p6)).setIfInBounds 13 (.int .i64 p7)).setIfInBounds 14 (.int .i64 p8)).setIfInBounds 15 (.int .i64 p9)).setIfInBounds 16 (.int .i64 p10)) 234) := ⟨_, rfl⟩
 have hB : Below w.heap.size w wb := by rw [hwb]; exact (((Below.refl _ w).alloc (Nat.le_refl _) _).alloc (by simp) _).alloc (by simp; omega) _
 have hf : fileB wb (w.heap.size + 1 + 1) m ⟨i, kd, md, lk, sz, [p0, p1, p2, p3, p4, p5, p6, p7, p8, p9, p10] ++ List.replicate 128 0⟩ := by
  have h1 := block_new ((w.alloc (.cells #[.pointer (some ⟨m, 0, none⟩)] 87)).alloc (.cells #[.int .i64 kd, .int .i64 md, .int .i64 lk, .int .i64 sz, .int .i64 p0, .int .i64 p1, .int .i64 p2, .int .i64 p3, .int .i64 p4, .int .i64 p5, .int .i64 p6, .int .i64 p7, .int .i64 p8, .int .i64 p9, .int .i64 p10] 153)) (.cells (((((((((((((((((Tryz.zeroCells234.setIfInBounds 0 (.pointer (some ⟨m, 0, none⟩))).setIfInBounds 1 (.int .i64 i)).setIfInBounds 2 (.int .i64 kd)).setIfInBounds 3 (.int .i64 md)).setIfInBounds 4 (.int .i64 lk)).setIfInBounds 5 (.int .i64 sz)).setIfInBounds 6 (.int .i64 p0)).setIfInBounds 7 (.int .i64 p1)).setIfInBounds 8 (.int .i64 p2)).setIfInBounds 9 (.int .i64 p3)).setIfInBounds 10 (.int .i64 p4)).setIfInBounds 11 (.int .i64 p5)).setIfInBounds 12 (.int .i64 p6)).setIfInBounds 13 (.int .i64 p7)).setIfInBounds 14 (.int .i64 p8)).setIfInBounds 15 (.int .i64 p9)).setIfInBounds 16 (.int .i64 p10)) 234)
  rw [World.size_alloc, World.size_alloc] at h1
  unfold fileB
  rw [hwb, h1, file_cells]
 have HB := hid hB
 have HF := hid hf
 clear hB hf
 go_enter Tryz.func86, Tryz.ntmps86
 go_wp2_with fail
 rw [<- hwb]
 clear hwb
 refine (HH.out wb).mono ?_
 clear HH
 rintro e w1 ⟨rfl, h1⟩
 obtain rfl := h1.symm
 clear h1
 go_wp2
 go_ret
 exact ⟨w.heap.size + 1 + 1, rfl, by omega, HF.out, HB.out⟩
end
end
section
set_option maxRecDepth 100000
set_option maxHeartbeats 2000000
open Go.RowKit
def slotsTo (ps : List Nat) (L : List UInt8) (k : Nat) : List Nat := ps ++ (farL L k ++ List.replicate (128 - k) 0)
theorem length_slotsTo {ps : List Nat} (h : ps.length = 11) (L : List UInt8) (k : Nat) (hk : k <= 128) : (slotsTo ps L k).length = 139 := by
 unfold slotsTo; rw [List.length_append, List.length_append, length_farL, List.length_replicate]; omega
theorem slotsTo_set {ps : List Nat} (h : ps.length = 11) (L : List UInt8) (k : Nat) (hk : k < 128) : (slotsTo ps L k).set (11 + k) (numS ((L.drop (4 * k)).take 4)) = slotsTo ps L (k + 1) := by
 unfold slotsTo
 rw [List.set_append_right _ _ (by omega), h, show 11 + k - 11 = k by omega, List.set_append_right _ _ (by rw [length_farL]; omega), length_farL, Nat.sub_self, farL_succ, show 128 - k = (128 - (k + 1)) + 1 by omega, List.replicate_succ, List.set_cons_zero]
 simp
section
variable {w : World} {m c ino : Nat} {F : Nat -> Prop} {size N : Nat} {Pg Cm : Nat -> List UInt8} {D : Int -> Bool} {o u : Nat}
theorem iopen_far (h : mapB w m c ino) (hp : Pc w c F size N Pg Cm D o u) (hu : u < 1000000) (i : Nat) (n : NodeS) (hn : n.ok) (hs : 5120 < n.size) (hN : n.pages.getD 10 0 < N) : Calls Tryz.prog 86 #[gV m, .int .i64 i, nodeV n] w fun e w' => ∃ f, e = .returned (.pointer (some ⟨f, 0, none⟩)) /\ w.heap.size <= f /\ fileB w' f m ⟨i, n.kind, n.mode, n.links, n.size, slotsTo n.pages (Pg (n.pages.getD 10 0)) 128⟩ /\ Keeps F w w' /\ Pc w' c F size N Pg Cm D o (u + 1) := by
 obtain ⟨kd, md, lk, sz, pages⟩ := n
 have hpl : pages.length = 11 := hn.pages
 obtain ⟨p0, p1, p2, p3, p4, p5, p6, p7, p8, p9, p10, rfl⟩ := list11 hpl
 have hs' : (5120 : Int) < (sz : Int) := by have : 5120 < sz := hs; omega
 have HH := hid (fun W => ihasFar_any (sz : Int) W)
 rw [decide_eq_true hs'] at HH
 have hN' : p10 < N := hN
 have HPg := hid (fun W (hW : Below w.heap.size w W) => ipage_any (h.below hW) p10 hN' hu hp hW)
 have HLen := hid (hp.len p10 hN')
 have HFl := hid hp.lt
 unfold gV at HPg ⊢
 show Calls Tryz.prog 86 #[.agg #[.pointer (some ⟨m, 0, none⟩)], .int .i64 i, .agg #[.int .i64 kd, .int .i64 md, .int .i64 lk, .int .i64 sz, .int .i64 p0, .int .i64 p1, .int .i64 p2, .int .i64 p3, .int .i64 p4, .int .i64 p5, .int .i64 p6, .int .i64 p7, .int .i64 p8, .int .i64 p9, .int .i64 p10]] w (fun e w' => ∃ f, e = .returned (.pointer (some ⟨f, 0, none⟩)) /\ w.heap.size <= f /\ fileB w' f m ⟨i, kd, md, lk, sz, slotsTo [p0, p1, p2, p3, p4, p5, p6, p7, p8, p9, p10] (Pg p10) 128⟩ /\ Keeps F w w' /\ Pc w' c F size N Pg Cm D o (u + 1))
 clear hn hpl hs hs' hN hN' h hp
 obtain ⟨wb, hwb⟩ : ∃ wb, wb = ((w.alloc (.cells #[.pointer (some ⟨m, 0, none⟩)] 87)).alloc (.cells #[.int .i64 kd, .int .i64 md, .int .i64 lk, .int .i64 sz, .int .i64 p0, .int .i64 p1, .int .i64 p2, .int .i64 p3, .int .i64 p4, .int .i64 p5, .int .i64 p6, .int .i64 p7, .int .i64 p8, .int .i64 p9, .int .i64 p10] 153)).alloc (.cells (((((((((((((((((Tryz.zeroCells234.setIfInBounds 0 (.pointer (some ⟨m, 0, none⟩))).setIfInBounds 1 (.int .i64 i)).setIfInBounds 2 (.int .i64 kd)).setIfInBounds 3 (.int .i64 md)).setIfInBounds 4 (.int .i64 lk)).setIfInBounds 5 (.int .i64 sz)).setIfInBounds 6 (.int .i64 p0)).setIfInBounds 7 (.int .i64 p1)).setIfInBounds 8 (.int .i64 p2)).setIfInBounds 9 (.int .i64 p3)).setIfInBounds 10 (.int .i64 p4)).setIfInBounds 11 (.int .i64 p5)).setIfInBounds 12 (.int .i64 p6)).setIfInBounds 13 (.int .i64 p7)).setIfInBounds 14 (.int .i64 p8)).setIfInBounds 15 (.int .i64 p9)).setIfInBounds 16 (.int .i64 p10)) 234) := ⟨_, rfl⟩
 have hB : Below w.heap.size w wb := by rw [hwb]; exact (((Below.refl _ w).alloc (Nat.le_refl _) _).alloc (by simp) _).alloc (by simp; omega) _
 have hf : fileB wb (w.heap.size + 1 + 1) m ⟨i, kd, md, lk, sz, [p0, p1, p2, p3, p4, p5, p6, p7, p8, p9, p10] ++ List.replicate 128 0⟩ := by
  have h1 := block_new ((w.alloc (.cells #[.pointer (some ⟨m, 0, none⟩)] 87)).alloc (.cells #[.int .i64 kd, .int .i64 md, .int .i64 lk, .int .i64 sz, .int .i64 p0, .int .i64 p1, .int .i64 p2, .int .i64 p3, .int .i64 p4, .int .i64 p5, .int .i64 p6, .int .i64 p7, .int .i64 p8, .int .i64 p9, .int .i64 p10] 153)) (.cells (((((((((((((((((Tryz.zeroCells234.setIfInBounds 0 (.pointer (some ⟨m, 0, none⟩))).setIfInBounds 1 (.int .i64 i)).setIfInBounds 2 (.int .i64 kd)).setIfInBounds 3 (.int .i64 md)).setIfInBounds 4 (.int .i64 lk)).setIfInBounds 5 (.int .i64 sz)).setIfInBounds 6 (.int .i64 p0)).setIfInBounds 7 (.int .i64 p1)).setIfInBounds 8 (.int .i64 p2)).setIfInBounds 9 (.int .i64 p3)).setIfInBounds 10 (.int .i64 p4)).setIfInBounds 11 (.int .i64 p5)).setIfInBounds 12 (.int .i64 p6)).setIfInBounds 13 (.int .i64 p7)).setIfInBounds 14 (.int .i64 p8)).setIfInBounds 15 (.int .i64 p9)).setIfInBounds 16 (.int .i64 p10)) 234)
  rw [World.size_alloc, World.size_alloc] at h1
  unfold fileB
  rw [hwb, h1, file_cells]
 have hg0 : wb.heap[w.heap.size]? = some (.cells #[.pointer (some ⟨m, 0, none⟩)] 87 (0, 0)) := by rw [hwb]; exact block_alloc (block_alloc (block_new w _) _) _
 have hg1 : wb.heap[w.heap.size + 1]? = some (.cells #[.int .i64 kd, .int .i64 md, .int .i64 lk, .int .i64 sz, .int .i64 p0, .int .i64 p1, .int .i64 p2, .int .i64 p3, .int .i64 p4, .int .i64 p5, .int .i64 p6, .int .i64 p7, .int .i64 p8, .int .i64 p9, .int .i64 p10] 153 (0, 0)) := by
  have h1 := block_new (w.alloc (.cells #[.pointer (some ⟨m, 0, none⟩)] 87)) (.cells #[.int .i64 kd, .int .i64 md, .int .i64 lk, .int .i64 sz, .int .i64 p0, .int .i64 p1, .int .i64 p2, .int .i64 p3, .int .i64 p4, .int .i64 p5, .int .i64 p6, .int .i64 p7, .int .i64 p8, .int .i64 p9, .int .i64 p10] 153)
  rw [World.size_alloc] at h1
  rw [hwb]; exact block_alloc h1 _
 have hsb : wb.heap.size = w.heap.size + 3 := by rw [hwb]; simp
 have HB := hid hB
 have HF := hid hf
 have HSb := hid hsb
 have d0 : wb.cell? ⟨w.heap.size, 0, none⟩ = some (.pointer (some ⟨m, 0, none⟩)) := cell_of_block hg0 0
 have d1 : wb.cell? ⟨w.heap.size + 1, 14, none⟩ = some (.int .i64 p10) := cell_of_block hg1 14
 clear hB hf hg0 hg1 hsb
 go_enter Tryz.func86, Tryz.ntmps86
 go_wp2_with fail
 rw [<- hwb]
 clear hwb
 generalize Value.agg (((((((((((((((((Tryz.zeroCells234.setIfInBounds 0 (.pointer (some ⟨m, 0, none⟩))).setIfInBounds 1 (.int .i64 i)).setIfInBounds 2 (.int .i64 kd)).setIfInBounds 3 (.int .i64 md)).setIfInBounds 4 (.int .i64 lk)).setIfInBounds 5 (.int .i64 sz)).setIfInBounds 6 (.int .i64 p0)).setIfInBounds 7 (.int .i64 p1)).setIfInBounds 8 (.int .i64 p2)).setIfInBounds 9 (.int .i64 p3)).setIfInBounds 10 (.int .i64 p4)).setIfInBounds 11 (.int .i64 p5)).setIfInBounds 12 (.int .i64 p6)).setIfInBounds 13 (.int .i64 p7)).setIfInBounds 14 (.int .i64 p8)).setIfInBounds 15 (.int .i64 p9)).setIfInBounds 16 (.int .i64 p10)) = bv
 refine (HH.out wb).mono ?_
 clear HH
 rintro e w1 ⟨rfl, h1⟩
 obtain rfl := h1.symm
 clear h1
 go_wp2_with fail
 refine (HPg.out wb HB.out).mono ?_
 clear HPg
 rintro e w3 ⟨g, rfl, hg, ho3, hk3, hW3⟩
 obtain ⟨f, hff⟩ : ∃ f, f = w.heap.size + 1 + 1 := ⟨_, rfl⟩
 rw [<- hff] at HF ⊢
 have hsb := HSb.out
 have HF3 : Hid (fileB w3 f m ⟨i, kd, md, lk, sz, slotsTo [p0, p1, p2, p3, p4, p5, p6, p7, p8, p9, p10] (Pg p10) 0⟩) := HF.out.keep hk3 (fun hf => by have := HFl.out _ hf; omega)
 have HO3 := hid ho3
 have HK3 := hid hk3
 have HW3 := hid hW3
 have HG : Hid (f < g /\ w.heap.size <= f) := ⟨by omega, by omega⟩
 clear ho3 hk3 hW3 hg HF d0 d1 hff hsb
 obtain ⟨ps, hps⟩ : ∃ ps, ps = [p0, p1, p2, p3, p4, p5, p6, p7, p8, p9, p10] := ⟨_, rfl⟩
 have hpl : ps.length = 11 := by rw [hps]; rfl
 rw [<- hps] at HF3
 have HPs := hid hps
 have HPl := hid hpl
 clear hps hpl
 go_wp2
 go_loopw [23] (fun iv wr => ∃ j : Nat, j <= 128 /\ iv = .int .i64 j /\ Hid (fileB wr f m ⟨i, kd, md, lk, sz, slotsTo ps (Pg p10) j⟩) /\ Hid (ownB wr g (Pg p10)) /\ Hid (Keeps (fun i => i = f) w3 wr)) (fun iv _ => 128 - (intOf iv).toNat)
 case atStart => exact ⟨0, by omega, rfl, HF3, HO3, Keeps.refl _ _⟩
 case round =>
  obtain ⟨j, hj, rfl, HFj, HOj, HKj⟩ := hrel
  clear HF3 HO3
  by_cases hlt : j < 128
  ·have hj0 : (0 : Int) <= (j : Int) := by omega
   have hj1 : (j : Int) < 128 := by omega
   have hbd : Below wr.heap.size wr wr.drew := (Below.refl _ wr).drew
   have hFd := HFj.out.below hbd
   have hOd := HOj.out.below hbd
   have HKd : Hid (Keeps (fun i => i = f) w3 wr.drew) := HKj.out.trans (Keeps.of_below hbd : Keeps (fun i => i = f) wr wr.drew) (fun i e => .inl e)
   have hfo := ifourth_any g 0 512 512 j wr.drew (by omega) (by omega) (by omega)
   rw [Nat.zero_add] at hfo
   have HFo := hid hfo
   clear hfo
   have hlp : 4 * j + 4 <= (Pg p10).length := by rw [HLen.out]; omega
   have hnu := number_any (((Pg p10).drop (4 * j)).take 4) (some ⟨g, 0 + 4 * j, none⟩) (512 - 4 * j) wr.drew (part_in hOd.at (4 * j) 4 hlp) (by rw [len_part hlp]; omega)
   rw [len_part hlp, Nat.zero_add] at hnu
   have hsl : 11 + j < (slotsTo ps (Pg p10) j).length := by rw [length_slotsTo HPl.out _ j hj]; omega
   obtain ⟨pj, k1⟩ : ∃ pj : Nat, wr.drew.cell? ⟨f, 17 + j, none⟩ = some (.int .i64 pj) := by
    have k1 := hFd.slot (11 + j) hsl
    rw [show 6 + (11 + j) = 17 + j by omega] at k1
    exact ⟨_, k1⟩
   have k2 := hFd.frozen (17 + j)
   have hst := hFd.setSlot (11 + j) (numS (((Pg p10).drop (4 * j)).take 4))
   rw [show 6 + (11 + j) = 17 + j by omega, show (slotsTo ps (Pg p10) j).set (11 + j) (numS (((Pg p10).drop (4 * j)).take 4)) = slotsTo ps (Pg p10) (j + 1) from slotsTo_set HPl.out _ j hlt] at hst
   have HNu := hid hnu
   have HSt := hid hst
   have HOd := hid hOd
   clear hnu hst hOd hFd hbd HFj HOj HKj hlp
   generalize numS (((Pg p10).drop (4 * j)).take 4) = x at *
   clear hsl
   go_wp2
   refine wp_region_noPanic ?_
   refine wp_region_held_drew (S := fun _ => True) (by kernel_rfl) trivial (fun hHeld => ?_)
   generalize wr.drew = wd at *
   refine tq 0 _ ?_
   try simp only [tS]
   refine tq 1 _ ?_
   try simp only [tS]
   refine tq 2 _ ?_
   try simp only [tS]
   refine tq 3 _ ?_
   try simp only [tS]
   refine tq 6 _ ?_
   try simp only [tS]
   refine tq 7 _ ?_
   try simp only [tS]
   refine tr 4 (fun K hK => ?_)
   go_simp
   refine HFo.out.mono ?_
   clear HFo
   rintro e w7 ⟨rfl, h7⟩
   obtain rfl := h7.symm
   clear h7
   go_wp2_with fail
   refine hK.out _ _ trivial (fun hHeld => ?_)
   clear hK K
   try simp only [tS]
   refine tr 5 (fun K hK => ?_)
   go_simp
   refine HNu.out.mono ?_
   clear HNu
   rintro e w8 ⟨rfl, h8⟩
   obtain rfl := h8.symm
   clear h8
   go_wp2_with fail
   refine hK.out _ _ trivial (fun hHeld => ?_)
   clear hK K
   try simp only [tS]
   refine tq 8 (.pointer (some ⟨f, 17 + j, none⟩)) ?_
   try simp only [tS]
   refine tr 9 (fun K hK => ?_)
   unfold Oper.wp
   go_simp
   have kk : Keeps (fun i => i = f) wd (wd.setCell ⟨f, 17 + j, none⟩ (.int .i64 x)) := (Keeps.refl _ wd).grown (grown_setCell (grown_refl _ _) _ _) (fun i e => .inl (Option.some.inj e).symm)
   have HK9 := hid (HKd.out.trans kk (fun i e => .inl e))
   have HO9 := hid (HOd.out.keep kk (fun e => by have e' : g = f := e; have := HG.out; omega))
   clear kk HKd HOd k1 k2
   generalize wd.setCell ⟨f, 17 + j, none⟩ (.int .i64 x) = w9 at *
   refine hK.out _ _ trivial (fun hHeld => ?_)
   clear hK K
   try simp only [List.getElem_toArray, List.getElem_cons_succ, List.getElem_cons_zero, Act.put]
   refine wpAnyH_done (by kernel_rfl) ?_ _
   refine NoPanic.normal ?_
   clear hHeld
   go_wp2
   exact ⟨⟨j + 1, by omega, by go_num, HSt, HO9, HK9⟩, by simp [intOf]; omega⟩
  ·obtain rfl : j = 128 := by omega
   go_wp2
   go_ret
   have hsf := HG.out.2
   have kw : Keeps (fun i => w.heap.size <= i) w3 wr := HKj.out.mono (fun i e => by have e' : i = f := e; show w.heap.size <= i; omega)
   refine ⟨f, rfl, hsf, ?_, ?_, HW3.out wr kw⟩
   ·have := HFj.out
    rw [HPs.out] at this
    exact this
   ·exact (((Keeps.of_below HB.out : Keeps F w wb).trans HK3.out (fun i e => .inl e)).trans kw (fun i e => .inr e))
end
end
end Go.Proofs.YtehkeadpgedolaaGreatDoor
