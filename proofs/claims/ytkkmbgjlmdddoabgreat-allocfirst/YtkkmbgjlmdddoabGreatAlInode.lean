/- Inode. -/
import Derived.Test.YtkkmbgjlmdddoabGreatAlClear
namespace Go.Proofs.YtkkmbgjlmdddoabGreat
open Go.RowKit
section
variable {w : World} {m c ino : Nat} {F : Nat → Prop} {size N : Nat} {Pg Cm : Nat → List UInt8} {D : Int → Bool} {o u : Nat}
/-- The pages of noughts that Inode writes beside its bits. -/
def inoT (Pg : Nat → List UInt8) (q : Nat) : List UInt8 := clr (Pg (3 + q / 8)) (q % 8 * 64) 64
/-- How many pages Inode lets be dirty. -/
def inoC (Pg : Nat → List UInt8) (D : Int → Bool) (q : Nat) : Nat := (if D 1 then 0 else 1) + (if inoT Pg q = Pg (3 + q / 8) then 0 else if D (3 + q / 8 : Nat) then 0 else 1)
def inoP (Pg : Nat → List UInt8) (q : Nat) : Nat → List UInt8 := if inoT Pg q = Pg (3 + q / 8) then updP Pg 1 (flipL (Pg 1) q) else updP (updP Pg 1 (flipL (Pg 1) q)) (3 + q / 8) (inoT Pg q)
def inoD (Pg : Nat → List UInt8) (D : Int → Bool) (q : Nat) : Int → Bool := if inoT Pg q = Pg (3 + q / 8) then updT D 1 else updT (updT D 1) (3 + q / 8 : Nat)
/-- What Inode tells. -/
def InodeTo (w : World) (c : Nat) (F : Nat → Prop) (size N : Nat) (Pg Cm : Nat → List UInt8) (D : Int → Bool) (o u ino : Nat) (e : Ending) (w' : World) : Prop :=
  Keeps F w w' ∧ ((freeTo (Pg 1) 1 ino 4096 = [] ∧ e = .returned (.tuple #[.int .i64 0, .int .i64 7]) ∧ Pc w' c F size N Pg Cm D o (u + 2)) ∨
    ∃ (q : Nat) (rest : List Nat), freeTo (Pg 1) 1 ino 4096 = q :: rest ∧ ((min size 100 < (dkD N D).length + inoC Pg D q ∧ e = .returned (.tuple #[.int .i64 0, .int .i64 7]) ∧ Pc w' c F size N Pg Cm D o (u + 2)) ∨
      ((dkD N D).length + inoC Pg D q ≤ min size 100 ∧ e = .returned (.tuple #[.int .i64 q, .int .i64 0]) ∧ Pc w' c F size N (inoP Pg q) Cm (inoD Pg D q) o (u + 2))))
set_option maxRecDepth 100000 in
set_option maxHeartbeats 2000000 in
theorem aInode_any (h : mapB w m c ino) (hmF : ¬ F m) (hi : ino ≤ 512) (h8 : ino % 8 = 0) (hN : 3 + ino / 8 ≤ N) (hN2 : 2 ≤ N) (hu : u < 999999) (hp : Pc w c F size N Pg Cm D o u) :
    Calls Tryz.prog 8 #[.pointer (some ⟨m, 0, none⟩)] w (InodeTo w c F size N Pg Cm D o u ino) := by
  have hN4 := hp.four
  have HO := hid (amofInodes_any h)
  have HFl := hid hp.lt
  have HLen := hid (hp.len 1 (by omega))
  have HNx := hid (fun W (hW : Below w.heap.size w W) => anext_any (h.below hW) hmF 1 1 ino 0 oneF (by omega) (by omega) (by omega) (hp.below hW))
  have HM := hid h
  clear h hp
  go_enter Tryz.func8, Tryz.ntmps8
  go_wp2_with fail
  refine HO.out.mono ?_
  clear HO
  rintro e w1 ⟨rfl, hb1⟩
  have HB1 := hid hb1
  have HN1 := hid (HNx.out w1 hb1)
  clear HNx hb1
  go_wp2_with fail
  refine HN1.out.mono ?_
  clear HN1
  rintro e w2 ⟨hk2, hp2, hx⟩
  have HK2 := hid ((Keeps.of_below HB1.out : Keeps F w w1).trans hk2 (fun i e => .inl e))
  have HP2 := hid hp2
  have HM2 : Hid (mapB w2 m c ino) := (HM.out.below HB1.out).keep hk2 hmF
  clear hk2 hp2
  rcases hx with ⟨h0, rfl⟩ | ⟨q, rest, g, cap, h0, hq4, rfl, hg, hby⟩
  · have H0 := hid h0
    clear h0
    have hb3 : Below w2.heap.size w2 (w2.alloc (.cells #[.int .i64 0, .slice none 0 0] 63)) := (Below.refl _ w2).alloc (Nat.le_refl _) _
    have HB3 := hid hb3
    clear hb3
    go_wp2
    go_returns
    exact ⟨HK2.out.trans (Keeps.of_below HB3.out : Keeps (fun _ => False) w2 _) (fun i e => e.elim), .inl ⟨H0.out, rfl, (HP2.out.below HB3.out).more (Nat.le_refl _) (by omega)⟩⟩
  · have H0 := hid h0
    have hff := freeTo_first h0
    obtain ⟨wa, hwa⟩ : ∃ wa, wa = w2.alloc (.cells #[.int .i64 1, .slice (some ⟨g, 0, none⟩) 512 cap] 63) := ⟨_, rfl⟩
    have hb3 : Below w2.heap.size w2 wa := by rw [hwa]; exact (Below.refl _ w2).alloc (Nat.le_refl _) _
    have hbx : wa.heap[w2.heap.size]? = some (.cells #[.int .i64 1, .slice (some ⟨g, 0, none⟩) 512 cap] 63 (0, 0)) := by rw [hwa]; exact block_new w2 _
    have HBx := hid hbx
    have HB3 := hid hb3
    have HK3 : Hid (Keeps F w wa) := HK2.out.trans (Keeps.of_below hb3 : Keeps (fun _ => False) w2 _) (fun i e => e.elim)
    have Hby : Hid (bytesAt wa ⟨g, 0, none⟩ (flipL (Pg 1) q)) := fun j hj => (hb3.cell (World.block_lt_of_cell? w2 _ (hby j hj))).trans (hby j hj)
    have Hg : Hid (w.heap.size ≤ g) := Nat.le_trans HB1.out.size hg
    have hcl := acleared_any (HM2.out.below hb3) hi q (by omega) hN h8 (by omega) (HP2.out.below hb3)
    obtain ⟨T, hT⟩ : ∃ T, T = inoT Pg q := ⟨_, rfl⟩
    obtain ⟨tp, htp⟩ : ∃ tp, tp = 3 + q / 8 := ⟨_, rfl⟩
    have htN : tp < N := by omega
    have HTl : Hid (T.length = 512) := by rw [hT]; unfold inoT; rw [Hid, length_clr]; exact HP2.out.len _ (by omega)
    rw [show clr (Pg (3 + q / 8)) (q % 8 * 64) 64 = T from hT.symm, ← htp] at hcl
    have HCl := hid hcl
    have HT := hid hT
    have HTp := hid htp
    clear hcl hT htp
    have Hff := hid hff
    clear h0 hff hb3 hbx hby hg
    obtain ⟨nb, hnb⟩ : ∃ nb, nb = w2.heap.size := ⟨_, rfl⟩
    rw [← hnb] at HBx
    have HNb : Hid (w.heap.size ≤ nb) := by rw [hnb]; exact HK2.out.size
    go_wp2_with fail
    rw [← hwa, ← hnb]
    clear hwa hnb
    refine HCl.out.mono ?_
    clear HCl
    rintro e w4 ⟨g3, cap3, rfl, hg3, hby3, hk4, hp4⟩
    have HK4 := hid (HK3.out.trans hk4 (fun i e => .inl e))
    have hFn : ¬ F nb := fun hf => by have h1 := HFl.out _ hf; have h2 := HNb.out; omega
    have HBx4 := hid (hk4.heap HBx.out hFn)
    have HP4 := hid hp4
    have HM4 : Hid (mapB w4 m c ino) := (HM2.out.below HB3.out).keep hk4 hmF
    have Hby4 : Hid (bytesAt w4 ⟨g, 0, none⟩ (flipL (Pg 1) q)) := fun j hj => hk4.cell (Hby.out j hj) (by rw [add_block]; exact fun hf => by have h1 : g < w.heap.size := HFl.out _ hf; have h2 := Hg.out; omega)
    have Hby3 := hid hby3
    have Hg3 : Hid (w.heap.size ≤ g3) := Nat.le_trans HK3.out.size hg3
    have HSz4 := hid HK4.out.size
    clear hg3 hby3 hk4 hp4 hFn HBx Hby HB3 HM2 HP2
    have hb5 : Below w4.heap.size w4 (w4.alloc (.cells #[.int .i64 tp, .slice (some ⟨g3, 0, none⟩) 512 cap3] 63)) := (Below.refl _ w4).alloc (Nat.le_refl _) _
    have hbt := block_new w4 (.cells #[.int .i64 tp, .slice (some ⟨g3, 0, none⟩) 512 cap3] 63)
    obtain ⟨w5, hw5⟩ : ∃ w5, w4.alloc (.cells #[.int .i64 tp, .slice (some ⟨g3, 0, none⟩) 512 cap3] 63) = w5 := ⟨_, rfl⟩
    rw [hw5] at hb5 hbt
    have hbx5 := below_block hb5 HBx4.out (lt_of_heap HBx4.out)
    have c0 : w5.cell? ⟨nb, 0, none⟩ = some (.int .i64 1) := cell_of_block hbx5 0
    have c1 : w5.cell? ⟨nb, 1, none⟩ = some (.slice (some ⟨g, 0, none⟩) 512 cap) := cell_of_block hbx5 1
    have HK5 : Hid (Keeps F w w5) := HK4.out.andBelow hb5
    have HP5 := hid (HP4.out.below hb5)
    have HM5 := hid (HM4.out.below hb5)
    have Hby5 : Hid (bytesAt w5 ⟨g, 0, none⟩ (flipL (Pg 1) q)) := fun j hj => (hb5.cell (World.block_lt_of_cell? w4 _ (Hby4.out j hj))).trans (Hby4.out j hj)
    have Hbt5 : Hid (bytesAt w5 ⟨g3, 0, none⟩ T) := fun j hj => (hb5.cell (World.block_lt_of_cell? w4 _ (Hby3.out j hj))).trans (Hby3.out j hj)
    have HFg : Hid (¬ F g) := fun hf => by have h1 : g < w.heap.size := HFl.out _ hf; have h2 := Hg.out; omega
    have HFg3 : Hid (¬ F g3) := fun hf => by have h1 : g3 < w.heap.size := HFl.out _ hf; have h2 := Hg3.out; omega
    have HFn5 : Hid (¬ F w5.heap.size) := fun hf => by have h1 := HFl.out _ hf; have h2 := HK5.out.size; omega
    have HLf : Hid ((flipL (Pg 1) q).length = 512) := by rw [Hid, length_flipL]; exact HLen.out
    by_cases hot : T = Pg tp
    · rw [decide_eq_false (show ¬ ¬ T = Pg tp from fun h => h hot)]
      have HOt := hid hot
      have hb6 : Below w5.heap.size w5 (w5.alloc (.cells #[.int .i64 1, .slice (some ⟨g, 0, none⟩) 512 cap] 63)) := (Below.refl _ w5).alloc (Nat.le_refl _) _
      have hbl6 := block_new w5 (.cells #[.int .i64 1, .slice (some ⟨g, 0, none⟩) 512 cap] 63)
      have hws : WPgs (w5.alloc (.cells #[.int .i64 1, .slice (some ⟨g, 0, none⟩) 512 cap] 63)) w5.heap.size [⟨1, g, cap, flipL (Pg 1) q⟩] F N := by
        refine ⟨fun i hi => ?_, fun _ => HFn5.out, fun p hp => ?_⟩
        · obtain rfl : i = 0 := by simp at hi; omega
          exact ⟨cell_of_block hbl6 0, cell_of_block hbl6 1⟩
        · obtain rfl : p = ⟨1, g, cap, flipL (Pg 1) q⟩ := by simpa using hp
          exact ⟨by show 1 < N; omega, HLf.out, fun j hj => (hb6.cell (World.block_lt_of_cell? w5 _ (Hby5.out j hj))).trans (Hby5.out j hj), HFg.out⟩
      have HWr := hid (awrite_any (HM5.out.below hb6) hmF w5.heap.size _ hws 1 (by simp) (by simp) (HP5.out.below hb6))
      have HK6 := hid (HK5.out.andBelow hb6)
      clear hot hb6 hbl6 hws hbt hbx5 hb5
      have HC : Hid (inoC Pg D q = (if D 1 then 0 else 1)) := by rw [Hid, inoC, ← HT.out, ← HTp.out, if_pos HOt.out]; rfl
      have HP : Hid (inoP Pg q = updP Pg 1 (flipL (Pg 1) q)) := by rw [Hid, inoP, ← HT.out, ← HTp.out, if_pos HOt.out]
      have HD : Hid (inoD Pg D q = updT D 1) := by rw [Hid, inoD, ← HT.out, ← HTp.out, if_pos HOt.out]
      go_wp2_with fail
      refine HWr.out.mono ?_
      clear HWr
      rintro e w7 ⟨hk7, hw7⟩
      have HK7 := hid (HK6.out.trans hk7 (fun i e => .inl e))
      rw [newC_one] at hw7
      clear hk7 c0 c1 hw5
      rcases hw7 with ⟨hf, rfl, hp7⟩ | ⟨hf, rfl, hp7⟩
      · have HP7 := hid hp7
        have Hf := hid hf
        clear hp7 hf
        go_wp2_with fail
        refine (aanswer_any (q : Int) 7 w7).mono ?_
        rintro e w8 ⟨rfl, h8'⟩
        obtain rfl := h8'.symm
        clear h8'
        go_wp2
        go_returns
        exact ⟨HK7.out, .inr ⟨q, rest, H0.out, .inl ⟨by rw [HC.out]; exact Hf.out, rfl, HP7.out⟩⟩⟩
      · have HP7 := hid hp7
        have Hf := hid hf
        clear hp7 hf
        go_wp2_with fail
        refine (aanswer_any (q : Int) 0 w7).mono ?_
        rintro e w8 ⟨rfl, h8'⟩
        obtain rfl := h8'.symm
        clear h8'
        rw [if_pos rfl]
        go_wp2
        go_returns
        exact ⟨HK7.out, .inr ⟨q, rest, H0.out, .inr ⟨by rw [HC.out]; exact Hf.out, rfl, by rw [HP.out, HD.out]; exact HP7.out⟩⟩⟩
    · rw [decide_eq_true hot]
      have HOt := hid hot
      have t0 : w5.cell? ⟨w4.heap.size, 0, none⟩ = some (.int .i64 tp) := cell_of_block hbt 0
      have t1 : w5.cell? ⟨w4.heap.size, 1, none⟩ = some (.slice (some ⟨g3, 0, none⟩) 512 cap3) := cell_of_block hbt 1
      have hb6 : Below w5.heap.size w5 (w5.alloc (.cells #[.int .i64 1, .slice (some ⟨g, 0, none⟩) 512 cap, .int .i64 tp, .slice (some ⟨g3, 0, none⟩) 512 cap3] 63)) := (Below.refl _ w5).alloc (Nat.le_refl _) _
      have hbl6 := block_new w5 (.cells #[.int .i64 1, .slice (some ⟨g, 0, none⟩) 512 cap, .int .i64 tp, .slice (some ⟨g3, 0, none⟩) 512 cap3] 63)
      have hws : WPgs (w5.alloc (.cells #[.int .i64 1, .slice (some ⟨g, 0, none⟩) 512 cap, .int .i64 tp, .slice (some ⟨g3, 0, none⟩) 512 cap3] 63)) w5.heap.size [⟨1, g, cap, flipL (Pg 1) q⟩, ⟨tp, g3, cap3, T⟩] F N := by
        refine ⟨fun i hi => ?_, fun _ => HFn5.out, fun p hp => ?_⟩
        · have hi2 : i = 0 ∨ i = 1 := by simp at hi; omega
          rcases hi2 with rfl | rfl
          · exact ⟨cell_of_block hbl6 0, cell_of_block hbl6 1⟩
          · exact ⟨cell_of_block hbl6 2, cell_of_block hbl6 3⟩
        · simp only [List.mem_cons, List.mem_nil_iff, or_false] at hp
          rcases hp with rfl | rfl
          · exact ⟨by show 1 < N; omega, HLf.out, fun j hj => (hb6.cell (World.block_lt_of_cell? w5 _ (Hby5.out j hj))).trans (Hby5.out j hj), HFg.out⟩
          · exact ⟨htN, HTl.out, fun j hj => (hb6.cell (World.block_lt_of_cell? w5 _ (Hbt5.out j hj))).trans (Hbt5.out j hj), HFg3.out⟩
      have HWr := hid (awrite_any (HM5.out.below hb6) hmF w5.heap.size _ hws 2 (by simp) (by simp) (HP5.out.below hb6))
      have HK6 := hid (HK5.out.andBelow hb6)
      clear hot hb6 hbl6 hws hbt hbx5 hb5
      have HC : Hid (inoC Pg D q = (if D 1 then 0 else 1) + (if D (tp : Nat) then 0 else 1)) := by rw [Hid, inoC, ← HT.out, ← HTp.out, if_neg HOt.out]
      have HP : Hid (inoP Pg q = updP (updP Pg 1 (flipL (Pg 1) q)) tp T) := by rw [Hid, inoP, ← HT.out, ← HTp.out, if_neg HOt.out]
      have HD : Hid (inoD Pg D q = updT (updT D 1) (tp : Nat)) := by rw [Hid, inoD, ← HT.out, ← HTp.out, if_neg HOt.out]
      go_wp2_with fail
      refine HWr.out.mono ?_
      clear HWr
      rintro e w7 ⟨hk7, hw7⟩
      have HK7 := hid (HK6.out.trans hk7 (fun i e => .inl e))
      rw [newC_cons, newC_one] at hw7
      clear hk7 c0 c1 t0 t1 hw5
      rcases hw7 with ⟨hf, rfl, hp7⟩ | ⟨hf, rfl, hp7⟩
      · have HP7 := hid hp7
        have Hf := hid hf
        clear hp7 hf
        go_wp2_with fail
        refine (aanswer_any (q : Int) 7 w7).mono ?_
        rintro e w8 ⟨rfl, h8'⟩
        obtain rfl := h8'.symm
        clear h8'
        go_wp2
        go_returns
        exact ⟨HK7.out, .inr ⟨q, rest, H0.out, .inl ⟨by rw [HC.out]; exact Hf.out, rfl, HP7.out⟩⟩⟩
      · have HP7 := hid hp7
        have Hf := hid hf
        clear hp7 hf
        go_wp2_with fail
        refine (aanswer_any (q : Int) 0 w7).mono ?_
        rintro e w8 ⟨rfl, h8'⟩
        obtain rfl := h8'.symm
        clear h8'
        rw [if_pos rfl]
        go_wp2
        go_returns
        exact ⟨HK7.out, .inr ⟨q, rest, H0.out, .inr ⟨by rw [HC.out]; exact Hf.out, rfl, by rw [HP.out, HD.out]; exact HP7.out⟩⟩⟩
end
end Go.Proofs.YtkkmbgjlmdddoabGreat
