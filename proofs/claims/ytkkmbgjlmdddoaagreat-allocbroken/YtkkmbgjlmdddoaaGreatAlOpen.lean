/- inodesOf, Open. -/
import Derived.Test.YtkkmbgjlmdddoaaGreatAlMade
namespace Go.Proofs.YtkkmbgjlmdddoaaGreat
open Go.RowKit
/-- How many inodes a superblock tells. -/
def inoS (l : List UInt8) : Nat := numS ((l.drop 8).take 4)
theorem len_four (l : List UInt8) (h : l.length = 512) : ((l.drop 8).take 4).length = 4 := by rw [List.length_take, List.length_drop, h]; rfl
theorem four_bytes {w : World} {g : Nat} {l : List UInt8} (h : bytesAt w ⟨g, 0, none⟩ l) (hl : l.length = 512) : bytesIn w (some ⟨g, 8, none⟩) ((l.drop 8).take 4) := fun _ _ => ⟨g, 8, rfl, fun k hk => by
  have hk2 : k < 4 := by rw [len_four l hl] at hk; exact hk
  have := h (8 + k) (by omega)
  rw [Addr.add_mid, Nat.zero_add] at this
  rw [this]
  simp⟩
set_option maxRecDepth 100000 in
set_option maxHeartbeats 2000000 in
theorem ainodesOf_any (g cap N : Nat) (l : List UInt8) (w : World) (h : bytesAt w ⟨g, 0, none⟩ l) (hl : l.length = 512) (hc : 512 ≤ cap) (hN : N ≤ 4096) :
    Calls Tryz.prog 59 #[.slice (some ⟨g, 0, none⟩) 512 cap, .int .i64 N] w fun e w' => e = .returned (.tuple #[.int .i64 (inoS l : Nat), .bool (decide (mayP N (inoS l : Nat) ∧ l = superL N (inoS l)))]) ∧ Below w.heap.size w w' := by
  have hnu := number_any ((l.drop 8).take 4) (some ⟨g, 8, none⟩) (cap - 8) w (four_bytes h hl) (by rw [len_four l hl]; decide)
  rw [len_four l hl] at hnu
  have HNu : Hid (Calls Tryz.prog 96 #[.slice (some ⟨g, 8, none⟩) 4 (cap - 8)] w fun e w' => e = .returned (.int .i64 (inoS l : Nat)) ∧ w' = w) := hnu
  have HM := hid (amayBe_any N (inoS l : Nat) hN w)
  have HBy := hid h
  have HL := hid hl
  obtain ⟨n, hn⟩ : ∃ n, n = inoS l := ⟨_, rfl⟩
  rw [← hn] at HNu HM ⊢
  have hc5' : (512 : Int) ≤ (cap : Int) := by omega
  clear hnu h hn hl
  by_cases hmay : mayP N (n : Int)
  · rw [decide_eq_true hmay] at HM
    have hn5 : n ≤ 4096 := by have := hmay.2.1; omega
    have HSu := hid (asuper_any N n hN hn5 w)
    have Hmay := hid hmay
    clear hmay hn5
    go_enter Tryz.func59, Tryz.ntmps59
    go_wp2_with fail
    refine HNu.out.mono ?_
    clear HNu
    rintro e w3 ⟨rfl, h3⟩
    obtain rfl := h3.symm
    clear h3
    go_wp2_with fail
    refine HM.out.mono ?_
    clear HM
    rintro e w3 ⟨rfl, h3⟩
    obtain rfl := h3.symm
    clear h3
    go_wp2_with fail
    refine HSu.out.mono ?_
    clear HSu
    rintro e w3 ⟨rfl, hb3, hB3⟩
    have heq := equal_any l (superL N n) ⟨g, 0, none⟩ ⟨w.heap.size, 0, none⟩ cap 512 w3 (fun j hj => (hB3.cell (World.block_lt_of_cell? w _ (HBy.out j hj))).trans (HBy.out j hj)) hb3.at
    rw [HL.out, length_superL] at heq
    have HEq := hid heq
    have HB3 := hid hB3
    clear heq hb3 hB3
    go_wp2_with fail
    refine HEq.out.mono ?_
    clear HEq
    rintro e w4 ⟨rfl, h4⟩
    obtain rfl := h4.symm
    clear h4
    go_wp2
    go_returns
    refine ⟨?_, HB3.out⟩
    have : decide (mayP N (n : Int) ∧ l = superL N n) = decide (l = superL N n) := decide_eq_decide.2 ⟨fun h => h.2, fun h => ⟨Hmay.out, h⟩⟩
    rw [this]
    rfl
  · rw [decide_eq_false hmay] at HM
    rw [decide_eq_false (fun h => hmay h.1)]
    clear hmay
    go_enter Tryz.func59, Tryz.ntmps59
    go_wp2_with fail
    refine HNu.out.mono ?_
    clear HNu
    rintro e w3 ⟨rfl, h3⟩
    obtain rfl := h3.symm
    clear h3
    go_wp2_with fail
    refine HM.out.mono ?_
    clear HM
    rintro e w3 ⟨rfl, h3⟩
    obtain rfl := h3.symm
    clear h3
    go_wp2
    go_returns
    exact ⟨rfl, Below.refl _ _⟩
section
variable {w : World} {c : Nat} {F : Nat → Prop} {size N : Nat} {Pg Cm : Nat → List UInt8} {D : Int → Bool} {o u : Nat}
/-- What Open tells. -/
def AOpenTo (w : World) (c : Nat) (F : Nat → Prop) (size N : Nat) (Pg Cm : Nat → List UInt8) (D : Int → Bool) (o u : Nat) (e : Ending) (w' : World) : Prop :=
  Keeps F w w' ∧ Pc w' c F size N Pg Cm D o (u + 1) ∧ ((¬ (mayP N (inoS (Pg 0) : Nat) ∧ Pg 0 = superL N (inoS (Pg 0))) ∧ e = .returned (.tuple #[.pointer none, .int .i64 9])) ∨
    (mayP N (inoS (Pg 0) : Nat) ∧ Pg 0 = superL N (inoS (Pg 0)) ∧ ∃ m, w.heap.size ≤ m ∧ ¬ F m ∧ mapB w' m c (inoS (Pg 0)) ∧ e = .returned (.tuple #[.pointer (some ⟨m, 0, none⟩), .int .i64 0])))
set_option maxRecDepth 100000 in
set_option maxHeartbeats 2000000 in
theorem aOpen_any (hN : 1 ≤ N) (hu : u < 1000000) (hp : Pc w c F size N Pg Cm D o u) :
    Calls Tryz.prog 22 #[.pointer (some ⟨c, 0, none⟩)] w (AOpenTo w c F size N Pg Cm D o u) := by
  have HRd := hid (hp.read (Below.refl _ w) 0 (by omega) hu)
  have HLen := hid (hp.len 0 (by omega))
  have HN4 := hid hp.four
  have HFl := hid hp.lt
  clear hp
  unfold AOpenTo
  obtain ⟨l, hlE⟩ : ∃ l, l = Pg 0 := ⟨_, rfl⟩
  rw [← hlE] at HLen HRd ⊢
  clear hlE
  obtain ⟨n, hn⟩ : ∃ n, n = inoS l := ⟨_, rfl⟩
  rw [← hn]
  have HNn := hid hn
  clear hn
  go_enter Tryz.func22, Tryz.ntmps22
  go_wp2_with fail
  refine HRd.out.mono ?_
  clear HRd
  rintro e w1 ⟨g, cap, rfl, hcap, hg, hr, hk1, hf1⟩
  have hp1 := hf1 w1 (Keeps.refl _ _)
  obtain ⟨p, hl1, hl2⟩ := hp1.logPages
  have HL1 := hid hl1
  have HL2 := hid hl2
  have HP1 := hid hp1
  have HK1 := hid hk1
  have HIn := hid (fun W (hW : Below w1.heap.size w1 W) => ainodesOf_any g cap N l W ((hr.below hW).1) HLen.out hcap HN4.out)
  clear hl1 hl2 hp1 hk1 hf1 hr
  go_wp2_with fail
  refine HL1.out.mono ?_
  clear HL1
  rintro e w2 ⟨rfl, h2⟩
  obtain rfl := h2.symm
  clear h2
  go_wp2_with fail
  refine HL2.out.mono ?_
  clear HL2
  rintro e w2 ⟨rfl, hb2⟩
  have HB2 := hid hb2
  have HIn2 := hid (HIn.out w2 hb2)
  clear hb2 HIn
  rw [← HNn.out] at HIn2
  clear HNn
  by_cases hok : mayP N (n : Int) ∧ l = superL N n
  · rw [decide_eq_true hok] at HIn2
    have Hok := hid hok
    clear hok
    go_wp2_with fail
    refine HIn2.out.mono ?_
    clear HIn2
    rintro e w3 ⟨rfl, hb3⟩
    have HB3 := hid (HB2.out.trans (hb3.mono HB2.out.size))
    clear hb3
    go_wp2
    go_returns
    have hb4 : Below w3.heap.size w3 (w3.alloc (.cells #[.pointer (some ⟨c, 0, none⟩), .int .i64 n] 71)) := (Below.refl _ w3).alloc (Nat.le_refl _) _
    have hB4 := HB3.out.trans (hb4.mono HB3.out.size)
    have hsz := HK1.out.size
    have hsz3 := HB3.out.size
    refine ⟨HK1.out.trans (Keeps.of_below hB4 : Keeps F w1 _) (fun i e => .inl e), HP1.out.below hB4, .inr ⟨Hok.out.1, Hok.out.2, w3.heap.size, by omega, fun hf => by have := HFl.out _ hf; omega, block_new w3 _, rfl⟩⟩
  · rw [decide_eq_false hok] at HIn2
    have Hok := hid hok
    clear hok
    go_wp2_with fail
    refine HIn2.out.mono ?_
    clear HIn2
    rintro e w3 ⟨rfl, hb3⟩
    have HB3 := hid (HB2.out.trans (hb3.mono HB2.out.size))
    clear hb3
    go_wp2
    go_returns
    exact ⟨HK1.out.trans (Keeps.of_below HB3.out : Keeps F w1 _) (fun i e => .inl e), HP1.out.below HB3.out, .inl ⟨Hok.out, rfl⟩⟩
end
end Go.Proofs.YtkkmbgjlmdddoaaGreat
