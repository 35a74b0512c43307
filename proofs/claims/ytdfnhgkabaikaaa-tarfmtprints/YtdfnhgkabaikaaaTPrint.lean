/- Print. -/
import Derived.Test.YtdfnhgkabaikaaaTBytes
import Derived.Test.YtdfnhgkabaikaaaTWrite
namespace Go.Proofs.Ytdfnhgkabaikaaa
open Go.RowKit
theorem right_data {e : EN} (h : rightE e = 0) : e.data.length ≤ 70656 := by
  unfold rightE at h
  split at h
  · cases h
  · split at h
    · cases h
    · split at h
      · cases h
      · split at h
        · cases h
        · omega
theorem right_all {e : EN} (h : rightE e = 0) : 1 ≤ e.kind ∧ e.kind ≤ 4 ∧ 0 ≤ e.mode ∧ e.mode ≤ 4095 ∧ textOk e.name 255 = true ∧ (partP e.name).isSome = true ∧ linkOk e.kind e.link = true ∧ (e.kind ≠ 1 → e.data = []) ∧ e.data.length ≤ 70656 := by
  unfold rightE at h
  split at h
  · cases h
  · rename_i h1
    split at h
    · cases h
    · rename_i h2
      split at h
      · cases h
      · rename_i h3
        split at h
        · cases h
        · rename_i h4
          have h5 : nameOk e.name = true := by simpa using h2
          unfold nameOk at h5
          rw [Bool.and_eq_true] at h5
          refine ⟨by omega, by omega, by omega, by omega, h5.1, h5.2, ?_, fun hk => ?_, by omega⟩
          · cases hl : linkOk e.kind e.link with
            | true => rfl
            | false => exact absurd (.inl hl) h3
          · have : ¬ (0 < e.data.length) := fun h6 => h3 (.inr ⟨hk, h6⟩)
            exact List.length_eq_zero_iff.1 (by omega)
theorem textOk_all {s : List UInt8} {m : Nat} (h : textOk s m = true) : 1 ≤ s.length ∧ s.length ≤ m ∧ noZ s = true := by
  unfold textOk at h
  simpa using h
theorem linkOk_len {k : Int} {s : List UInt8} (h : linkOk k s = true) : s.length ≤ 100 := by
  unfold linkOk at h
  split at h
  · exact (textOk_all h).2.1
  · have : s = [] := by simpa using h
    subst this; simp
theorem partAt_some : ∀ {s : List UInt8} {k m : Nat}, partAt s k = some m → m ≤ k ∧ 1 ≤ m ∧ s.length - m - 1 ≤ 100 ∧ s.getD m 0 = 47
  | s, 0, m, h => by cases h
  | s, k + 1, m, h => by
    unfold partAt at h
    split at h
    · rename_i h1
      split at h
      · rename_i h2
        injection h with h; subst h
        exact ⟨by omega, by omega, h1, h2⟩
      · have := partAt_some h
        exact ⟨by omega, this.2⟩
    · cases h
theorem partP_len {s p r : List UInt8} (h : partP s = some (p, r)) : p.length ≤ 155 ∧ r.length ≤ 100 := by
  unfold partP at h
  split at h
  · rename_i h1
    injection h with h; injection h with h2 h3; subst h2 h3
    exact ⟨by simp, h1⟩
  · obtain ⟨k, hk, he⟩ := Option.map_eq_some_iff.1 h
    injection he with h2 h3; subst h2 h3
    have := partAt_some hk
    rw [List.length_take, List.length_drop]
    omega
theorem below_grown {K g : Nat} {w w1 w2 : World} (h : Below K w w1) (hg : w1.grownBy w2 (some g)) (hk : K ≤ g) (hs : K ≤ w1.heap.size) : Below K w w2 :=
  ⟨hg.os.trans h.os, hg.tape.trans h.tape, hg.output.trans h.output, Nat.le_trans h.size hg.size, fun i hi => (hg.block i (Nat.lt_of_lt_of_le hi hs) (fun e => by injection e with e; omega)).trans (h.block i hi)⟩
theorem length_writeL {L lk da p r : List UInt8} {o md : Nat} {kd : Int} (ho : o + 512 + da.length ≤ L.length) (hr : r.length ≤ 100) (hpl : p.length ≤ 155) (hlk : lk.length ≤ 100) : (writeL L o kd md lk da p r).length = L.length := by
  unfold writeL
  exact wrtN (wrtN (length_fillL (by omega) hr hpl hlk) (by rw [octN]; omega)) (by omega)
theorem sizeTo_mono {l : List (EN × Value)} : ∀ {k m : Nat}, k ≤ m → m ≤ l.length → sizeTo l k ≤ sizeTo l m
  | k, 0, h, _ => by obtain rfl : k = 0 := by omega
                     exact Nat.le_refl _
  | k, m + 1, h, hm => by
    by_cases e : k = m + 1
    · subst e; exact Nat.le_refl _
    · have := sizeTo_mono (l := l) (k := k) (m := m) (by omega) (by omega)
      rw [sizeTo_next (by omega)]; omega
theorem sizeTo_ge (l : List (EN × Value)) (k : Nat) : 1024 ≤ sizeTo l k := by unfold sizeTo; omega
/-- What Print answers before it writes. -/
inductive PrE (l : List (EN × Value)) : Int → Prop
  | bad (k : Nat) (hk : k < l.length) (hb : ∀ i (hi : i < l.length), i < k → rightE l[i].1 = 0) (hn : rightE l[k].1 ≠ 0) : PrE l (rightE l[k].1)
  | long (hr : ∀ i (hi : i < l.length), rightE l[i].1 = 0) (h : l.length > 256 ∨ sizeTo l l.length > 60000) : PrE l 6
/-- The tar's bytes, the first k entries laid. -/
def tarL (l : List (EN × Value)) (N : Nat) : Nat → List UInt8
  | 0 => List.replicate N 0
  | k + 1 => match l[k]? with
    | none => tarL l N k
    | some e => match partP e.1.name with
      | none => tarL l N k
      | some (p, r) => writeL (tarL l N k) (sizeTo l k - 1024) e.1.kind e.1.mode.toNat e.1.link e.1.data p r
theorem tarL_next {l : List (EN × Value)} {N k : Nat} {p r : List UInt8} (hk : k < l.length) (hp : partP l[k].1.name = some (p, r)) :
    tarL l N (k + 1) = writeL (tarL l N k) (sizeTo l k - 1024) l[k].1.kind l[k].1.mode.toNat l[k].1.link l[k].1.data p r := by
  conv => lhs; unfold tarL
  rw [List.getElem?_eq_getElem hk]
  simp only [hp]
theorem length_tarL {l : List (EN × Value)} (hr : ∀ i (hi : i < l.length), rightE l[i].1 = 0) : ∀ k, k ≤ l.length → (tarL l (sizeTo l l.length) k).length = sizeTo l l.length
  | 0, _ => by simp [tarL]
  | k + 1, hk => by
    have h1 := right_all (hr k (by omega))
    obtain ⟨⟨p, r⟩, hp⟩ := Option.isSome_iff_exists.1 h1.2.2.2.2.2.1
    have h2 := partP_len hp
    have ih := length_tarL hr k (by omega)
    have h3 := sizeTo_mono (l := l) (k := k + 1) (m := l.length) (by omega) (Nat.le_refl _)
    have h4 := sizeTo_next (l := l) (k := k) (by omega)
    have h5 : l[k].1.data.length ≤ filledN l[k].1.data.length := by unfold filledN; omega
    have h6 := sizeTo_ge l k
    rw [tarL_next (by omega) hp, length_writeL (by omega) h2.2 h2.1 (linkOk_len h1.2.2.2.2.2.2.1), ih]
/-- What Print tells. -/
def PrintTo (w : World) (l : List (EN × Value)) (e : Ending) (w' : World) : Prop :=
  Below w.heap.size w w' ∧ ((∃ er, PrE l er ∧ e = .returned (.tuple #[.slice none 0 0, .int .i64 er])) ∨
    ((∀ i (hi : i < l.length), rightE l[i].1 = 0) ∧ l.length ≤ 256 ∧ sizeTo l l.length ≤ 60000 ∧ ∃ g, w.heap.size ≤ g ∧ e = .returned (.tuple #[.slice (some ⟨g, 0, none⟩) (sizeTo l l.length) (sizeTo l l.length), .int .i64 0]) ∧ blkB w' g (tarL l (sizeTo l l.length) l.length)))
set_option maxHeartbeats 8000000 in
set_option maxRecDepth 100000 in
theorem print_any (l : List (EN × Value)) (la : Option Addr) (lc : Nat) (w : World) (h : entsAt w la l) (hl : l.length ≤ 140737488351232) :
    Calls Try.prog 9 #[.slice la l.length lc] w (PrintTo w l) := by
  have H := hid h
  have HL := hid hl
  clear h hl
  go_enter Try.func9, Try.ntmps9
  go_wp2
  go_loopw [13] (fun i wr => ∃ k : Nat, k ≤ l.length ∧ i = .int .i64 k ∧ Hid (Below w.heap.size w wr ∧ ∀ i (hi : i < l.length), i < k → rightE l[i].1 = 0)) (fun i _ => l.length - (intOf i).toNat)
  case atStart => exact ⟨0, by omega, rfl, Below.refl _ _, fun i hi h => by omega⟩
  case round =>
    obtain ⟨k, hk, rfl, hI⟩ := hrel
    by_cases hlt : k < l.length
    · have hk0 : (0 : Int) ≤ (k : Int) := by omega
      have hk1 : (k : Int) < (l.length : Int) := by omega
      have hk2 : k ≤ 140737488351232 := by have := HL.out; omega
      obtain ⟨b, o, rfl, hbw, hrg, hrd⟩ := H.out.up hI.out.1 k hlt
      obtain ⟨c0, c1, c2, c3, c4⟩ := rangeAt5 hrg
      obtain ⟨dao, dcap, hdv, hd1, hd2, -, -⟩ := hrd
      rw [hdv] at c4
      have HRt := hid (fun W => right_len l[k].1.name l[k].1.link l[k].1.data l[k].1.kind l[k].1.mode dao l[k].1.data.length dcap W rfl (by omega))
      have HEe : Hid ((⟨l[k].1.name, l[k].1.kind, l[k].1.mode, l[k].1.link, l[k].1.data⟩ : EN) = l[k].1) := rfl
      rw [HEe.out] at HRt
      have HBad : Hid (rightE l[k].1 ≠ 0 → PrE l (rightE l[k].1)) := fun hn => .bad k hlt hI.out.2 hn
      have HGood : Hid (rightE l[k].1 = 0 → ∀ i (hi : i < l.length), i < k + 1 → rightE l[i].1 = 0) := fun h0 i hi hik => by
        by_cases e : i = k
        · subst e; exact h0
        · exact hI.out.2 i hi (by omega)
      have HB := hid hI.out.1
      generalize rightE l[k].1 = er at *
      generalize l[k].1.name = nm at *
      generalize l[k].1.kind = kd at *
      generalize l[k].1.mode = md at *
      generalize l[k].1.link = lk at *
      generalize l[k].1.data.length = n at *
      clear hrg hbw hdv hI hd1 hd2 HEe
      have hbx := block_new wr (.cells #[str nm, .int .i64 kd, .int .i64 md, str lk, .slice dao n dcap] 31)
      have hBx := (Below.refl wr.heap.size wr).alloc (Nat.le_refl _) (.cells #[str nm, .int .i64 kd, .int .i64 md, str lk, .slice dao n dcap] 31)
      go_upto_region 4 with (fail)
      have HB2 := hid (HB.out.trans (hBx.mono HB.out.size))
      clear c0 c1 c2 c3 c4 hBx HB
      generalize wr.alloc (.cells #[str nm, .int .i64 kd, .int .i64 md, str lk, .slice dao n dcap] 31) = w2 at *
      have d0 : w2.cell? ⟨wr.heap.size, 0, none⟩ = some (str nm) := cell_of_block hbx 0
      have d1 : w2.cell? ⟨wr.heap.size, 1, none⟩ = some (.int .i64 kd) := cell_of_block hbx 1
      have d2 : w2.cell? ⟨wr.heap.size, 2, none⟩ = some (.int .i64 md) := cell_of_block hbx 2
      have d3 : w2.cell? ⟨wr.heap.size, 3, none⟩ = some (str lk) := cell_of_block hbx 3
      have d4 : w2.cell? ⟨wr.heap.size, 4, none⟩ = some (.slice dao n dcap) := cell_of_block hbx 4
      clear hbx
      go_wp2_with fail
      refine (HRt.out w2).mono ?_
      rintro e w3 ⟨rfl, hB3⟩
      have HB3 := hid (HB2.out.trans (hB3.mono HB2.out.size))
      clear HB2 hB3 d0 d1 d2 d3 d4 HRt
      by_cases h0 : er = 0
      · have HG := hid (HGood.out h0)
        subst h0
        clear HGood HBad
        go_wp2
        exact ⟨⟨k + 1, by omega, by go_num, HB3.out, HG.out⟩, by simp [intOf]; omega⟩
      · have e1 : (er != 0) = true := bne_iff_ne.2 h0
        have HP := hid (HBad.out h0)
        clear HGood HBad h0
        go_wp2
        go_ret2
        exact ⟨HB3.out, .inl ⟨_, HP.out, rfl⟩⟩
    · obtain rfl : k = l.length := by omega
      have hge : ¬ ((l.length : Int) < (l.length : Int)) := by omega
      have HB := hid hI.out.1
      have HRi : Hid (∀ i (hi : i < l.length), rightE l[i].1 = 0) := fun i hi => hI.out.2 i hi hi
      clear hI
      by_cases h256 : l.length > 256
      · have q1 : (l.length : Int) > 256 := by omega
        go_wp2
        go_ret2
        exact ⟨HB.out, .inl ⟨_, .long HRi.out (.inl h256), rfl⟩⟩
      · have q1 : ¬ ((l.length : Int) > 256) := by omega
        have HTb := hid (fun W hB => tarBytes_any l la lc W (H.out.up (w' := W) hB) (by omega) (fun i hi => right_data (HRi.out i hi)))
        have HN256 := hid (Nat.le_of_not_lt h256)
        clear h256
        go_wp2_with fail
        refine (HTb.out wr HB.out).mono ?_
        rintro e w2 ⟨rfl, hB2⟩
        have HB2 := hid (HB.out.trans (hB2.mono HB.out.size))
        clear HB hB2
        obtain ⟨N, hN⟩ : ∃ N, N = sizeTo l l.length := ⟨_, rfl⟩
        rw [← hN]
        rw [← hN] at HTb
        have HEN := hid hN
        clear hN
        by_cases h6 : N > 60000
        · have q2 : (N : Int) > 60000 := by omega
          go_wp2
          go_ret2
          exact ⟨HB2.out, .inl ⟨_, .long HRi.out (.inr (by rw [← HEN.out]; exact h6)), rfl⟩⟩
        · have q2 : ¬ ((60000 : Int) < (N : Int)) := by omega
          have q2' : decide ((60000 : Int) < (N : Int)) = false := decide_eq_false q2
          have HN6 := hid (Nat.le_of_not_lt h6)
          have hnN : N ≤ 60000 := by omega
          clear h6
          go_wp2_with fail
          refine (HTb.out w2 HB2.out).mono ?_
          rintro e w3 ⟨rfl, hB3⟩
          have HB3 := hid (HB2.out.trans (hB3.mono HB2.out.size))
          clear HB2 hB3 HTb
          go_wp2_with (refine wpList_make_bytes rfl (.tmp 32) (.tmp 32) 23 rfl 5 Try.underlying23 infoU (N : Int) (N : Int) N N rfl rfl rfl rfl (Nat.le_refl _) (by omega) ?_; intro w4 hB4 hb4 hs4; have HB4 := hid hB4; have HBl := hid hb4; clear hB4 hb4 hs4)
          have HW : Hid (w.heap.size ≤ w3.heap.size) := HB3.out.size
          have HB5 : Hid (Below w.heap.size w w4) := HB3.out.trans (HB4.out.mono HB3.out.size)
          clear HB3 HB4
          generalize w3.heap.size = g at *
          go_loopw [37, 8] (fun i rs wr => ∃ k : Nat, k ≤ l.length ∧ i = .int .i64 k ∧ rs = .slice (some ⟨g, sizeTo l k - 1024, none⟩) (N - (sizeTo l k - 1024)) (N - (sizeTo l k - 1024)) ∧ Hid (Below w.heap.size w wr ∧ blkB wr g (tarL l N k))) (fun i _ _ => l.length - (intOf i).toNat)
          case atStart => exact ⟨0, by omega, rfl, rfl, HB5.out, HBl.out⟩
          case round =>
            obtain ⟨k, hk, rfl, rfl, hI⟩ := hrel
            by_cases hlt : k < l.length
            · have hk0 : (0 : Int) ≤ (k : Int) := by omega
              have hk1 : (k : Int) < (l.length : Int) := by omega
              have hk2 : k ≤ 256 := by have := HN256.out; omega
              obtain ⟨b, o, rfl, hbw, hrg, hrd⟩ := H.out.up hI.out.1 k hlt
              obtain ⟨c0, c1, c2, c3, c4⟩ := rangeAt5 hrg
              have h1 := right_all (HRi.out k hlt)
              obtain ⟨⟨p, r⟩, hp⟩ := Option.isSome_iff_exists.1 h1.2.2.2.2.2.1
              have h2 := partP_len hp
              have h3 := sizeTo_mono (l := l) (k := k + 1) (m := l.length) (by omega) (Nat.le_refl _)
              have h4 := sizeTo_next (l := l) (k := k) hlt
              have h6 := sizeTo_ge l k
              have hlen : (tarL l N k).length = N := by rw [HEN.out]; exact length_tarL HRi.out k (by omega)
              rw [← HEN.out] at h3
              have hrd0 : Rd w l[k].2 l[k].1.data := by obtain ⟨_, _, _, _, _, h⟩ := H.out k hlt; exact h
              have hm : l[k].1.mode = (l[k].1.mode.toNat : Nat) := by omega
              have HNx := hid (tarL_next (N := N) hlt hp)
              obtain ⟨dao, dcap, hdv, hd1, hd2, -, -⟩ := hrd
              rw [hdv] at c4
              rw [hm] at c2
              have HWr := hid (fun W (hB : Below w.heap.size w W) (hb : blkB W g (tarL l N k)) => write_any g (sizeTo l k - 1024) (N - (sizeTo l k - 1024)) (tarL l N k) l[k].1.name l[k].1.link l[k].1.data p r l[k].1.kind l[k].1.mode.toNat dcap dao W hb (by omega) (by omega) (by rw [hlen]; exact HN6.out) hp (textOk_all h1.2.2.2.2.1).2.1 h2.2 h2.1 (linkOk_len h1.2.2.2.2.2.2.1) h1.1 h1.2.1 (by omega) h1.2.2.2.2.2.2.2.2 (fun W' hg => by rw [← hdv]; exact hrd0.up (below_grown hB hg HW.out hB.size)))
              have HSz := hid h4
              have hsz0 : sizeTo l k - 1024 + (512 + filledN l[k].1.data.length) = sizeTo l (k + 1) - 1024 := by omega
              have hsz1 : N - (sizeTo l k - 1024) - (512 + filledN l[k].1.data.length) = N - (sizeTo l (k + 1) - 1024) := by omega
              rw [hsz0, hsz1, ← HNx.out] at HWr
              generalize l[k].1.name = nm at *
              generalize l[k].1.kind = kd at *
              generalize l[k].1.mode.toNat = md at *
              generalize l[k].1.link = lk at *
              generalize l[k].1.data.length = n at *
              clear hrg hbw hdv hd1 hd2 h1 hp h2 h3 h4 h6 hlen hrd0 hm HNx HSz hsz0 hsz1
              generalize sizeTo l k - 1024 = so at *
              generalize N - so = sn at *
              have HB := hid hI.out.1
              have HTb := hid hI.out.2
              clear hI
              have hbx := block_new wr (.cells #[str nm, .int .i64 kd, .int .i64 (md : Nat), str lk, .slice dao n dcap] 31)
              have hBx := (Below.refl wr.heap.size wr).alloc (Nat.le_refl _) (.cells #[str nm, .int .i64 kd, .int .i64 (md : Nat), str lk, .slice dao n dcap] 31)
              go_upto_region 15 with (fail)
              have HB2 := hid (HB.out.trans (hBx.mono HB.out.size))
              have HTb2 : Hid (blkB _ g _) := below_block hBx HTb.out (lt_of_heap HTb.out)
              clear c0 c1 c2 c3 c4 hBx HB HTb
              generalize wr.alloc (.cells #[str nm, .int .i64 kd, .int .i64 (md : Nat), str lk, .slice dao n dcap] 31) = w2 at *
              have d0 : w2.cell? ⟨wr.heap.size, 0, none⟩ = some (str nm) := cell_of_block hbx 0
              have d1 : w2.cell? ⟨wr.heap.size, 1, none⟩ = some (.int .i64 kd) := cell_of_block hbx 1
              have d2 : w2.cell? ⟨wr.heap.size, 2, none⟩ = some (.int .i64 (md : Nat)) := cell_of_block hbx 2
              have d3 : w2.cell? ⟨wr.heap.size, 3, none⟩ = some (str lk) := cell_of_block hbx 3
              have d4 : w2.cell? ⟨wr.heap.size, 4, none⟩ = some (.slice dao n dcap) := cell_of_block hbx 4
              clear hbx
              go_wp2_with fail
              refine (HWr.out w2 HB2.out HTb2.out).mono ?_
              rintro e w3 ⟨rfl, hb3, hg3⟩
              have HR : Hid (Below w.heap.size w w3 ∧ blkB w3 g (tarL l N (k + 1))) := ⟨below_grown HB2.out hg3 HW.out HB2.out.size, hb3⟩
              clear HB2 hb3 hg3 d0 d1 d2 d3 d4 HWr HTb2
              go_wp2
              exact ⟨⟨k + 1, by omega, by go_num, rfl, HR⟩, by simp [intOf]; omega⟩
            · obtain rfl : k = l.length := by omega
              have hge : ¬ ((l.length : Int) < (l.length : Int)) := by omega
              go_wp2
              go_ret2
              refine ⟨hI.out.1, .inr ⟨HRi.out, HN256.out, by rw [← HEN.out]; exact HN6.out, g, HW.out, by rw [← HEN.out]; rfl, by rw [← HEN.out]; exact hI.out.2⟩⟩
end Go.Proofs.Ytdfnhgkabaikaaa
