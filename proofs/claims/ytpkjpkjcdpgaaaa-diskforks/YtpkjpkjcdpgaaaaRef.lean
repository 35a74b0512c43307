/- The reference disk: how it lies in memory; look, Copy, do, Write, Flush. -/
import Derived.Test.YtpkjpkjcdpgaaaaFlush2
namespace Go.Proofs.Ytpkjpkjcdpgaaaa
open Go.RowKit
/-- An op of the reference. -/
structure ROp where
  flush : Bool
  n : Int
  b : List UInt8
/-- The reference disk. -/
structure RefS where
  first : List (List UInt8)
  l : List ROp
/-- Where a slice points lies in Rd. -/
def inRd (Rd : Nat → Prop) (a : Option Addr) : Prop := ∀ ad, a = some ad → Rd ad.block
/-- The cells of ops, whose bytes are the slices vs. -/
def opCells (l : List ROp) (vs : List Value) : List Value := (l.zip vs).flatMap (fun p => [.bool p.1.flush, .int .i64 p.1.n, p.2])
theorem opCells_snoc (l : List ROp) (vs : List Value) (h : l.length = vs.length) (o : ROp) (v : Value) : opCells (l ++ [o]) (vs ++ [v]) = opCells l vs ++ [.bool o.flush, .int .i64 o.n, v] := by
  unfold opCells
  rw [List.zip_append h]
  simp
theorem length_opCells (l : List ROp) (vs : List Value) (h : l.length = vs.length) : (opCells l vs).length = l.length * 3 := by
  unfold opCells
  rw [List.length_flatMap]
  simp [h, List.map_const', List.sum_replicate_nat]
structure RefIn (w : World) (r : Nat) (fv lv : Value) (vs : List Value) (Rd : Nat → Prop) (R : RefS) : Prop where
  heap : w.heap[r]? = some (.cells #[fv, lv] 76 (0, 0))
  rd : ¬ Rd r
  first : ∃ a c, fv = .slice a R.first.length c ∧ rowsAt w a R.first ∧ inRd Rd a
  firstRd : ∀ a c, fv = .slice a R.first.length c → ∀ b o, a = some ⟨b, o, none⟩ → ∀ i, i < R.first.length → ∀ a' n' c', w.cell? ⟨b, o + i, none⟩ = some (.slice a' n' c') → inRd Rd a'
  ops : w.ownsRow 0 78 3 lv R.l.length (opCells R.l vs)
  opsRd : ∀ i, lv.ownBlock = some i → Rd i
  len : R.l.length = vs.length
  nilv : R.l = [] → lv = .slice none 0 0
  bytes : ∀ j (hj : j < R.l.length) (hj' : j < vs.length), ∃ a c, vs[j] = .slice a (R.l[j]).b.length c ∧ bytesIn w a (R.l[j]).b ∧ inRd Rd a
theorem bytesIn.keep {w w' : World} {a : Option Addr} {l : List UInt8} {G Rd : Nat → Prop} (h : bytesIn w a l) (k : Keeps G w w') (hr : inRd Rd a) (hG : ∀ i, Rd i → ¬ G i) : bytesIn w' a l := fun j hj => by
  obtain ⟨b, o, e, hc⟩ := h j hj
  exact ⟨b, o, e, fun i hi => k.cell (hc i hi) (hG b (hr _ e))⟩
theorem RefIn.keep {w w' : World} {r : Nat} {fv lv : Value} {vs : List Value} {Rd G : Nat → Prop} {R : RefS} (h : RefIn w r fv lv vs Rd R) (k : Keeps G w w') (hG : ∀ i, Rd i → ¬ G i) (hGr : ¬ G r) : RefIn w' r fv lv vs Rd R where
  heap := k.heap h.heap hGr
  rd := h.rd
  first := by
    obtain ⟨a, c, e, hr, hi⟩ := h.first
    refine ⟨a, c, e, fun j hj => ?_, hi⟩
    obtain ⟨b, o, e2, hc⟩ := hr j hj
    refine ⟨b, o, e2, fun i hi' => ?_⟩
    obtain ⟨a', c', h1, h2⟩ := hc i hi'
    exact ⟨a', c', k.cell h1 (hG b (hi _ e2)), h2.keep k (h.firstRd a c e b o e2 i hi' a' _ c' h1) hG⟩
  firstRd := by
    intro a c e b o e2 i hi a' n' c' hcell
    obtain ⟨a0, c0, e0, hr, hi0⟩ := h.first
    rw [e0] at e
    simp only [Value.slice.injEq] at e
    obtain ⟨rfl, _, rfl⟩ := e
    obtain ⟨b1, o1, e3, hc⟩ := hr i hi
    rw [e2] at e3
    simp only [Option.some.injEq, Addr.mk.injEq, and_true] at e3
    obtain ⟨rfl, rfl⟩ := e3
    obtain ⟨a1, c1, h1, _⟩ := hc i hi
    have h2 := k.cell h1 (hG b (hi0 _ e2))
    rw [hcell] at h2
    simp only [Option.some.injEq, Value.slice.injEq] at h2
    obtain ⟨rfl, _, rfl⟩ := h2
    exact h.firstRd a0 c0 e0 b o e2 i hi _ _ _ h1
  ops := k.row h.ops (fun i hi => hG i (h.opsRd i hi))
  opsRd := h.opsRd
  len := h.len
  nilv := h.nilv
  bytes := fun j hj hj' => by
    obtain ⟨a, c, e, hb, hi⟩ := h.bytes j hj hj'
    exact ⟨a, c, e, hb.keep k hi hG, hi⟩
theorem RefIn.moreRd {w : World} {r : Nat} {fv lv : Value} {vs : List Value} {Rd Rd' : Nat → Prop} {R : RefS} (h : RefIn w r fv lv vs Rd R) (hR : ∀ i, Rd i → Rd' i) (hr : ¬ Rd' r) : RefIn w r fv lv vs Rd' R where
  heap := h.heap
  rd := hr
  first := by obtain ⟨a, c, e, hr, hi⟩ := h.first; exact ⟨a, c, e, hr, fun ad ha => hR _ (hi ad ha)⟩
  firstRd := fun a c e b o e2 i hi a' n' c' hc ad ha => hR _ (h.firstRd a c e b o e2 i hi a' n' c' hc ad ha)
  ops := h.ops
  opsRd := fun i hi => hR _ (h.opsRd i hi)
  len := h.len
  nilv := h.nilv
  bytes := fun j hj hj' => by
    obtain ⟨a, c, e, hb, hi⟩ := h.bytes j hj hj'
    exact ⟨a, c, e, hb, fun ad ha => hR _ (hi ad ha)⟩
/-- What look answers. -/
def lookR (R : RefS) (n : Int) : Int := if 0 ≤ n ∧ n < R.first.length then 0 else 2
set_option maxRecDepth 10000 in
theorem look_any (r : Nat) (fv lv : Value) (vs : List Value) (Rd : Nat → Prop) (R : RefS) (n : Int) (w : World) (h : RefIn w r fv lv vs Rd R) :
    Calls Try.prog 38 #[.pointer (some ⟨r, 0, none⟩), .int .i64 n] w fun e w' => e = .returned (.int .i64 (lookR R n)) ∧ w' = w := by
  obtain ⟨a, c, rfl, _, _⟩ := h.first
  have c0 : w.cell? ⟨r, 0, none⟩ = some (.slice a R.first.length c) := by rw [cell_of_block h.heap]; rfl
  clear h
  by_cases h0 : 0 ≤ n
  · by_cases h1 : n < R.first.length
    · have e : lookR R n = 0 := by rw [lookR, if_pos ⟨h0, h1⟩]
      rw [e]
      clear e
      go_enter Try.func38, Try.ntmps38
      go_wp2
      go_ret
      exact ⟨rfl, rfl⟩
    · have e : lookR R n = 2 := by rw [lookR, if_neg (fun h => h1 h.2)]
      rw [e]
      clear e
      go_enter Try.func38, Try.ntmps38
      go_wp2
      go_ret
      exact ⟨rfl, rfl⟩
  · have e : lookR R n = 2 := by rw [lookR, if_neg (fun h => h0 h.1)]
    rw [e]
    clear e
    go_enter Try.func38, Try.ntmps38
    go_wp2
    go_ret
    exact ⟨rfl, rfl⟩
theorem cells_of_bytes {w : World} {b o : Nat} {l : List UInt8} (h : ∀ i (hi : i < l.length), w.cell? ⟨b, o + i, none⟩ = some (.int .u8 (l[i].toNat : Int))) : ∀ j u, (l.map (fun x : UInt8 => Value.int .u8 (x.toNat : Int)))[j]? = some u → w.cell? ((⟨b, o, none⟩ : Addr).add j) = some u := fun j u hu => by
  have hj : j < l.length := by have := (List.getElem?_eq_some_iff.1 hu).1; simpa using this
  rw [Addr.add_mid, h j hj]
  simpa [hj] using hu
set_option maxRecDepth 100000 in
set_option maxHeartbeats 1000000 in
theorem copy_any (l : List UInt8) (a : Option Addr) (c : Nat) (w : World) (h : bytesIn w a l) (hp : 0 < l.length) (hm : l.length ≤ 1048576) :
    Calls Try.prog 39 #[.slice a l.length c] w fun e w' => ∃ g cap, e = .returned (.slice (some ⟨g, 0, none⟩) l.length cap) ∧ bytesIn w' (some ⟨g, 0, none⟩) l ∧ w.heap.size ≤ g ∧ g < w'.heap.size ∧ Below w.heap.size w w' := by
  obtain ⟨b, o, rfl, hc⟩ := h 0 hp
  obtain ⟨i0, hi, hz0, hz1, hz2⟩ := info_parts infoU8
  have HI := hid hi
  have HC := hid (cells_of_bytes hc)
  clear hi h hc
  go_enter Try.func39, Try.ntmps39
  go_wp2_with (refine wpList_append_lies _ rfl (.tmp 4) (.tmp 5) 28 rfl w.heap.size 5 i0 (.int .u8 0) 1 1 Try.underlying28 HI.out hz0 hz1 hz2 rfl (by omega) (.slice none 0 0) 0 [] rfl (World.ownsRow_nil _ _ _ _) ⟨b, o, none⟩ l.length c (l.map (fun x : UInt8 => Value.int .u8 (x.toNat : Int))) rfl (by simp) HC.out (by intro u hu; obtain ⟨x, _, rfl⟩ := List.mem_map.1 hu; rfl) hp (by unfold maxLen; omega) (by omega) (Nat.le_refl _) w.heap.size rfl ?_; intro g cap w1 hown hgr hat hlt; have HO := hid hown; have HG := hid hgr; clear hown hgr hat hlt)
  go_ret
  have hl := HO.out.lt g rfl
  rw [Nat.zero_add, List.nil_append] at HO
  refine ⟨g, cap, by simp, fun j hj => ⟨g, 0, rfl, fun i hi => ?_⟩, hl.1, hl.2, below_of_row HG.out (Nat.le_refl _) (fun i e => by cases e)⟩
  rw [Nat.zero_add, HO.out.cellAt i (by omega)]
  simp [hi]
end Go.Proofs.Ytpkjpkjcdpgaaaa
