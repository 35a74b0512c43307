/- What a disk is, in plain words (DiskS), and how it lies in memory (DiskIn). -/
import Derived.Test.YtoeiodiadanhkaaGreatFrame
import Derived.Test.YtoeiodiadanhkaaGreatProg
import Derived.Deep.AppendLies
import Derived.Maps.OwnOps
import Derived.WalkArith
namespace Go.Proofs.YtoeiodiadanhkaaGreat
open Go.RowKit Go.Maps
/-- A write of a sector, or a flush. -/
inductive OpS where
  | write (n : Int) (s : ByteArray)
  | flush
/-- An op as the program's value. -/
def encOp : OpS → Value
  | .write n s => .iface 153 (.agg #[.int .i64 n, .string s])
  | .flush => .iface 155 (.agg #[])
theorem encOp_one (o : OpS) : (encOp o).oneCell' = true := by cases o <;> rfl
/-- A disk: its first sectors, its ops, what is safe, what waits. -/
structure DiskS where
  first : List ByteArray
  ops : List OpS
  safe : List ByteArray
  waits : Int → List ByteArray
/-- One value more. -/
def upd (f : Int → List ByteArray) (n : Int) (x : List ByteArray) : Int → List ByteArray := fun k => if k = n then x else f k
theorem upd_same (f : Int → List ByteArray) (n : Int) (x : List ByteArray) : upd f n x n = x := by simp [upd]
theorem upd_other (f : Int → List ByteArray) {n k : Int} (x : List ByteArray) (h : k ≠ n) : upd f n x k = f k := by simp [upd, h]
/-- How many ops a disk may have here. -/
def opsMax : Nat := 1000000000
theorem opsMax_len {n : Nat} (h : n < opsMax) : n + 1 ≤ maxLen ∧ (n + 1) * 16 ≤ 140737488355328 ∧ n < maxLen := by unfold opsMax at h; unfold maxLen; omega
/-- Where the sectors lie that are safe, the map of what waits, what it reads as, and of each sector the row of its writes. -/
structure PL where
  g : Nat
  cap : Nat
  m : Nat
  D : DataW Value
  row : Int → Nat
  rcap : Int → Nat
def PL.safeV (L : PL) (n : Nat) : Value := .slice (some ⟨L.g, 0, none⟩) n L.cap
/-- What the map has of a sector. -/
def PL.rowV (L : PL) (waits : Int → List ByteArray) (n : Int) : Value := if waits n = [] then .slice none 0 0 else .slice (some ⟨L.row n, 0, none⟩) (waits n).length (L.rcap n)
/-- The blocks that are written when it changes. -/
def PL.foot (L : PL) (waits : Int → List ByteArray) (i : Nat) : Prop := i = L.g ∨ i = L.m ∨ ∃ n, waits n ≠ [] ∧ i = L.row n
abbrev strs (l : List ByteArray) : List Value := l.map Value.string
theorem strs_one (l : List ByteArray) : ∀ u ∈ strs l, u.oneCell' = true := by
  intro u hu; obtain ⟨s, _, rfl⟩ := List.mem_map.1 hu; rfl
structure PlatesIn (w : World) (L : PL) (safe : List ByteArray) (waits : Int → List ByteArray) (B : Nat) : Prop where
  safeRow : w.ownsRow 0 108 1 (.slice (some ⟨L.g, 0, none⟩) safe.length L.cap) safe.length (strs safe)
  mapOwn : w.ownsMap Tryz.prog 3 selfElem L.m B L.D
  absent : ∀ n, waits n = [] → Maps.has L.D (.int .i64 n) = false
  there : ∀ n, waits n ≠ [] → Maps.has L.D (.int .i64 n) = true
  held : ∀ n, waits n ≠ [] → ∀ z, L.D.atKey (.int .i64 n) z = .held (.slice (some ⟨L.row n, 0, none⟩) (waits n).length (L.rcap n))
  rows : ∀ n, waits n ≠ [] → w.ownsRow 0 108 1 (.slice (some ⟨L.row n, 0, none⟩) (waits n).length (L.rcap n)) (waits n).length (strs (waits n))
  off : ∀ n, waits n ≠ [] → L.row n ≠ L.g
  apart : ∀ n n', waits n ≠ [] → waits n' ≠ [] → L.row n = L.row n' → n = n'
  len : ∀ n, (waits n).length ≤ B
  dom : ∀ n, waits n ≠ [] → 0 ≤ n ∧ n < safe.length
  pos : 0 < safe.length
  most : safe.length ≤ 4096
variable {w w' : World} {L : PL} {safe : List ByteArray} {waits : Int → List ByteArray} {B : Nat}
theorem PlatesIn.foot_block (h : PlatesIn w L safe waits B) {i : Nat} (hi : L.foot waits i) : (∃ cur, w.heap[i]? = some (.cells cur 108 (0, 0))) ∨ ∃ es c, w.heap[i]? = some (.map es c) := by
  rcases hi with rfl | rfl | ⟨n, hn, rfl⟩
  · obtain ⟨cur, hc, _⟩ := row_block h.safeRow; exact .inl ⟨cur, hc⟩
  · obtain ⟨es, c, hm⟩ := map_block h.mapOwn; exact .inr ⟨es, c, hm⟩
  · obtain ⟨cur, hc, _⟩ := row_block (h.rows n hn); exact .inl ⟨cur, hc⟩
theorem PlatesIn.foot_lt (h : PlatesIn w L safe waits B) {i : Nat} (hi : L.foot waits i) : i < w.heap.size := by
  rcases h.foot_block hi with ⟨_, hc⟩ | ⟨_, _, hc⟩ <;> exact lt_of_heap hc
/-- A block that holds cells of another type is none of them. -/
theorem PlatesIn.foot_other (h : PlatesIn w L safe waits B) {i : Nat} {cs : Array Value} {t : TypeId} {fr : Nat × Nat} (hi : w.heap[i]? = some (.cells cs t fr)) (ht : t ≠ 108) : ¬ L.foot waits i := by
  intro hf
  rcases h.foot_block hf with ⟨_, hc⟩ | ⟨_, _, hc⟩
  · rw [hi] at hc; simp only [Option.some.injEq, Obj.cells.injEq] at hc; exact ht hc.2.1
  · rw [hi] at hc; cases hc
theorem PlatesIn.keep (h : PlatesIn w L safe waits B) {G : Nat → Prop} (k : Keeps G w w') (hG : ∀ i, L.foot waits i → ¬ G i) : PlatesIn w' L safe waits B where
  safeRow := k.row h.safeRow (fun i hi => hG i (.inl (Option.some.inj hi).symm))
  mapOwn := k.map h.mapOwn (hG _ (.inr (.inl rfl)))
  absent := h.absent
  there := h.there
  held := h.held
  rows := fun n hn => k.row (h.rows n hn) (fun i hi => hG i (.inr (.inr ⟨n, hn, (Option.some.inj hi).symm⟩)))
  off := h.off
  apart := h.apart
  len := h.len
  dom := h.dom
  pos := h.pos
  most := h.most
theorem zeroSecs (w : World) : (zeroValue 92).run Tryz.prog w = .ok (.slice none 0 0) w := Tryz.zeroValue92 w
theorem keyI {n : Int} (h0 : -9223372036854775808 ≤ n) (h1 : n < 9223372036854775808) : keyOf Tryz.prog 3 (.int .i64 n) = some (.int .i64 n) := by
  refine keyOf_int_mk Tryz.underlying3 ?_
  exact WalkArith.wf_i64 ⟨h0, by omega⟩
theorem PlatesIn.look (h : PlatesIn w L safe waits B) (n : Int) (h0 : 0 ≤ n) (h1 : n < safe.length) (W : World) (hW : W.heap = w.heap) : (Instr.lookup 94 (.map (some L.m)) (.int .i64 n) false).run Tryz.prog W = .ok (L.rowV waits n) W := by
  have hmost := h.most
  have hmap : W.ownsMap Tryz.prog 3 selfElem L.m B L.D := by
    obtain ⟨es, c, hb, r⟩ := h.mapOwn; exact ⟨es, c, by rw [hW]; exact hb, r⟩
  obtain ⟨v, hr, hv⟩ := self_lookup hmap (int_keyed Tryz.underlying3) Tryz.underlying94 (zeroSecs W) (keyI (n := n) (by omega) (by omega))
  rw [hr]
  by_cases hn : waits n = []
  · rw [atKey_of_not_has (h.absent n hn)] at hv
    rw [PL.rowV, if_pos hn, ← DataW.held.inj hv]
  · rw [h.held n hn] at hv
    rw [PL.rowV, if_neg hn, DataW.held.inj hv]
theorem PlatesIn.look2 (h : PlatesIn w L safe waits B) (n : Int) (h0 : 0 ≤ n) (h1 : n < safe.length) (W : World) (k : Keeps (fun _ => False) w W) : (Instr.lookup 94 (.map (some L.m)) (.int .i64 n) false).run Tryz.prog W = .ok (L.rowV waits n) W :=
  (h.keep k (fun _ _ e => e)).look n h0 h1 W rfl
theorem PlatesIn.rowOwn (h : PlatesIn w L safe waits B) (n : Int) : w.ownsRow 0 108 1 (L.rowV waits n) (waits n).length (strs (waits n)) := by
  by_cases hn : waits n = []
  · simp only [PL.rowV, hn]; exact World.ownsRow_nil _ _ _ _
  · simp only [PL.rowV, if_neg hn]; exact h.rows n hn
theorem PL.rowV_block {n : Int} {i : Nat} (h : (L.rowV waits n).ownBlock = some i) : waits n ≠ [] ∧ i = L.row n := by
  by_cases hn : waits n = []
  · simp [PL.rowV, hn, Value.ownBlock] at h
  · simp [PL.rowV, hn, Value.ownBlock] at h; exact ⟨hn, h.symm⟩
/-- Behind 'append(waits[n], s)', ahead of the store. -/
theorem PlatesIn.mid (h : PlatesIn w L safe waits B) {n : Int} {w0 w1 : World} (k0 : Below w.heap.size w w0) (hgr : w0.grownBy w1 (L.rowV waits n).ownBlock) :
    w1.ownsMap Tryz.prog 3 selfElem L.m B L.D ∧ (∀ i o, w0.heap[i]? = some o → ¬ L.foot waits i → w1.heap[i]? = some o) := by
  have hf : ∀ i, (L.rowV waits n).ownBlock = some i → L.foot waits i := fun i e => by
    obtain ⟨hn, e'⟩ := PL.rowV_block e; exact .inr (.inr ⟨n, hn, e'⟩)
  have K1 : Keeps (fun i => (L.rowV waits n).ownBlock = some i) w w1 := (Keeps.of_below k0).trans (Keeps.of_grown hgr (fun i e => e)) (fun i e => .inl e)
  refine ⟨K1.map h.mapOwn (fun he => ?_), fun i o hi hn => (hgr.block i (lt_of_heap hi) (fun e => hn (hf i e.symm))).trans hi⟩
  obtain ⟨es, mc, hmb⟩ := map_block h.mapOwn
  obtain ⟨hn, e'⟩ := PL.rowV_block he
  obtain ⟨c, hc, _⟩ := row_block (h.rows n hn)
  rw [← e', hmb] at hc; cases hc
/-- Behind 'waits[n] = append(waits[n], s)'. -/
theorem PlatesIn.wrote (h : PlatesIn w L safe waits B) {n : Int} (h0 : 0 ≤ n) (h1 : n < safe.length) {s : ByteArray} {w0 w1 w2 : World} {g cap : Nat} (k0 : Below w.heap.size w w0)
    (hown : w1.ownsRow 0 108 1 (.slice (some ⟨g, 0, none⟩) ((waits n).length + 1) cap) ((waits n).length + 1) (strs (waits n) ++ [.string s]))
    (hgr : w0.grownBy w1 (L.rowV waits n).ownBlock) (hat : (L.rowV waits n).ownBlock = some g ∨ g = w0.heap.size)
    (hmap : w2.ownsMap Tryz.prog 3 selfElem L.m (B + 1) (L.D.put (.int .i64 n) (.held (.slice (some ⟨g, 0, none⟩) ((waits n).length + 1) cap)))) (hgr2 : w1.grownBy w2 (some L.m)) :
    PlatesIn w2 { L with D := L.D.put (.int .i64 n) (.held (.slice (some ⟨g, 0, none⟩) ((waits n).length + 1) cap)), row := fun k => if k = n then g else L.row k, rcap := fun k => if k = n then cap else L.rcap k } safe (upd waits n (waits n ++ [s])) (B + 1) ∧
      (∀ i, ({ L with D := L.D.put (.int .i64 n) (.held (.slice (some ⟨g, 0, none⟩) ((waits n).length + 1) cap)), row := fun k => if k = n then g else L.row k, rcap := fun k => if k = n then cap else L.rcap k } : PL).foot (upd waits n (waits n ++ [s])) i → L.foot waits i ∨ w.heap.size ≤ i) ∧ Keeps (L.foot waits) w w2 := by
  have hold : g < w.heap.size → waits n ≠ [] ∧ g = L.row n := fun hlt => by
    rcases hat with e | e
    · exact PL.rowV_block e
    · have := k0.size; omega
  have K1 : Keeps (fun i => (L.rowV waits n).ownBlock = some i) w w1 := (Keeps.of_below k0).trans (Keeps.of_grown hgr (fun i e => e)) (fun i e => .inl e)
  have K2 : Keeps (fun i => (L.rowV waits n).ownBlock = some i ∨ i = L.m) w w2 := (K1.mono (fun _ => .inl)).grown hgr2 (fun i e => .inl (.inr (Option.some.inj e).symm))
  obtain ⟨es, mc, hmb⟩ := map_block h.mapOwn
  obtain ⟨gc, hgb, _⟩ := row_block h.safeRow
  obtain ⟨rc, hrb, _⟩ := row_block hown
  obtain ⟨es2, mc2, hmb2⟩ := map_block hmap
  have hgm : g ≠ L.m := by
    intro e
    have hm1 : w1.heap[L.m]? = some (.map es mc) := K1.heap hmb (fun he => by
      obtain ⟨hn, e'⟩ := PL.rowV_block he
      obtain ⟨c, hc, _⟩ := row_block (h.rows n hn)
      rw [← e'] at hc; rw [hmb] at hc; cases hc)
    rw [← e, hrb] at hm1; cases hm1
  have hmL : L.m ≠ L.g := fun e => by rw [e, hgb] at hmb; cases hmb
  have hrm : ∀ k, waits k ≠ [] → L.row k ≠ L.m := fun k hk e => by
    obtain ⟨c, hc, _⟩ := row_block (h.rows k hk)
    rw [e, hmb] at hc; cases hc
  have hbig : ∀ k, waits k ≠ [] → k ≠ n → L.row k ≠ g := fun k hk hkn e => by
    have hlt : L.row k < w.heap.size := h.foot_lt (.inr (.inr ⟨k, hk, rfl⟩))
    obtain ⟨hn, e'⟩ := hold (by rw [← e]; exact hlt)
    exact hkn (h.apart k n hk hn (e.trans e'))
  have hgg : g ≠ L.g := fun e => by
    obtain ⟨hn, e'⟩ := hold (by rw [e]; exact h.foot_lt (.inl rfl))
    exact h.off n hn (e'.symm.trans e)
  refine ⟨⟨?_, hmap, ?_, ?_, ?_, ?_, ?_, ?_, ?_, ?_, h.pos, h.most⟩, fun i hi => ?_, K2.mono (fun i e => ?_)⟩
  · refine K2.row h.safeRow (fun i hi => ?_)
    obtain rfl : L.g = i := Option.some.inj hi
    rintro (e | e)
    · obtain ⟨hn, e'⟩ := PL.rowV_block e; exact h.off n hn e'.symm
    · exact hmL e.symm
  · intro k hk
    by_cases hkn : k = n
    · subst hkn; rw [upd_same] at hk; simp at hk
    · rw [upd_other _ _ hkn] at hk
      rw [has_put_other (by simpa using hkn)]; exact h.absent k hk
  · intro k hk
    by_cases hkn : k = n
    · subst hkn; exact has_put_same h.mapOwn.isMap (keyLit_i64 _) _
    · rw [upd_other _ _ hkn] at hk
      rw [has_put_other (by simpa using hkn)]; exact h.there k hk
  · intro k hk z
    by_cases hkn : k = n
    · subst hkn
      rw [atKey_put_same h.mapOwn.isMap (keyLit_i64 _)]
      simp [upd_same]
    · rw [upd_other _ _ hkn] at hk
      rw [atKey_put_other (by simpa using hkn), h.held k hk]
      simp [upd_other _ _ hkn, hkn]
  · intro k hk
    by_cases hkn : k = n
    · subst hkn
      simp only [upd_same, if_true, List.length_append, List.length_cons, List.length_nil, Nat.zero_add]
      have := hown.kept hgr2 (.inr (fun e => hgm (by simpa [Value.ownBlock] using e)))
      simpa [strs] using this
    · rw [upd_other _ _ hkn] at hk
      simp only [upd_other _ _ hkn, hkn, if_false]
      refine K2.row (h.rows k hk) (fun i hi => ?_)
      obtain rfl : L.row k = i := Option.some.inj hi
      rintro (e | e)
      · obtain ⟨hn, e'⟩ := PL.rowV_block e; exact hkn (h.apart k n hk hn e')
      · exact hrm k hk e
  · intro k hk
    by_cases hkn : k = n
    · subst hkn; simpa using hgg
    · rw [upd_other _ _ hkn] at hk
      simpa [hkn] using h.off k hk
  · intro k k' hk hk' e
    by_cases hkn : k = n
    · by_cases hkn' : k' = n
      · rw [hkn, hkn']
      · rw [upd_other _ _ hkn'] at hk'
        simp only [hkn, hkn', if_true, if_false] at e
        exact absurd e.symm (hbig k' hk' hkn')
    · by_cases hkn' : k' = n
      · rw [upd_other _ _ hkn] at hk
        simp only [hkn, hkn', if_true, if_false] at e
        exact absurd e (hbig k hk hkn)
      · rw [upd_other _ _ hkn] at hk
        rw [upd_other _ _ hkn'] at hk'
        simp only [hkn, hkn', if_false] at e
        exact h.apart k k' hk hk' e
  · intro k
    by_cases hkn : k = n
    · subst hkn; rw [upd_same]; have := h.len k; simp; omega
    · rw [upd_other _ _ hkn]; have := h.len k; omega
  · intro k hk
    by_cases hkn : k = n
    · subst hkn; exact ⟨h0, h1⟩
    · rw [upd_other _ _ hkn] at hk; exact h.dom k hk
  · rcases hi with e | e | ⟨k, hk, e⟩
    · exact .inl (.inl e)
    · exact .inl (.inr (.inl e))
    · by_cases hkn : k = n
      · simp only [hkn, if_true] at e
        by_cases hlt : g < w.heap.size
        · obtain ⟨hn, e'⟩ := hold hlt
          exact .inl (.inr (.inr ⟨n, hn, e.trans e'⟩))
        · exact .inr (by omega)
      · rw [upd_other _ _ hkn] at hk
        simp only [hkn, if_false] at e
        exact .inl (.inr (.inr ⟨k, hk, e⟩))
  · rcases e with e | e
    · obtain ⟨hn, e'⟩ := PL.rowV_block e; exact .inr (.inr ⟨n, hn, e'⟩)
    · exact .inr (.inl e)
end Go.Proofs.YtoeiodiadanhkaaGreat
