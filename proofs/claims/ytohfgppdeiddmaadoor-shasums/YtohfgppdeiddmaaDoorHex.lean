/- sha.Hex returns the 64 digits of a digest. -/
import Derived.Test.YtohfgppdeiddmaaDoorPad
import Derived.Deep.RegionLaw
import Derived.BigRegion
import Derived.Deep.DrawnRows
import Derived.Laws.BytesString
namespace Go.Proofs.YtohfgppdeiddmaaDoor
open Go.RowKit
attribute [local go_sem ↓] Go.wp_at_zero Go.wp_at_succ
def digits : ByteArray := ⟨#[48, 49, 50, 51, 52, 53, 54, 55, 56, 57, 97, 98, 99, 100, 101, 102]⟩
/-- The digits of the first k bytes, room behind. -/
def hexTo (h : List UInt8) (k : Nat) : List UInt8 := hexS (h.take k) ++ List.replicate (64 - 2 * k) 0
theorem length_hexS (h : List UInt8) : (hexS h).length = 2 * h.length := by
  induction h with
  | nil => rfl
  | cons x h ih => simp only [hexS, List.flatMap_cons, List.length_append, List.length_cons, List.length_nil] at *; omega
theorem hexS_snoc (h : List UInt8) (x : UInt8) : hexS (h ++ [x]) = hexS h ++ [digitS (x.toNat / 16), digitS (x.toNat % 16)] := by simp [hexS]
theorem length_hexTo (h : List UInt8) (k : Nat) (hk : k ≤ h.length) (h32 : k ≤ 32 := by omega) : (hexTo h k).length = 64 := by
  rw [hexTo, List.length_append, length_hexS, List.length_take, List.length_replicate]; omega
theorem hexTo_next (h : List UInt8) (k : Nat) (hk : k < h.length) (h32 : k < 32) : ((hexTo h k).set (2 * k) (digitS ((h.getD k 0).toNat / 16))).set (2 * k + 1) (digitS ((h.getD k 0).toNat % 16)) = hexTo h (k + 1) := by
  have hl : (hexS (h.take k)).length = 2 * k := by rw [length_hexS, List.length_take]; omega
  have e : 64 - 2 * k = (64 - 2 * (k + 1)) + 1 + 1 := by omega
  have hx : h.getD k 0 = h[k] := by rw [List.getD_eq_getElem?_getD, List.getElem?_eq_getElem hk]; rfl
  unfold hexTo
  rw [e, List.replicate_succ, List.replicate_succ, List.set_append_right _ _ (by omega), List.set_append_right _ _ (by omega), hl, Nat.sub_self, show 2 * k + 1 - 2 * k = 1 by omega, List.take_succ_eq_append_getElem hk, hexS_snoc, hx]
  simp
theorem hex_start {w w1 : World} {o : Obj} {h : List UInt8} (hb1 : Below (w.heap.size + 1) (w.alloc o) w1) (hm1 : w1.heap[w.heap.size + 1]? = some (.cells ((List.replicate 64 (0 : UInt8)).map B).toArray 5 (0, 0))) :
    w1.heap[w.heap.size + 1]? = some (.cells ((hexTo h 0).map B).toArray 5 (0, 0)) ∧ Below w.heap.size w w1 :=
  ⟨hm1, ((Below.refl w.heap.size w).alloc (Nat.le_refl _) o).trans (hb1.mono (by omega))⟩
theorem hexTo_all (h : List UInt8) (hl : h.length = 32) : hexTo h 32 = hexS h := by
  rw [hexTo, List.take_of_length_le (by omega)]; simp
theorem digit_get (i : Nat) (hi : i < (⟨#[48, 49, 50, 51, 52, 53, 54, 55, 56, 57, 97, 98, 99, 100, 101, 102]⟩ : ByteArray).size) : (⟨#[48, 49, 50, 51, 52, 53, 54, 55, 56, 57, 97, 98, 99, 100, 101, 102]⟩ : ByteArray)[i] = digitS i := by
  have h16 : i < 16 := hi
  unfold digitS
  rw [List.getD_eq_getElem?_getD, List.getElem?_eq_getElem (by simpa using h16)]; rfl
theorem push_all (bs : List UInt8) : ∀ s : ByteArray, (bs.map V).foldl (fun r n => r.push (UInt8.ofNat n.toNat)) s = ⟨s.data ++ bs.toArray⟩ := by
  induction bs with
  | nil => intro s; simp
  | cons x bs ih =>
    intro s
    have hx : UInt8.ofNat (V x).toNat = x := by unfold V; simp
    rw [List.map_cons, List.foldl_cons, hx, ih]
    congr 1
    apply Array.toList_inj.1
    simp [ByteArray.push]
/-- string(b), b at the head of a block. -/
theorem wpList_bytes_string {P : Program} {w : World} {ops : Array Oper} {rest : List Oper} {o : Oper} {a : Act} {Q : Exit → Act → World → Prop} (hgd : o.guard = none) (x : Operand) (src dst : TypeId) (ho : o.op = .convert src dst x)
    (e : TypeId) (hs : P.underlying src = some (.slice e)) (he : P.underlying e = some (.int .u8)) (hd : P.underlying dst = some .string) (g n cap : Nat) (hx : a.eval x = .slice (some ⟨g, 0, none⟩) n cap)
    (bs : List UInt8) (t : TypeId) (fr : Nat × Nat) (hb : w.heap[g]? = some (.cells (bs.map B).toArray t fr)) (hn : n = bs.length)
    (h : wpList P ops Q rest (a.put o.dst (.string ⟨bs.toArray⟩)) w) : wpList P ops Q (o :: rest) a w := by
  subst hn
  refine wpList_plain hgd fun K hK => ?_
  have hl : (loadCells ⟨g, 0, none⟩ bs.length).run P w = .ok ((bs.map V).map (Value.int .u8)).toArray w := by
    have := run_loadCells_list (P := P) w ⟨g, 0, none⟩ (bs.map B) (fun j v hv => by
      rw [Addr.add_mid, Nat.zero_add, cell_of_block hb]; simpa using hv)
    have e : (bs.map V).map (Value.int .u8) = bs.map B := by rw [List.map_map]; rfl
    rw [e]
    simpa using this
  have hr := run_bytesToString (P := P) w ⟨g, 0, none⟩ bs.length cap (bs.map V) hl
  rw [push_all] at hr
  have he2 : (⟨ByteArray.empty.data ++ bs.toArray⟩ : ByteArray) = ⟨bs.toArray⟩ := by simp
  rw [he2] at hr
  have hc := run_convert_bytes_string (P := P) w src dst e (some ⟨g, 0, none⟩) bs.length cap hs he hd
  rw [hr] at hc
  unfold Oper.wp
  simp [execOp, ho, hx, hc, Result.andThen]
  exact hK _ _ h
set_option maxRecDepth 20000 in
set_option maxHeartbeats 1000000 in
theorem hex_any (h : List UInt8) (hl : h.length = 32) (w : World) :
    Calls Tryd.prog 23 #[.agg (h.map B).toArray] w fun e w' => e = .returned (.string ⟨(hexS h).toArray⟩) ∧ Below w.heap.size w w' := by
  go_enter Tryd.func23, Tryd.ntmps23
  go_wp2_with (first
    | (refine wpList_make_bytes rfl _ _ 22 rfl 5 Tryd.underlying22 infoB 0 64 0 64 rfl rfl rfl rfl (by omega) (by omega) ?_; intro w1 hb1 hm1 hz1)
    | (refine wpList_load_block rfl 26 (.tmp 1) rfl w.heap.size rfl (h.map B).toArray 26 (0, 0) (below_block hb1 (block_new _ _) (by simp)) _ Tryd.underlying26 rfl (info26.trans (by simp [hl])) ?_))
  rw [World.size_alloc] at hb1 hm1
  have hs0 := hex_start (h := h) hb1 hm1
  go_loopw [3, 8] (fun p i wr => ∃ k : Nat, k ≤ 32 ∧ i = .int .i64 k ∧ p = .slice (some ⟨w.heap.size + 1, 0, none⟩) (2 * k) 64 ∧ wr.heap[w.heap.size + 1]? = some (.cells ((hexTo h k).map B).toArray 5 (0, 0)) ∧ Below w.heap.size w wr)
    (fun _ i _ => 32 - (intOf i).toNat)
  case atStart => exact ⟨0, by omega, rfl, rfl, hs0.1, hs0.2⟩
  case round =>
    clear hs0 hm1 hb1 hz1
    obtain ⟨k, hk, rfl, rfl, hP, hB⟩ := hrel
    by_cases hlt : k < 32
    · have hlp := length_hexTo h k (by omega)
      have hx : h[k]? = some (h.getD k 0) := get_some (by omega)
      have HS := hid (hexTo_next h k (by omega) (by omega))
      generalize h.getD k 0 = x at *
      have hix : (Instr.index 26 (.agg (h.map B).toArray) (.int .i64 (k : Int))).run Tryd.prog wr = .ok (B x) wr :=
        run_index_one Tryd.underlying26 info5 Tryd.underlying5 hlt (by rw [List.getElem?_toArray, List.getElem?_map, hx]; rfl)
      have c1 : wr.cell? ⟨w.heap.size + 1, 2 * k, none⟩ = some (B ((hexTo h k).getD (2 * k) 0)) := by rw [cell_of_block hP, List.getElem?_toArray, List.getElem?_map, get_some (d := 0) (by omega)]; rfl
      have c2 : wr.cell? ⟨w.heap.size + 1, 2 * k + 1, none⟩ = some (B ((hexTo h k).getD (2 * k + 1) 0)) := by rw [cell_of_block hP, List.getElem?_toArray, List.getElem?_map, get_some (d := 0) (by omega)]; rfl
      have f1 : ∀ o, wr.frozen? ⟨w.heap.size + 1, o, none⟩ = false := frozen_of_block hP
      have hsz := lt_of_heap hP
      have HP := hid hP
      have v0 := V_nonneg x
      have v1 := V_lt x
      have q1 : (0 : Int) ≤ V x / 16 := by omega
      have q2 : V x / 16 < 16 := by omega
      have q3 : (0 : Int) ≤ V x % 16 := by omega
      have q4 : V x % 16 < 16 := by omega
      have t1 : (V x / 16).toNat = x.toNat / 16 := by unfold V; omega
      have t2 : (V x % 16).toNat = x.toNat % 16 := by unfold V; omega
      clear hx hP hlp
      generalize (hexTo h k).getD (2 * k) 0 = z1 at *
      generalize (hexTo h k).getD (2 * k + 1) 0 = z2 at *
      go_wp2
      go_region
      go_wp2
      simp only [digit_get]
      go_roundw
      case rel =>
        refine ⟨k + 1, by omega, by go_num, by rw [show 2 * (k + 1) = 2 * k + 2 by omega], ?_, ?_⟩
        · rw [← HS.out, ← set_mapB, ← set_mapB]; exact block_alloc (block_setCell (block_setCell HP.out _ _) _ _) _
        · exact (((hB.setCell (by simp) _).setCell (by simp) _).alloc (by simp [World.setCell]; exact hB.size) _).drew
      case measure => simp [intOf]; omega
    · have hk32 : k = 32 := by omega
      subst hk32
      rw [hexTo_all h hl] at hP
      have HP := hid hP
      have Hl := hid (length_hexS h)
      clear hP hlt hk
      go_wp2_with (refine wpList_bytes_string rfl (.tmp 21) 22 9 rfl 5 Tryd.underlying22 Tryd.underlying5 Tryd.underlying9 (w.heap.size + 1) (2 * 32) 64 rfl (hexS h) 5 (0, 0) HP.out (by rw [Hl.out, hl]) ?_)
      go_ret
      exact ⟨rfl, hB⟩
end Go.Proofs.YtohfgppdeiddmaaDoor
