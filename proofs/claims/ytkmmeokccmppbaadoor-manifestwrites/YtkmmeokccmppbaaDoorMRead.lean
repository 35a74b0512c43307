/- The manifest's read: what bytes tell, be it right or not. -/
import Derived.Test.YtkmmeokccmppbaaDoorMNext
import Derived.RegionTactic
import Derived.ChangeAlike
namespace Go.Proofs.YtkmmeokccmppbaaDoor
open Go.RowKit
theorem results_cell_slot {P : Program} {fn : Func} {p q : Tmp} {ty : TypeId} (h : fn.results = #[.cell p ty, .tmp q]) (tmps : Array Value) (w : World) {b : Nat} {C : Array Value} {t : TypeId} {fr : Nat × Nat}
    (hp : tmps.getD p undef = .pointer (some ⟨b, 0, none⟩)) (hb : w.heap[b]? = some (.cells C t fr)) (d : TypeDesc) (hu : P.underlying ty = some d) (hd : d.isRow = true) (hi : (P.info? ty).map (·.size) = some C.size) :
    (results fn tmps).run P w = .ok (.tuple #[.agg C, tmps.getD q undef]) w := by
  have hp' : tmps[p]?.getD undef = .pointer (some ⟨b, 0, none⟩) := by simpa using hp
  simp only [results, h]
  simp [hp', asAddr, run_load_block hb d hu hd hi]
theorem infoM : (Tryd.prog.info? 24).map (·.size) = some 3 := by kernel_rfl
theorem oneM (s1 s2 : List UInt8) (a : Option Addr) (n c : Nat) : (#[str s1, str s2, .slice a n c] : Array Value).all (·.oneCell') = true := by
  simp [Value.oneCell']
theorem set_M0 {w : World} {g : Nat} {x y z : Value} {t : TypeId} (hg : w.heap[g]? = some (.cells #[x, y, z] t (0, 0))) (u : Value) : (w.setCell ⟨g, 0, none⟩ u).heap[g]? = some (.cells #[u, y, z] t (0, 0)) := by
  rw [block_setCell hg]; rfl
theorem set_M1 {w : World} {g : Nat} {x y z : Value} {t : TypeId} (hg : w.heap[g]? = some (.cells #[x, y, z] t (0, 0))) (u : Value) : (w.setCell ⟨g, 1, none⟩ u).heap[g]? = some (.cells #[x, u, z] t (0, 0)) := by
  rw [block_setCell hg]; rfl
theorem set_M2 {w : World} {g : Nat} {x y z : Value} {t : TypeId} (hg : w.heap[g]? = some (.cells #[x, y, z] t (0, 0))) (u : Value) : (w.setCell ⟨g, 2, none⟩ u).heap[g]? = some (.cells #[x, y, u] t (0, 0)) := by
  rw [block_setCell hg]; rfl
theorem chunks_get : ∀ (k : Nat) (t : List UInt8) (i : Nat) (hi : i < (chunks k t).length), (chunks k t)[i] = (t.drop (32 * i)).take 32
  | 0, t, i, hi => by simp [chunks] at hi
  | k + 1, t, 0, hi => by simp [chunks]
  | k + 1, t, i + 1, hi => by
    have := chunks_get k (t.drop 32) i (by simpa [chunks] using hi)
    simp only [chunks, List.getElem_cons_succ]
    rw [this, List.drop_drop, show 32 + 32 * i = 32 * (i + 1) by omega]
theorem row_same {w w' : World} {K size n : Nat} {e : TypeId} {v : Value} {xs : List Value} (h : w.ownsRow K e size v n xs) (hb : ∀ b, K ≤ b → w'.heap[b]? = w.heap[b]?) : w'.ownsRow K e size v n xs := by
  refine ⟨h.1, ?_⟩
  rcases h.2 with h | ⟨g, cap, cur, e, hg, hh, r⟩
  · exact .inl h
  · exact .inr ⟨g, cap, cur, e, hg, (hb g hg).trans hh, r⟩
theorem layers_of_row {w w' : World} {K n lc : Nat} {la : Option Addr} {t : List UInt8} (h : w.ownsRow K 26 32 (.slice la n lc) n ((t.take (32 * n)).map B)) (hl : t.length = 32 * n) (hb : ∀ b, K ≤ b → w'.heap[b]? = w.heap[b]?) : layersAt w' la (chunks n t) := by
  obtain ⟨f1, f2, f3⟩ := flatten_chunks n t hl
  refine ⟨f3, fun i hi => ?_⟩
  rcases h.2 with ⟨e, e2⟩ | ⟨g, cap, cur, e, hg, hh, _, _, _, hx⟩
  · omega
  · simp only [Value.slice.injEq, true_and] at e
    obtain ⟨rfl, rfl⟩ := e
    have hh' := (hb g hg).trans hh
    refine ⟨g, 0, rfl, lt_of_heap hh', fun j v hj => ?_⟩
    rw [List.getElem?_map, chunks_get] at hj
    obtain ⟨x, hx1, rfl⟩ := Option.map_eq_some_iff.1 hj
    have hj32 : j < 32 := by
      have := (List.getElem?_eq_some_iff.1 hx1).1
      rw [List.length_take] at this
      omega
    rw [List.getElem?_take_of_lt hj32, List.getElem?_drop] at hx1
    have hlt := (List.getElem?_eq_some_iff.1 hx1).1
    have h2 : cur.toList[32 * i + j]? = some (B x) := by
      have : (cur.toList.take (n * 32))[32 * i + j]? = some (B x) := by
        rw [hx, List.getElem?_map, List.getElem?_take_of_lt (by omega), hx1]; rfl
      rwa [List.getElem?_take_of_lt (by omega)] at this
    rw [cell_of_block hh', show 0 + i * 32 + j = 32 * i + j by omega]
    simpa using h2
theorem exit_jump_ret {l : Nat} {J : Act → World → Prop} {Q : Exit → Act → World → Prop} {a : Act} {w : World} : Exit.jump l J Q .ret a w = Q .ret a w := rfl
theorem foldl_get : ∀ (xs : List Value) (k : Nat) (C : Array Value) (i : Nat), k + xs.length ≤ C.size → ((xs.zipIdx k).foldl (fun (cs : Array Value) x => cs.setIfInBounds x.snd x.fst) C)[i]? = if k ≤ i ∧ i < k + xs.length then xs[i - k]? else C[i]?
  | [], k, C, i, _ => by rw [if_neg (by simp)]; rfl
  | x :: xs, k, C, i, h => by
    simp only [List.length_cons] at h
    simp only [List.zipIdx_cons, List.foldl_cons]
    rw [foldl_get xs (k + 1) _ i (by simp; omega)]
    by_cases h1 : k + 1 ≤ i ∧ i < k + 1 + xs.length
    · rw [if_pos h1, if_pos (by simp only [List.length_cons]; omega), show i - k = (i - (k + 1)) + 1 by omega, List.getElem?_cons_succ]
    · rw [if_neg h1]
      by_cases h2 : i = k
      · subst h2
        rw [if_pos (by simp only [List.length_cons]; omega), Nat.sub_self, List.getElem?_cons_zero, Array.getElem?_setIfInBounds_self_of_lt (by omega)]
      · rw [if_neg (by simp only [List.length_cons]; omega), Array.getElem?_setIfInBounds_ne (by omega)]
theorem fold32 (l : List UInt8) (h : l.length = 32) (C : Array Value) (hC : C.size = 32) : (l.map B).zipIdx.foldl (fun (cs : Array Value) x => cs.setIfInBounds x.snd x.fst) C = (l.map B).toArray := by
  apply Array.ext_getElem?
  intro i
  rw [foldl_get _ 0 C i (by simp; omega)]
  by_cases hi : i < 32
  · rw [if_pos (by simp; omega)]
    simp
  · rw [if_neg (by simp; omega), Array.getElem?_eq_none (by omega), Array.getElem?_eq_none (by simp; omega)]
theorem infoH2 : (Tryd.prog.info? 26).map (fun i => (i.zero, i.size, i.bytes)) = some (some (.agg (Array.replicate 32 (.int .u8 0))), 32, 32) := by kernel_rfl
/-- What read answers. -/
def ReadTo (w w' : World) (bs : List UInt8) (e : Ending) : Prop :=
  ((pRead bs = none ∧ ∃ s1 s2 a n c, e = .returned (.tuple #[.agg #[str s1, str s2, .slice a n c], .bool false])) ∨
   ∃ m la lc, pRead bs = some m ∧ e = .returned (.tuple #[.agg #[str m.os, str m.arch, .slice la m.ls.length lc], .bool true]) ∧ layersAt w' la m.ls ∧ m.ls.length ≤ 255 ∧ ∀ b o, la = some ⟨b, o, none⟩ → w.heap.size ≤ b) ∧ Below w.heap.size w w'
end Go.Proofs.YtkmmeokccmppbaaDoor
