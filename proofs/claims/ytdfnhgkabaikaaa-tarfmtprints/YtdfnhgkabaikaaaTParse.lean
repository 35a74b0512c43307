/- Parse. -/
import Derived.Test.YtdfnhgkabaikaaaTRange
import Derived.Test.YtdfnhgkabaikaaaTPrint
import Derived.Laws.AppendOwn
namespace Go.Proofs.Ytdfnhgkabaikaaa
open Go.RowKit Go.Shelf
attribute [local go_sem] Oper.semAt_some
/-- An entry's five cells. -/
def entC (p : EN × Value) : List Value := [str p.1.name, .int .i64 p.1.kind, .int .i64 p.1.mode, str p.1.link, p.2]
theorem infoE3 : (Try.prog.info? 31).map (fun i => (i.zero, i.size, i.bytes)) = some (some (.agg #[str [], .int .i64 0, .int .i64 0, str [], .slice none 0 0]), 5, 72) := by kernel_rfl
set_option maxRecDepth 100000 in
theorem entries_any (ao : Option Addr) (n cap : Nat) (w : World) : Calls Try.prog 28 #[.slice ao n cap] w fun e w' => e = .returned (.func (.func 38) #[] #[.pointer (some ⟨w.heap.size, 0, none⟩)]) ∧ w' = w.alloc (.cells #[.slice ao n cap] 23) := by
  go_enter Try.func28, Try.ntmps28
  go_wp2
  go_ret
  exact ⟨rfl, rfl⟩
/-- Parse under way: acc was read. -/
structure PS (w : World) (bv : Value) (acc : List (EN × Value)) (W : World) : Prop where
  low : Below w.heap.size w W
  r0 : W.heap[w.heap.size]? = some (.cells #[.slice none 0 0] 22 (0, 0))
  r1 : W.heap[w.heap.size + 1]? = some (.cells #[.int .i64 0] 24 (0, 0))
  r2 : W.heap[w.heap.size + 1 + 1]? = some (.cells #[.int .i64 0] 3 (0, 0))
  bb : W.heap[w.heap.size + 1 + 1 + 1 + 1]? = some (.cells #[bv] 23 (0, 0))
  df : W.heap[w.heap.size + 1 + 1 + 1 + 1 + 1]? = some (.deferred (some []))
  box : ∃ lv, W.heap[w.heap.size + 1 + 1 + 1]? = some (.cells #[lv] 22 (0, 0)) ∧ W.ownsRow (w.heap.size + 7) 31 5 lv acc.length (acc.flatMap entC)
  data : ∀ p ∈ acc, DataU W 0 p.2 p.1.data
theorem ownsRow_keep {W W' : World} {K n sz : Nat} {e : TypeId} {v : Value} {xs : List Value} (h : W.ownsRow K e sz v n xs) (hk : ∀ (i : Nat) (C : Array Value), W.heap[i]? = some (.cells C e (0, 0)) → W'.heap[i]? = W.heap[i]?) : W'.ownsRow K e sz v n xs := by
  refine ⟨h.1, ?_⟩
  rcases h.2 with h | ⟨g, cap, cur, h1, h2, h3, h4⟩
  · exact .inl h
  · exact .inr ⟨g, cap, cur, h1, h2, (hk g _ h3).trans h3, h4⟩
theorem DataU.keep {W W' : World} {K : Nat} {dv : Value} {data : List UInt8} (h : DataU W K dv data) (hk : ∀ (i : Nat) (C : Array Value) (fr : Nat × Nat), W.heap[i]? = some (.cells C 5 fr) → W'.heap[i]? = W.heap[i]?) : DataU W' K dv data := by
  rcases h with h | ⟨g, cap, C, fr, h1, h2, h3, h4⟩
  · exact .inl h
  · exact .inr ⟨g, cap, C, fr, h1, h2, (hk g _ _ h3).trans h3, h4⟩
theorem PS.keep {w W W' : World} {bv : Value} {acc : List (EN × Value)} (h : PS w bv acc W) (hl : Below w.heap.size w W') (hk : ∀ (i : Nat) (ob : Obj), W.heap[i]? = some ob → (∀ r, ob ≠ .loop r) → W'.heap[i]? = some ob) : PS w bv acc W' := by
  have hc : ∀ {i : Nat} {C : Array Value} {t : TypeId} {fr : Nat × Nat}, W.heap[i]? = some (.cells C t fr) → W'.heap[i]? = some (.cells C t fr) := fun {i C t fr} hi => hk i _ hi (fun r e => by cases e)
  obtain ⟨lv, h1, h2⟩ := h.box
  exact ⟨hl, hc h.r0, hc h.r1, hc h.r2, hc h.bb, hk _ _ h.df (fun r e => by cases e), ⟨lv, hc h1, ownsRow_keep h2 (fun i C hi => (hc hi).trans hi.symm)⟩, fun p hp => (h.data p hp).keep (fun i C fr hi => (hc hi).trans hi.symm)⟩
theorem PS.up {w W W' : World} {bv : Value} {acc : List (EN × Value)} (h : PS w bv acc W) (hB : Below W.heap.size W W') : PS w bv acc W' :=
  h.keep (h.low.trans (hB.mono h.low.size)) (fun i _ hi _ => (hB.block i (lt_of_heap hi)).trans hi)
theorem PS.put {w W : World} {bv : Value} {acc : List (EN × Value)} {l : Nat} {r r' : Loop} (h : PS w bv acc W) (hl : W.heap[l]? = some (.loop r)) (hlw : w.heap.size ≤ l) : PS w bv acc (W.putObj l (.loop r')) := by
  refine h.keep (below_grown h.low (grownBy_putObj' W l _) hlw h.low.size) (fun i ob hi hn => ?_)
  by_cases e : i = l
  · subst e; rw [hl] at hi; injection hi with hi; exact absurd hi.symm (hn r)
  · exact (World.putObj_heap_other (by omega)).trans hi
theorem PS.app {w V w9 : World} {bv dv lv lv2 : Value} {acc : List (EN × Value)} {x : EN} {ob : Obj} {l : Nat} {r : Loop} (h : PS w bv acc V) (hb : V.heap[w.heap.size + 1 + 1 + 1]? = some (.cells #[lv] 22 (0, 0))) (ho : V.ownsRow (w.heap.size + 7) 31 5 lv acc.length (acc.flatMap entC)) (hd : DataU V 0 dv x.data) (hl : V.heap[l]? = some (.loop r))
    (hgr : (V.alloc ob).grownBy w9 lv.ownBlock) (ho2 : w9.ownsRow (w.heap.size + 7) 31 5 lv2 (acc.length + 1) (acc.flatMap entC ++ entC (x, dv))) :
    PS w bv (acc ++ [(x, dv)]) (w9.setCell ⟨w.heap.size + 1 + 1 + 1, 0, none⟩ lv2) ∧ (w9.setCell ⟨w.heap.size + 1 + 1 + 1, 0, none⟩ lv2).heap[l]? = some (.loop r) ∧ w9.heap[w.heap.size + 1 + 1 + 1]? = some (.cells #[lv] 22 (0, 0)) := by
  have hown : ∀ i, lv.ownBlock = some i → w.heap.size + 7 ≤ i ∧ ∃ C, V.heap[i]? = some (.cells C 31 (0, 0)) := fun i e => by
    rcases ho.2 with ⟨rfl, _⟩ | ⟨g, cp, cu, rfl, h1, h2, _⟩
    · cases e
    · obtain rfl : g = i := by simpa [Value.ownBlock] using e
      exact ⟨h1, _, h2⟩
  have hk : ∀ (i : Nat) (o : Obj), V.heap[i]? = some o → lv.ownBlock ≠ some i → w9.heap[i]? = some o := fun i o hi hn => grown_block hgr (block_alloc hi ob) hn
  have hk2 : ∀ (i : Nat) (o : Obj), i ≠ w.heap.size + 1 + 1 + 1 → V.heap[i]? = some o → lv.ownBlock ≠ some i → (w9.setCell ⟨w.heap.size + 1 + 1 + 1, 0, none⟩ lv2).heap[i]? = some o := fun i o hne hi hn => (block_setCell_other _ _ hne).trans (hk i o hi hn)
  have hlow : ∀ i, i < w.heap.size + 7 → lv.ownBlock ≠ some i := fun i hi e => by have := (hown i e).1; omega
  have hb9 := hk _ _ hb (hlow _ (by omega))
  have hdat : ∀ {d : Value} {data : List UInt8}, DataU V 0 d data → DataU (w9.setCell ⟨w.heap.size + 1 + 1 + 1, 0, none⟩ lv2) 0 d data := fun {d data} hd => hd.keep (fun i C fr hi => by
    refine (hk2 i _ ?_ hi ?_).trans hi.symm
    · rintro rfl; rw [hb] at hi; cases hi
    · intro e; obtain ⟨-, C', h2⟩ := hown i e; rw [h2] at hi; cases hi)
  have hlb : Below w.heap.size w (V.alloc ob) := h.low.trans ((Below.refl _ V).alloc h.low.size ob)
  refine ⟨⟨?_, hk2 _ _ (by omega) h.r0 (hlow _ (by omega)), hk2 _ _ (by omega) h.r1 (hlow _ (by omega)), hk2 _ _ (by omega) h.r2 (hlow _ (by omega)), hk2 _ _ (by omega) h.bb (hlow _ (by omega)), hk2 _ _ (by omega) h.df (hlow _ (by omega)), ⟨lv2, block_setCell hb9 0 _, ?_⟩, ?_⟩, ?_, hb9⟩
  · exact (hlb.grown hgr hlb.size (fun k e => by have := (hown k e).1; omega)).setCell (show w.heap.size ≤ Addr.block ⟨w.heap.size + 1 + 1 + 1, 0, none⟩ from by simp; omega) _
  · have e1 : (acc ++ [(x, dv)]).length = acc.length + 1 := by simp
    have e2 : (acc ++ [(x, dv)]).flatMap entC = acc.flatMap entC ++ entC (x, dv) := by rw [List.flatMap_append]; simp
    rw [e1, e2]
    refine ownsRow_keep ho2 (fun i C hi => block_setCell_other _ _ ?_)
    rintro rfl; rw [hb9] at hi; cases hi
  · intro p hp
    rcases List.mem_append.1 hp with hp | hp
    · exact hdat (h.data p hp)
    · obtain rfl := List.mem_singleton.1 hp
      exact hdat hd
  · refine hk2 _ _ ?_ hl (fun e => ?_)
    · rintro rfl; rw [hb] at hl; cases hl
    · obtain ⟨-, C', h2⟩ := hown l e; rw [h2] at hl; cases hl
theorem PS.apart {w W : World} {bv : Value} {acc : List (EN × Value)} (h : PS w bv acc W) {V : World} (hk : ∀ i : Nat, i ≠ w.heap.size → i ≠ w.heap.size + 1 → i ≠ w.heap.size + 1 + 1 → i ≠ w.heap.size + 1 + 1 + 1 + 1 + 1 → V.heap[i]? = W.heap[i]?) :
    (∀ lv, W.ownsRow (w.heap.size + 7) 31 5 lv acc.length (acc.flatMap entC) → V.ownsRow (w.heap.size + 7) 31 5 lv acc.length (acc.flatMap entC)) ∧ ∀ p ∈ acc, DataU V 0 p.2 p.1.data := by
  refine ⟨fun lv hr => ?_, fun p hp => (h.data p hp).keep (fun i C fr hi => hk i ?_ ?_ ?_ ?_)⟩
  · refine ⟨hr.1, ?_⟩
    rcases hr.2 with h | ⟨g, cap, cur, h1, h2, h3, h4⟩
    · exact .inl h
    · exact .inr ⟨g, cap, cur, h1, h2, (hk g (by omega) (by omega) (by omega) (by omega)).trans h3, h4⟩
  · rintro rfl; rw [h.r0] at hi; cases hi
  · rintro rfl; rw [h.r1] at hi; cases hi
  · rintro rfl; rw [h.r2] at hi; cases hi
  · rintro rfl; rw [h.df] at hi; cases hi
theorem fin_world {w W : World} {x y z : Value} {ob : Obj} (hl : Below w.heap.size w W) :
    Below w.heap.size w ((((W.setCell ⟨w.heap.size, 0, none⟩ x).setCell ⟨w.heap.size + 1, 0, none⟩ y).setCell ⟨w.heap.size + 1 + 1, 0, none⟩ z).putObj (w.heap.size + 1 + 1 + 1 + 1 + 1) ob) ∧
    ∀ i : Nat, i ≠ w.heap.size → i ≠ w.heap.size + 1 → i ≠ w.heap.size + 1 + 1 → i ≠ w.heap.size + 1 + 1 + 1 + 1 + 1 → ((((W.setCell ⟨w.heap.size, 0, none⟩ x).setCell ⟨w.heap.size + 1, 0, none⟩ y).setCell ⟨w.heap.size + 1 + 1, 0, none⟩ z).putObj (w.heap.size + 1 + 1 + 1 + 1 + 1) ob).heap[i]? = W.heap[i]? := by
  have b1 := hl.setCell (show w.heap.size ≤ Addr.block ⟨w.heap.size, 0, none⟩ from Nat.le_refl _) x
  have b2 := b1.setCell (show w.heap.size ≤ Addr.block ⟨w.heap.size + 1, 0, none⟩ from by simp) y
  have b3 := b2.setCell (show w.heap.size ≤ Addr.block ⟨w.heap.size + 1 + 1, 0, none⟩ from by simp; omega) z
  refine ⟨below_grown b3 (grownBy_putObj' _ _ _) (by omega) b3.size, fun i h1 h2 h3 h4 => ?_⟩
  exact (World.putObj_heap_other (by omega)).trans ((block_setCell_other _ _ (by omega)).trans ((block_setCell_other _ _ (by omega)).trans (block_setCell_other _ _ (by omega))))
/-- Parse, stopped: the header at that place is none. -/
structure PX (w : World) (at_ : Nat) (W : World) : Prop where
  low : Below w.heap.size w W
  r0 : W.heap[w.heap.size]? = some (.cells #[.slice none 0 0] 22 (0, 0))
  r1 : W.heap[w.heap.size + 1]? = some (.cells #[.int .i64 3] 24 (0, 0))
  r2 : W.heap[w.heap.size + 1 + 1]? = some (.cells #[.int .i64 at_] 3 (0, 0))
  df : W.heap[w.heap.size + 1 + 1 + 1 + 1 + 1]? = some (.deferred (some []))
theorem PX.keep {w W W' : World} {a : Nat} (h : PX w a W) (hl : Below w.heap.size w W') (hk : ∀ (i : Nat) (ob : Obj), W.heap[i]? = some ob → (∀ r, ob ≠ .loop r) → W'.heap[i]? = some ob) : PX w a W' :=
  ⟨hl, hk _ _ h.r0 (fun r e => by cases e), hk _ _ h.r1 (fun r e => by cases e), hk _ _ h.r2 (fun r e => by cases e), hk _ _ h.df (fun r e => by cases e)⟩
theorem PX.up {w W W' : World} {a : Nat} (h : PX w a W) (hB : Below W.heap.size W W') : PX w a W' :=
  h.keep (h.low.trans (hB.mono h.low.size)) (fun i _ hi _ => (hB.block i (lt_of_heap hi)).trans hi)
theorem PX.put {w W : World} {a : Nat} {l : Nat} {r r' : Loop} (h : PX w a W) (hl : W.heap[l]? = some (.loop r)) (hlw : w.heap.size ≤ l) : PX w a (W.putObj l (.loop r')) := by
  refine h.keep (below_grown h.low (grownBy_putObj' W l _) hlw h.low.size) (fun i ob hi hn => ?_)
  by_cases e : i = l
  · subst e; rw [hl] at hi; injection hi with hi; exact absurd hi.symm (hn r)
  · exact (World.putObj_heap_other (by omega)).trans hi
/-- What Parse tells. -/
def ParseTo (w : World) (bs : List UInt8) (e : Ending) (W : World) : Prop :=
  Below w.heap.size w W ∧ if bs.length > 60000 then e = .returned (.tuple #[.slice none 0 0, .int .i64 6, .int .i64 0]) else match parseF 118 bs 0 [] with
    | (none, at_) => e = .returned (.tuple #[.slice none 0 0, .int .i64 3, .int .i64 (at_ : Nat)])
    | (some es, _) => ∃ (acc : List (EN × Value)) (lv : Value), acc.map Prod.fst = es ∧ e = .returned (.tuple #[lv, .int .i64 0, .int .i64 0]) ∧ W.ownsRow (w.heap.size + 7) 31 5 lv acc.length (acc.flatMap entC) ∧ ∀ p ∈ acc, DataU W 0 p.2 p.1.data
set_option maxRecDepth 100000 in
theorem results_parse {w : World} {tmps : Array Value} {b1 b2 b3 : Nat} {x y z : Value} (h1 : tmps.getD 2 undef = .pointer (some ⟨b1, 0, none⟩)) (h2 : tmps.getD 3 undef = .pointer (some ⟨b2, 0, none⟩)) (h3 : tmps.getD 4 undef = .pointer (some ⟨b3, 0, none⟩))
    (r1 : w.heap[b1]? = some (.cells #[x] 22 (0, 0))) (r2 : w.heap[b2]? = some (.cells #[y] 24 (0, 0))) (r3 : w.heap[b3]? = some (.cells #[z] 3 (0, 0))) :
    (results Try.f17 tmps).run Try.prog w = .ok (.tuple #[x, y, z]) w := by
  have c1 : w.cell? ⟨b1, 0, none⟩ = some x := cell_of_block r1 0
  have c2 : w.cell? ⟨b2, 0, none⟩ = some y := cell_of_block r2 0
  have c3 : w.cell? ⟨b3, 0, none⟩ = some z := cell_of_block r3 0
  have h1' : tmps[2]?.getD undef = .pointer (some ⟨b1, 0, none⟩) := by simpa using h1
  have h2' : tmps[3]?.getD undef = .pointer (some ⟨b2, 0, none⟩) := by simpa using h2
  have h3' : tmps[4]?.getD undef = .pointer (some ⟨b3, 0, none⟩) := by simpa using h3
  simp only [results, Try.results17]
  simp [go_sem, h1', h2', h3', asAddr, c1, c2, c3]
set_option maxRecDepth 100000 in
set_option maxHeartbeats 4000000 in
theorem parse_any (bs : List UInt8) (ao : Option Addr) (cap : Nat) (w : World) (hr : Rd w (.slice ao bs.length cap) bs) : Calls Try.prog 17 #[.slice ao bs.length cap] w (ParseTo w bs) := by
  refine (callsIn_wide (n := 8)).1 ?_
  obtain ⟨wA, hA⟩ : ∃ wA, wA = ((w.alloc (.cells #[.slice none 0 0] 22)).alloc (.cells #[.int .i64 0] 24)).alloc (.cells #[.int .i64 0] 3) := ⟨_, rfl⟩
  have HR := hid hr
  have hcap : bs.length ≤ 9223372036854775807 := by obtain ⟨a, c, e, h1, h2, -⟩ := hr; omega
  clear hr
  refine callsIn_of_wp_marks Try.func17 rfl trivial ?_ rfl
  simp only [Try.ntmps17, List.size_toArray, List.length_cons, List.length_nil, Nat.reduceAdd, Nat.reduceSub, Array.replicate_succ, Array.replicate_zero, List.push_toArray, List.append_toArray, List.nil_append, List.cons_append]
  have hf2 : Fence.wide.fn 28 := trivial
  by_cases h6 : bs.length > 60000
  · have q6 : (bs.length : Int) > 60000 := by omega
    gi_wp2
    have b0 := block_new w (.cells #[.slice none 0 0] 22)
    have b1 := block_new (w.alloc (.cells #[.slice none 0 0] 22)) (.cells #[.int .i64 6] 24)
    have b2 := block_new ((w.alloc (.cells #[.slice none 0 0] 22)).alloc (.cells #[.int .i64 6] 24)) (.cells #[.int .i64 0] 3)
    simp only [World.size_alloc] at b1 b2
    refine ⟨_, results_parse rfl rfl rfl (block_alloc (block_alloc b0 _) _) (block_alloc b1 _) b2, ?_⟩
    refine ⟨(((Below.refl _ w).alloc (Nat.le_refl _) _).alloc (by simp) _).alloc (by simp; omega) _, ?_⟩
    rw [if_pos h6]
  · have q6 : ¬ ((bs.length : Int) > 60000) := by omega
    gi_wp2
    refine (callsIn_wide.2 (entries_any ao bs.length cap _)).mono ?_
    rintro e wD ⟨rfl, hD⟩
    gi_wp2
    rw [← hD]
    have hsD : wD.heap.size = w.heap.size + 1 + 1 + 1 + 1 + 1 := by rw [hD]; simp only [World.size_alloc]
    have HBD : Hid (Below w.heap.size w wD) := by
      unfold Hid
      rw [hD]
      exact (((((Below.refl _ w).alloc (Nat.le_refl _) _).alloc (by simp) _).alloc (by simp; omega) _).alloc (by simp; omega) _).alloc (by simp; omega) _
    have HX : Hid (wD.heap[w.heap.size]? = some (.cells #[.slice none 0 0] 22 (0, 0)) ∧ wD.heap[w.heap.size + 1]? = some (.cells #[.int .i64 0] 24 (0, 0)) ∧ wD.heap[w.heap.size + 1 + 1]? = some (.cells #[.int .i64 0] 3 (0, 0)) ∧ wD.heap[w.heap.size + 1 + 1 + 1]? = some (.cells #[.slice none 0 0] 22 (0, 0)) ∧ wD.heap[w.heap.size + 1 + 1 + 1 + 1]? = some (.cells #[.slice ao bs.length cap] 23 (0, 0))) := by
      unfold Hid
      rw [hD]
      have b0 := block_new w (.cells #[.slice none 0 0] 22)
      have b1 := block_new (w.alloc (.cells #[.slice none 0 0] 22)) (.cells #[.int .i64 0] 24)
      have b2 := block_new ((w.alloc (.cells #[.slice none 0 0] 22)).alloc (.cells #[.int .i64 0] 24)) (.cells #[.int .i64 0] 3)
      have b3 := block_new (((w.alloc (.cells #[.slice none 0 0] 22)).alloc (.cells #[.int .i64 0] 24)).alloc (.cells #[.int .i64 0] 3)) (.cells #[.slice none 0 0] 22)
      have b4 := block_new ((((w.alloc (.cells #[.slice none 0 0] 22)).alloc (.cells #[.int .i64 0] 24)).alloc (.cells #[.int .i64 0] 3)).alloc (.cells #[.slice none 0 0] 22)) (.cells #[.slice ao bs.length cap] 23)
      simp only [World.size_alloc] at b1 b2 b3 b4
      exact ⟨block_alloc (block_alloc (block_alloc (block_alloc b0 _) _) _) _, block_alloc (block_alloc (block_alloc b1 _) _) _, block_alloc (block_alloc b2 _) _, block_alloc b3 _, b4⟩
    clear hD hA hf2
    have HP0 : Hid (∀ r : Loop, PS w (.slice ao bs.length cap) [] ((wD.alloc (.deferred (some []))).alloc (.loop r)) ∧ ((wD.alloc (.deferred (some []))).alloc (.loop r)).heap[wD.heap.size + 1]? = some (.loop r)) := fun r => by
      obtain ⟨x0, x1, x2, x3, x4⟩ := HX.out
      have y5 := block_new wD (.deferred (some []))
      rw [hsD] at y5
      have y6 := block_new (wD.alloc (.deferred (some []))) (.loop r)
      rw [World.size_alloc] at y6
      have hB := ((Below.refl _ wD).alloc (Nat.le_refl _) (.deferred (some []))).alloc (by simp) (.loop r)
      refine ⟨⟨HBD.out.trans (hB.mono HBD.out.size), block_alloc (block_alloc x0 _) _, block_alloc (block_alloc x1 _) _, block_alloc (block_alloc x2 _) _, block_alloc (block_alloc x4 _) _, block_alloc y5 _, ⟨_, block_alloc (block_alloc x3 _) _, World.ownsRow_nil _ _ _ _⟩, fun p hp => by cases hp⟩, y6⟩
    have HsD := hid hsD
    refine range_world (gf := 38) (lb := #[.pointer (some ⟨w.heap.size + 1 + 1 + 1 + 1, 0, none⟩)]) (by omega) rfl (enters_of Try.func38 (by kernel_rfl) rfl) (fun fn => ?_)
    generalize hrc : recOf fn _ _ _ _ _ = rc
    refine (entries1_in 7 (by omega) (wD.heap.size + 1) (w.heap.size + 1 + 1 + 1 + 1) bs ao cap (by omega) (fun acc W => PS w (.slice ao bs.length cap) acc W ∧ W.heap[wD.heap.size + 1]? = some (.loop (rc .ready none))) (fun at_ W => PX w at_ W ∧ W.heap[wD.heap.size + 1]? = some (.loop (rc .done (some .ret))))
      (fun acc W W' h hB => ⟨h.1.up hB, (hB.block _ (lt_of_heap h.2)).trans h.2⟩) (fun acc W h => ⟨cell_of_block h.1.bb 0, HR.out.up h.1.low⟩) (fun a W W' h hB => ⟨h.1.up hB, (hB.block _ (lt_of_heap h.2)).trans h.2⟩) ?yes ?no _ (HP0.out _)).mono ?_
    case yes =>
      rintro acc x dv at_ K0 W ⟨hPS, hl⟩ h117 hrt hdu hat
      have hl' := hl
      rw [← hrc] at hl'
      refine round_world hl' rfl ?_
      rw [hrc]
      clear hrc hl' hsD
      obtain ⟨da, dn, dc, rfl⟩ : ∃ da dn dc, dv = .slice da dn dc := by
        rcases hdu with ⟨rfl, _⟩ | ⟨g, cp, C, fr, rfl, _⟩
        · exact ⟨_, _, _, rfl⟩
        · exact ⟨_, _, _, rfl⟩
      simp only [enV]
      have HPS := hid hPS
      have HL := hid hl
      have HDu := hid hdu
      have hk0 : (x.kind == 0) = false := by have := (right_all hrt).1; exact beq_false_of_ne (by omega)
      clear hPS hl HP0 HX HR hdu
      have hbx := block_new W (.cells #[str x.name, .int .i64 x.kind, .int .i64 x.mode, str x.link, .slice da dn dc] 31)
      have hBx := (Below.refl W.heap.size W).alloc (Nat.le_refl _) (.cells #[str x.name, .int .i64 x.kind, .int .i64 x.mode, str x.link, .slice da dn dc] 31)
      gi_wp2
      have hl2 := (hBx.block _ (lt_of_heap HL.out)).trans HL.out
      refine ⟨hl2, ?_⟩
      generalize hV : World.putObj (World.alloc W _) _ _ = V
      have hP2 : PS w (.slice ao bs.length cap) acc V := by rw [← hV]; exact (HPS.out.up hBx).put hl2 (by rw [HsD.out]; omega)
      have hne : W.heap.size ≠ wD.heap.size + 1 := by have := lt_of_heap HL.out; omega
      have hent : V.heap[W.heap.size]? = some (.cells #[str x.name, .int .i64 x.kind, .int .i64 x.mode, str x.link, .slice da dn dc] 31 (0, 0)) := by rw [← hV]; exact (World.putObj_heap_other hne).trans hbx
      have hlb : V.heap[wD.heap.size + 1]? = some (.loop (rc .busy none)) := by rw [← hV]; exact World.putObj_heap_same (lt_of_heap hl2)
      have HD2 : Hid (DataU V 0 (.slice da dn dc) x.data) := by
        unfold Hid
        rw [← hV]
        refine ((HDu.out.down (Nat.zero_le _)).up hBx).keep (fun i C fr hi => World.putObj_heap_other ?_)
        rintro rfl; rw [hl2] at hi; cases hi
      obtain ⟨lv, hb, ho⟩ := hP2.box
      obtain ⟨la, ln, lc, rfl⟩ : ∃ la ln lc, lv = .slice la ln lc := by
        rcases ho.2 with ⟨rfl, _⟩ | ⟨g, cp, cu, rfl, _⟩
        · exact ⟨_, _, _, rfl⟩
        · exact ⟨_, _, _, rfl⟩
      obtain rfl : ln = acc.length := by
        rcases ho.2 with ⟨e, h0⟩ | ⟨g, cp, cu, e, _⟩
        · simp only [Value.slice.injEq] at e; omega
        · simp only [Value.slice.injEq] at e; exact e.2.1
      have HPV := hid hP2
      have HLB := hid hlb
      have HO := hid ho
      have hk256 : ((acc.length : Int) == 256) = false := beq_false_of_ne (by omega)
      have d0 : V.cell? ⟨W.heap.size, 0, none⟩ = some (str x.name) := cell_of_block hent 0
      have d1 : V.cell? ⟨W.heap.size, 1, none⟩ = some (.int .i64 x.kind) := cell_of_block hent 1
      have d2 : V.cell? ⟨W.heap.size, 2, none⟩ = some (.int .i64 x.mode) := cell_of_block hent 2
      have d3 : V.cell? ⟨W.heap.size, 3, none⟩ = some (str x.link) := cell_of_block hent 3
      have d4 : V.cell? ⟨W.heap.size, 4, none⟩ = some (.slice da dn dc) := cell_of_block hent 4
      have c3 : V.cell? ⟨w.heap.size + 1 + 1 + 1, 0, none⟩ = some (.slice la acc.length lc) := cell_of_block hb 0
      have f3 : V.frozen? ⟨w.heap.size + 1 + 1 + 1, 0, none⟩ = false := frozen_of_block hb 0
      have HBx := hid hb
      have hVs : w.heap.size + 7 ≤ V.heap.size := by have := lt_of_heap hlb; have := HsD.out; omega
      clear hP2 hne hent hlb hl2 hBx hbx HPS HL hV ho hb HDu hrt
      obtain ⟨i0, hi, hz0, hz1, hz2⟩ := info_parts infoE3
      have HI := hid hi
      clear hi
      have HV2s : Hid (w.heap.size + 7 ≤ (V.alloc (.cells #[str x.name, .int .i64 x.kind, .int .i64 x.mode, str x.link, .slice da dn dc] 31)).heap.size) := by unfold Hid; rw [World.size_alloc]; omega
      have HNa : Hid (∀ j u, (entC (x, .slice da dn dc))[j]? = some u → (V.alloc (.cells #[str x.name, .int .i64 x.kind, .int .i64 x.mode, str x.link, .slice da dn dc] 31)).cell? ((⟨V.heap.size, 0, none⟩ : Addr).add j) = some u) := fun j u hu => by
        rw [Addr.add_mid, cell_of_block (block_new V _), Nat.zero_add]
        simpa [entC] using hu
      have HOa : Hid ((V.alloc (.cells #[str x.name, .int .i64 x.kind, .int .i64 x.mode, str x.link, .slice da dn dc] 31)).ownsRow (w.heap.size + 7) 31 5 (.slice la acc.length lc) acc.length (acc.flatMap entC)) := ownsRow_keep HO.out (fun i C hi => (block_alloc hi _).trans hi.symm)
      have HOne : Hid (∀ u ∈ entC (x, .slice da dn dc), u.oneCell' = true) := fun u hu => by
        simp only [entC, List.mem_cons, List.not_mem_nil, or_false] at hu
        rcases hu with rfl | rfl | rfl | rfl | rfl <;> rfl
      gi_upto_region 9 with fail
      refine wpInR_list (by kernel_rfl) ?_
      go_wp2_with (refine wpList_append_own _ rfl (.tmp 24) (.tmp 26) 22 rfl (w.heap.size + 7) 31 i0 (.agg #[str [], .int .i64 0, .int .i64 0, str [], .slice none 0 0]) 5 72 Try.underlying22 HI.out hz0 hz1 hz2 rfl (by omega) (.slice la acc.length lc) acc.length (acc.flatMap entC) rfl HOa.out ⟨V.heap.size, 0, none⟩ 1 1 (entC (x, .slice da dn dc)) rfl (by rfl) HNa.out HOne.out (by unfold maxLen; omega) (by omega) HV2s.out ?_; intro lv2 w9 hown hgr _; obtain ⟨g9, cp9, rfl, -⟩ := hown.form (by omega); obtain ⟨p1, p2, p3⟩ := HPV.out.app HBx.out HO.out HD2.out HLB.out hgr hown; have c9 : w9.cell? ⟨w.heap.size + 1 + 1 + 1, 0, none⟩ = some (.slice la acc.length lc) := cell_of_block p3 0; have f9 : w9.frozen? ⟨w.heap.size + 1 + 1 + 1, 0, none⟩ = false := frozen_of_block p3 0; have HP1 := hid p1; have HP2 := hid p2; clear hown hgr p1 p2 p3)
      refine JustN.normal ?_
      exact ⟨HP2.out, rfl, HP1.out.put HP2.out (by have := HsD.out; omega), World.putObj_heap_same (lt_of_heap HP2.out)⟩
    case no =>
      rintro acc at_ W ⟨hPS, hl⟩ hat
      have hl' := hl
      rw [← hrc] at hl'
      refine round_world hl' rfl ?_
      rw [hrc]
      clear hrc hl' hsD
      unfold zeroE
      simp only [enV]
      have HPS := hid hPS
      have HL := hid hl
      clear hPS hl HP0 HX HR
      have hbx := block_new W (.cells #[str [], .int .i64 0, .int .i64 0, str [], .slice none 0 0] 31)
      have hBx := (Below.refl W.heap.size W).alloc (Nat.le_refl _) (.cells #[str [], .int .i64 0, .int .i64 0, str [], .slice none 0 0] 31)
      gi_wp2
      have hl2 := (hBx.block _ (lt_of_heap HL.out)).trans HL.out
      refine ⟨hl2, ?_⟩
      generalize hV : World.putObj (World.alloc W _) _ _ = V
      have hP2 : PS w (.slice ao bs.length cap) acc V := by rw [← hV]; exact (HPS.out.up hBx).put hl2 (by rw [HsD.out]; omega)
      have hne : W.heap.size ≠ wD.heap.size + 1 := by have := lt_of_heap HL.out; omega
      have hent : V.heap[W.heap.size]? = some (.cells #[str [], .int .i64 0, .int .i64 0, str [], .slice none 0 0] 31 (0, 0)) := by rw [← hV]; exact (World.putObj_heap_other hne).trans hbx
      have hlb : V.heap[wD.heap.size + 1]? = some (.loop (rc .busy none)) := by rw [← hV]; exact World.putObj_heap_same (lt_of_heap hl2)
      have HPV := hid hP2
      have HLB := hid hlb
      have d1 : V.cell? ⟨W.heap.size, 1, none⟩ = some (.int .i64 0) := cell_of_block hent 1
      have c0 : V.cell? ⟨w.heap.size, 0, none⟩ = some (.slice none 0 0) := cell_of_block hP2.r0 0
      have c1 : V.cell? ⟨w.heap.size + 1, 0, none⟩ = some (.int .i64 0) := cell_of_block hP2.r1 0
      have c2 : V.cell? ⟨w.heap.size + 1 + 1, 0, none⟩ = some (.int .i64 0) := cell_of_block hP2.r2 0
      have f0 : V.frozen? ⟨w.heap.size, 0, none⟩ = false := frozen_of_block hP2.r0 0
      have f1 : V.frozen? ⟨w.heap.size + 1, 0, none⟩ = false := frozen_of_block hP2.r1 0
      have f2 : V.frozen? ⟨w.heap.size + 1 + 1, 0, none⟩ = false := frozen_of_block hP2.r2 0
      clear hP2 hne hent hlb hl2 hBx hbx HPS HL hV
      gi_wp2
      have hsz := HsD.out
      have b1 := HPV.out.low.setCell (show w.heap.size ≤ Addr.block ⟨w.heap.size, 0, none⟩ from Nat.le_refl _) (.slice none 0 0)
      have b2 := b1.setCell (show w.heap.size ≤ Addr.block ⟨w.heap.size + 1, 0, none⟩ from by simp) (.int .i64 3)
      have b3 := b2.setCell (show w.heap.size ≤ Addr.block ⟨w.heap.size + 1 + 1, 0, none⟩ from by simp; omega) (.int .i64 (at_ : Int))
      have hl3 : (((V.setCell ⟨w.heap.size, 0, none⟩ (.slice none 0 0)).setCell ⟨w.heap.size + 1, 0, none⟩ (.int .i64 3)).setCell ⟨w.heap.size + 1 + 1, 0, none⟩ (.int .i64 (at_ : Int))).heap[wD.heap.size + 1]? = some (.loop (rc .busy none)) :=
        (block_setCell_other _ _ (by omega)).trans ((block_setCell_other _ _ (by omega)).trans ((block_setCell_other _ _ (by omega)).trans HLB.out))
      have hX3 : PX w at_ (((V.setCell ⟨w.heap.size, 0, none⟩ (.slice none 0 0)).setCell ⟨w.heap.size + 1, 0, none⟩ (.int .i64 3)).setCell ⟨w.heap.size + 1 + 1, 0, none⟩ (.int .i64 (at_ : Int))) :=
        ⟨b3, (block_setCell_other _ _ (by omega)).trans ((block_setCell_other _ _ (by omega)).trans (block_setCell HPV.out.r0 0 _)), (block_setCell_other _ _ (by omega)).trans (block_setCell ((block_setCell_other _ _ (by omega)).trans HPV.out.r1) 0 _), block_setCell ((block_setCell_other _ _ (by omega)).trans ((block_setCell_other _ _ (by omega)).trans HPV.out.r2)) 0 _, (block_setCell_other _ _ (by omega)).trans ((block_setCell_other _ _ (by omega)).trans ((block_setCell_other _ _ (by omega)).trans HPV.out.df))⟩
      exact ⟨hl3, rfl, hX3.put hl3 (by omega), World.putObj_heap_same (lt_of_heap hl3)⟩
    rintro e W2 ⟨⟨v, rfl⟩, hE⟩
    refine ⟨⟨_, rfl⟩, ?_⟩
    unfold EntsTo at hE
    have HPT : Hid (∀ E V, Below w.heap.size w V → (match parseF 118 bs 0 [] with
      | (none, at_) => E = .returned (.tuple #[.slice none 0 0, .int .i64 3, .int .i64 (at_ : Nat)])
      | (some es, _) => ∃ (acc : List (EN × Value)) (lv : Value), acc.map Prod.fst = es ∧ E = .returned (.tuple #[lv, .int .i64 0, .int .i64 0]) ∧ V.ownsRow (w.heap.size + 7) 31 5 lv acc.length (acc.flatMap entC) ∧ ∀ p ∈ acc, DataU V 0 p.2 p.1.data) → ParseTo w bs E V) := fun E V h1 h2 => ⟨h1, by rw [if_neg h6]; exact h2⟩
    generalize parseF 118 bs 0 [] = r at hE HPT
    obtain ⟨r1, r2⟩ := r
    cases r1 with
    | some es =>
      obtain ⟨acc, hes, hPS, hl⟩ := hE
      refine ⟨_, _, ?_, hl, ?_⟩
      · intro h; cases h
      · have hP2 := hPS.put (r' := rc .exhausted none) hl (by rw [HsD.out]; omega)
        obtain ⟨lv, hb, ho⟩ := hP2.box
        obtain ⟨la, ln, lc, rfl⟩ : ∃ la ln lc, lv = .slice la ln lc := by
          rcases ho.2 with ⟨rfl, _⟩ | ⟨g, cp, cu, rfl, _⟩
          · exact ⟨_, _, _, rfl⟩
          · exact ⟨_, _, _, rfl⟩
        subst hrc
        have HPS := hid hP2
        have HO := hid ho
        have HES := hid hes
        clear hPS hl hes ho HP0 HX HR
        generalize W2.putObj _ _ = W3 at *
        show Exit.inBlock 0 _ .normal _ _
        have c0 : W3.cell? ⟨w.heap.size, 0, none⟩ = some (.slice none 0 0) := cell_of_block HPS.out.r0 0
        have c1 : W3.cell? ⟨w.heap.size + 1, 0, none⟩ = some (.int .i64 0) := cell_of_block HPS.out.r1 0
        have c2 : W3.cell? ⟨w.heap.size + 1 + 1, 0, none⟩ = some (.int .i64 0) := cell_of_block HPS.out.r2 0
        have c3 : W3.cell? ⟨w.heap.size + 1 + 1 + 1, 0, none⟩ = some (.slice la ln lc) := cell_of_block hb 0
        have f0 : W3.frozen? ⟨w.heap.size, 0, none⟩ = false := frozen_of_block HPS.out.r0 0
        have f1 : W3.frozen? ⟨w.heap.size + 1, 0, none⟩ = false := frozen_of_block HPS.out.r1 0
        have f2 : W3.frozen? ⟨w.heap.size + 1 + 1, 0, none⟩ = false := frozen_of_block HPS.out.r2 0
        clear hb
        gi_wp2
        have hF := fin_world (x := .slice la ln lc) (y := .int .i64 0) (z := .int .i64 0) (ob := .deferred none) HPS.out.low
        have hK9 : (((W3.setCell ⟨w.heap.size, 0, none⟩ (.slice la ln lc)).setCell ⟨w.heap.size + 1, 0, none⟩ (.int .i64 0)).setCell ⟨w.heap.size + 1 + 1, 0, none⟩ (.int .i64 0)).heap[w.heap.size + 1 + 1 + 1 + 1 + 1]? = some (.deferred (some [])) :=
          (block_setCell_other _ _ (by omega)).trans ((block_setCell_other _ _ (by omega)).trans ((block_setCell_other _ _ (by omega)).trans HPS.out.df))
        refine ⟨by simp, .inl ⟨_, _, rfl, run_takeDeferred hK9, ?_⟩⟩
        refine ⟨_, results_parse rfl rfl rfl ((World.putObj_heap_other (by omega)).trans ((block_setCell_other _ _ (by omega)).trans ((block_setCell_other _ _ (by omega)).trans (block_setCell HPS.out.r0 0 _)))) ((World.putObj_heap_other (by omega)).trans ((block_setCell_other _ _ (by omega)).trans (block_setCell ((block_setCell_other _ _ (by omega)).trans HPS.out.r1) 0 _))) ((World.putObj_heap_other (by omega)).trans (block_setCell ((block_setCell_other _ _ (by omega)).trans ((block_setCell_other _ _ (by omega)).trans HPS.out.r2)) 0 _)), ?_⟩
        obtain ⟨h1, h2⟩ := HPS.out.apart hF.2
        exact HPT.out _ _ hF.1 ⟨acc, _, HES.out, rfl, h1 _ HO.out, h2⟩
    | none =>
      obtain ⟨hPX, hl⟩ := hE
      refine ⟨_, _, ?_, hl, ?_⟩
      · intro h; cases h
      · have hP2 := hPX.put (r' := rc .exhausted (some .ret)) hl (by rw [HsD.out]; omega)
        subst hrc
        have HPX := hid hP2
        clear hPX hl hP2 HP0 HX HR
        generalize W2.putObj _ _ = W3 at *
        show Code.wpIn Fence.wide 8 _ .ret _ _ _
        gi_wp2
        refine ⟨by simp, .inl ⟨_, _, rfl, run_takeDeferred HPX.out.df, ?_⟩⟩
        refine ⟨_, results_parse rfl rfl rfl ((World.putObj_heap_other (by omega)).trans HPX.out.r0) ((World.putObj_heap_other (by omega)).trans HPX.out.r1) ((World.putObj_heap_other (by omega)).trans HPX.out.r2), ?_⟩
        exact HPT.out _ _ (below_grown HPX.out.low (grownBy_putObj' _ _ _) (by omega) HPX.out.low.size) rfl
end Go.Proofs.Ytdfnhgkabaikaaa
