/- wal.layout.grouped: pages as a group. -/
import Derived.Test.YtoeiodiadanhkaaGreatGrp
namespace Go.Proofs.YtoeiodiadanhkaaGreat
open Go.RowKit Go.Maps
/-- A page that is handed in: its number, and where its bytes lie. -/
structure PageS where
  n : Int
  a : Option Addr
  len : Nat
  cap : Nat
def PageS.val (p : PageS) : Value := .slice p.a p.len p.cap
/-- Pages in memory, two cells each. -/
def pagesAt (w : World) (pa : Option Addr) (ps : List PageS) : Prop := ∀ j, j < ps.length → ∃ b o, pa = some ⟨b, o, none⟩ ∧ ∀ i (hi : i < ps.length), w.cell? ⟨b, o + i * 2, none⟩ = some (.int .i64 ps[i].n) ∧ w.cell? ⟨b, o + i * 2 + 1, none⟩ = some ps[i].val
def updV (f : Int → Option Value) (n : Int) (v : Value) : Int → Option Value := fun k => if k = n then some v else f k
/-- What the group has behind the first j pages, and what is wrong with them. -/
def grpVal (ps : List PageS) : Nat → Int → Option Value
  | 0 => fun _ => none
  | j + 1 => match ps[j]? with
    | some p => updV (grpVal ps j) p.n p.val
    | none => grpVal ps j
def grpErr (ps : List PageS) : Nat → Int
  | 0 => 0
  | j + 1 => match ps[j]? with
    | some p => if (grpVal ps j p.n).isSome ∨ p.len ≠ 512 then 3 else grpErr ps j
    | none => grpErr ps j
theorem wpList_mapUpdate_self {P : Program} {w : World} {ops : Array Oper} {rest : List Oper} {o : Oper} {a : Act} {Q : Exit → Act → World → Prop} (hg : o.guard = none) (m x v : Operand) (t : TypeId) (hop : o.op = Op.mapUpdate t m x v) (k e : TypeId) (KK : Keyed P k) (ht : P.underlying t = some (.map k e)) (b n : Nat) (D : DataW Value)
    (hm : a.eval m = .map (some b)) (hown : w.ownsMap P k selfElem b n D) (hn : n < maxLen) (key val : Value) (kl : Lit) (hx : a.eval x = key) (hv : a.eval v = val) (hkey : keyOf P k key = some kl)
    (h : ∀ w', w'.ownsMap P k selfElem b (n + 1) (D.put kl (.held val)) → w.grownBy w' (some b) → wpList P ops Q rest (a.put o.dst undef) w') : wpList P ops Q (o :: rest) a w :=
  wpList_plain hg fun _ hK => wp_mapUpdate_self m x v t hop k e KK ht b n D hm hown hn key val kl hx hv hkey (fun w' h1 h2 => hK _ _ (h w' h1 h2))
theorem wpList_lookup_ok_self {P : Program} {w : World} {ops : Array Oper} {rest : List Oper} {o : Oper} {a : Act} {Q : Exit → Act → World → Prop} (hg : o.guard = none) (m x : Operand) (t : TypeId) (hop : o.op = Op.lookup t m x true) (k e : TypeId) (KK : Keyed P k) (ht : P.underlying t = some (.map k e)) {z : Value} (hz : (zeroValue e).run P w = .ok z w) (b n : Nat) (D : DataW Value)
    (hm : a.eval m = .map (some b)) (hown : w.ownsMap P k selfElem b n D) (key : Value) (kl : Lit) (hx : a.eval x = key) (hkey : keyOf P k key = some kl) (q : Bool) (hq : Maps.has D kl = q)
    (h : ∀ v, wpList P ops Q rest (a.put o.dst (.tuple #[v, .bool q])) w) : wpList P ops Q (o :: rest) a w :=
  wpList_lookup_own_ok w hg m x t hop k e KK ht selfElem hz (.held z) [] rfl b n D hm hown key kl hx hkey (fun v ps _ => by rw [hq]; exact h v)
theorem GrpIn.put {w w' : World} {m B : Nat} {D : DataW Value} {N : Nat} {val : Int → Option Value} (h : GrpIn w m B D N val) {n : Int} {v : Value} (h0 : 0 ≤ n) (h1 : n < N)
    (hm : w'.ownsMap Tryz.prog 3 selfElem m (B + 1) (D.put (.int .i64 n) (.held v))) : GrpIn w' m (B + 1) (D.put (.int .i64 n) (.held v)) N (updV val n v) where
  mapOwn := hm
  absent := fun k hk => by
    by_cases e : k = n
    · subst e; simp [updV] at hk
    · rw [has_put_other (by simpa using e)]; exact h.absent k (by simpa [updV, e] using hk)
  there := fun k u hk => by
    by_cases e : k = n
    · subst e; exact has_put_same h.mapOwn.isMap (keyLit_i64 _) _
    · rw [has_put_other (by simpa using e)]; exact h.there k u (by simpa [updV, e] using hk)
  held := fun k u hk z => by
    by_cases e : k = n
    · subst e
      rw [atKey_put_same h.mapOwn.isMap (keyLit_i64 _)]
      simp [updV] at hk
      rw [hk]
    · rw [atKey_put_other (by simpa using e)]; exact h.held k u (by simpa [updV, e] using hk) z
  dom := fun k u hk => by
    by_cases e : k = n
    · subst e; exact ⟨h0, h1⟩
    · exact h.dom k u (by simpa [updV, e] using hk)
theorem GrpIn.has {w : World} {m B : Nat} {D : DataW Value} {N : Nat} {val : Int → Option Value} (h : GrpIn w m B D N val) (n : Int) : Maps.has D (.int .i64 n) = (val n).isSome := by
  cases hv : val n with
  | none => rw [h.absent n hv]; rfl
  | some v => rw [h.there n v hv]; rfl
/-- What grouped answers: a number of no page, or the group, and what is wrong with it. -/
def GroupedTo (ps : List PageS) (N K : Nat) (w' : World) (e : Ending) : Prop :=
  (∃ j, ∃ hj : j < ps.length, ¬ (0 ≤ ps[j].n ∧ ps[j].n < (N : Int)) ∧ e = .returned (.tuple #[.map none, .int .i64 2])) ∨
  ((∀ j (hj : j < ps.length), 0 ≤ ps[j].n ∧ ps[j].n < (N : Int)) ∧ ∃ m D, e = .returned (.tuple #[.map (some m), .int .i64 (grpErr ps ps.length)]) ∧ K ≤ m ∧ GrpIn w' m 100 D N (grpVal ps ps.length))
set_option maxRecDepth 100000 in
set_option maxHeartbeats 2000000 in
theorem grouped_any (d : DL) (S : DiskS) (size : Nat) (ps : List PageS) (pa : Option Addr) (pc : Nat) (w : World) (h : DiskRd w d S) (hs : size + 1 ≤ S.safe.length) (hp : pagesAt w pa ps) (hl : ps.length ≤ 100) :
    Calls Tryz.prog 40 #[layV d.p size, .slice pa ps.length pc] w fun e w' => Below w.heap.size w w' ∧
      GroupedTo ps (pagesS S size) w.heap.size w' e := by
  have HH := hid (fun n W hW => lay_has d S size n W (h.below (w' := W) hW) hs)
  unfold layV at HH ⊢
  have HP := hid hp
  have HPm : Hid (pagesS S size ≤ 4096) := by have := h.plates.most; unfold Hid pagesS; omega
  have HMono : Hid (∀ {W : World} {m : Nat} {D : DataW Value}, W.ownsMap Tryz.prog 3 selfElem m ps.length D → W.ownsMap Tryz.prog 3 selfElem m 100 D) := fun {W m D} ⟨es, c, h1, h2, h3, h4⟩ => ⟨es, c, h1, h2, by omega, h4⟩
  clear h hp
  obtain ⟨m1, m2, m3, m4⟩ := new2 w (.cells #[.pointer (some ⟨d.p, 0, none⟩), .int .i64 size] 77) (.map #[] 0)
  have HM1 := hid m1
  have HG0 : Hid (GrpIn ((w.alloc (.cells #[.pointer (some ⟨d.p, 0, none⟩), .int .i64 size] 77)).alloc (.map #[] 0)) (w.heap.size + 1) 0 (.map []) (pagesS S size) (grpVal ps 0)) :=
    ⟨map_empty m2, fun _ _ => rfl, fun n v hv => (by cases hv), fun n v hv => (by cases hv), fun n v hv => (by cases hv)⟩
  have HB0 := hid m3
  have hmk : ∀ W : World, (Instr.makeMap 81 none).run Tryz.prog W = .ok (.map (some W.heap.size)) (W.alloc (.map #[] 0)) := fun W => by kernel_rfl
  clear m1 m2 m3 m4
  go_enter Tryz.func40, Tryz.ntmps40
  go_wp2
  clear hmk
  generalize (w.alloc (.cells #[.pointer (some ⟨d.p, 0, none⟩), .int .i64 size] 77)).alloc (.map #[] 0) = w1 at *
  go_loopw [7, 15] (fun e i wr => ∃ (j : Nat) (D : DataW Value), j ≤ ps.length ∧ e = .int .i64 (grpErr ps j) ∧ i = .int .i64 j ∧ Hid (GrpIn wr (w.heap.size + 1) j D (pagesS S size) (grpVal ps j)) ∧ Hid (∀ k (hk : k < ps.length), k < j → 0 ≤ ps[k].n ∧ ps[k].n < (pagesS S size : Nat)) ∧ Hid (wr.heap[w.heap.size]? = some (.cells #[.pointer (some ⟨d.p, 0, none⟩), .int .i64 size] 77 (0, 0))) ∧ Hid (Below w.heap.size w wr)) (fun _ i _ => ps.length - (intOf i).toNat)
  case atStart => exact ⟨0, _, by omega, rfl, rfl, HG0, fun k _ h => by omega, HM1, HB0⟩
  case round =>
    obtain ⟨j, D, hj, rfl, rfl, hG, hA, hM, hB⟩ := hrel
    by_cases hlt : j < ps.length
    · have hj0 : (0 : Int) ≤ (j : Int) := by omega
      have hj1 : (j : Int) < (ps.length : Int) := by omega
      obtain ⟨b, o, rfl, hc⟩ := HP.out j hlt
      obtain ⟨hc0, hc1⟩ := hc j hlt
      have c0 : wr.cell? ⟨b, o + j * 2, none⟩ = some (.int .i64 ps[j].n) := (hB.out.cell (p := ⟨b, o + j * 2, none⟩) (World.block_lt_of_cell? w _ hc0)).trans hc0
      have c1 : wr.cell? ⟨b, o + j * 2 + 1, none⟩ = some (.slice ps[j].a ps[j].len ps[j].cap) := (hB.out.cell (p := ⟨b, o + j * 2 + 1, none⟩) (World.block_lt_of_cell? w _ hc1)).trans hc1
      have l0 : wr.cell? ⟨w.heap.size, 0, none⟩ = some (.pointer (some ⟨d.p, 0, none⟩)) := cell_of_block hM.out 0
      have l1 : wr.cell? ⟨w.heap.size, 1, none⟩ = some (.int .i64 size) := cell_of_block hM.out 1
      have hpj : ps[j]? = some ps[j] := List.getElem?_eq_getElem hlt
      have HV : Hid (grpVal ps (j + 1) = updV (grpVal ps j) ps[j].n (.slice ps[j].a ps[j].len ps[j].cap)) := by unfold Hid; rw [grpVal, hpj]; rfl
      have HE : Hid (grpErr ps (j + 1) = if (grpVal ps j ps[j].n).isSome ∨ ps[j].len ≠ 512 then 3 else grpErr ps j) := by unfold Hid; rw [grpErr, hpj]
      clear hc hc0 hc1 hpj
      have hwl := lt_of_heap hM.out
      have hal := (Below.refl wr.heap.size wr).alloc (Nat.le_refl _) (.cells #[.int .i64 ps[j].n, .slice ps[j].a ps[j].len ps[j].cap] 39)
      have hpb := block_new wr (.cells #[.int .i64 ps[j].n, .slice ps[j].a ps[j].len ps[j].cap] 39)
      have HAl := hid hal
      have HPb := hid hpb
      have q0 : (wr.alloc (.cells #[.int .i64 ps[j].n, .slice ps[j].a ps[j].len ps[j].cap] 39)).cell? ⟨w.heap.size, 0, none⟩ = some (.pointer (some ⟨d.p, 0, none⟩)) := (hal.cell (p := ⟨w.heap.size, 0, none⟩) hwl).trans l0
      have q1 : (wr.alloc (.cells #[.int .i64 ps[j].n, .slice ps[j].a ps[j].len ps[j].cap] 39)).cell? ⟨w.heap.size, 1, none⟩ = some (.int .i64 size) := (hal.cell (p := ⟨w.heap.size, 1, none⟩) hwl).trans l1
      clear hal hpb
      go_wp2_with fail
      refine (HH.out ps[j].n _ (hB.out.trans (HAl.out.mono hB.out.size))).mono ?_
      rintro e w5 ⟨rfl, hb5⟩
      have HM5 := hid (below_block hb5 (below_block HAl.out hM.out hwl) (by have := HAl.out.size; omega))
      have hP5 := below_block hb5 HPb.out (lt_of_heap HPb.out)
      have HG5 := hid ((hG.out.below HAl.out).below hb5)
      have HB5 := hid ((hB.out.trans (HAl.out.mono hB.out.size)).trans (hb5.mono (by have := HAl.out.size; have := hB.out.size; omega)))
      have p0 : w5.cell? ⟨wr.heap.size, 0, none⟩ = some (.int .i64 ps[j].n) := cell_of_block hP5 0
      have p1 : w5.cell? ⟨wr.heap.size, 1, none⟩ = some (.slice ps[j].a ps[j].len ps[j].cap) := cell_of_block hP5 1
      have hps : pagesS S size ≤ 4096 := HPm.out
      clear hb5 hP5 q0 q1 HAl HPb l0 l1 c0 c1
      by_cases hin : 0 ≤ ps[j].n ∧ ps[j].n < (pagesS S size : Nat)
      · rw [decide_eq_true hin]
        obtain ⟨hx0, hx1⟩ := hin
        have HA6 : Hid (∀ k (hk : k < ps.length), k < j + 1 → 0 ≤ ps[k].n ∧ ps[k].n < (pagesS S size : Nat)) := fun k hk hkj => by
          rcases Nat.lt_or_ge k j with h1 | h1
          · exact hA.out k hk h1
          · obtain rfl : k = j := by omega
            exact ⟨hx0, hx1⟩
        have HQ0 := hid (HG5.out.has ps[j].n)
        generalize hxn : ps[j].n = x at *
        generalize hxa : ps[j].a = pA at *
        generalize hxl : ps[j].len = pL at *
        generalize hxc : ps[j].cap = pC at *
        clear hxn hxa hxl hxc
        cases hq : (grpVal ps j x).isSome with
        | true =>
          have HQ : Hid (Maps.has D (.int .i64 x) = true) := HQ0.out.trans hq
          have HE3 : Hid (grpErr ps (j + 1) = 3) := by unfold Hid; rw [HE.out, if_pos (.inl hq)]
          clear HQ0 hq HE
          go_wp2_with (first
            | (refine wpList_lookup_ok_self rfl (.tmp 25) (.tmp 27) 81 rfl 3 37 (int_keyed Tryz.underlying3) Tryz.underlying81 (Tryz.zeroValue37 _) (w.heap.size + 1) j D rfl HG5.out.mapOwn (.int .i64 x) (.int .i64 x) rfl (keyI (by omega) (by omega)) true HQ.out ?_; intro lv)
            | (refine wpList_mapUpdate_self rfl (.tmp 38) (.tmp 40) (.tmp 42) 81 rfl 3 37 (int_keyed Tryz.underlying3) Tryz.underlying81 (w.heap.size + 1) j D rfl HG5.out.mapOwn (by unfold maxLen; omega) (.int .i64 x) (.slice pA pL pC) (.int .i64 x) rfl rfl (keyI (by omega) (by omega)) ?_; intro w6 hm6 hg6; have HG6 := hid (HG5.out.put hx0 hx1 hm6); have HB6 := hid (HB5.out.trans (below_of_row hg6 HB5.out.size (fun i e => by have := Option.some.inj e; omega))); have HM6 := hid (grown_block hg6 HM5.out (fun e => by have := Option.some.inj e; omega)); clear hm6 hg6))
          refine ⟨⟨j + 1, _, by omega, by rw [HE3.out], by go_num, by rw [HV.out]; exact HG6, HA6, HM6, HB6⟩, by simp [intOf]; omega⟩
        | false =>
          have HQ : Hid (Maps.has D (.int .i64 x) = false) := HQ0.out.trans hq
          by_cases h5 : pL = 512
          · have HE3 : Hid (grpErr ps (j + 1) = grpErr ps j) := by unfold Hid; rw [HE.out, if_neg (by simp [hq, h5])]
            clear HQ0 hq HE
            subst h5
            go_wp2_with (first
              | (refine wpList_lookup_ok_self rfl (.tmp 25) (.tmp 27) 81 rfl 3 37 (int_keyed Tryz.underlying3) Tryz.underlying81 (Tryz.zeroValue37 _) (w.heap.size + 1) j D rfl HG5.out.mapOwn (.int .i64 x) (.int .i64 x) rfl (keyI (by omega) (by omega)) false HQ.out ?_; intro lv)
              | (refine wpList_mapUpdate_self rfl (.tmp 38) (.tmp 40) (.tmp 42) 81 rfl 3 37 (int_keyed Tryz.underlying3) Tryz.underlying81 (w.heap.size + 1) j D rfl HG5.out.mapOwn (by unfold maxLen; omega) (.int .i64 x) (.slice pA 512 pC) (.int .i64 x) rfl rfl (keyI (by omega) (by omega)) ?_; intro w6 hm6 hg6; have HG6 := hid (HG5.out.put hx0 hx1 hm6); have HB6 := hid (HB5.out.trans (below_of_row hg6 HB5.out.size (fun i e => by have := Option.some.inj e; omega))); have HM6 := hid (grown_block hg6 HM5.out (fun e => by have := Option.some.inj e; omega)); clear hm6 hg6))
            refine ⟨⟨j + 1, _, by omega, by rw [HE3.out], by go_num, by rw [HV.out]; exact HG6, HA6, HM6, HB6⟩, by simp [intOf]; omega⟩
          · have HE3 : Hid (grpErr ps (j + 1) = 3) := by unfold Hid; rw [HE.out, if_pos (.inr h5)]
            have h5' : ((pL : Int) == 512) = false := by rw [beq_eq_false_iff_ne]; omega
            clear HQ0 hq HE
            go_wp2_with (first
              | (refine wpList_lookup_ok_self rfl (.tmp 25) (.tmp 27) 81 rfl 3 37 (int_keyed Tryz.underlying3) Tryz.underlying81 (Tryz.zeroValue37 _) (w.heap.size + 1) j D rfl HG5.out.mapOwn (.int .i64 x) (.int .i64 x) rfl (keyI (by omega) (by omega)) false HQ.out ?_; intro lv)
              | (refine wpList_mapUpdate_self rfl (.tmp 38) (.tmp 40) (.tmp 42) 81 rfl 3 37 (int_keyed Tryz.underlying3) Tryz.underlying81 (w.heap.size + 1) j D rfl HG5.out.mapOwn (by unfold maxLen; omega) (.int .i64 x) (.slice pA pL pC) (.int .i64 x) rfl rfl (keyI (by omega) (by omega)) ?_; intro w6 hm6 hg6; have HG6 := hid (HG5.out.put hx0 hx1 hm6); have HB6 := hid (HB5.out.trans (below_of_row hg6 HB5.out.size (fun i e => by have := Option.some.inj e; omega))); have HM6 := hid (grown_block hg6 HM5.out (fun e => by have := Option.some.inj e; omega)); clear hm6 hg6))
            refine ⟨⟨j + 1, _, by omega, by rw [HE3.out], by go_num, by rw [HV.out]; exact HG6, HA6, HM6, HB6⟩, by simp [intOf]; omega⟩
      · rw [decide_eq_false hin]
        have HIn := hid hin
        clear hin
        go_wp2
        go_returns
        exact ⟨HB5.out, .inl ⟨j, hlt, HIn.out, rfl⟩⟩
    · obtain rfl : j = ps.length := by omega
      have hge : ¬ ((ps.length : Int) < (ps.length : Int)) := by omega
      go_wp2
      go_returns
      exact ⟨hB.out, .inr ⟨fun k hk => hA.out k hk hk, _, D, rfl, by omega, ⟨HMono.out hG.out.mapOwn, hG.out.absent, hG.out.there, hG.out.held, hG.out.dom⟩⟩⟩
end Go.Proofs.YtoeiodiadanhkaaGreat
