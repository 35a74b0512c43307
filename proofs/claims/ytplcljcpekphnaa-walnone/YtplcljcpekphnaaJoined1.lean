/- Several of my texts in one: Shelf, Repeat, Do, Clone, Nil, Made, Has, Disk, Write, New, NewDisk, Iter, Waiting, Waiting2, Crash, Read, Deed, Live. -/
import Derived.Shelf.Small.Wraps
import Derived.Shelf.Sort.Plain
import Derived.Shelf.Bits.Mul64
import Derived.Shelf.Strings.Repeat
import Derived.Shelf.Slices.In.SortNone
import Derived.Test.YtplcljcpekphnaaProg
import Derived.Test.YtplcljcpekphnaaKit
import Derived.Test.YtplcljcpekphnaaRows
import Derived.Laws.CopyOwn
import Derived.ArgAppend
import Derived.Deep.RegionHeld3
import Derived.Test.YtplcljcpekphnaaState
import Derived.Deep.AppendLies
import Derived.Laws.OwnMore
import Derived.WalkKit
import Derived.ProofKit
import Derived.Handy
import Derived.WalkSmall
import Derived.Carry
import Derived.Deep.Onto
import Derived.Laws.IdiomStrings
import Derived.Shelf.SlGeneric
import Derived.Shelf.SlIterI.Nil
import Derived.Ground.GgzProg
import Derived.Shelf.AbstractIn
/- What the library's functions do that are called here: each one application of a contract of the given library. -/
namespace Go.Proofs
open Go.Shelf
def Try.lays189_ren : Go.Shelf.Ren := ⟨fun | 189 => 55 | 125 => 65 | 257 => 64 | 128 => 77 | 129 => 78 | 294 => 68 | 295 => 69 | 296 => 70 | 297 => 71 | 298 => 72 | 299 => 73 | 216 => 74 | 300 => 75 | 301 => 76 | 328 => 79 | 329 => 80 | 330 => 81 | 331 => 82 | 332 => 83 | 215 => 84 | 343 => 85 | n => n, fun | 28 => 37 | 3 => 3 | 46 => 82 | 0 => 0 | 51 => 108 | 53 => 111 | 4 => 4 | 183 => 123 | 182 => 122 | 131 => 128 | 5 => 5 | 9 => 9 | 218 => 132 | 222 => 136 | 228 => 138 | 229 => 139 | n => n, fun | n => n⟩
theorem Try.lays189 : Go.Proofs.Lays.n189 Try.prog Try.lays189_ren := {
  mixed := by kernel_rfl
  f125 := Try.func65.trans (congrArg some (by kernel_rfl))
  f128 := Try.func77.trans (congrArg some (by kernel_rfl))
  f129 := Try.func78.trans (congrArg some (by kernel_rfl))
  f189 := Try.func55.trans (congrArg some (by kernel_rfl))
  f215 := Try.func84.trans (congrArg some (by kernel_rfl))
  f216 := Try.func74.trans (congrArg some (by kernel_rfl))
  f257 := Try.func64.trans (congrArg some (by kernel_rfl))
  f294 := Try.func68.trans (congrArg some (by kernel_rfl))
  f295 := Try.func69.trans (congrArg some (by kernel_rfl))
  f296 := Try.func70.trans (congrArg some (by kernel_rfl))
  f297 := Try.func71.trans (congrArg some (by kernel_rfl))
  f298 := Try.func72.trans (congrArg some (by kernel_rfl))
  f299 := Try.func73.trans (congrArg some (by kernel_rfl))
  f300 := Try.func75.trans (congrArg some (by kernel_rfl))
  f301 := Try.func76.trans (congrArg some (by kernel_rfl))
  f328 := Try.func79.trans (congrArg some (by kernel_rfl))
  f329 := Try.func80.trans (congrArg some (by kernel_rfl))
  f330 := Try.func81.trans (congrArg some (by kernel_rfl))
  f331 := Try.func82.trans (congrArg some (by kernel_rfl))
  f332 := Try.func83.trans (congrArg some (by kernel_rfl))
  f343 := Try.func85.trans (congrArg some (by kernel_rfl))
  t0 := Try.underlying0
  a0 := Try.isAgg0
  z0 := Try.sizeOf0
  v0 := Try.zeroValue0
  t3 := Try.underlying3
  a3 := Try.isAgg3
  z3 := Try.sizeOf3
  v3 := Try.zeroValue3
  t4 := Try.underlying4
  a4 := Try.isAgg4
  z4 := Try.sizeOf4
  v4 := Try.zeroValue4
  t5 := Try.underlying5
  a5 := Try.isAgg5
  z5 := Try.sizeOf5
  v5 := Try.zeroValue5
  t9 := Try.underlying9
  a9 := Try.isAgg9
  z9 := Try.sizeOf9
  v9 := Try.zeroValue9
  t28 := Try.underlying37
  a28 := Try.isAgg37
  z28 := Try.sizeOf37
  v28 := Try.zeroValue37
  t46 := Try.underlying82
  a46 := Try.isAgg82
  z46 := Try.sizeOf82
  v46 := Try.zeroValue82
  t51 := Try.underlying108
  a51 := Try.isAgg108
  z51 := Try.sizeOf108
  v51 := Try.zeroValue108
  t53 := Try.underlying111
  a53 := Try.isAgg111
  z53 := Try.sizeOf111
  v53 := Try.zeroValue111
  t131 := Try.underlying128
  a131 := Try.isAgg128
  z131 := Try.sizeOf128
  v131 := Try.zeroValue128
  t182 := Try.underlying122
  a182 := Try.isAgg122
  z182 := Try.sizeOf122
  v182 := Try.zeroValue122
  t183 := Try.underlying123
  a183 := Try.isAgg123
  z183 := Try.sizeOf123
  v183 := Try.zeroValue123
  t218 := Try.underlying132
  a218 := Try.isAgg132
  z218 := Try.sizeOf132
  v218 := Try.zeroValue132
  t222 := Try.underlying136
  a222 := Try.isAgg136
  z222 := Try.sizeOf136
  v222 := Try.zeroValue136
  t228 := Try.underlying138
  a228 := Try.isAgg138
  z228 := Try.sizeOf138
  v228 := Try.zeroValue138
  t229 := Try.underlying139
  a229 := Try.isAgg139
  z229 := Try.sizeOf139
  v229 := Try.zeroValue139 }
open Go.Sort Go.RowKit in
theorem Try.slices_Sort_int (blk off cap : Nat) (zs : List Int) (w : World) (hH : Holds (Value.int .i64) w blk off zs.toArray) (hblk : blk < w.heap.size) (hsz : zs.length < 4611686018427387904) :
    Calls Try.prog 55 #[.slice (some ⟨blk, off, none⟩) zs.length cap] w fun e w' =>
      e = .returned (.tuple #[]) ∧ ∃ n os, w' = grow (putRow (Value.int .i64) (Sort.ahead w n) blk off (zs.mergeSort fun x y => decide (x ≤ y)).toArray) os := Any.slices_Sort_int Try.lays189 blk off cap zs w hH hblk hsz
def Try.lays212_ren : Go.Shelf.Ren := ⟨fun | 212 => 48 | 263 => 58 | 264 => 59 | n => n, fun | 46 => 82 | 51 => 108 | 146 => 109 | 53 => 111 | 148 => 112 | n => n, fun | n => n⟩
theorem Try.lays212 : Go.Proofs.Lays.n212 Try.prog Try.lays212_ren := {
  mixed := by kernel_rfl
  f212 := Try.func48.trans (congrArg some (by kernel_rfl))
  f263 := Try.func58.trans (congrArg some (by kernel_rfl))
  f264 := Try.func59.trans (congrArg some (by kernel_rfl))
  t46 := Try.underlying82
  a46 := Try.isAgg82
  z46 := Try.sizeOf82
  v46 := Try.zeroValue82
  t51 := Try.underlying108
  a51 := Try.isAgg108
  z51 := Try.sizeOf108
  v51 := Try.zeroValue108
  t53 := Try.underlying111
  a53 := Try.isAgg111
  z53 := Try.sizeOf111
  v53 := Try.zeroValue111
  t146 := Try.underlying109
  a146 := Try.isAgg109
  z146 := Try.sizeOf109
  v146 := Try.zeroValue109
  t148 := Try.underlying112
  a148 := Try.isAgg112
  z148 := Try.sizeOf112
  v148 := Try.zeroValue112 }
open Go.RowKit Go.Lib in
theorem Try.bits_Mul (x y : Nat) (hx : x < 18446744073709551616) (hy : y < 18446744073709551616) (w : World) :
    Calls Try.prog 48 #[.int .u64 x, .int .u64 y] w fun e w' => e = .returned (.tuple #[.int .u64 ((x * y / 18446744073709551616 : Nat) : Int), .int .u64 ((x * y % 18446744073709551616 : Nat) : Int)]) ∧ w' = w := Any.bits_Mul Try.lays212 x y hx hy w
def Try.lays105_ren : Go.Shelf.Ren := ⟨fun | 105 => 39 | 212 => 48 | 99 => 49 | 165 => 50 | 166 => 51 | 170 => 52 | 169 => 53 | 263 => 58 | 264 => 59 | 206 => 60 | 240 => 61 | 241 => 62 | 276 => 66 | 277 => 67 | n => n, fun | 9 => 9 | 3 => 3 | 4 => 4 | 20 => 20 | 0 => 0 | 46 => 82 | 109 => 93 | 5 => 5 | 72 => 98 | 76 => 102 | 51 => 108 | 146 => 109 | 53 => 111 | 148 => 112 | 70 => 96 | 37 => 26 | 75 => 101 | 127 => 114 | 164 => 118 | 80 => 104 | n => n, fun | n => n⟩
theorem Try.lays105 : Go.Proofs.Lays.n105 Try.prog Try.lays105_ren := {
  mixed := by kernel_rfl
  f99 := Try.func49.trans (congrArg some (by kernel_rfl))
  f105 := Try.func39.trans (congrArg some (by kernel_rfl))
  f165 := Try.func50.trans (congrArg some (by kernel_rfl))
  f166 := Try.func51.trans (congrArg some (by kernel_rfl))
  f169 := Try.func53.trans (congrArg some (by kernel_rfl))
  f170 := Try.func52.trans (congrArg some (by kernel_rfl))
  f206 := Try.func60.trans (congrArg some (by kernel_rfl))
  f212 := Try.func48.trans (congrArg some (by kernel_rfl))
  f240 := Try.func61.trans (congrArg some (by kernel_rfl))
  f241 := Try.func62.trans (congrArg some (by kernel_rfl))
  f263 := Try.func58.trans (congrArg some (by kernel_rfl))
  f264 := Try.func59.trans (congrArg some (by kernel_rfl))
  f276 := Try.func66.trans (congrArg some (by kernel_rfl))
  f277 := Try.func67.trans (congrArg some (by kernel_rfl))
  t0 := Try.underlying0
  a0 := Try.isAgg0
  z0 := Try.sizeOf0
  v0 := Try.zeroValue0
  t3 := Try.underlying3
  a3 := Try.isAgg3
  z3 := Try.sizeOf3
  v3 := Try.zeroValue3
  t4 := Try.underlying4
  a4 := Try.isAgg4
  z4 := Try.sizeOf4
  v4 := Try.zeroValue4
  t5 := Try.underlying5
  a5 := Try.isAgg5
  z5 := Try.sizeOf5
  v5 := Try.zeroValue5
  t9 := Try.underlying9
  a9 := Try.isAgg9
  z9 := Try.sizeOf9
  v9 := Try.zeroValue9
  t20 := Try.underlying20
  a20 := Try.isAgg20
  z20 := Try.sizeOf20
  v20 := Try.zeroValue20
  t37 := Try.underlying26
  a37 := Try.isAgg26
  z37 := Try.sizeOf26
  v37 := Try.zeroValue26
  t46 := Try.underlying82
  a46 := Try.isAgg82
  z46 := Try.sizeOf82
  v46 := Try.zeroValue82
  t51 := Try.underlying108
  a51 := Try.isAgg108
  z51 := Try.sizeOf108
  v51 := Try.zeroValue108
  t53 := Try.underlying111
  a53 := Try.isAgg111
  z53 := Try.sizeOf111
  v53 := Try.zeroValue111
  t70 := Try.underlying96
  a70 := Try.isAgg96
  z70 := Try.sizeOf96
  v70 := Try.zeroValue96
  t72 := Try.underlying98
  a72 := Try.isAgg98
  z72 := Try.sizeOf98
  v72 := Try.zeroValue98
  t75 := Try.underlying101
  a75 := Try.isAgg101
  z75 := Try.sizeOf101
  v75 := Try.zeroValue101
  t76 := Try.underlying102
  a76 := Try.isAgg102
  z76 := Try.sizeOf102
  v76 := Try.zeroValue102
  t109 := Try.underlying93
  a109 := Try.isAgg93
  z109 := Try.sizeOf93
  v109 := Try.zeroValue93
  t127 := Try.underlying114
  a127 := Try.isAgg114
  z127 := Try.sizeOf114
  v127 := Try.zeroValue114
  t146 := Try.underlying109
  a146 := Try.isAgg109
  z146 := Try.sizeOf109
  v146 := Try.zeroValue109
  t148 := Try.underlying112
  a148 := Try.isAgg112
  z148 := Try.sizeOf112
  v148 := Try.zeroValue112
  t164 := Try.underlying118
  a164 := Try.isAgg118
  z164 := Try.sizeOf118
  v164 := Try.zeroValue118 }
theorem Try.Builder_Extra_105 : Builder.Extra Try.prog Try.lays105_ren := {
  sizeBuilder := by kernel_rfl
  liesBuilder := by kernel_rfl
  t5 := Try.underlying5
  a5 := Try.isAgg5
  z5 := Try.sizeOf5
  v5 := Try.zeroValue5
  infoByte := by kernel_rfl
  cellsByte := by kernel_rfl
  sizeByte := by kernel_rfl
  neB5 := by decide }
open Go.RowKit Go.Lib in
theorem Try.strings_Repeat (s : ByteArray) (c : Nat) (w : World) (hc : c ≤ 9223372036854775807) (hlen : s.size * c ≤ 140737488355328) :
    Calls Try.prog 39 #[.string s, .int .i64 c] w fun e w' => e = .returned (.string ⟨(Lib.repeatL s.data.toList c).toArray⟩) ∧ Below w.heap.size w w' := Any.strings_Repeat Try.lays105 Try.Builder_Extra_105 s c w hc hlen
open Go.RowKit Go.Sort in
theorem Try.slices_Sort_int_none (p : Option Addr) (cap : Nat) (w : World) :
    Calls Try.prog 55 #[.slice p 0 cap] w fun e w' => e = .returned (.tuple #[]) ∧ w' = w := Any.slices_Sort_int_none Try.lays189 p cap w
end Go.Proofs
/- slices.Repeat at a slice of one sector: so many sectors, each that one, in a new slice. -/
namespace Go.Proofs.Ytplcljcpekphnaa
open Go.RowKit
theorem hid {p : Prop} (h : p) : Hid p := h
theorem hmix : Try.prog.follows .mixedOrders = true := by kernel_rfl
theorem mul_one_u (n : Nat) (hn : n ≤ 4096) (w : World) : Calls Try.prog 48 #[.int .u64 1, .int .u64 n] w fun e w' => e = .returned (.tuple #[.int .u64 0, .int .u64 n]) ∧ w' = w := by
  have h := Try.bits_Mul 1 n (by omega) (by omega) w
  rw [show 1 * n / 18446744073709551616 = 0 by omega, show 1 * n % 18446744073709551616 = n by omega] at h
  exact h
theorem infoS : (Try.prog.info? 71).map (fun i => (i.zero, i.size, i.bytes)) = some (some (.string ⟨#[]⟩), 1, 16) := by kernel_rfl
theorem sizeS : (Try.prog.info? 71).map (·.size) = some 1 := by kernel_rfl
theorem madeS (n : Nat) : madeCells (Value.string ⟨#[]⟩).cells (n * 1) = (List.replicate n (Value.string ⟨#[]⟩)).toArray := by
  apply Array.ext
  · simp [madeCells]
  · intro i h1 h2
    simp [madeCells, Value.cells, Nat.mod_one]
theorem wpList_make_secs {w : World} {ops : Array Oper} {rest : List Oper} {o : Oper} {a : Act} {Q : Exit → Act → World → Prop} (hg : o.guard = none) (l c : Operand) (hop : o.op = Op.makeSlice 55 l c)
    (n : Nat) (hl : a.eval l = .int .i64 n) (hc : a.eval c = .int .i64 n) (hm : n ≤ 4096)
    (h : ∀ w1 : World, Below w.heap.size w w1 → w1.heap[w.heap.size]? = some (.cells (List.replicate n (Value.string ⟨#[]⟩)).toArray 71 (0, 0)) → w1.heap.size = w.heap.size + 1 →
      wpList Try.prog ops Q rest (a.put o.dst (.slice (some ⟨w.heap.size, 0, none⟩) n n)) w1) : wpList Try.prog ops Q (o :: rest) a w := by
  obtain ⟨i, hi, hz, hs, hb⟩ := info_parts infoS
  refine wpList_plain hg fun K hK' => ?_
  have hrun := run_make (P := Try.prog) w 55 71 i (.string ⟨#[]⟩) Try.underlying55 hi hz .i64 .i64 n n (by omega) (by omega) (by rw [hb]; omega) (by omega)
  unfold Oper.wp
  simp only [Int.toNat_natCast, hs, madeS] at hrun
  generalize (List.replicate n (Value.string ⟨#[]⟩)).toArray = Z at *
  simp [execOp, hop, hl, hc, hrun, Result.andThen]
  exact hK' _ _ (h _ ((Below.refl _ _).alloc (Nat.le_refl _) _) (block_new _ _) (by simp))
theorem wpList_copy_block {P : Program} {w : World} {ops : Array Oper} {rest : List Oper} {o : Oper} {a : Act} {Q : Exit → Act → World → Prop} (hgd : o.guard = none) (d s : Operand) (dT sT : TypeId)
    (ho : o.op = .call { callee := .builtin .copy, args := #[d, s], argTypes := #[dT, sT] }) (elem : TypeId) (hu : P.underlying dT = some (.slice elem)) (hsz : (P.info? elem).map (·.size) = some 1)
    (g off dLen dCap : Nat) (ad : Addr) (sLen sCap : Nat) (hd : a.eval d = .slice (some ⟨g, off, none⟩) dLen dCap) (hs : a.eval s = .slice (some ad) sLen sCap)
    (C : Array Value) (t : TypeId) (hg : w.heap[g]? = some (.cells C t (0, 0))) (cs : List Value) (hn : cs.length = Nat.min sLen dLen) (hsrc : ∀ j v, cs[j]? = some v → w.cell? (ad.add j) = some v)
    (hfit : off + cs.length ≤ C.size) (h1 : ∀ v ∈ cs, v.oneCell' = true)
    (h : ∀ w1 : World, w.grownBy w1 (some g) → w1.heap[g]? = some (.cells (C.toList.take off ++ (cs ++ C.toList.drop (off + cs.length))).toArray t (0, 0)) → w1.heap.size = w.heap.size →
      wpList P ops Q rest (a.put o.dst (goInt cs.length)) w1) : wpList P ops Q (o :: rest) a w :=
  wpList_copy_own hgd d s dT sT ho elem hu hsz g off dLen dCap ad sLen sCap hd hs C t hg cs hn hsrc hfit h1
    (h _ ⟨rfl, rfl, rfl, by simp [World.setRow], fun k _ hk => setRow_other w g k _ (fun e => hk (by rw [e]))⟩ (setRow_heap w g C _ t (0, 0) hg) (by simp [World.setRow]))
theorem wp_copy_block {P : Program} {w : World} {o : Oper} {a : Act} {K : Act → World → Prop} {Q : Exit → Act → World → Prop} (d s : Operand) (dT sT : TypeId)
    (ho : o.op = .call { callee := .builtin .copy, args := #[d, s], argTypes := #[dT, sT] }) (elem : TypeId) (hu : P.underlying dT = some (.slice elem)) (hsz : (P.info? elem).map (·.size) = some 1)
    (g off dLen dCap : Nat) (ad : Addr) (sLen sCap : Nat) (hd : a.eval d = .slice (some ⟨g, off, none⟩) dLen dCap) (hs : a.eval s = .slice (some ad) sLen sCap)
    (C : Array Value) (t : TypeId) (hg : w.heap[g]? = some (.cells C t (0, 0))) (cs : List Value) (hn : cs.length = Nat.min sLen dLen) (hsrc : ∀ j v, cs[j]? = some v → w.cell? (ad.add j) = some v)
    (hfit : off + cs.length ≤ C.size) (h1 : ∀ v ∈ cs, v.oneCell' = true)
    (h : ∀ w1 : World, w.grownBy w1 (some g) → w1.heap[g]? = some (.cells (C.toList.take off ++ (cs ++ C.toList.drop (off + cs.length))).toArray t (0, 0)) → w1.heap.size = w.heap.size →
      K (a.put o.dst (goInt cs.length)) w1) : o.wp P a w K Q := by
  have hrun := run_copy_row (P := P) w dT sT o.type elem g off dLen dCap ad sLen sCap C t cs hu hsz hg hn hsrc hfit h1
  rw [List.append_assoc] at hrun
  unfold Oper.wp
  simp only [execOp, ho, resolve, invoke, builtin, hd, hs, hrun, Sem.run_bind, Sem.run_pure, Result.andThen_ok, List.map_toArray, List.map_cons, List.map_nil]
  exact h _ ⟨rfl, rfl, rfl, by simp [World.setRow], fun k _ hk => setRow_other w g k _ (fun e => hk (by rw [e]))⟩ (setRow_heap w g C _ t (0, 0) hg) (by simp [World.setRow])
/-- The first k cells hold x, the others y. -/
def filled (x y : Value) (n k : Nat) : List Value := List.replicate k x ++ List.replicate (n - k) y
theorem length_filled (x y : Value) (n k : Nat) (h : k ≤ n) : (filled x y n k).length = n := by simp [filled]; omega
theorem filled_more (x y : Value) (n k m : Nat) : (filled x y n k).take k ++ (List.replicate m x ++ (filled x y n k).drop (k + m)) = filled x y n (k + m) := by
  unfold filled
  rw [List.take_append_of_le_length (by simp), List.take_of_length_le (by simp), List.drop_append, List.drop_of_length_le (by simp), List.nil_append, List.drop_replicate, ← List.append_assoc, List.replicate_append_replicate]
  congr 2
  simp; omega
theorem one_src {w w1 : World} {b : Nat} {v : Value} (hb : w1.heap[b]? = w.heap[b]?) (hc : w.cell? ⟨b, 0, none⟩ = some v) : ∀ j u, [v][j]? = some u → w1.cell? ((⟨b, 0, none⟩ : Addr).add j) = some u := by
  intro j u hu
  cases j with
  | zero =>
    rw [Addr.add_mid, ← Option.some.inj hu]
    exact (World.cell?_of_block (w := w) hb).trans hc
  | succ j => simp at hu
theorem fill_one (n : Nat) (x y : Value) : ((List.replicate n y).toArray.toList.take 0 ++ ([x] ++ (List.replicate n y).toArray.toList.drop (0 + [x].length))) = filled x y n 1 := by
  simp [filled]
theorem fill_src {w : World} {g n k m : Nat} {x y : Value} {t : TypeId} {fr : Nat × Nat} (h : w.heap[g]? = some (.cells (filled x y n k).toArray t fr)) (hm : m ≤ k) : ∀ j u, (List.replicate m x)[j]? = some u → w.cell? ((⟨g, 0, none⟩ : Addr).add j) = some u := by
  intro j u hu
  have hj : j < m := by have := (List.getElem?_eq_some_iff.1 hu).1; simpa using this
  rw [Addr.add_mid, Nat.zero_add, cell_of_block h, List.getElem?_toArray, filled, List.getElem?_append_left (by simp; omega), List.getElem?_replicate, if_pos (by omega)]
  rw [List.getElem?_replicate, if_pos hj] at hu
  exact hu
set_option maxRecDepth 100000 in
set_option maxHeartbeats 1000000 in
theorem repeat_one (s : ByteArray) (b n : Nat) (h1 : 1 ≤ n) (hn : n ≤ 4096) (w : World) (hb : w.cell? ⟨b, 0, none⟩ = some (.string s)) :
    Calls Try.prog 41 #[.slice (some ⟨b, 0, none⟩) 1 1, .int .i64 n] w fun e w' => e = .returned (.slice (some ⟨w.heap.size, 0, none⟩) n n) ∧ w'.heap[w.heap.size]? = some (.cells (List.replicate n (Value.string s)).toArray 71 (0, 0)) ∧ Below w.heap.size w w' := by
  have HB := hid hb
  have hbl := World.block_lt_of_cell? w _ hb
  go_enter Try.func41, Try.ntmps41
  go_wp2_with (first
    | (go_at_call 48; refine (mul_one_u n hn _).mono ?_; rintro e w9 ⟨rfl, h9⟩; obtain rfl := h9.symm)
    | (refine wpList_make_secs rfl (.tmp 29) (.tmp 29) rfl n rfl rfl hn ?_; intro w1 hB1 hb1 hz1; have HB1 := hid hB1; have Hb1 := hid hb1; clear hB1 hb1 hz1)
    | (refine wpList_copy_block rfl (.tmp 31) (.tmp 32) 55 55 rfl 71 Try.underlying55 sizeS w.heap.size 0 n n ⟨b, 0, none⟩ 1 1 rfl rfl _ 71 Hb1.out [.string s] (Nat.min_eq_left h1).symm (one_src (HB1.out.block b hbl) HB.out) (by simpa using h1) (by simp [Value.oneCell']) ?_; intro w2 hg2 hb2 hz2; rw [fill_one] at hb2; have H2 := hid hb2; have HB2 := hid (HB1.out.trans (below_of_grown hg2 (Nat.le_refl _) HB1.out.size)); clear hb2 hg2 hz2 Hb1 HB1))
  clear hb
  go_loopw [8] (fun i wr => ∃ k : Nat, 1 ≤ k ∧ k ≤ n ∧ i = .int .i64 k ∧ Hid (wr.heap[w.heap.size]? = some (.cells (filled (.string s) (.string ⟨#[]⟩) n k).toArray 71 (0, 0))) ∧ Hid (Below w.heap.size w wr)) (fun i _ => n - (intOf i).toNat)
  case atStart => exact ⟨1, by omega, h1, rfl, H2, HB2⟩
  case round =>
    obtain ⟨k, hk1, hkn, rfl, hF, hBr⟩ := hrel
    clear H2 HB2
    by_cases hlt : k < n
    · have hk0 : (0 : Int) ≤ (k : Int) := by omega
      have hk2 : (k : Int) ≤ (n : Int) := by omega
      have hk3 : (k : Int) < (n : Int) := by omega
      go_wp2
      refine wp_region_noPanic ?_
      refine wp_region_held_drew (S := fun w' => Below w.heap.size w w') (by kernel_rfl) hBr.out.drew (fun hHeld => ?_)
      refine wpAnyH_take (i := 0) (v := ?_) rfl (by kernel_rfl) (by kernel_rfl) (by kernel_rfl) (fun _ _ _ h => h) (Or.inl ⟨by rfl, ?_⟩) (by assumption) ?_
      rotate_left
      · (intro W hSw; (try dsimp only at hSw); go_simp; try with_reducible rfl)
      try simp only [List.getElem_toArray, List.getElem_cons_zero, Act.put, List.setIfInBounds_toArray, List.set_cons_zero, List.set_cons_succ]
      refine wpAnyH_take (i := 1) (v := ?_) rfl (by kernel_rfl) (by kernel_rfl) (by kernel_rfl) (fun _ _ _ h => h) (Or.inl ⟨by rfl, ?_⟩) (by assumption) ?_
      rotate_left
      · (intro W hSw; (try dsimp only at hSw); go_simp; try with_reducible rfl)
      try simp only [List.getElem_toArray, List.getElem_cons_succ, List.getElem_cons_zero, Act.put, List.setIfInBounds_toArray, List.set_cons_zero, List.set_cons_succ]
      refine wpAnyH_take (i := 2) (v := ?_) rfl (by kernel_rfl) (by kernel_rfl) (by kernel_rfl) (fun _ _ _ h => h) (Or.inl ⟨by rfl, ?_⟩) (by assumption) ?_
      rotate_left
      · (intro W hSw; (try dsimp only at hSw); go_simp; try with_reducible rfl)
      try simp only [List.getElem_toArray, List.getElem_cons_succ, List.getElem_cons_zero, Act.put, List.setIfInBounds_toArray, List.set_cons_zero, List.set_cons_succ]
      refine wpAnyH_take (i := 3) (v := ?_) rfl (by kernel_rfl) (by kernel_rfl) (by kernel_rfl) (fun _ _ _ h => h) (Or.inl ⟨by rfl, ?_⟩) (by assumption) ?_
      rotate_left
      · (intro W hSw; (try dsimp only at hSw); go_simp; try with_reducible rfl)
      try simp only [List.getElem_toArray, List.getElem_cons_succ, List.getElem_cons_zero, Act.put, List.setIfInBounds_toArray, List.set_cons_zero, List.set_cons_succ]
      refine wpAnyH_take (i := 4) (v := ?_) rfl (by kernel_rfl) (by kernel_rfl) (by kernel_rfl) (fun _ _ _ h => h) (Or.inl ⟨by rfl, ?_⟩) (by assumption) ?_
      rotate_left
      · (intro W hSw; (try dsimp only at hSw); go_simp; try with_reducible rfl)
      try simp only [List.getElem_toArray, List.getElem_cons_succ, List.getElem_cons_zero, Act.put, List.setIfInBounds_toArray, List.set_cons_zero, List.set_cons_succ]
      refine wpAnyH_take (i := 5) (v := ?_) rfl (by kernel_rfl) (by kernel_rfl) (by kernel_rfl) (fun _ _ _ h => h) (Or.inl ⟨by rfl, ?_⟩) (by assumption) ?_
      rotate_left
      · (intro W hSw; (try dsimp only at hSw); go_simp; try with_reducible rfl)
      try simp only [List.getElem_toArray, List.getElem_cons_succ, List.getElem_cons_zero, Act.put, List.setIfInBounds_toArray, List.set_cons_zero, List.set_cons_succ]
      refine wpAnyH_take (i := 6) (v := ?_) rfl (by kernel_rfl) (by kernel_rfl) (by kernel_rfl) (fun _ _ _ h => h) (Or.inl ⟨by rfl, ?_⟩) (by assumption) ?_
      rotate_left
      · (intro W hSw; (try dsimp only at hSw); go_simp; try with_reducible rfl)
      try simp only [List.getElem_toArray, List.getElem_cons_succ, List.getElem_cons_zero, Act.put, List.setIfInBounds_toArray, List.set_cons_zero, List.set_cons_succ]
      refine wpAnyH_ready (rs := [7]) (by kernel_rfl) (by simp) (AllReadyH.cons rfl (fun K hK => ?_) AllReadyH.nil)
      rw [if_pos (by rfl)]
      rw [if_neg (show ¬ (n = k) by omega)]
      generalize hm : Nat.min k (n - k) = m
      have hm1 : 1 ≤ m := by rw [← hm]; exact Nat.le_min.2 ⟨hk1, by omega⟩
      have hmk : m ≤ k := by rw [← hm]; exact Nat.min_le_left _ _
      have hmn : k + m ≤ n := by have : m ≤ n - k := by rw [← hm]; exact Nat.min_le_right _ _
                                 omega
      refine wp_copy_block (.tmp 41) (.tmp 44) 55 55 rfl 71 Try.underlying55 sizeS w.heap.size k (n - k) (n - k) ⟨w.heap.size, 0, none⟩ k n rfl rfl _ 71 (w := wr.drew) hF.out (List.replicate m (.string s)) (by rw [List.length_replicate, hm]) (fill_src hF.out hmk) (by simp [length_filled _ _ _ _ hkn]; omega) (by intro v hv; rw [List.eq_of_mem_replicate hv]; rfl) ?_
      intro w2 hg2 hb2 hz2
      simp only [List.length_replicate] at hb2
      rw [filled_more] at hb2
      have H2 := hid hb2
      have HB2 := hid (hBr.out.drew.trans (below_of_grown hg2 (Nat.le_refl _) hBr.out.drew.size))
      clear hb2 hg2 hz2 hHeld
      refine hK.out _ _ HB2.out (fun hHeld => ?_)
      clear hK K
      try simp only [List.getElem_toArray, List.getElem_cons_succ, List.getElem_cons_zero, Act.put, List.setIfInBounds_toArray, List.set_cons_zero, List.set_cons_succ]
      refine wpAnyH_take (i := 8) (v := ?_) rfl (by kernel_rfl) (by kernel_rfl) (by kernel_rfl) (fun _ _ _ h => h) (Or.inl ⟨by rfl, ?_⟩) (by assumption) ?_
      rotate_left
      · (intro W hSw; (try dsimp only at hSw); go_simp; try with_reducible rfl)
      try simp only [List.getElem_toArray, List.getElem_cons_succ, List.getElem_cons_zero, Act.put, List.setIfInBounds_toArray, List.set_cons_zero, List.set_cons_succ]
      refine wpAnyH_take (i := 9) (v := ?_) rfl (by kernel_rfl) (by kernel_rfl) (by kernel_rfl) (fun _ _ _ h => h) (Or.inl ⟨by rfl, ?_⟩) (by assumption) ?_
      rotate_left
      · (intro W hSw; (try dsimp only at hSw); go_simp; try with_reducible rfl)
      try simp only [List.getElem_toArray, List.getElem_cons_succ, List.getElem_cons_zero, Act.put, List.setIfInBounds_toArray, List.set_cons_zero, List.set_cons_succ]
      refine wpAnyH_done (by kernel_rfl) ?_ _
      refine NoPanic.normal ?_
      go_wp2
      go_roundw
      case rel =>
        have hw : IntKind.i64.wrap ((k : Int) + (m : Int)) = ((k + m : Nat) : Int) := by rw [IntWalk.i64_in _ (by omega)]; omega
        exact ⟨k + m, by omega, hmn, by rw [hw], H2, HB2⟩
      case measure =>
        have hw : IntKind.i64.wrap ((k : Int) + (m : Int)) = (k : Int) + (m : Int) := IntWalk.i64_in _ (by omega)
        simp [intOf, hw]; omega
    · have hge : ¬ ((k : Int) < (n : Int)) := by omega
      obtain rfl : k = n := by omega
      go_wp2
      go_ret
      refine ⟨rfl, ?_, hBr.out⟩
      have := hF.out
      rwa [show filled (.string s) (.string ⟨#[]⟩) k k = List.replicate k (Value.string s) by simp [filled]] at this
end Go.Proofs.Ytplcljcpekphnaa
/- plates.do at a write: the sector's writes that wait are one more. -/
namespace Go.Proofs.Ytplcljcpekphnaa
open Go.RowKit Go.Maps
theorem wp_lookup_run {P : Program} {w : World} {o : Oper} {a : Act} {K : Act → World → Prop} {Q : Exit → Act → World → Prop} (m x : Operand) (t : TypeId) (hop : o.op = Op.lookup t m x false) (M k v : Value) (hm : a.eval m = M) (hx : a.eval x = k)
    (hrun : (Instr.lookup t M k false).run P w = .ok v w) (h : K (a.put o.dst v) w) : o.wp P a w K Q := by
  unfold Oper.wp
  simp [execOp, hop, hm, hx, hrun, Result.andThen]
  exact h
theorem wp_mapUpdate_self {P : Program} {w : World} {o : Oper} {a : Act} {K : Act → World → Prop} {Q : Exit → Act → World → Prop} (m x v : Operand) (t : TypeId) (hop : o.op = Op.mapUpdate t m x v) (k e : TypeId) (KK : Keyed P k) (ht : P.underlying t = some (.map k e)) (b n : Nat) (D : DataW Value)
    (hm : a.eval m = .map (some b)) (hown : w.ownsMap P k selfElem b n D) (hn : n < maxLen) (key val : Value) (kl : Lit) (hx : a.eval x = key) (hv : a.eval v = val) (hkey : keyOf P k key = some kl)
    (h : ∀ w', w'.ownsMap P k selfElem b (n + 1) (D.put kl (.held val)) → w.grownBy w' (some b) → K (a.put o.dst undef) w') : o.wp P a w K Q := by
  obtain ⟨w', hrun, r1, r2⟩ := hown.update KK ht hn hkey (val := val) (d := .held val) (ps := []) rfl
  unfold Oper.wp
  simp [execOp, hop, hm, hx, hv, hrun, Result.andThen]
  exact h w' r1 r2
theorem assert_write (W : World) (v : Value) : (Instr.typeAssert (.iface 90 v) 107 90 true).run Try.prog W = .ok (.tuple #[v, .bool true]) W := by kernel_rfl
set_option maxRecDepth 100000 in
set_option maxHeartbeats 1000000 in
theorem do_write (p : Nat) (fv ov : Value) (L : PL) (safe : List ByteArray) (waits : Int → List ByteArray) (B : Nat) (n : Int) (s : ByteArray) (w : World)
    (hp : w.heap[p]? = some (.cells #[fv, ov, .slice (some ⟨L.g, 0, none⟩) safe.length L.cap, .map (some L.m)] 61 (0, 0))) (h : PlatesIn w L safe waits B) (hB : B < opsMax) (h0 : 0 ≤ n) (h1 : n < safe.length) :
    Calls Try.prog 57 #[.pointer (some ⟨p, 2, none⟩), .iface 90 (.agg #[.int .i64 n, .string s])] w fun e w' => e = .returned (.tuple #[]) ∧
      ∃ L', PlatesIn w' L' safe (upd waits n (waits n ++ [s])) (B + 1) ∧ L'.g = L.g ∧ L'.cap = L.cap ∧ L'.m = L.m ∧ (∀ i, L'.foot (upd waits n (waits n ++ [s])) i → L.foot waits i ∨ w.heap.size ≤ i) ∧ Keeps (L.foot waits) w w' := by
  have c3 : w.cell? ⟨p, 3, none⟩ = some (.map (some L.m)) := by rw [cell_of_block hp]; rfl
  go_enter Try.func57, Try.ntmps57
  have hta := assert_write
  have HP := hid hp
  have H := hid h
  clear hp h
  go_wp2
  obtain ⟨i0, hi, hz0, hz1, hz2⟩ := info_parts infoS
  have HI := hid hi
  clear hi
  obtain ⟨n1, n2, n3, n4⟩ := new2 w (.cells #[.int .i64 n, .string s] 90) (.cells #[.string s] 71)
  have HN1 := hid n1
  have HN2 := hid n2
  have HN3 := hid n3
  have HN4 := hid n4
  have HR := hid (((H.out.rowOwn n).alloc (.cells #[.int .i64 n, .string s] 90)).alloc (.cells #[.string s] 71))
  have HL := hid (opsMax_len (Nat.lt_of_le_of_lt (H.out.len n) hB))
  have HNP := hid (H.out.foot_other HP.out (by decide))
  have HNX : Hid (¬ L.foot waits w.heap.size) := fun hf => absurd (H.out.foot_lt hf) (Nat.lt_irrefl _)
  have HPM : Hid (p ≠ L.m) := fun e => HNP.out (.inr (.inl e))
  have HXM : Hid (w.heap.size ≠ L.m) := fun e => HNX.out (.inr (.inl e))
  clear n1 n2 n3 n4
  have hz : p ≠ w.heap.size := fun e => by have := lt_of_heap HP.out; omega
  refine wp_region_noPanic ?_
  refine wp_region_held_drew (S := fun W => W.cell? ⟨p, 3, none⟩ = some (.map (some L.m)) ∧ W.cell? ⟨w.heap.size, 0, none⟩ = some (.int .i64 n) ∧ W.cell? ⟨w.heap.size, 1, none⟩ = some (.string s)) (by kernel_rfl) ?_ (fun hHeld => ?_)
  · refine ⟨?_, ?_, ?_⟩
    · exact (cell_of_block (block_alloc HP.out _) 3)
    · exact (cell_of_block (block_new w _) 0)
    · exact (cell_of_block (block_new w _) 1)
  refine wpAnyH_take (i := 0) (v := ?_) rfl (by kernel_rfl) (by kernel_rfl) (by kernel_rfl) (fun _ _ _ h => h) (Or.inl ⟨by rfl, ?_⟩) (by assumption) ?_
  rotate_left
  · (intro W hSw; (try dsimp only at hSw); obtain ⟨s1, s2, s3⟩ := hSw; go_simp; try with_reducible rfl)
  try simp only [List.getElem_toArray, List.getElem_cons_zero, Act.put, List.setIfInBounds_toArray, List.set_cons_zero, List.set_cons_succ]
  refine wpAnyH_take (i := 1) (v := ?_) rfl (by kernel_rfl) (by kernel_rfl) (by kernel_rfl) (fun _ _ _ h => h) (Or.inl ⟨by rfl, ?_⟩) (by assumption) ?_
  rotate_left
  · (intro W hSw; (try dsimp only at hSw); obtain ⟨s1, s2, s3⟩ := hSw; go_simp; try with_reducible rfl)
  try simp only [List.getElem_toArray, List.getElem_cons_succ, List.getElem_cons_zero, Act.put, List.setIfInBounds_toArray, List.set_cons_zero, List.set_cons_succ]
  refine wpAnyH_take (i := 2) (v := ?_) rfl (by kernel_rfl) (by kernel_rfl) (by kernel_rfl) (fun _ _ _ h => h) (Or.inl ⟨by rfl, ?_⟩) (by assumption) ?_
  rotate_left
  · (intro W hSw; (try dsimp only at hSw); obtain ⟨s1, s2, s3⟩ := hSw; go_simp; try with_reducible rfl)
  try simp only [List.getElem_toArray, List.getElem_cons_succ, List.getElem_cons_zero, Act.put, List.setIfInBounds_toArray, List.set_cons_zero, List.set_cons_succ]
  refine wpAnyH_take (i := 3) (v := ?_) rfl (by kernel_rfl) (by kernel_rfl) (by kernel_rfl) (fun _ _ _ h => h) (Or.inl ⟨by rfl, ?_⟩) (by assumption) ?_
  rotate_left
  · (intro W hSw; (try dsimp only at hSw); obtain ⟨s1, s2, s3⟩ := hSw; go_simp; try with_reducible rfl)
  try simp only [List.getElem_toArray, List.getElem_cons_succ, List.getElem_cons_zero, Act.put, List.setIfInBounds_toArray, List.set_cons_zero, List.set_cons_succ]
  refine wpAnyH_take (i := 4) (v := ?_) rfl (by kernel_rfl) (by kernel_rfl) (by kernel_rfl) (fun _ _ _ h => h) (Or.inl ⟨by rfl, ?_⟩) (by assumption) ?_
  rotate_left
  · (intro W hSw; (try dsimp only at hSw); obtain ⟨s1, s2, s3⟩ := hSw; go_simp; try with_reducible rfl)
  try simp only [List.getElem_toArray, List.getElem_cons_succ, List.getElem_cons_zero, Act.put, List.setIfInBounds_toArray, List.set_cons_zero, List.set_cons_succ]
  refine wpAnyH_take (i := 5) (v := ?_) rfl (by kernel_rfl) (by kernel_rfl) (by kernel_rfl) (fun _ _ _ h => h) (Or.inl ⟨by rfl, ?_⟩) (by assumption) ?_
  rotate_left
  · (intro W hSw; (try dsimp only at hSw); obtain ⟨s1, s2, s3⟩ := hSw; go_simp; try with_reducible rfl)
  try simp only [List.getElem_toArray, List.getElem_cons_succ, List.getElem_cons_zero, Act.put, List.setIfInBounds_toArray, List.set_cons_zero, List.set_cons_succ]
  refine wpAnyH_take (i := 6) (v := ?_) rfl (by kernel_rfl) (by kernel_rfl) (by kernel_rfl) (fun _ _ _ h => h) (Or.inl ⟨by rfl, ?_⟩) (by assumption) ?_
  rotate_left
  · (intro W hSw; (try dsimp only at hSw); obtain ⟨s1, s2, s3⟩ := hSw; go_simp; try with_reducible rfl)
  try simp only [List.getElem_toArray, List.getElem_cons_succ, List.getElem_cons_zero, Act.put, List.setIfInBounds_toArray, List.set_cons_zero, List.set_cons_succ]
  refine wpAnyH_take (i := 7) (v := ?_) rfl (by kernel_rfl) (by kernel_rfl) (by kernel_rfl) (fun _ _ _ h => h) (Or.inl ⟨by rfl, ?_⟩) (by assumption) ?_
  rotate_left
  · (intro W hSw; (try dsimp only at hSw); obtain ⟨s1, s2, s3⟩ := hSw; go_simp; try with_reducible rfl)
  try simp only [List.getElem_toArray, List.getElem_cons_succ, List.getElem_cons_zero, Act.put, List.setIfInBounds_toArray, List.set_cons_zero, List.set_cons_succ]
  refine wpAnyH_take (i := 8) (v := ?_) rfl (by kernel_rfl) (by kernel_rfl) (by kernel_rfl) (fun _ _ _ h => h) (Or.inl ⟨by rfl, ?_⟩) (by assumption) ?_
  rotate_left
  · (intro W hSw; (try dsimp only at hSw); obtain ⟨s1, s2, s3⟩ := hSw; go_simp; try with_reducible rfl)
  try simp only [List.getElem_toArray, List.getElem_cons_succ, List.getElem_cons_zero, Act.put, List.setIfInBounds_toArray, List.set_cons_zero, List.set_cons_succ]
  refine wpAnyH_take (i := 9) (v := ?_) rfl (by kernel_rfl) (by kernel_rfl) (by kernel_rfl) (fun _ _ _ h => h) (Or.inl ⟨by rfl, ?_⟩) (by assumption) ?_
  rotate_left
  · (intro W hSw; (try dsimp only at hSw); obtain ⟨s1, s2, s3⟩ := hSw; go_simp; try with_reducible rfl)
  try simp only [List.getElem_toArray, List.getElem_cons_succ, List.getElem_cons_zero, Act.put, List.setIfInBounds_toArray, List.set_cons_zero, List.set_cons_succ]
  refine wpAnyH_take (i := 10) (v := ?_) rfl (by kernel_rfl) (by kernel_rfl) (by kernel_rfl) (fun _ _ _ h => h) (Or.inl ⟨by rfl, ?_⟩) (by assumption) ?_
  rotate_left
  · (intro W hSw; (try dsimp only at hSw); obtain ⟨s1, s2, s3⟩ := hSw; go_simp; try with_reducible rfl)
  try simp only [List.getElem_toArray, List.getElem_cons_succ, List.getElem_cons_zero, Act.put, List.setIfInBounds_toArray, List.set_cons_zero, List.set_cons_succ]
  refine wpAnyH_take (i := 11) (v := ?_) rfl (by kernel_rfl) (by kernel_rfl) (by kernel_rfl) (fun _ _ _ h => h) (Or.inl ⟨by rfl, ?_⟩) (by assumption) ?_
  rotate_left
  · (intro W hSw; (try dsimp only at hSw); obtain ⟨s1, s2, s3⟩ := hSw; go_simp; try with_reducible rfl)
  try simp only [List.getElem_toArray, List.getElem_cons_succ, List.getElem_cons_zero, Act.put, List.setIfInBounds_toArray, List.set_cons_zero, List.set_cons_succ]
  refine wpAnyH_take (i := 13) (v := ?_) rfl (by kernel_rfl) (by kernel_rfl) (by kernel_rfl) (fun _ _ _ h => h) (Or.inl ⟨by rfl, ?_⟩) (by assumption) ?_
  rotate_left
  · (intro W hSw; (try dsimp only at hSw); obtain ⟨s1, s2, s3⟩ := hSw; go_simp; try with_reducible rfl)
  try simp only [List.getElem_toArray, List.getElem_cons_succ, List.getElem_cons_zero, Act.put, List.setIfInBounds_toArray, List.set_cons_zero, List.set_cons_succ]
  refine wpAnyH_take (i := 14) (v := ?_) rfl (by kernel_rfl) (by kernel_rfl) (by kernel_rfl) (fun _ _ _ h => h) (Or.inl ⟨by rfl, ?_⟩) (by assumption) ?_
  rotate_left
  · (intro W hSw; (try dsimp only at hSw); obtain ⟨s1, s2, s3⟩ := hSw; go_simp; try with_reducible rfl)
  try simp only [List.getElem_toArray, List.getElem_cons_succ, List.getElem_cons_zero, Act.put, List.setIfInBounds_toArray, List.set_cons_zero, List.set_cons_succ]
  refine wpAnyH_ready (rs := [12, 15]) (by kernel_rfl) (by simp) (AllReadyH.cons rfl (fun K hK => ?_) (AllReadyH.cons rfl (fun K hK => ?_) AllReadyH.nil))
  · -- the look-up first
    rw [if_pos (by rfl)]
    refine wp_lookup_run (.tmp 20) (.tmp 22) 57 rfl (.map (some L.m)) (.int .i64 n) (L.rowV waits n) rfl rfl (H.out.look2 n h0 h1 _ ((Keeps.of_below ((Below.refl _ _).alloc (Nat.le_refl _) _)).drew)) ?_
    refine hK.out _ _ hHeld (fun hHeld => ?_)
    clear hK K
    try simp only [List.getElem_toArray, List.getElem_cons_succ, List.getElem_cons_zero, Act.put, List.setIfInBounds_toArray, List.set_cons_zero, List.set_cons_succ]
    refine wpAnyH_ready (rs := [15]) (by kernel_rfl) (by simp) (AllReadyH.cons rfl (fun K hK => ?_) AllReadyH.nil)
    rw [if_pos (by rfl)]
    unfold Oper.wp
    go_simp
    refine hK.out _ _ ⟨cell_of_block (block_alloc (block_alloc HP.out _) _) 3, cell_of_block (block_alloc (block_new w _) _) 0, cell_of_block (block_alloc (block_new w _) _) 1⟩ (fun hHeld => ?_)
    clear hK K
    refine wpAnyH_ready (rs := [16]) (by kernel_rfl) (by simp) (AllReadyH.cons rfl (fun K hK => ?_) AllReadyH.nil)
    rw [if_pos (by rfl)]
    refine wp_append_lies _ (.tmp 23) (.tmp 26) 55 rfl 0 71 i0 (.string ⟨#[]⟩) 1 16 Try.underlying55 HI.out hz0 hz1 hz2 rfl (by omega) (L.rowV waits n) (waits n).length (strs (waits n)) rfl HR.out ⟨w.heap.size + 1, 0, none⟩ 1 1 [.string s] rfl rfl (World.news_of_block (cs := #[.string s]) HN2.out) (by intro u hu; rw [List.mem_singleton.1 hu]; rfl) (by omega) HL.out.1 HL.out.2.1 (Nat.zero_le _) (w.heap.size + 1 + 1) HN4.out ?_
    intro g cap w1 hown hgr hat hlt
    have HG := hid hgr
    have HO := hid hown
    have HA := hid hat
    clear hown hgr hat hlt
    obtain ⟨hm1, hk1⟩ := H.out.mid HN3.out.drew HG.out
    have Hm1 := hid hm1
    have hk1p := hid (hk1 p _ (block_alloc (block_alloc HP.out _) _) HNP.out)
    have hk1x := hid (hk1 w.heap.size _ HN1.out HNX.out)
    clear hm1 hk1
    refine hK.out _ _ ⟨cell_of_block hk1p.out 3, cell_of_block hk1x.out 0, cell_of_block hk1x.out 1⟩ (fun hHeld => ?_)
    clear hK K
    try simp only [List.getElem_toArray, List.getElem_cons_succ, List.getElem_cons_zero, Act.put, List.setIfInBounds_toArray, List.set_cons_zero, List.set_cons_succ]
    refine wpAnyH_ready (rs := [17]) (by kernel_rfl) (by simp) (AllReadyH.cons rfl (fun K hK => ?_) AllReadyH.nil)
    rw [if_pos (by rfl)]
    refine wp_mapUpdate_self (.tmp 14) (.tmp 16) (.tmp 27) 57 rfl 3 55 (int_keyed Try.underlying3) Try.underlying57 L.m B L.D rfl Hm1.out (opsMax_len hB).2.2 (.int .i64 n) (.slice (some ⟨g, 0, none⟩) ((waits n).length + 1) cap) (.int .i64 n) rfl rfl (keyI (by omega) (by have := H.out.most; omega)) ?_
    intro w2 hown2 hgr2
    have HO2 := hid hown2
    have HG2 := hid hgr2
    clear hown2 hgr2
    refine hK.out _ _ ⟨cell_of_block (grown_block HG2.out hk1p.out (fun e => HPM.out (Option.some.inj e).symm)) 3, cell_of_block (grown_block HG2.out hk1x.out (fun e => HXM.out (Option.some.inj e).symm)) 0, cell_of_block (grown_block HG2.out hk1x.out (fun e => HXM.out (Option.some.inj e).symm)) 1⟩ (fun hHeld => ?_)
    clear hK K
    refine wpAnyH_done (by kernel_rfl) ?_ _
    refine NoPanic.normal ?_
    have HW := hid (H.out.wrote h0 h1 HN3.out.drew HO.out HG.out (HA.out.imp id (fun e => e.trans HN4.out.symm)) HO2.out HG2.out)
    clear HG HG2 HO HO2 HA Hm1 hk1p hk1x hHeld
    go_wp2
    go_end0
    exact ⟨rfl, _, HW.out.1, rfl, rfl, rfl, HW.out.2.1, HW.out.2.2⟩
  · -- the new element first
    rw [if_pos (by rfl)]
    unfold Oper.wp
    go_simp
    refine hK.out _ _ ⟨cell_of_block (block_alloc (block_alloc HP.out _) _) 3, cell_of_block (block_alloc (block_new w _) _) 0, cell_of_block (block_alloc (block_new w _) _) 1⟩ (fun hHeld => ?_)
    clear hK K
    refine wpAnyH_ready (rs := [12]) (by kernel_rfl) (by simp) (AllReadyH.cons rfl (fun K hK => ?_) AllReadyH.nil)
    rw [if_pos (by rfl)]
    refine wp_lookup_run (.tmp 20) (.tmp 22) 57 rfl (.map (some L.m)) (.int .i64 n) (L.rowV waits n) rfl rfl (H.out.look2 n h0 h1 _ ((Keeps.of_below HN3.out).drew)) ?_
    refine hK.out _ _ hHeld (fun hHeld => ?_)
    clear hK K
    try simp only [List.getElem_toArray, List.getElem_cons_succ, List.getElem_cons_zero, Act.put, List.setIfInBounds_toArray, List.set_cons_zero, List.set_cons_succ]
    refine wpAnyH_ready (rs := [16]) (by kernel_rfl) (by simp) (AllReadyH.cons rfl (fun K hK => ?_) AllReadyH.nil)
    rw [if_pos (by rfl)]
    refine wp_append_lies _ (.tmp 23) (.tmp 26) 55 rfl 0 71 i0 (.string ⟨#[]⟩) 1 16 Try.underlying55 HI.out hz0 hz1 hz2 rfl (by omega) (L.rowV waits n) (waits n).length (strs (waits n)) rfl HR.out ⟨w.heap.size + 1, 0, none⟩ 1 1 [.string s] rfl rfl (World.news_of_block (cs := #[.string s]) HN2.out) (by intro u hu; rw [List.mem_singleton.1 hu]; rfl) (by omega) HL.out.1 HL.out.2.1 (Nat.zero_le _) (w.heap.size + 1 + 1) HN4.out ?_
    intro g cap w1 hown hgr hat hlt
    have HG := hid hgr
    have HO := hid hown
    have HA := hid hat
    clear hown hgr hat hlt
    obtain ⟨hm1, hk1⟩ := H.out.mid HN3.out.drew HG.out
    have Hm1 := hid hm1
    have hk1p := hid (hk1 p _ (block_alloc (block_alloc HP.out _) _) HNP.out)
    have hk1x := hid (hk1 w.heap.size _ HN1.out HNX.out)
    clear hm1 hk1
    refine hK.out _ _ ⟨cell_of_block hk1p.out 3, cell_of_block hk1x.out 0, cell_of_block hk1x.out 1⟩ (fun hHeld => ?_)
    clear hK K
    try simp only [List.getElem_toArray, List.getElem_cons_succ, List.getElem_cons_zero, Act.put, List.setIfInBounds_toArray, List.set_cons_zero, List.set_cons_succ]
    refine wpAnyH_ready (rs := [17]) (by kernel_rfl) (by simp) (AllReadyH.cons rfl (fun K hK => ?_) AllReadyH.nil)
    rw [if_pos (by rfl)]
    refine wp_mapUpdate_self (.tmp 14) (.tmp 16) (.tmp 27) 57 rfl 3 55 (int_keyed Try.underlying3) Try.underlying57 L.m B L.D rfl Hm1.out (opsMax_len hB).2.2 (.int .i64 n) (.slice (some ⟨g, 0, none⟩) ((waits n).length + 1) cap) (.int .i64 n) rfl rfl (keyI (by omega) (by have := H.out.most; omega)) ?_
    intro w2 hown2 hgr2
    have HO2 := hid hown2
    have HG2 := hid hgr2
    clear hown2 hgr2
    refine hK.out _ _ ⟨cell_of_block (grown_block HG2.out hk1p.out (fun e => HPM.out (Option.some.inj e).symm)) 3, cell_of_block (grown_block HG2.out hk1x.out (fun e => HXM.out (Option.some.inj e).symm)) 0, cell_of_block (grown_block HG2.out hk1x.out (fun e => HXM.out (Option.some.inj e).symm)) 1⟩ (fun hHeld => ?_)
    clear hK K
    refine wpAnyH_done (by kernel_rfl) ?_ _
    refine NoPanic.normal ?_
    have HW := hid (H.out.wrote h0 h1 HN3.out.drew HO.out HG.out (HA.out.imp id (fun e => e.trans HN4.out.symm)) HO2.out HG2.out)
    clear HG HG2 HO HO2 HA Hm1 hk1p hk1x hHeld
    go_wp2
    go_end0
    exact ⟨rfl, _, HW.out.1, rfl, rfl, rfl, HW.out.2.1, HW.out.2.2⟩
end Go.Proofs.Ytplcljcpekphnaa
/- slices.Clone at sectors: a new slice that holds the same. -/
namespace Go.Proofs.Ytplcljcpekphnaa
open Go.RowKit
theorem run_slice_in (d : Nat) (t e : TypeId) (a : Addr) (n c : Nat) (h : Try.prog.underlying t = some (.slice e)) (w : World) : (Op.equalIn (d + 1) t (.slice (some a) n c) (.slice none 0 0)).run Try.prog w = .ok false w := by
  simp [Op.equalIn, run_underlying h]
theorem run_slice_nil (t e : TypeId) (a : Addr) (n c : Nat) (h : Try.prog.underlying t = some (.slice e)) (w : World) : (binOp .eql t (.slice (some a) n c) (.slice none 0 0)).run Try.prog w = .ok (.bool false) w := by
  have he : (Op.equal t (.slice (some a) n c) (.slice none 0 0)).run Try.prog w = .ok false w := run_slice_in 9999 t e a n c h w
  simp only [binOp]
  simp [he]
set_option maxRecDepth 100000 in
set_option maxHeartbeats 1000000 in
theorem clone_any (xs : List Value) (ad : Addr) (c : Nat) (hpos : 0 < xs.length) (hn : xs.length ≤ 4096) (h1 : ∀ u ∈ xs, u.oneCell' = true) (w : World) (hx : ∀ j u, xs[j]? = some u → w.cell? (ad.add j) = some u) :
    Calls Try.prog 43 #[.slice (some ad) xs.length c] w fun e w' => ∃ g cap, e = .returned (.slice (some ⟨g, 0, none⟩) xs.length cap) ∧ w'.ownsRow w.heap.size 71 1 (.slice (some ⟨g, 0, none⟩) xs.length cap) xs.length xs ∧ Below w.heap.size w w' := by
  obtain ⟨i0, hi, hz0, hz1, hz2⟩ := info_parts infoS
  have HI := hid hi
  have HX := hid hx
  clear hi hx
  go_enter Try.func43, Try.ntmps43
  have hq := fun W => run_slice_nil 55 _ ad xs.length c Try.underlying55 W
  go_wp2_with (refine wpList_append_lies _ rfl (.tmp 5) (.tmp 6) 55 rfl w.heap.size 71 i0 (.string ⟨#[]⟩) 1 16 Try.underlying55 HI.out hz0 hz1 hz2 rfl (by omega) (.slice (some ⟨w.heap.size, 0, none⟩) 0 0) 0 [] rfl (World.ownsRow_lit w #[] 0 (Nat.le_refl _) (by simp) rfl) ad xs.length c xs rfl (by simp) (fun j u hu => by rw [World.cell?_alloc_lt _ _ _ (World.block_lt_of_cell? w _ (HX.out j u hu))]; exact HX.out j u hu) h1 hpos (by unfold maxLen; omega) (by omega) (by simp) (w.heap.size + 1) (by simp) ?_; intro g cap w1 hown hgr hat hlt)
  go_ret
  rw [List.nil_append, Nat.zero_add] at hown
  refine ⟨g, cap, rfl, hown, ?_⟩
  exact ((Below.refl _ _).alloc (Nat.le_refl _) _).trans ⟨hgr.os, hgr.tape, hgr.output, hgr.size, fun k hk => hgr.block k (by simp; omega) (by simp [Value.ownBlock]; omega)⟩
end Go.Proofs.Ytplcljcpekphnaa
/- What the functions of disk answer at a nil disk; sizes. Each in every world, which stays as it was. -/
namespace Go.Proofs.Ytplcljcpekphnaa
open Go.RowKit
theorem read_nil (n : Int) (w : World) : Calls Try.prog 18 #[.pointer none, .int .i64 n] w fun e w' => e = .returned (.tuple #[.slice none 0 0, .int .i64 1]) ∧ w' = w := by
  go_enter Try.func18, Try.ntmps18
  go_wp2
  go_returns
  exact ⟨rfl, rfl⟩
theorem write_nil (n : Int) (v : Value) (w : World) : Calls Try.prog 34 #[.pointer none, .int .i64 n, v] w fun e w' => e = .returned (.int .i64 1) ∧ w' = w := by
  go_enter Try.func34, Try.ntmps34
  go_wp2
  go_ret
  exact ⟨rfl, rfl⟩
theorem flush_nil (w : World) : Calls Try.prog 35 #[.pointer none] w fun e w' => e = .returned (.int .i64 1) ∧ w' = w := by
  go_enter Try.func35, Try.ntmps35
  go_wp2
  go_ret
  exact ⟨rfl, rfl⟩
theorem sectors_nil (w : World) : Calls Try.prog 12 #[.pointer none] w fun e w' => e = .returned (.int .i64 0) ∧ w' = w := by
  go_enter Try.func12, Try.ntmps12
  go_wp2
  go_ret
  exact ⟨rfl, rfl⟩
theorem ops_nil (w : World) : Calls Try.prog 22 #[.pointer none] w fun e w' => e = .returned (.int .i64 0) ∧ w' = w := by
  go_enter Try.func22, Try.ntmps22
  go_wp2
  go_ret
  exact ⟨rfl, rfl⟩
theorem fork_nil (w : World) : Calls Try.prog 13 #[.pointer none] w fun e w' => e = .returned (.pointer none) ∧ w' = w := by
  go_enter Try.func13, Try.ntmps13
  go_wp2
  go_ret
  exact ⟨rfl, rfl⟩
theorem run_nil_in (d : Nat) (t : TypeId) (a : Addr) (h : Try.prog.underlying t = some (.pointer (Try.prog.pointee t))) (w : World) : (Op.equalIn (d + 1) t (.pointer none) (.pointer (some a))).run Try.prog w = .ok false w := by
  simp [Op.equalIn, run_underlying h]
theorem run_nil_eql (t : TypeId) (a : Addr) (h : Try.prog.underlying t = some (.pointer (Try.prog.pointee t))) (w : World) : (binOp .eql t (.pointer none) (.pointer (some a))).run Try.prog w = .ok (.bool false) w := by
  have he : (Op.equal t (.pointer none) (.pointer (some a))).run Try.prog w = .ok false w := run_nil_in 9999 t a h w
  simp only [binOp]
  simp [he]
theorem isSize_any (n : Int) (w : World) : Calls Try.prog 38 #[.int .i64 n] w fun e w' => e = .returned (.bool (decide (1 ≤ n ∧ n ≤ 4096))) ∧ w' = w := by
  by_cases h1 : 1 ≤ n
  · by_cases h2 : n ≤ 4096
    · go_enter Try.func38, Try.ntmps38
      go_wp2
      go_ret
      exact ⟨by simp [h1, h2], rfl⟩
    · go_enter Try.func38, Try.ntmps38
      go_wp2
      go_ret
      exact ⟨by simp [h2], rfl⟩
  · go_enter Try.func38, Try.ntmps38
    go_wp2
    go_ret
    exact ⟨by rw [decide_eq_false (fun h => by omega)]; rfl, rfl⟩
end Go.Proofs.Ytplcljcpekphnaa
/- disk.flushed, disk.made, disk.New: a disk of sectors that are all 0. -/
namespace Go.Proofs.Ytplcljcpekphnaa
open Go.RowKit
theorem info63 : (Try.prog.info? 59).map (·.size) = some 2 := by kernel_rfl
set_option maxRecDepth 100000 in
set_option maxHeartbeats 1000000 in
theorem flushed_any (xs : List Value) (ad : Addr) (c : Nat) (hpos : 0 < xs.length) (hn : xs.length ≤ 4096) (h1 : ∀ u ∈ xs, u.oneCell' = true) (w : World) (hx : ∀ j u, xs[j]? = some u → w.cell? (ad.add j) = some u) :
    Calls Try.prog 42 #[.slice (some ad) xs.length c] w fun e w' => ∃ g cap m, e = .returned (.agg #[.slice (some ⟨g, 0, none⟩) xs.length cap, .map (some m)]) ∧ w.heap.size ≤ m ∧ w'.heap[m]? = some (.map #[] 0) ∧ w'.ownsRow w.heap.size 71 1 (.slice (some ⟨g, 0, none⟩) xs.length cap) xs.length xs ∧ Below w.heap.size w w' := by
  have HX := hid hx
  clear hx
  go_enter Try.func42, Try.ntmps42
  go_wp2_with fail
  refine (clone_any xs ad c hpos hn h1 _ (fun j u hu => by rw [World.cell?_alloc_lt _ _ _ (World.block_lt_of_cell? w _ (HX.out j u hu))]; exact HX.out j u hu)).mono ?_
  rintro e w1 ⟨g, cap, rfl, hown, hB⟩
  have hmk := fun W => run_makeMap (P := Try.prog) 57 W
  have hb0 := below_block hB (block_new w (.cells #[.slice none 0 0, .map none] 59)) (by simp)
  have HB0 := hid hb0
  have HOW := hid hown
  have HBB := hid hB
  clear hb0 hown hB
  go_wp2_with (refine wpList_store_block rfl 59 (.tmp 2) (.tmp 6) rfl w.heap.size #[.slice (some ⟨g, 0, none⟩) xs.length cap, .map (some w1.heap.size)] rfl rfl _ 59 (block_alloc HB0.out _) rfl info63 (by simp [Value.oneCell']) ?_; intro w2 hg2 hb2 hz2)
  refine bodyPost_ret (results_cell Try.results42 _ _ rfl hb2 _ Try.underlying59 rfl info63) rfl ⟨g, cap, w1.heap.size, rfl, ?_, ?_, ?_, ?_⟩
  · have := HBB.out.size; simp at this; omega
  · exact grown_block hg2 (block_new w1 _) (by have := lt_of_heap HB0.out; intro e; have := Option.some.inj e; omega)
  · have hgz := (HOW.out.lt g rfl).1
    refine ((HOW.out.alloc _).kept hg2 (.inr (fun e => ?_))).mono (by simp)
    have := Option.some.inj e
    simp at this hgz
    omega
  · have hw := (Below.refl w.heap.size w).alloc (Nat.le_refl _) (.cells #[.slice none 0 0, .map none] 59)
    have h1 := hw.trans (HBB.out.mono (by simp))
    exact (h1.alloc h1.size _).trans (below_of_grown hg2 (Nat.le_refl _) (h1.alloc h1.size _).size)
/-- A disk as it is made: its first sectors, no op, the same sectors safe, nothing that waits. -/
structure Fresh (w0 w : World) (p : Nat) (xs : List Value) (first : Value) : Prop where
  fields : ∃ g cap m, w.heap[p]? = some (.cells #[first, .slice none 0 0, .slice (some ⟨g, 0, none⟩) xs.length cap, .map (some m)] 61 (0, 0)) ∧ w0.heap.size ≤ m ∧ w.heap[m]? = some (.map #[] 0) ∧
    w.ownsRow w0.heap.size 71 1 (.slice (some ⟨g, 0, none⟩) xs.length cap) xs.length xs
  new : w0.heap.size ≤ p
  below : Below w0.heap.size w0 w
set_option maxRecDepth 100000 in
set_option maxHeartbeats 1000000 in
theorem made_any (xs : List Value) (ad : Addr) (c : Nat) (hpos : 0 < xs.length) (hn : xs.length ≤ 4096) (h1 : ∀ u ∈ xs, u.oneCell' = true) (w : World) (hx : ∀ j u, xs[j]? = some u → w.cell? (ad.add j) = some u) :
    Calls Try.prog 40 #[.slice (some ad) xs.length c] w fun e w' => ∃ p, e = .returned (.pointer (some ⟨p, 0, none⟩)) ∧ Fresh w w' p xs (.slice (some ad) xs.length c) := by
  have HX := hid hx
  clear hx
  go_enter Try.func40, Try.ntmps40
  go_wp2_with fail
  refine (flushed_any xs ad c hpos hn h1 _ HX.out).mono ?_
  rintro e w1 ⟨g, cap, m, rfl, hm, hmb, hown, hB⟩
  have HM := hid hm
  have HMB := hid hmb
  have HOW := hid hown
  have HB := hid hB
  clear hm hmb hown hB
  go_wp2
  go_ret
  refine ⟨_, rfl, ⟨g, cap, m, block_new _ _, HM.out, block_alloc HMB.out _, HOW.out.alloc _⟩, HB.out.size, HB.out.alloc HB.out.size _⟩
end Go.Proofs.Ytplcljcpekphnaa
/- plates.has: is there a sector of that number? -/
namespace Go.Proofs.Ytplcljcpekphnaa
open Go.RowKit
set_option maxRecDepth 10000 in
theorem has_is (b o : Nat) (a : Option Addr) (len cap : Nat) (n : Int) (w : World) (hc : w.cell? ⟨b, o, none⟩ = some (.slice a len cap)) (r : Bool) (hr : decide (0 ≤ n ∧ n < (len : Int)) = r) :
    Calls Try.prog 36 #[.pointer (some ⟨b, o, none⟩), .int .i64 n] w fun e w' => e = .returned (.bool r) ∧ w' = w := by
  by_cases h0 : 0 ≤ n
  · by_cases h1 : n < (len : Int)
    · rw [decide_eq_true ⟨h0, h1⟩] at hr
      subst hr
      go_enter Try.func36, Try.ntmps36
      go_wp2
      go_ret
      exact ⟨rfl, rfl⟩
    · rw [decide_eq_false (fun h => h1 h.2)] at hr
      subst hr
      go_enter Try.func36, Try.ntmps36
      go_wp2
      go_ret
      exact ⟨rfl, rfl⟩
  · rw [decide_eq_false (fun h => h0 h.1)] at hr
    subst hr
    go_enter Try.func36, Try.ntmps36
    go_wp2
    go_ret
    exact ⟨rfl, rfl⟩
theorem has_any (b o : Nat) (a : Option Addr) (len cap : Nat) (n : Int) (w : World) (hc : w.cell? ⟨b, o, none⟩ = some (.slice a len cap)) :
    Calls Try.prog 36 #[.pointer (some ⟨b, o, none⟩), .int .i64 n] w fun e w' => e = .returned (.bool (decide (0 ≤ n ∧ n < (len : Int)))) ∧ w' = w := has_is b o a len cap n w hc _ rfl
end Go.Proofs.Ytplcljcpekphnaa
/- How a disk lies in memory (DiskIn); note and Write: one write more. -/
namespace Go.Proofs.Ytplcljcpekphnaa
open Go.RowKit Go.Maps
/-- Where a disk lies, the values of its fields. -/
structure DL where
  p : Nat
  fv : Value
  ov : Value
  L : PL
/-- The blocks that are written when it changes. -/
def DL.foot (d : DL) (waits : Int → List ByteArray) (i : Nat) : Prop := i = d.p ∨ d.ov.ownBlock = some i ∨ d.L.foot waits i
structure DiskIn (w : World) (d : DL) (S : DiskS) : Prop where
  heap : w.heap[d.p]? = some (.cells #[d.fv, d.ov, .slice (some ⟨d.L.g, 0, none⟩) S.safe.length d.L.cap, .map (some d.L.m)] 61 (0, 0))
  ops : w.ownsRow 0 107 1 d.ov S.ops.length (S.ops.map encOp)
  plates : PlatesIn w d.L S.safe S.waits S.ops.length
  first : ∃ ad c, d.fv = .slice (some ad) S.first.length c ∧ (∀ j s, S.first[j]? = some s → w.cell? (ad.add j) = some (.string s)) ∧ ¬ d.foot S.waits ad.block
  flen : S.first.length = S.safe.length
theorem row_type {w : World} {base : Nat} {e : TypeId} {size : Nat} {v : Value} {n : Nat} {xs : List Value} (h : w.ownsRow base e size v n xs) {i : Nat} (hi : v.ownBlock = some i) : ∃ cur, w.heap[i]? = some (.cells cur e (0, 0)) := by
  rcases h.2 with ⟨rfl, _⟩ | ⟨g, cap, cur, rfl, _, hg, _⟩
  · simp [Value.ownBlock] at hi
  · obtain rfl : g = i := Option.some.inj hi
    exact ⟨cur, hg⟩
theorem DiskIn.ops_off {w : World} {d : DL} {S : DiskS} (h : DiskIn w d S) {i : Nat} (hi : d.ov.ownBlock = some i) : ¬ d.L.foot S.waits i ∧ i ≠ d.p := by
  obtain ⟨cur, hc⟩ := row_type h.ops hi
  refine ⟨h.plates.foot_other hc (by decide), ne_of_heap hc h.heap (fun e => ?_)⟩
  simp only [Obj.cells.injEq] at e
  exact absurd e.2.1 (by decide)
theorem DiskIn.p_off {w : World} {d : DL} {S : DiskS} (h : DiskIn w d S) : ¬ d.L.foot S.waits d.p := h.plates.foot_other h.heap (by decide)
theorem DiskIn.foot_lt {w : World} {d : DL} {S : DiskS} (h : DiskIn w d S) {i : Nat} (hi : d.foot S.waits i) : i < w.heap.size := by
  rcases hi with rfl | e | e
  · exact lt_of_heap h.heap
  · obtain ⟨_, hc⟩ := row_type h.ops e; exact lt_of_heap hc
  · exact h.plates.foot_lt e
theorem add_block (ad : Addr) (j : Nat) : (ad.add j).block = ad.block := by
  unfold Addr.add; split <;> simp_all
theorem DiskIn.keep {w w' : World} {d : DL} {S : DiskS} (h : DiskIn w d S) {G : Nat → Prop} (k : Keeps G w w') (hG : ∀ i, d.foot S.waits i → ¬ G i) (hF : ∀ i, d.fv.ownBlock = some i → ¬ G i) : DiskIn w' d S where
  heap := k.heap h.heap (hG _ (.inl rfl))
  ops := k.row h.ops (fun i hi => hG i (.inr (.inl hi)))
  plates := h.plates.keep k (fun i hi => hG i (.inr (.inr hi)))
  first := by
    obtain ⟨ad, c, e, hc, hn⟩ := h.first
    exact ⟨ad, c, e, fun j s hj => k.cell (hc j s hj) (by rw [add_block]; exact hF _ (by rw [e]; rfl)), hn⟩
  flen := h.flen
/-- New blocks alone have been made. -/
theorem DiskIn.below {w w' : World} {d : DL} {S : DiskS} (h : DiskIn w d S) (k : Below w.heap.size w w') : DiskIn w' d S := h.keep (G := fun _ => False) (Keeps.of_below k) (fun _ _ e => e) (fun _ _ e => e)
/-- What is read of a disk: all but its ops' own cells, and its first sectors. -/
structure DiskRd (w : World) (d : DL) (S : DiskS) : Prop where
  heap : w.heap[d.p]? = some (.cells #[d.fv, d.ov, .slice (some ⟨d.L.g, 0, none⟩) S.safe.length d.L.cap, .map (some d.L.m)] 61 (0, 0))
  plates : PlatesIn w d.L S.safe S.waits S.ops.length
  ov : ∃ a c, d.ov = .slice a S.ops.length c
theorem row_slice' {w : World} {base : Nat} {e : TypeId} {size : Nat} {v : Value} {n : Nat} {xs : List Value} (h : w.ownsRow base e size v n xs) : ∃ a c, v = .slice a n c := by
  rcases h.2 with ⟨rfl, rfl⟩ | ⟨g, cap, cur, rfl, _⟩
  · exact ⟨none, 0, rfl⟩
  · exact ⟨_, _, rfl⟩
theorem DiskIn.rd {w : World} {d : DL} {S : DiskS} (h : DiskIn w d S) : DiskRd w d S := ⟨h.heap, h.plates, row_slice' h.ops⟩
theorem DiskRd.keep {w w' : World} {d : DL} {S : DiskS} (h : DiskRd w d S) {G : Nat → Prop} (k : Keeps G w w') (hp : ¬ G d.p) (hG : ∀ i, d.L.foot S.waits i → ¬ G i) : DiskRd w' d S :=
  ⟨k.heap h.heap hp, h.plates.keep k hG, h.ov⟩
theorem DiskRd.below {w w' : World} {d : DL} {S : DiskS} (h : DiskRd w d S) (k : Below w.heap.size w w') : DiskRd w' d S := h.keep (G := fun _ => False) (Keeps.of_below k) (fun e => e) (fun _ _ e => e)
/-- One write more. -/
def DiskS.wrote (S : DiskS) (n : Int) (s : ByteArray) : DiskS := { S with ops := S.ops ++ [.write n s], waits := upd S.waits n (S.waits n ++ [s]) }
theorem infoOp : (Try.prog.info? 107).map (fun i => (i.zero, i.size, i.bytes)) = some (some .nilIface, 1, 16) := by kernel_rfl
set_option maxRecDepth 100000 in
set_option maxHeartbeats 1000000 in
theorem note_write (d : DL) (S : DiskS) (n : Int) (s : ByteArray) (w : World) (h : DiskIn w d S) (hB : S.ops.length < opsMax) (h0 : 0 ≤ n) (h1 : n < S.safe.length) :
    Calls Try.prog 47 #[.pointer (some ⟨d.p, 0, none⟩), .iface 90 (.agg #[.int .i64 n, .string s])] w fun e w' => e = .returned (.tuple #[]) ∧
      ∃ d', DiskIn w' d' (S.wrote n s) ∧ d'.p = d.p ∧ d'.fv = d.fv ∧ (∀ i, d'.foot (S.wrote n s).waits i → d.foot S.waits i ∨ w.heap.size ≤ i) ∧ Keeps (d.foot S.waits) w w' := by
  have c1 : w.cell? ⟨d.p, 1, none⟩ = some d.ov := by rw [cell_of_block h.heap]; rfl
  have hlt := lt_of_heap h.heap
  obtain ⟨i0, hi, hz0, hz1, hz2⟩ := info_parts infoOp
  have HI := hid hi
  have H := hid h
  have HL := hid (opsMax_len hB)
  clear hi h
  go_enter Try.func47, Try.ntmps47
  go_wp2_with (refine wpList_append_lies _ rfl (.tmp 8) (.tmp 10) 56 rfl 0 107 i0 .nilIface 1 16 Try.underlying56 HI.out hz0 hz1 hz2 rfl (by omega) d.ov S.ops.length (S.ops.map encOp) rfl (H.out.ops.alloc _) ⟨w.heap.size, 0, none⟩ 1 1 [encOp (.write n s)] rfl rfl (World.news_of_block (cs := #[encOp (.write n s)]) (block_new w _)) (by intro u hu; rw [List.mem_singleton.1 hu]; rfl) (by omega) HL.out.1 HL.out.2.1 (Nat.zero_le _) (w.heap.size + 1) (by simp) ?_; intro g cap w1 hown hgr hat hlt1; have HO := hid hown; have HG := hid hgr; have HA := hid hat; have HP1 := hid ((hgr.block d.p (by simp; omega) (fun e => (H.out.ops_off e.symm).2 rfl)).trans (block_alloc H.out.heap _)); have f1 : w1.cell? ⟨d.p, 1, none⟩ = some d.ov := cell_of_block HP1.out 1; have f2 : w1.frozen? ⟨d.p, 1, none⟩ = false := frozen_of_block HP1.out 1; clear hown hgr hat hlt1)
  have K1 : Keeps (fun i => d.ov.ownBlock = some i) w w1 := (Keeps.of_below ((Below.refl _ _).alloc (Nat.le_refl _) _)).trans (Keeps.of_grown HG.out (fun i e => e)) (fun i e => .inl e)
  have K2 : Keeps (fun i => d.ov.ownBlock = some i ∨ i = d.p) w (w1.setCell ⟨d.p, 1, none⟩ (.slice (some ⟨g, 0, none⟩) (S.ops.length + 1) cap)) :=
    (K1.mono (fun _ => .inl)).grown (grown_setCell (grown_refl w1 (some d.p)) 1 _) (fun i e => .inl (.inr (Option.some.inj e).symm))
  have HK2 := hid K2
  have hP2 := block_setCell HP1.out 1 (.slice (some ⟨g, 0, none⟩) (S.ops.length + 1) cap)
  have HP2 := hid hP2
  have hgp : g ≠ d.p := by
    obtain ⟨cur, hc⟩ := row_type HO.out rfl
    refine ne_of_heap hc HP1.out (fun e => ?_)
    simp only [Obj.cells.injEq] at e
    exact absurd e.2.1 (by decide)
  have HO2 := hid (HO.out.kept (grown_setCell (grown_refl w1 (some d.p)) 1 (.slice (some ⟨g, 0, none⟩) (S.ops.length + 1) cap)) (.inr (fun e => hgp (by simpa [Value.ownBlock] using e))))
  have HPL := hid (H.out.plates.keep HK2.out (fun i hi e => by
    rcases e with e | e
    · exact (H.out.ops_off e).1 hi
    · exact H.out.p_off (e ▸ hi)))
  clear K1 K2 hP2 f1 f2 HO hgp
  generalize hW : w1.setCell ⟨d.p, 1, none⟩ (.slice (some ⟨g, 0, none⟩) (S.ops.length + 1) cap) = w2 at *
  clear hW
  refine (do_write d.p d.fv (.slice (some ⟨g, 0, none⟩) (S.ops.length + 1) cap) d.L S.safe S.waits S.ops.length n s w2 HP2.out HPL.out hB h0 h1).mono ?_
  rintro e w3 ⟨rfl, L', hP3, e1, e2, e3, hfoot, hK3⟩
  have HP3 := hid hP3
  have HF3 := hid hfoot
  have HK3 := hid hK3
  have HE := hid (And.intro e1 (And.intro e2 e3))
  clear hP3 hfoot hK3 e1 e2 e3
  have HFoot : Hid (∀ i, (DL.foot ⟨d.p, d.fv, .slice (some ⟨g, 0, none⟩) (S.ops.length + 1) cap, L'⟩ (S.wrote n s).waits i) → d.foot S.waits i ∨ w.heap.size ≤ i) := by
    rintro i (e | e | e)
    · exact .inl (.inl e)
    · obtain rfl : g = i := Option.some.inj e
      rcases HA.out with e | e
      · exact .inl (.inr (.inl e))
      · exact .inr (by omega)
    · rcases HF3.out i e with e | e
      · exact .inl (.inr (.inr e))
      · exact .inr (Nat.le_trans HK2.out.size e)
  have HKall : Hid (Keeps (d.foot S.waits) w w3) := (HK2.out.mono (fun i e => by rcases e with e | e; exact .inr (.inl e); exact .inl e)).trans HK3.out (fun i e => .inl (.inr (.inr e)))
  go_wp2
  go_end0
  refine ⟨rfl, ⟨d.p, d.fv, .slice (some ⟨g, 0, none⟩) (S.ops.length + 1) cap, L'⟩, ⟨?_, ?_, ?_, ?_, ?_⟩, rfl, rfl, ?_, ?_⟩
  · rw [HE.out.1, HE.out.2.1, HE.out.2.2]
    exact HK3.out.heap HP2.out H.out.p_off
  · have h2 := HK3.out.row HO2.out (fun i hi => by
      obtain ⟨cur, hc⟩ := row_type HO2.out hi
      exact HPL.out.foot_other hc (by decide))
    simpa [DiskS.wrote] using h2
  · simpa [DiskS.wrote] using HP3.out
  · obtain ⟨ad, c, e, hc, hn⟩ := H.out.first
    refine ⟨ad, c, e, fun j u hj => ?_, fun hf => ?_⟩
    · refine HK3.out.cell (HK2.out.cell (hc j u hj) ?_) ?_
      · rw [add_block]; rintro (e | e)
        · exact hn (.inr (.inl e))
        · exact hn (.inl e)
      · rw [add_block]; exact fun e => hn (.inr (.inr e))
    · have hlt0 : S.first.length ≠ 0 := by have := H.out.flen; have := H.out.plates.pos; omega
      have hltad : ad.block < w.heap.size := by
        have h00 := hc 0 (S.first[0]'(by omega)) (by simp)
        have := World.block_lt_of_cell? w _ h00
        rwa [add_block] at this
      exact hn (by rcases HFoot.out _ hf with e | e; exact e; omega)
  · exact H.out.flen
  · exact HFoot.out
  · exact HKall.out
end Go.Proofs.Ytplcljcpekphnaa
/- disk.Disk.Write: a sector that is written waits; a number of no sector, or other than 512 bytes, is refused. -/
namespace Go.Proofs.Ytplcljcpekphnaa
open Go.RowKit Go.Maps
/-- The bytes l lie from ad on. -/
def bytesAt (w : World) (ad : Addr) (l : List UInt8) : Prop := ∀ j (hj : j < l.length), w.cell? (ad.add j) = some (.int .u8 (l[j].toNat : Int))
set_option maxRecDepth 100000 in
set_option maxHeartbeats 1000000 in
theorem write_ok (d : DL) (S : DiskS) (n : Int) (l : List UInt8) (ad : Addr) (c : Nat) (w : World) (h : DiskIn w d S) (hB : S.ops.length < opsMax) (h0 : 0 ≤ n) (h1 : n < S.safe.length) (hl : l.length = 512) (hb : bytesAt w ad l) :
    Calls Try.prog 34 #[.pointer (some ⟨d.p, 0, none⟩), .int .i64 n, .slice (some ad) 512 c] w fun e w' => e = .returned (.int .i64 0) ∧
      ∃ d', DiskIn w' d' (S.wrote n ⟨l.toArray⟩) ∧ d'.p = d.p ∧ d'.fv = d.fv ∧ (∀ i, d'.foot (S.wrote n ⟨l.toArray⟩).waits i → d.foot S.waits i ∨ w.heap.size ≤ i) ∧ Keeps (d.foot S.waits) w w' := by
  have hcv := run_convert_bytes_back (P := Try.prog) w 26 71 5 ad c l Try.underlying26 Try.underlying5 Try.underlying71 hb
  rw [hl] at hcv
  have c2 : w.cell? ⟨d.p, 2, none⟩ = some (.slice (some ⟨d.L.g, 0, none⟩) S.safe.length d.L.cap) := by rw [cell_of_block h.heap]; rfl
  have HD := hid (decide_eq_true (And.intro h0 h1))
  have HC2 := hid c2
  have HN := hid (note_write d S n ⟨l.toArray⟩ w h hB h0 h1)
  clear hb hl h c2
  generalize hs : (⟨l.toArray⟩ : ByteArray) = s at *
  clear hs
  go_enter Try.func34, Try.ntmps34
  go_wp2_with fail
  refine (has_any d.p 2 _ _ _ _ _ HC2.out).mono ?_
  rintro e w9 ⟨rfl, h9⟩
  obtain rfl := h9.symm
  rw [HD.out]
  go_wp2_with fail
  refine HN.out.mono ?_
  rintro e w1 ⟨rfl, hq⟩
  have HQ := hid hq
  clear hq
  go_wp2
  go_ret
  exact ⟨rfl, HQ.out⟩
set_option maxRecDepth 100000 in
set_option maxHeartbeats 1000000 in
theorem write_no (d : DL) (S : DiskS) (n : Int) (a : Option Addr) (k c : Nat) (w : World) (h : DiskIn w d S) (h1 : ¬ (0 ≤ n ∧ n < S.safe.length)) :
    Calls Try.prog 34 #[.pointer (some ⟨d.p, 0, none⟩), .int .i64 n, .slice a k c] w fun e w' => e = .returned (.int .i64 2) ∧ w' = w := by
  have HC2 := hid (show w.cell? ⟨d.p, 2, none⟩ = some (.slice (some ⟨d.L.g, 0, none⟩) S.safe.length d.L.cap) by rw [cell_of_block h.heap]; rfl)
  have HD := hid (decide_eq_false h1)
  clear h h1
  go_enter Try.func34, Try.ntmps34
  go_wp2_with fail
  refine (has_any d.p 2 _ _ _ _ _ HC2.out).mono ?_
  rintro e w9 ⟨rfl, h9⟩
  obtain rfl := h9.symm
  rw [HD.out]
  go_wp2
  go_ret
  exact ⟨rfl, rfl⟩
set_option maxRecDepth 100000 in
set_option maxHeartbeats 1000000 in
theorem write_len (d : DL) (S : DiskS) (n : Int) (a : Option Addr) (k c : Nat) (w : World) (h : DiskIn w d S) (h0 : 0 ≤ n) (h1 : n < S.safe.length) (hk : k ≠ 512) :
    Calls Try.prog 34 #[.pointer (some ⟨d.p, 0, none⟩), .int .i64 n, .slice a k c] w fun e w' => e = .returned (.int .i64 3) ∧ w' = w := by
  have HC2 := hid (show w.cell? ⟨d.p, 2, none⟩ = some (.slice (some ⟨d.L.g, 0, none⟩) S.safe.length d.L.cap) by rw [cell_of_block h.heap]; rfl)
  have HD := hid (decide_eq_true (And.intro h0 h1))
  have hk' : ¬ ((k : Int) = 512) := by omega
  clear h
  go_enter Try.func34, Try.ntmps34
  go_wp2_with fail
  refine (has_any d.p 2 _ _ _ _ _ HC2.out).mono ?_
  rintro e w9 ⟨rfl, h9⟩
  obtain rfl := h9.symm
  rw [HD.out]
  go_wp2
  go_ret
  exact ⟨rfl, rfl⟩
/-- What Write answers. -/
def errW (S : DiskS) (n : Int) (l : List UInt8) : Int := if ¬ (0 ≤ n ∧ n < S.safe.length) then 2 else if l.length ≠ 512 then 3 else 0
/-- A disk behind Write. -/
def DiskS.put (S : DiskS) (n : Int) (l : List UInt8) : DiskS := if errW S n l = 0 then S.wrote n ⟨l.toArray⟩ else S
theorem put_safe (S : DiskS) (n : Int) (l : List UInt8) : (S.put n l).safe = S.safe := by unfold DiskS.put; split <;> rfl
theorem put_first (S : DiskS) (n : Int) (l : List UInt8) : (S.put n l).first = S.first := by unfold DiskS.put; split <;> rfl
theorem put_ops (S : DiskS) (n : Int) (l : List UInt8) : (S.put n l).ops.length ≤ S.ops.length + 1 := by unfold DiskS.put; split <;> simp [DiskS.wrote]
theorem write_any (d : DL) (S : DiskS) (n : Int) (l : List UInt8) (ad : Addr) (k c : Nat) (w : World) (h : DiskIn w d S) (hB : S.ops.length < opsMax) (hk : l.length = k) (hb : bytesAt w ad l) :
    Calls Try.prog 34 #[.pointer (some ⟨d.p, 0, none⟩), .int .i64 n, .slice (some ad) k c] w fun e w' => e = .returned (.int .i64 (errW S n l)) ∧
      ∃ d', DiskIn w' d' (S.put n l) ∧ d'.p = d.p ∧ d'.fv = d.fv ∧ (∀ i, d'.foot (S.put n l).waits i → d.foot S.waits i ∨ w.heap.size ≤ i) ∧ Keeps (d.foot S.waits) w w' := by
  by_cases hn : 0 ≤ n ∧ n < S.safe.length
  · by_cases hl : l.length = 512
    · have e0 : errW S n l = 0 := by rw [errW, if_neg (not_not_intro hn), if_neg (not_not_intro hl)]
      have e1 : S.put n l = S.wrote n ⟨l.toArray⟩ := by rw [DiskS.put, if_pos e0]
      rw [e0, e1]
      obtain rfl : k = 512 := by omega
      exact write_ok d S n l ad c w h hB hn.1 hn.2 hl hb
    · have e0 : errW S n l = 3 := by rw [errW, if_neg (not_not_intro hn), if_pos hl]
      have e1 : S.put n l = S := by rw [DiskS.put, if_neg (by rw [e0]; decide)]
      rw [e0, e1]
      refine (write_len d S n (some ad) k c w h hn.1 hn.2 (by omega)).mono ?_
      rintro e w' ⟨rfl, rfl⟩
      exact ⟨rfl, d, h, rfl, rfl, fun i hi => .inl hi, Keeps.refl _ _⟩
  · have e0 : errW S n l = 2 := by rw [errW, if_pos hn]
    have e1 : S.put n l = S := by rw [DiskS.put, if_neg (by rw [e0]; decide)]
    rw [e0, e1]
    refine (write_no d S n (some ad) k c w h hn).mono ?_
    rintro e w' ⟨rfl, rfl⟩
    exact ⟨rfl, d, h, rfl, rfl, fun i hi => .inl hi, Keeps.refl _ _⟩
end Go.Proofs.Ytplcljcpekphnaa
/- disk.New: a disk of sectors that are all 0, or none. -/
namespace Go.Proofs.Ytplcljcpekphnaa
open Go.RowKit
/-- A sector that is 0 everywhere. -/
def blankS : ByteArray := ⟨(Lib.repeatL [0] 512).toArray⟩
set_option maxRecDepth 100000 in
set_option maxHeartbeats 1000000 in
theorem new_ok (n : Nat) (h1 : 1 ≤ n) (hn : n ≤ 4096) (w : World) :
    Calls Try.prog 20 #[.int .i64 n] w fun e w' => ∃ p first, e = .returned (.tuple #[.pointer (some ⟨p, 0, none⟩), .int .i64 0]) ∧ (∃ b, first = .slice (some ⟨b, 0, none⟩) n n ∧ w.heap.size ≤ b ∧ w'.heap[b]? = some (.cells (List.replicate n (Value.string blankS)).toArray 71 (0, 0))) ∧ Fresh w w' p (List.replicate n (.string blankS)) first := by
  have hd : decide (1 ≤ (n : Int) ∧ (n : Int) ≤ 4096) = true := decide_eq_true ⟨by omega, by omega⟩
  have HD := hid hd
  clear hd
  go_enter Try.func20, Try.ntmps20
  go_wp2_with fail
  refine (isSize_any _ _).mono ?_
  rintro e w9 ⟨rfl, h9⟩
  obtain rfl := h9.symm
  rw [HD.out]
  go_wp2_with fail
  refine (Try.strings_Repeat ⟨#[0]⟩ 512 _ (by omega) (by decide)).mono ?_
  rintro e w1 ⟨rfl, hB1⟩
  have HB1 := hid hB1
  clear hB1
  go_wp2_with fail
  refine (repeat_one blankS w1.heap.size n h1 hn _ (by rw [cell_of_block (block_new w1 _)]; rfl)).mono ?_
  rintro e w2 ⟨rfl, hb2, hB2⟩
  have hz : (w1.alloc (.cells #[.string ⟨(Lib.repeatL [0] 512).toArray⟩] 71)).heap.size = w1.heap.size + 1 := by simp
  rw [hz] at hb2
  have HBa := hid ((HB1.out.alloc HB1.out.size (.cells #[.string ⟨(Lib.repeatL [0] 512).toArray⟩] 71)).trans (hB2.mono (HB1.out.alloc HB1.out.size _).size))
  have Hb2 := hid hb2
  have hl : (List.replicate n (Value.string blankS)).length = n := by simp
  have hmade := made_any (List.replicate n (Value.string blankS)) ⟨w1.heap.size + 1, 0, none⟩ n (by rw [hl]; omega) (by rw [hl]; exact hn) (by intro u hu; rw [List.eq_of_mem_replicate hu]; rfl) w2
    (fun j u hu => by rw [Addr.add_mid, Nat.zero_add, cell_of_block Hb2.out, List.getElem?_toArray]; exact hu)
  rw [hl] at hmade
  have HMade := hid hmade
  have HL := hid hl
  clear hB2 hb2 hmade hl hz
  go_wp2_with fail
  refine HMade.out.mono ?_
  rintro e w3 ⟨p, rfl, hF⟩
  have HF := hid hF
  clear hF
  go_wp2
  go_returns
  have hz1 := HBa.out.size
  have hz2 := HB1.out.size
  refine ⟨p, .slice (some ⟨w1.heap.size + 1, 0, none⟩) n n, rfl, ⟨w1.heap.size + 1, rfl, by omega, below_block HF.out.below Hb2.out (lt_of_heap Hb2.out)⟩, ?_⟩
  obtain ⟨⟨g, cap, m, f1, f2, f3, f4⟩, fn, fb⟩ := HF.out
  exact ⟨⟨g, cap, m, f1, by omega, f3, f4.mono hz1⟩, by omega, HBa.out.trans (fb.mono hz1)⟩
theorem new_bad (n : Int) (h : ¬ (1 ≤ n ∧ n ≤ 4096)) (w : World) : Calls Try.prog 20 #[.int .i64 n] w fun e w' => e = .returned (.tuple #[.pointer none, .int .i64 2]) ∧ w' = w := by
  have HD := hid (decide_eq_false h)
  go_enter Try.func20, Try.ntmps20
  go_wp2_with fail
  refine (isSize_any _ _).mono ?_
  rintro e w9 ⟨rfl, h9⟩
  obtain rfl := h9.symm
  rw [HD.out]
  go_wp2
  go_returns
  exact ⟨rfl, rfl⟩
end Go.Proofs.Ytplcljcpekphnaa
/- A disk as it is made lies in memory as DiskIn says; disk.New. -/
namespace Go.Proofs.Ytplcljcpekphnaa
open Go.RowKit Go.Maps
/-- A disk as it is made of sectors. -/
def freshS (xs : List ByteArray) : DiskS := ⟨xs, [], xs, fun _ => []⟩
theorem map_empty {w : World} {m : Nat} (h : w.heap[m]? = some (.map #[] 0)) : w.ownsMap Try.prog 3 selfElem m 0 (.map []) :=
  ⟨#[], 0, h, ⟨by simp, MapKept.stamped_empty 0, by simp⟩, Nat.le_refl _, rfl⟩
theorem fresh_disk {w0 w : World} {p : Nat} {xs : List ByteArray} {ad : Addr} {c : Nat} (h : Fresh w0 w p (strs xs) (.slice (some ad) (strs xs).length c)) (hpos : 0 < xs.length) (hmost : xs.length ≤ 4096) (had : ad.block < w0.heap.size)
    (hx : ∀ j u, (strs xs)[j]? = some u → w0.cell? (ad.add j) = some u) : ∃ d, DiskIn w d (freshS xs) ∧ d.p = p ∧ d.fv.ownBlock = some ad.block ∧ (∀ i, d.foot (freshS xs).waits i → w0.heap.size ≤ i) ∧ Below w0.heap.size w0 w := by
  obtain ⟨⟨g, cap, m, f1, f2, f3, f4⟩, fn, fb⟩ := h
  have hl : (strs xs).length = xs.length := by simp
  rw [hl] at f1 f4
  have hg := (f4.lt g rfl).1
  have hfoot : ∀ i, (DL.foot ⟨p, .slice (some ad) xs.length c, .slice none 0 0, ⟨g, cap, m, .map [], fun _ => 0, fun _ => 0⟩⟩ (freshS xs).waits i) → w0.heap.size ≤ i := by
    rintro i (e | e | e | e | ⟨n, hn, e⟩)
    · have e' : i = p := e; omega
    · simp [Value.ownBlock] at e
    · have e' : i = g := e; omega
    · have e' : i = m := e; omega
    · simp [freshS] at hn
  refine ⟨⟨p, .slice (some ad) xs.length c, .slice none 0 0, ⟨g, cap, m, .map [], fun _ => 0, fun _ => 0⟩⟩, ⟨f1, World.ownsRow_nil _ _ _ _, ?_, ?_, rfl⟩, rfl, rfl, hfoot, fb⟩
  · exact ⟨f4.mono (Nat.zero_le _), map_empty f3, fun _ _ => rfl, fun n hn => by simp [freshS] at hn, fun n hn => by simp [freshS] at hn, fun n hn => by simp [freshS] at hn, fun n hn => by simp [freshS] at hn, fun n n' hn => by simp [freshS] at hn, fun n => Nat.le_refl _, fun n hn => by simp [freshS] at hn, hpos, hmost⟩
  · refine ⟨ad, c, rfl, fun j s hj => ?_, fun hf => by have := hfoot _ hf; omega⟩
    have h0 := hx j (.string s) (by simpa [freshS] using hj)
    rw [fb.cell (by rw [add_block]; exact had)]
    exact h0
theorem strs_replicate (n : Nat) (s : ByteArray) : strs (List.replicate n s) = List.replicate n (Value.string s) := by simp [strs]
set_option maxRecDepth 100000 in
set_option maxHeartbeats 1000000 in
theorem new_disk (n : Nat) (h1 : 1 ≤ n) (hn : n ≤ 4096) (w : World) :
    Calls Try.prog 20 #[.int .i64 n] w fun e w' => ∃ d, e = .returned (.tuple #[.pointer (some ⟨d.p, 0, none⟩), .int .i64 0]) ∧ DiskIn w' d (freshS (List.replicate n blankS)) ∧ (∀ i, d.foot (freshS (List.replicate n blankS)).waits i → w.heap.size ≤ i) ∧ (∀ i, d.fv.ownBlock = some i → w.heap.size ≤ i) ∧ Below w.heap.size w w' := by
  have hd : decide (1 ≤ (n : Int) ∧ (n : Int) ≤ 4096) = true := decide_eq_true ⟨by omega, by omega⟩
  have HD := hid hd
  clear hd
  go_enter Try.func20, Try.ntmps20
  go_wp2_with fail
  refine (isSize_any _ _).mono ?_
  rintro e w9 ⟨rfl, h9⟩
  obtain rfl := h9.symm
  rw [HD.out]
  go_wp2_with fail
  refine (Try.strings_Repeat ⟨#[0]⟩ 512 _ (by omega) (by decide)).mono ?_
  rintro e w1 ⟨rfl, hB1⟩
  have HB1 := hid hB1
  clear hB1
  go_wp2_with fail
  refine (repeat_one blankS w1.heap.size n h1 hn _ (by rw [cell_of_block (block_new w1 _)]; rfl)).mono ?_
  rintro e w2 ⟨rfl, hb2, hB2⟩
  have hz : (w1.alloc (.cells #[.string ⟨(Lib.repeatL [0] 512).toArray⟩] 71)).heap.size = w1.heap.size + 1 := by simp
  rw [hz] at hb2
  have HBa := hid ((HB1.out.alloc HB1.out.size (.cells #[.string ⟨(Lib.repeatL [0] 512).toArray⟩] 71)).trans (hB2.mono (HB1.out.alloc HB1.out.size _).size))
  have Hb2 := hid hb2
  have hl : (List.replicate n (Value.string blankS)).length = n := by simp
  have hx : ∀ j u, (List.replicate n (Value.string blankS))[j]? = some u → w2.cell? ((⟨w1.heap.size + 1, 0, none⟩ : Addr).add j) = some u := fun j u hu => by rw [Addr.add_mid, Nat.zero_add, cell_of_block Hb2.out, List.getElem?_toArray]; exact hu
  have HX := hid hx
  have hmade := made_any (List.replicate n (Value.string blankS)) ⟨w1.heap.size + 1, 0, none⟩ n (by rw [hl]; omega) (by rw [hl]; exact hn) (by intro u hu; rw [List.eq_of_mem_replicate hu]; rfl) w2 HX.out
  rw [hl] at hmade
  have HMade := hid hmade
  have HL := hid hl
  clear hB2 hb2 hmade hl hz hx
  go_wp2_with fail
  refine HMade.out.mono ?_
  rintro e w3 ⟨p, rfl, hF⟩
  have HF := hid hF
  clear hF HMade
  go_wp2
  go_returns
  have hz1 := HBa.out.size
  have hz2 := HB1.out.size
  have hlt := lt_of_heap Hb2.out
  obtain ⟨d, e1, e2, e3, e4, e5⟩ := fresh_disk (w0 := w2) (w := w3) (p := p) (xs := List.replicate n blankS) (ad := ⟨w1.heap.size + 1, 0, none⟩) (c := n) (by
    have := HF.out
    rw [strs_replicate, HL.out]; exact this) (by simp; omega) (by simp; omega) hlt (by rw [strs_replicate]; exact HX.out)
  refine ⟨d, by rw [e2]; rfl, e1, fun i hi => Nat.le_trans hz1 (e4 i hi), fun i hi => ?_, HBa.out.trans (e5.mono hz1)⟩
  rw [e3] at hi
  have := Option.some.inj hi
  simp at this; omega
end Go.Proofs.Ytplcljcpekphnaa
/- What the library's functions do that are called here: each one application of a contract of the given library. -/
namespace Go.Proofs
open Go.Shelf
def Try.keysA_ren : Go.Shelf.Ren := ⟨fun | 7 => 46 | 10 => 56 | n => n, fun | 23 => 42 | 26 => 3 | 3 => 26 | 28 => 86 | 0 => 0 | 27 => 85 | 33 => 34 | 4 => 4 | n => n, fun | n => n⟩
theorem Try.keysA : Go.Proofs.SlLaysZI.n7 Try.prog Try.keysA_ren := {
  mixed := by kernel_rfl
  f7 := ⟨Try.f46.name, by decide, Try.func46.trans (congrArg some (by kernel_rfl))⟩
  f10 := ⟨Try.f56.name, by decide, Try.func56.trans (congrArg some (by kernel_rfl))⟩
  t0 := Try.underlying0
  a0 := Try.isAgg0
  z0 := Try.sizeOf0
  v0 := Try.zeroValue0
  t4 := Try.underlying4
  a4 := Try.isAgg4
  z4 := Try.sizeOf4
  v4 := Try.zeroValue4
  t23 := Try.underlying42
  a23 := Try.isAgg42
  z23 := Try.sizeOf42
  v23 := Try.zeroValue42
  t26 := Try.underlying3
  a26 := Try.isAgg3
  z26 := Try.sizeOf3
  v26 := Try.zeroValue3
  t27 := Try.underlying85
  a27 := Try.isAgg85
  z27 := Try.sizeOf85
  v27 := Try.zeroValue85
  t28 := Try.underlying86
  a28 := Try.isAgg86
  z28 := Try.sizeOf86
  v28 := Try.zeroValue86
  t33 := Try.underlying34
  a33 := Try.isAgg34
  z33 := Try.sizeOf34
  v33 := Try.zeroValue34 }
def Try.sortedA_ren : Go.Shelf.Ren := ⟨fun | 6 => 45 | 8 => 54 | 9 => 55 | 11 => 63 | 13 => 65 | 12 => 64 | 23 => 77 | 24 => 78 | 14 => 68 | 15 => 69 | 16 => 70 | 17 => 71 | 18 => 72 | 19 => 73 | 20 => 74 | 21 => 75 | 22 => 76 | 25 => 79 | 26 => 80 | 27 => 81 | 28 => 82 | 29 => 83 | 30 => 84 | 31 => 85 | n => n, fun | 26 => 3 | 28 => 86 | 24 => 37 | 0 => 0 | 3 => 3 | 37 => 82 | 48 => 108 | 50 => 111 | 4 => 4 | 40 => 123 | 39 => 122 | 45 => 128 | 5 => 5 | 9 => 9 | 51 => 132 | 55 => 136 | 57 => 138 | 58 => 139 | 33 => 34 | n => n, fun | n => n⟩
theorem Try.sortedA : Go.Proofs.SlLaysZI.n6 Try.prog Try.sortedA_ren := {
  mixed := by kernel_rfl
  f6 := ⟨Try.f45.name, by decide, Try.func45.trans (congrArg some (by kernel_rfl))⟩
  f8 := ⟨Try.f54.name, by decide, Try.func54.trans (congrArg some (by kernel_rfl))⟩
  f11 := ⟨Try.f63.name, by decide, Try.func63.trans (congrArg some (by kernel_rfl))⟩
  t0 := Try.underlying0
  a0 := Try.isAgg0
  z0 := Try.sizeOf0
  v0 := Try.zeroValue0
  t24 := Try.underlying37
  a24 := Try.isAgg37
  z24 := Try.sizeOf37
  v24 := Try.zeroValue37
  t26 := Try.underlying3
  a26 := Try.isAgg3
  z26 := Try.sizeOf3
  v26 := Try.zeroValue3
  t28 := Try.underlying86
  a28 := Try.isAgg86
  z28 := Try.sizeOf86
  v28 := Try.zeroValue86
  i26 := by kernel_rfl }
end Go.Proofs
/- plates.waiting: the sectors that wait, rising. -/
namespace Go.Proofs.Ytplcljcpekphnaa
open Go.RowKit Go.Maps Go.Sort Go.Shelf
/-- The sectors that wait, rising. -/
def waitKeys (waits : Int → List ByteArray) (N : Nat) : List Int := ((List.range N).map (fun k : Nat => (k : Int))).filter (fun k => !(waits k).isEmpty)
theorem mem_waitKeys {waits : Int → List ByteArray} {N : Nat} {k : Int} : k ∈ waitKeys waits N ↔ (0 ≤ k ∧ k < N ∧ waits k ≠ []) := by
  simp only [waitKeys, List.mem_filter, List.mem_map, List.mem_range]
  constructor
  · rintro ⟨⟨j, hj, rfl⟩, h⟩
    refine ⟨by omega, by omega, ?_⟩
    simpa using h
  · rintro ⟨h0, h1, h2⟩
    exact ⟨⟨k.toNat, by omega, by omega⟩, by simpa using h2⟩
theorem sorted_waitKeys (waits : Int → List ByteArray) (N : Nat) : (waitKeys waits N).Pairwise (fun a b => a < b) := by
  refine List.Pairwise.filter _ (List.pairwise_map.2 (List.pairwise_lt_range.imp (fun h => by omega)))
theorem sort_waitKeys (waits : Int → List ByteArray) (N : Nat) : (waitKeys waits N).mergeSort leI = waitKeys waits N :=
  List.mergeSort_of_pairwise ((sorted_waitKeys waits N).imp (fun h => by simp only [leI, decide_eq_true_eq]; omega))
theorem PlatesIn.keys {w : World} {L : PL} {safe : List ByteArray} {waits : Int → List ByteArray} {B : Nat} (h : PlatesIn w L safe waits B) {ss : List Int} (hs : ss.Perm (intKeys L.D)) : ss.mergeSort leI = waitKeys waits safe.length := by
  have hk : ∀ x, x ∈ waitKeys waits safe.length ↔ has L.D (.int .i64 x) = true := fun x => by
    rw [mem_waitKeys]
    constructor
    · rintro ⟨_, _, hx⟩; exact h.there x hx
    · intro hx
      have hne : waits x ≠ [] := fun e => by rw [h.absent x e] at hx; cases hx
      exact ⟨(h.dom x hne).1, (h.dom x hne).2, hne⟩
  obtain ⟨es, hD, hpw, _⟩ := h.mapOwn.entries (int_keyed Try.underlying3)
  obtain ⟨es', hD', hko⟩ := h.mapOwn.keysOf
  obtain rfl : es = es' := by rw [hD] at hD'; simpa using hD'
  have hp : (waitKeys waits safe.length).Perm (intKeys L.D) := by
    rw [hD] at hk ⊢
    exact perm_intKeys hpw (fun p hp => by obtain ⟨v, hv⟩ := hko p hp; obtain ⟨x, _, hx, _⟩ := Maps.keyOf_i64 Try.underlying3 hv; exact ⟨x, hx⟩) ((sorted_waitKeys _ _).imp (fun h => by omega)) hk
  rw [mergeSort_of_perm_i (hs.trans hp.symm), sort_waitKeys]
theorem sortsA (m : Nat) : AnyZI.SortsIn Try.prog Try.sortedA_ren Fence.wide m :=
  ⟨fun blk off cap ss W hH hblk hsz => callsIn_wide.2 (Try.slices_Sort_int blk off cap ss W hH hblk hsz),
   fun p cap W => callsIn_wide.2 (Try.slices_Sort_int_none p cap W)⟩
end Go.Proofs.Ytplcljcpekphnaa
/- disk.Disk.Waiting: the sectors that wait, and of each how many writes. -/
namespace Go.Proofs.Ytplcljcpekphnaa
open Go.RowKit Go.Maps
/-- Of each sector that waits how many of its writes do. -/
def waitCounts (waits : Int → List ByteArray) (N : Nat) : List Int := (waitKeys waits N).map (fun k => ((waits k).length : Int))
theorem infoInt : (Try.prog.info? 3).map (fun i => (i.zero, i.size, i.bytes)) = some (some (.int .i64 0), 1, 8) := by kernel_rfl
theorem length_waitKeys (waits : Int → List ByteArray) (N : Nat) : (waitKeys waits N).length ≤ N := by
  unfold waitKeys; exact Nat.le_trans (List.length_filter_le _ _) (by simp)
theorem counts_step (ks : List Int) (f : Int → Int) (k : Nat) (hk : k < ks.length) : ((ks.map f).take k).map encZ ++ [.int .i64 (f ks[k])] = ((ks.map f).take (k + 1)).map encZ := by
  have hk' : k < (ks.map f).length := by simpa using hk
  rw [List.take_succ_eq_append_getElem hk']
  simp
end Go.Proofs.Ytplcljcpekphnaa
/- disk.Disk.Crash: what a crash leaves. -/
namespace Go.Proofs.Ytplcljcpekphnaa
open Go.RowKit Go.Maps
/-- What is left, sector by sector, when of those that are named so many writes are kept. -/
def crashL (waits : Int → List ByteArray) (left : List ByteArray) (nk : List (Int × Int)) : List ByteArray :=
  nk.foldl (fun l p => if 0 < p.2 then l.set p.1.toNat ((waits p.1).getD (p.2.toNat - 1) ⟨#[]⟩) else l) left
theorem length_crashL (waits : Int → List ByteArray) : ∀ (nk : List (Int × Int)) (left : List ByteArray), (crashL waits left nk).length = left.length
  | [], _ => rfl
  | p :: r, left => by
    show (crashL waits (if 0 < p.2 then left.set p.1.toNat ((waits p.1).getD (p.2.toNat - 1) ⟨#[]⟩) else left) r).length = _
    rw [length_crashL waits r]
    split <;> simp
theorem crashL_step (waits : Int → List ByteArray) (left : List ByteArray) (nk : List (Int × Int)) (k : Nat) (h : k < nk.length) :
    crashL waits left (nk.take (k + 1)) = (fun l (p : Int × Int) => if 0 < p.2 then l.set p.1.toNat ((waits p.1).getD (p.2.toNat - 1) ⟨#[]⟩) else l) (crashL waits left (nk.take k)) nk[k] := by
  rw [List.take_succ_eq_append_getElem h, crashL, List.foldl_append]; rfl
/-- The numbers that a crash may have. -/
def goodKeep (waits : Int → List ByteArray) (N : Nat) (keep : List Int) : Prop :=
  keep.length ≤ (waitKeys waits N).length ∧ ∀ j (hj : j < keep.length) (hj' : j < (waitKeys waits N).length), 0 ≤ keep[j] ∧ keep[j] ≤ (waits (waitKeys waits N)[j]).length
theorem goodKeep_iff (waits : Int → List ByteArray) (N : Nat) (keep : List Int) : goodKeep waits N keep ↔ (keep.length ≤ (waitKeys waits N).length ∧ ∀ j (hj : j < keep.length) (hj' : j < (waitKeys waits N).length), 0 ≤ keep[j] ∧ keep[j] ≤ (waits (waitKeys waits N)[j]).length) := Iff.rfl
theorem row_slice {w : World} {base : Nat} {e : TypeId} {v : Value} {n : Nat} {xs : List Value} (h : w.ownsRow base e 1 v n xs) : ∃ sa cap, v = .slice sa n cap ∧ ∀ j, j < n → ∃ g, sa = some ⟨g, 0, none⟩ ∧ g < w.heap.size ∧ base ≤ g ∧ ∀ i, i < n → w.cell? ⟨g, i, none⟩ = xs[i]? := by
  rcases Nat.eq_zero_or_pos n with rfl | hn
  · rcases h.2 with ⟨rfl, _⟩ | ⟨g, cap, cur, rfl, _⟩
    · exact ⟨none, 0, rfl, fun j hj => by omega⟩
    · exact ⟨some ⟨g, 0, none⟩, cap, rfl, fun j hj => by omega⟩
  · obtain ⟨g, cap, rfl, h1, h2⟩ := h.form hn
    exact ⟨some ⟨g, 0, none⟩, cap, rfl, fun j hj => ⟨g, rfl, h2, h1, fun i hi => h.cellAt i (by omega)⟩⟩
end Go.Proofs.Ytplcljcpekphnaa
/- plates.seen, disk.Disk.Read: a sector as it was written last. -/
namespace Go.Proofs.Ytplcljcpekphnaa
open Go.RowKit Go.Maps
/-- A sector as it is read. -/
def seenS (safe : List ByteArray) (waits : Int → List ByteArray) (n : Int) : ByteArray := if waits n = [] then safe.getD n.toNat ⟨#[]⟩ else (waits n).getLastD ⟨#[]⟩
set_option maxRecDepth 100000 in
set_option maxHeartbeats 1000000 in
theorem seen_any (p : Nat) (L : PL) (safe : List ByteArray) (waits : Int → List ByteArray) (B : Nat) (n : Int) (w : World) (h2 : w.cell? ⟨p, 2, none⟩ = some (.slice (some ⟨L.g, 0, none⟩) safe.length L.cap)) (h3 : w.cell? ⟨p, 3, none⟩ = some (.map (some L.m))) (h : PlatesIn w L safe waits B) (h0 : 0 ≤ n) (h1 : n < safe.length) :
    Calls Try.prog 37 #[.pointer (some ⟨p, 2, none⟩), .int .i64 n] w fun e w' => e = .returned (.string (seenS safe waits n)) ∧ w' = w := by
  have hm := h.most
  have hlook := h.look n h0 h1 w rfl
  by_cases hn : waits n = []
  · rw [PL.rowV, if_pos hn] at hlook
    have hlt : n.toNat < safe.length := by omega
    have cn : w.cell? ⟨L.g, n.toNat, none⟩ = some (.string (safe.getD n.toNat ⟨#[]⟩)) := by
      rw [h.safeRow.cellAt n.toNat (by omega)]
      simp [hlt]
    have hs : seenS safe waits n = safe.getD n.toNat ⟨#[]⟩ := by rw [seenS, if_pos hn]
    rw [hs]
    generalize safe.getD n.toNat ⟨#[]⟩ = s at *
    clear h hs hn
    go_enter Try.func37, Try.ntmps37
    go_wp2
    go_ret
    exact ⟨rfl, rfl⟩
  · rw [PL.rowV, if_neg hn] at hlook
    have hpos : 0 < (waits n).length := List.length_pos_iff.2 hn
    have hdom := h.rows n hn
    have hmost : (waits n).length ≤ 9223372036854775807 := by
      obtain ⟨cur, _, h1, h2, _⟩ := row_block hdom
      unfold maxLen at h2; omega
    have cn : w.cell? ⟨L.row n, (waits n).length - 1, none⟩ = some (.string ((waits n).getLastD ⟨#[]⟩)) := by
      rw [hdom.cellAt _ (by omega)]
      rw [List.getElem?_map, ← List.getLast?_eq_getElem?, List.getLast?_eq_some_getLast hn]
      simp [List.getLastD_eq_getLast?, List.getLast?_eq_some_getLast hn]
    have hs : seenS safe waits n = (waits n).getLastD ⟨#[]⟩ := by rw [seenS, if_neg hn]
    rw [hs]
    generalize (waits n).getLastD ⟨#[]⟩ = s at *
    generalize hk : (waits n).length = k at *
    clear h hs hn hdom hk
    have k0 : (0 : Int) < (k : Int) := by omega
    have k1 : ((k : Int) - 1).toNat = k - 1 := by omega
    go_enter Try.func37, Try.ntmps37
    go_wp2
    go_ret
    exact ⟨rfl, rfl⟩
set_option maxRecDepth 100000 in
set_option maxHeartbeats 1000000 in
theorem read_ok_rd (d : DL) (S : DiskS) (n : Int) (w : World) (h : DiskRd w d S) (h0 : 0 ≤ n) (h1 : n < S.safe.length) :
    Calls Try.prog 18 #[.pointer (some ⟨d.p, 0, none⟩), .int .i64 n] w fun e w' => ∃ b c, e = .returned (.tuple #[.slice (some ⟨b, 0, none⟩) (seenS S.safe S.waits n).size c, .int .i64 0]) ∧ w.heap.size ≤ b ∧ bytesAt w' ⟨b, 0, none⟩ (seenS S.safe S.waits n).data.toList ∧ Below w.heap.size w w' := by
  have c2 : w.cell? ⟨d.p, 2, none⟩ = some (.slice (some ⟨d.L.g, 0, none⟩) S.safe.length d.L.cap) := by rw [cell_of_block h.heap]; rfl
  have c3 : w.cell? ⟨d.p, 3, none⟩ = some (.map (some d.L.m)) := by rw [cell_of_block h.heap]; rfl
  have HD := hid (decide_eq_true (And.intro h0 h1))
  have HC2 := hid c2
  have HS := hid (seen_any d.p d.L S.safe S.waits S.ops.length n w c2 c3 h.plates h0 h1)
  clear h c2 c3
  generalize seenS S.safe S.waits n = s at *
  have hconv := fun W => run_bytes_of_string (P := Try.prog) W 71 26 5 s Try.underlying71 Try.underlying26 Try.underlying5
  go_enter Try.func18, Try.ntmps18
  go_wp2_with fail
  refine (has_any d.p 2 _ _ _ _ _ HC2.out).mono ?_
  rintro e w9 ⟨rfl, h9⟩
  obtain rfl := h9.symm
  rw [HD.out]
  go_wp2_with fail
  refine HS.out.mono ?_
  rintro e w9 ⟨rfl, h9⟩
  obtain rfl := h9.symm
  go_wp2
  go_returns
  refine ⟨w.heap.size, grownCap w s.size 0 5, rfl, Nat.le_refl _, fun j hj => ?_, ((Below.refl _ w).alloc (Nat.le_refl _) _).drew⟩
  have hj' : j < s.data.size := by simpa using hj
  rw [Addr.add_mid, Nat.zero_add]
  refine (cell_of_block (block_new w _) j).trans ?_
  rw [bytesRow_at s _ j hj']
  simp
theorem read_ok (d : DL) (S : DiskS) (n : Int) (w : World) (h : DiskIn w d S) (h0 : 0 ≤ n) (h1 : n < S.safe.length) :
    Calls Try.prog 18 #[.pointer (some ⟨d.p, 0, none⟩), .int .i64 n] w fun e w' => ∃ b c, e = .returned (.tuple #[.slice (some ⟨b, 0, none⟩) (seenS S.safe S.waits n).size c, .int .i64 0]) ∧ w.heap.size ≤ b ∧ bytesAt w' ⟨b, 0, none⟩ (seenS S.safe S.waits n).data.toList ∧ Below w.heap.size w w' :=
  read_ok_rd d S n w h.rd h0 h1
set_option maxRecDepth 100000 in
set_option maxHeartbeats 1000000 in
theorem read_no_rd (d : DL) (S : DiskS) (n : Int) (w : World) (h : DiskRd w d S) (h1 : ¬ (0 ≤ n ∧ n < S.safe.length)) :
    Calls Try.prog 18 #[.pointer (some ⟨d.p, 0, none⟩), .int .i64 n] w fun e w' => e = .returned (.tuple #[.slice none 0 0, .int .i64 2]) ∧ w' = w := by
  have HC2 := hid (show w.cell? ⟨d.p, 2, none⟩ = some (.slice (some ⟨d.L.g, 0, none⟩) S.safe.length d.L.cap) by rw [cell_of_block h.heap]; rfl)
  have HD := hid (decide_eq_false h1)
  clear h h1
  go_enter Try.func18, Try.ntmps18
  go_wp2_with fail
  refine (has_any d.p 2 _ _ _ _ _ HC2.out).mono ?_
  rintro e w9 ⟨rfl, h9⟩
  obtain rfl := h9.symm
  rw [HD.out]
  go_wp2
  go_returns
  exact ⟨rfl, rfl⟩
theorem read_no (d : DL) (S : DiskS) (n : Int) (w : World) (h : DiskIn w d S) (h1 : ¬ (0 ≤ n ∧ n < S.safe.length)) :
    Calls Try.prog 18 #[.pointer (some ⟨d.p, 0, none⟩), .int .i64 n] w fun e w' => e = .returned (.tuple #[.slice none 0 0, .int .i64 2]) ∧ w' = w :=
  read_no_rd d S n w h.rd h1
end Go.Proofs.Ytplcljcpekphnaa
/- The bytes of a deed: so many, all of one kind. -/
namespace Go.Proofs.Ytplcljcpekphnaa
open Go.RowKit
/-- How many bytes a deed has. -/
def deedLen (l : Int) : Nat := if 0 ≤ l ∧ l ≤ 600 then l.toNat else 512
theorem infoU8 : (Try.prog.info? 5).map (fun i => (i.zero, i.size, i.bytes)) = some (some (.int .u8 0), 1, 1) := by kernel_rfl
theorem madeU8 (n : Nat) : madeCells (Value.int .u8 0).cells (n * 1) = (List.replicate n (Value.int .u8 0)).toArray := by
  apply Array.ext
  · simp [madeCells]
  · intro i h1 h2
    simp [madeCells, Value.cells, Nat.mod_one]
theorem wpList_make_u8 {w : World} {ops : Array Oper} {rest : List Oper} {o : Oper} {a : Act} {Q : Exit → Act → World → Prop} (hg : o.guard = none) (l c : Operand) (hop : o.op = Op.makeSlice 26 l c)
    (n : Nat) (x : Int) (hx : x = n) (hl : a.eval l = .int .i64 x) (hc : a.eval c = .int .i64 x) (hm : n ≤ 4096)
    (h : ∀ w1 : World, Below w.heap.size w w1 → w1.heap[w.heap.size]? = some (.cells (List.replicate n (Value.int .u8 0)).toArray 5 (0, 0)) → w1.heap.size = w.heap.size + 1 →
      wpList Try.prog ops Q rest (a.put o.dst (.slice (some ⟨w.heap.size, 0, none⟩) n n)) w1) : wpList Try.prog ops Q (o :: rest) a w := by
  subst hx
  obtain ⟨i, hi, hz, hs, hb⟩ := info_parts infoU8
  refine wpList_plain hg fun K hK' => ?_
  have hrun := run_make (P := Try.prog) w 26 5 i (.int .u8 0) Try.underlying26 hi hz .i64 .i64 n n (by omega) (by omega) (by rw [hb]; omega) (by omega)
  unfold Oper.wp
  simp only [Int.toNat_natCast, hs, madeU8] at hrun
  generalize (List.replicate n (Value.int .u8 0)).toArray = Z at *
  simp [execOp, hop, hl, hc, hrun, Result.andThen]
  exact hK' _ _ (h _ ((Below.refl _ _).alloc (Nat.le_refl _) _) (block_new _ _) (by simp))
theorem filled_set (x y : Value) (n k : Nat) (h : k < n) : (filled x y n k).set k x = filled x y n (k + 1) := by
  unfold filled
  rw [List.set_append_right _ _ (by simp)]
  have e : n - k = (n - (k + 1)) + 1 := by omega
  rw [e, List.replicate_succ]
  simp [List.replicate_succ', List.append_assoc]
end Go.Proofs.Ytplcljcpekphnaa
/- live answers true. -/
namespace Go.Proofs.Ytplcljcpekphnaa
open Go.RowKit Go.Maps
/-- So many bytes of one kind. -/
def fullS (n : Nat) (x : Int) : List UInt8 := List.replicate n (UInt8.ofNat x.toNat)
theorem bytes_full {w : World} {g n : Nat} {x : Int} {t : TypeId} {fr : Nat × Nat} (h : w.heap[g]? = some (.cells (List.replicate n (Value.int .u8 x)).toArray t fr)) (h0 : 0 ≤ x) (h1 : x ≤ 255) : bytesAt w ⟨g, 0, none⟩ (fullS n x) := by
  intro j hj
  have hj' : j < n := by simpa [fullS] using hj
  rw [Addr.add_mid, Nat.zero_add, cell_of_block h]
  have e : ((UInt8.ofNat x.toNat).toNat : Int) = x := by
    rw [UInt8.toNat_ofNat_of_lt' (by simp [UInt8.size]; omega)]; omega
  have e2 : (fullS n x)[j] = UInt8.ofNat x.toNat := by simp [fullS]
  rw [e2, e]
  simp [hj']
theorem length_full (n : Nat) (x : Int) : (fullS n x).length = n := by simp [fullS]
theorem deedLen512 : deedLen 512 = 512 := by decide
theorem Keeps.thenBelow {F : Nat → Prop} {a b : World} {K : Nat} {w : World} (hb : Below K w a) (h : Keeps F a b) (hK : K ≤ w.heap.size) (hF : ∀ i, F i → K ≤ i) : Below K w b := hb.trans (h.below (Nat.le_trans hK hb.size) hF)
def liveS : DiskS := ((freshS (List.replicate 2 blankS)).wrote 1 ⟨(fullS 512 7).toArray⟩).wrote 1 ⟨(fullS 512 8).toArray⟩
theorem put_live1 : (freshS (List.replicate 2 blankS)).put 1 (fullS 512 7) = (freshS (List.replicate 2 blankS)).wrote 1 ⟨(fullS 512 7).toArray⟩ := by
  rw [DiskS.put, if_pos]; simp [errW, freshS, length_full]
theorem put_live2 : ((freshS (List.replicate 2 blankS)).put 1 (fullS 512 7)).put 1 (fullS 512 8) = liveS := by
  rw [put_live1, DiskS.put, if_pos]
  · rfl
  · simp [errW, freshS, length_full, DiskS.wrote]
theorem liveS_waits : liveS.waits 1 = [⟨(fullS 512 7).toArray⟩, ⟨(fullS 512 8).toArray⟩] := by
  simp [liveS, DiskS.wrote, upd, freshS]
theorem liveS_keys : waitKeys liveS.waits 2 = [1] := by
  simp [waitKeys, List.range_succ, liveS, DiskS.wrote, upd, freshS]
theorem liveS_counts : waitCounts liveS.waits 2 = [2] := by
  rw [waitCounts, liveS_keys]; simp [liveS_waits]
theorem liveS_good : goodKeep liveS.waits 2 [1] := by
  rw [goodKeep_iff, liveS_keys]
  refine ⟨by simp, fun j hj hj' => ?_⟩
  obtain rfl : j = 0 := by simp at hj; omega
  simp [liveS_waits]
theorem liveS_crash : crashL liveS.waits liveS.safe ([1].zip [1]) = [blankS, ⟨(fullS 512 7).toArray⟩] := by
  have h2 : liveS.safe = [blankS, blankS] := rfl
  rw [h2]
  simp [crashL, liveS_waits]
end Go.Proofs.Ytplcljcpekphnaa
