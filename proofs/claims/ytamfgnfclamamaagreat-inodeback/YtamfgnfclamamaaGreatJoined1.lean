/- Several of my texts in one: Shelf, Iter, BaseA, BaseB. -/
import Derived.Shelf.Small.Wraps
import Derived.Shelf.Sort.Plain
import Derived.Shelf.Bits.Mul64
import Derived.Shelf.Strings.Repeat
import Derived.Shelf.Slices.In.SortNone
import Derived.Test.YtamfgnfclamamaaGreatProg
import Derived.Shelf.SlGeneric
import Derived.Shelf.SlIterI.Nil
import Derived.Ground.GgzProg
import Derived.WalkKit
import Derived.ProofKit
import Derived.Handy
import Derived.WalkSmall
import Derived.Deep.MidRow
import Derived.ScopeJumps
import Derived.StillTailTactics
import Derived.WalkMore
import Derived.Maps.RangeWalk
import Derived.Lib.SlKeysI
import Derived.Deep.AppendLies
import Derived.Maps.OwnOps
import Derived.WalkArith
import Derived.Test.YtamfgnfclamamaaGreatRows
import Derived.Laws.CopyOwn
import Derived.ArgAppend
import Derived.Deep.RegionHeld3
import Derived.Laws.OwnMore
import Derived.Carry
import Derived.Deep.Onto
import Derived.Laws.IdiomStrings
import Derived.Shelf.AbstractIn
import Derived.Deep.QuietTactic
import Derived.BigQuiet
namespace Go.Proofs
open Go.Shelf
def Tryz.lays189_ren : Go.Shelf.Ren := ⟨fun | 189 => 146 | 125 => 179 | 257 => 178 | 128 => 196 | 129 => 197 | 294 => 188 | 295 => 189 | 296 => 190 | 297 => 191 | 298 => 192 | 299 => 193 | 216 => 173 | 300 => 194 | 301 => 195 | 328 => 198 | 329 => 199 | 330 => 200 | 331 => 201 | 332 => 202 | 215 => 186 | 343 => 203 | n => n, fun | 28 => 60 | 3 => 3 | 46 => 177 | 0 => 0 | 51 => 216 | 53 => 219 | 4 => 4 | 183 => 243 | 182 => 242 | 131 => 201 | 5 => 5 | 9 => 9 | 218 => 250 | 222 => 210 | 228 => 255 | 229 => 54 | n => n, fun | n => n⟩
theorem Tryz.lays189 : Go.Proofs.Lays.n189 Tryz.prog Tryz.lays189_ren := {
 mixed := by kernel_rfl
 f125 := Tryz.func179.trans (congrArg some (by kernel_rfl))
 f128 := Tryz.func196.trans (congrArg some (by kernel_rfl))
 f129 := Tryz.func197.trans (congrArg some (by kernel_rfl))
 f189 := Tryz.func146.trans (congrArg some (by kernel_rfl))
 f215 := Tryz.func186.trans (congrArg some (by kernel_rfl))
 f216 := Tryz.func173.trans (congrArg some (by kernel_rfl))
 f257 := Tryz.func178.trans (congrArg some (by kernel_rfl))
 f294 := Tryz.func188.trans (congrArg some (by kernel_rfl))
 f295 := Tryz.func189.trans (congrArg some (by kernel_rfl))
 f296 := Tryz.func190.trans (congrArg some (by kernel_rfl))
 f297 := Tryz.func191.trans (congrArg some (by kernel_rfl))
 f298 := Tryz.func192.trans (congrArg some (by kernel_rfl))
 f299 := Tryz.func193.trans (congrArg some (by kernel_rfl))
 f300 := Tryz.func194.trans (congrArg some (by kernel_rfl))
 f301 := Tryz.func195.trans (congrArg some (by kernel_rfl))
 f328 := Tryz.func198.trans (congrArg some (by kernel_rfl))
 f329 := Tryz.func199.trans (congrArg some (by kernel_rfl))
 f330 := Tryz.func200.trans (congrArg some (by kernel_rfl))
 f331 := Tryz.func201.trans (congrArg some (by kernel_rfl))
 f332 := Tryz.func202.trans (congrArg some (by kernel_rfl))
 f343 := Tryz.func203.trans (congrArg some (by kernel_rfl))
 t0 := Tryz.underlying0
 a0 := Tryz.isAgg0
 z0 := Tryz.sizeOf0
 v0 := Tryz.zeroValue0
 t3 := Tryz.underlying3
 a3 := Tryz.isAgg3
 z3 := Tryz.sizeOf3
 v3 := Tryz.zeroValue3
 t4 := Tryz.underlying4
 a4 := Tryz.isAgg4
 z4 := Tryz.sizeOf4
 v4 := Tryz.zeroValue4
 t5 := Tryz.underlying5
 a5 := Tryz.isAgg5
 z5 := Tryz.sizeOf5
 v5 := Tryz.zeroValue5
 t9 := Tryz.underlying9
 a9 := Tryz.isAgg9
 z9 := Tryz.sizeOf9
 v9 := Tryz.zeroValue9
 t28 := Tryz.underlying60
 a28 := Tryz.isAgg60
 z28 := Tryz.sizeOf60
 v28 := Tryz.zeroValue60
 t46 := Tryz.underlying177
 a46 := Tryz.isAgg177
 z46 := Tryz.sizeOf177
 v46 := Tryz.zeroValue177
 t51 := Tryz.underlying216
 a51 := Tryz.isAgg216
 z51 := Tryz.sizeOf216
 v51 := Tryz.zeroValue216
 t53 := Tryz.underlying219
 a53 := Tryz.isAgg219
 z53 := Tryz.sizeOf219
 v53 := Tryz.zeroValue219
 t131 := Tryz.underlying201
 a131 := Tryz.isAgg201
 z131 := Tryz.sizeOf201
 v131 := Tryz.zeroValue201
 t182 := Tryz.underlying242
 a182 := Tryz.isAgg242
 z182 := Tryz.sizeOf242
 v182 := Tryz.zeroValue242
 t183 := Tryz.underlying243
 a183 := Tryz.isAgg243
 z183 := Tryz.sizeOf243
 v183 := Tryz.zeroValue243
 t218 := Tryz.underlying250
 a218 := Tryz.isAgg250
 z218 := Tryz.sizeOf250
 v218 := Tryz.zeroValue250
 t222 := Tryz.underlying210
 a222 := Tryz.isAgg210
 z222 := Tryz.sizeOf210
 v222 := Tryz.zeroValue210
 t228 := Tryz.underlying255
 a228 := Tryz.isAgg255
 z228 := Tryz.sizeOf255
 v228 := Tryz.zeroValue255
 t229 := Tryz.underlying54
 a229 := Tryz.isAgg54
 z229 := Tryz.sizeOf54
 v229 := Tryz.zeroValue54 }
open Go.Sort Go.RowKit in
theorem Tryz.slices_Sort_int (blk off cap : Nat) (zs : List Int) (w : World) (hH : Holds (Value.int .i64) w blk off zs.toArray) (hblk : blk < w.heap.size) (hsz : zs.length < 4611686018427387904) :
  Calls Tryz.prog 146 #[.slice (some ⟨blk, off, none⟩) zs.length cap] w fun e w' =>
   e = .returned (.tuple #[]) /\ ∃ n os, w' = grow (putRow (Value.int .i64) (Sort.ahead w n) blk off (zs.mergeSort fun x y => decide (x <= y)).toArray) os := Any.slices_Sort_int Tryz.lays189 blk off cap zs w hH hblk hsz
def Tryz.lays212_ren : Go.Shelf.Ren := ⟨fun | 212 => 115 | 263 => 163 | 264 => 164 | n => n, fun | 46 => 177 | 51 => 216 | 146 => 217 | 53 => 219 | 148 => 220 | n => n, fun | n => n⟩
theorem Tryz.lays212 : Go.Proofs.Lays.n212 Tryz.prog Tryz.lays212_ren := {
 mixed := by kernel_rfl
 f212 := Tryz.func115.trans (congrArg some (by kernel_rfl))
 f263 := Tryz.func163.trans (congrArg some (by kernel_rfl))
 f264 := Tryz.func164.trans (congrArg some (by kernel_rfl))
 t46 := Tryz.underlying177
 a46 := Tryz.isAgg177
 z46 := Tryz.sizeOf177
 v46 := Tryz.zeroValue177
 t51 := Tryz.underlying216
 a51 := Tryz.isAgg216
 z51 := Tryz.sizeOf216
 v51 := Tryz.zeroValue216
 t53 := Tryz.underlying219
 a53 := Tryz.isAgg219
 z53 := Tryz.sizeOf219
 v53 := Tryz.zeroValue219
 t146 := Tryz.underlying217
 a146 := Tryz.isAgg217
 z146 := Tryz.sizeOf217
 v146 := Tryz.zeroValue217
 t148 := Tryz.underlying220
 a148 := Tryz.isAgg220
 z148 := Tryz.sizeOf220
 v148 := Tryz.zeroValue220 }
open Go.RowKit Go.Lib in
theorem Tryz.bits_Mul (x y : Nat) (hx : x < 18446744073709551616) (hy : y < 18446744073709551616) (w : World) :
  Calls Tryz.prog 115 #[.int .u64 x, .int .u64 y] w fun e w' => e = .returned (.tuple #[.int .u64 ((x * y / 18446744073709551616 : Nat) : Int), .int .u64 ((x * y % 18446744073709551616 : Nat) : Int)]) /\ w' = w := Any.bits_Mul Tryz.lays212 x y hx hy w
def Tryz.lays105_ren : Go.Shelf.Ren := ⟨fun | 105 => 68 | 212 => 115 | 99 => 116 | 165 => 117 | 166 => 118 | 170 => 119 | 169 => 120 | 263 => 163 | 264 => 164 | 206 => 165 | 240 => 166 | 241 => 167 | 276 => 182 | 277 => 183 | n => n, fun | 9 => 9 | 3 => 3 | 4 => 4 | 20 => 20 | 0 => 0 | 46 => 177 | 109 => 178 | 5 => 5 | 72 => 183 | 76 => 187 | 51 => 216 | 146 => 217 | 53 => 219 | 148 => 220 | 70 => 181 | 37 => 42 | 75 => 186 | 127 => 222 | 164 => 237 | 80 => 189 | n => n, fun | n => n⟩
theorem Tryz.lays105 : Go.Proofs.Lays.n105 Tryz.prog Tryz.lays105_ren := {
 mixed := by kernel_rfl
 f99 := Tryz.func116.trans (congrArg some (by kernel_rfl))
 f105 := Tryz.func68.trans (congrArg some (by kernel_rfl))
 f165 := Tryz.func117.trans (congrArg some (by kernel_rfl))
 f166 := Tryz.func118.trans (congrArg some (by kernel_rfl))
 f169 := Tryz.func120.trans (congrArg some (by kernel_rfl))
 f170 := Tryz.func119.trans (congrArg some (by kernel_rfl))
 f206 := Tryz.func165.trans (congrArg some (by kernel_rfl))
 f212 := Tryz.func115.trans (congrArg some (by kernel_rfl))
 f240 := Tryz.func166.trans (congrArg some (by kernel_rfl))
 f241 := Tryz.func167.trans (congrArg some (by kernel_rfl))
 f263 := Tryz.func163.trans (congrArg some (by kernel_rfl))
 f264 := Tryz.func164.trans (congrArg some (by kernel_rfl))
 f276 := Tryz.func182.trans (congrArg some (by kernel_rfl))
 f277 := Tryz.func183.trans (congrArg some (by kernel_rfl))
 t0 := Tryz.underlying0
 a0 := Tryz.isAgg0
 z0 := Tryz.sizeOf0
 v0 := Tryz.zeroValue0
 t3 := Tryz.underlying3
 a3 := Tryz.isAgg3
 z3 := Tryz.sizeOf3
 v3 := Tryz.zeroValue3
 t4 := Tryz.underlying4
 a4 := Tryz.isAgg4
 z4 := Tryz.sizeOf4
 v4 := Tryz.zeroValue4
 t5 := Tryz.underlying5
 a5 := Tryz.isAgg5
 z5 := Tryz.sizeOf5
 v5 := Tryz.zeroValue5
 t9 := Tryz.underlying9
 a9 := Tryz.isAgg9
 z9 := Tryz.sizeOf9
 v9 := Tryz.zeroValue9
 t20 := Tryz.underlying20
 a20 := Tryz.isAgg20
 z20 := Tryz.sizeOf20
 v20 := Tryz.zeroValue20
 t37 := Tryz.underlying42
 a37 := Tryz.isAgg42
 z37 := Tryz.sizeOf42
 v37 := Tryz.zeroValue42
 t46 := Tryz.underlying177
 a46 := Tryz.isAgg177
 z46 := Tryz.sizeOf177
 v46 := Tryz.zeroValue177
 t51 := Tryz.underlying216
 a51 := Tryz.isAgg216
 z51 := Tryz.sizeOf216
 v51 := Tryz.zeroValue216
 t53 := Tryz.underlying219
 a53 := Tryz.isAgg219
 z53 := Tryz.sizeOf219
 v53 := Tryz.zeroValue219
 t70 := Tryz.underlying181
 a70 := Tryz.isAgg181
 z70 := Tryz.sizeOf181
 v70 := Tryz.zeroValue181
 t72 := Tryz.underlying183
 a72 := Tryz.isAgg183
 z72 := Tryz.sizeOf183
 v72 := Tryz.zeroValue183
 t75 := Tryz.underlying186
 a75 := Tryz.isAgg186
 z75 := Tryz.sizeOf186
 v75 := Tryz.zeroValue186
 t76 := Tryz.underlying187
 a76 := Tryz.isAgg187
 z76 := Tryz.sizeOf187
 v76 := Tryz.zeroValue187
 t109 := Tryz.underlying178
 a109 := Tryz.isAgg178
 z109 := Tryz.sizeOf178
 v109 := Tryz.zeroValue178
 t127 := Tryz.underlying222
 a127 := Tryz.isAgg222
 z127 := Tryz.sizeOf222
 v127 := Tryz.zeroValue222
 t146 := Tryz.underlying217
 a146 := Tryz.isAgg217
 z146 := Tryz.sizeOf217
 v146 := Tryz.zeroValue217
 t148 := Tryz.underlying220
 a148 := Tryz.isAgg220
 z148 := Tryz.sizeOf220
 v148 := Tryz.zeroValue220
 t164 := Tryz.underlying237
 a164 := Tryz.isAgg237
 z164 := Tryz.sizeOf237
 v164 := Tryz.zeroValue237 }
theorem Tryz.Builder_Extra_105 : Builder.Extra Tryz.prog Tryz.lays105_ren := {
 sizeBuilder := by kernel_rfl
 liesBuilder := by kernel_rfl
 t5 := Tryz.underlying5
 a5 := Tryz.isAgg5
 z5 := Tryz.sizeOf5
 v5 := Tryz.zeroValue5
 infoByte := by kernel_rfl
 cellsByte := by kernel_rfl
 sizeByte := by kernel_rfl
 neB5 := by decide }
open Go.RowKit Go.Lib in
theorem Tryz.strings_Repeat (s : ByteArray) (c : Nat) (w : World) (hc : c <= 9223372036854775807) (hlen : s.size * c <= 140737488355328) :
  Calls Tryz.prog 68 #[.string s, .int .i64 c] w fun e w' => e = .returned (.string ⟨(Lib.repeatL s.data.toList c).toArray⟩) /\ Below w.heap.size w w' := Any.strings_Repeat Tryz.lays105 Tryz.Builder_Extra_105 s c w hc hlen
open Go.RowKit Go.Sort in
theorem Tryz.slices_Sort_int_none (p : Option Addr) (cap : Nat) (w : World) :
  Calls Tryz.prog 146 #[.slice p 0 cap] w fun e w' => e = .returned (.tuple #[]) /\ w' = w := Any.slices_Sort_int_none Tryz.lays189 p cap w
end Go.Proofs
namespace Go.Proofs
open Go.Shelf
def Tryz.keysG_ren : Go.Shelf.Ren := ⟨fun | 7 => 171 | 10 => 184 | n => n, fun | 23 => 135 | 26 => 3 | 3 => 42 | 28 => 158 | 0 => 0 | 27 => 157 | 33 => 64 | 4 => 4 | n => n, fun | n => n⟩
theorem Tryz.keysG : Go.Proofs.SlLaysZI.n7 Tryz.prog Tryz.keysG_ren := {
 mixed := by kernel_rfl
 f7 := ⟨Tryz.f171.name, by decide, Tryz.func171.trans (congrArg some (by kernel_rfl))⟩
 f10 := ⟨Tryz.f184.name, by decide, Tryz.func184.trans (congrArg some (by kernel_rfl))⟩
 t0 := Tryz.underlying0
 a0 := Tryz.isAgg0
 z0 := Tryz.sizeOf0
 v0 := Tryz.zeroValue0
 t4 := Tryz.underlying4
 a4 := Tryz.isAgg4
 z4 := Tryz.sizeOf4
 v4 := Tryz.zeroValue4
 t23 := Tryz.underlying135
 a23 := Tryz.isAgg135
 z23 := Tryz.sizeOf135
 v23 := Tryz.zeroValue135
 t26 := Tryz.underlying3
 a26 := Tryz.isAgg3
 z26 := Tryz.sizeOf3
 v26 := Tryz.zeroValue3
 t27 := Tryz.underlying157
 a27 := Tryz.isAgg157
 z27 := Tryz.sizeOf157
 v27 := Tryz.zeroValue157
 t28 := Tryz.underlying158
 a28 := Tryz.isAgg158
 z28 := Tryz.sizeOf158
 v28 := Tryz.zeroValue158
 t33 := Tryz.underlying64
 a33 := Tryz.isAgg64
 z33 := Tryz.sizeOf64
 v33 := Tryz.zeroValue64 }
def Tryz.keysB_ren : Go.Shelf.Ren := ⟨fun | 7 => 95 | 10 => 147 | n => n, fun | 23 => 100 | 26 => 3 | 3 => 42 | 28 => 158 | 0 => 0 | 27 => 157 | 33 => 64 | 4 => 4 | n => n, fun | n => n⟩
theorem Tryz.keysB : Go.Proofs.SlLaysZI.n7 Tryz.prog Tryz.keysB_ren := {
 mixed := by kernel_rfl
 f7 := ⟨Tryz.f95.name, by decide, Tryz.func95.trans (congrArg some (by kernel_rfl))⟩
 f10 := ⟨Tryz.f147.name, by decide, Tryz.func147.trans (congrArg some (by kernel_rfl))⟩
 t0 := Tryz.underlying0
 a0 := Tryz.isAgg0
 z0 := Tryz.sizeOf0
 v0 := Tryz.zeroValue0
 t4 := Tryz.underlying4
 a4 := Tryz.isAgg4
 z4 := Tryz.sizeOf4
 v4 := Tryz.zeroValue4
 t23 := Tryz.underlying100
 a23 := Tryz.isAgg100
 z23 := Tryz.sizeOf100
 v23 := Tryz.zeroValue100
 t26 := Tryz.underlying3
 a26 := Tryz.isAgg3
 z26 := Tryz.sizeOf3
 v26 := Tryz.zeroValue3
 t27 := Tryz.underlying157
 a27 := Tryz.isAgg157
 z27 := Tryz.sizeOf157
 v27 := Tryz.zeroValue157
 t28 := Tryz.underlying158
 a28 := Tryz.isAgg158
 z28 := Tryz.sizeOf158
 v28 := Tryz.zeroValue158
 t33 := Tryz.underlying64
 a33 := Tryz.isAgg64
 z33 := Tryz.sizeOf64
 v33 := Tryz.zeroValue64 }
def Tryz.sortedA_ren : Go.Shelf.Ren := ⟨fun | 6 => 94 | 8 => 145 | 9 => 146 | 11 => 177 | 13 => 179 | 12 => 178 | 23 => 196 | 24 => 197 | 14 => 188 | 15 => 189 | 16 => 190 | 17 => 191 | 18 => 192 | 19 => 193 | 20 => 173 | 21 => 194 | 22 => 195 | 25 => 198 | 26 => 199 | 27 => 200 | 28 => 201 | 29 => 202 | 30 => 186 | 31 => 203 | n => n, fun | 26 => 3 | 28 => 158 | 24 => 60 | 0 => 0 | 3 => 3 | 37 => 177 | 48 => 216 | 50 => 219 | 4 => 4 | 40 => 243 | 39 => 242 | 45 => 201 | 5 => 5 | 9 => 9 | 51 => 250 | 55 => 210 | 57 => 255 | 58 => 54 | 33 => 64 | n => n, fun | n => n⟩
theorem Tryz.sortedA : Go.Proofs.SlLaysZI.n6 Tryz.prog Tryz.sortedA_ren := {
 mixed := by kernel_rfl
 f6 := ⟨Tryz.f94.name, by decide, Tryz.func94.trans (congrArg some (by kernel_rfl))⟩
 f8 := ⟨Tryz.f145.name, by decide, Tryz.func145.trans (congrArg some (by kernel_rfl))⟩
 f11 := ⟨Tryz.f177.name, by decide, Tryz.func177.trans (congrArg some (by kernel_rfl))⟩
 t0 := Tryz.underlying0
 a0 := Tryz.isAgg0
 z0 := Tryz.sizeOf0
 v0 := Tryz.zeroValue0
 t24 := Tryz.underlying60
 a24 := Tryz.isAgg60
 z24 := Tryz.sizeOf60
 v24 := Tryz.zeroValue60
 t26 := Tryz.underlying3
 a26 := Tryz.isAgg3
 z26 := Tryz.sizeOf3
 v26 := Tryz.zeroValue3
 t28 := Tryz.underlying158
 a28 := Tryz.isAgg158
 z28 := Tryz.sizeOf158
 v28 := Tryz.zeroValue158
 i26 := by kernel_rfl }
end Go.Proofs
set_option maxRecDepth 100000
set_option maxHeartbeats 2000000
namespace Go.Proofs.YtamfgnfclamamaaGreat
section
open Go.RowKit
theorem tS : (∀ {α : Type} (l : List α) (i : Nat) (h : i < l.toArray.size), l.toArray[i] = l[i]'(by simpa using h)) /\ (∀ {α : Type} (x : α) (l : List α) (i : Nat) (h : i + 1 < (x :: l).length), (x :: l)[i + 1] = l[i]'(by simpa using h)) /\ (∀ {α : Type} (x : α) (l : List α) (h : 0 < (x :: l).length), (x :: l)[0] = x) /\
  (∀ (a : Act) (d : Tmp) (v : Value), a.put (some d) v = { a with tmps := a.tmps.setIfInBounds d v }) /\ (∀ (a : Act) (v : Value), a.put none v = a) /\ (∀ {α : Type} (l : List α) (i : Nat) (x : α), l.toArray.setIfInBounds i x = (l.set i x).toArray) /\ (∀ {α : Type} (x y : α) (l : List α), (x :: l).set 0 y = y :: l) /\ (∀ {α : Type} (x y : α) (l : List α) (i : Nat), (x :: l).set (i + 1) y = x :: l.set i y) :=
 ⟨fun _ _ _ => rfl, fun _ _ _ _ => rfl, fun _ _ _ => rfl, fun _ _ _ => rfl, fun _ _ => rfl, fun _ _ _ => List.setIfInBounds_toArray .., fun _ _ _ => rfl, fun _ _ _ _ => rfl⟩
theorem tk {P : Program} {md : Region.Mode} {ops : Array Oper} {Q : Exit -> Act -> World -> Prop} {S : World -> Prop} {fuel : Nat} {listed : Array Bool} {a : Act} {w : World} {oi : Oper} (i : Nat) (v : Value) (hi : ops[i]? = some oi) (hs : (Region.noSelect ops && Region.free md ops listed i && (Region.ready md ops listed).contains i) = true)
  (hQ : ∀ c a w, Q (.panic c) (a.put oi.dst v) w -> Q (.panic c) a w) (hw : Region.wanted oi (yielded ops a.tmps) = true) (hS : S w) (hy : ∀ w, S w -> (execOp a.eval oi).run P w = .ok (.value v) w)
  (h : wpAnyH P md ops Q S fuel (listed.setIfInBounds i true) (a.put oi.dst v) w) : wpAnyH P md ops Q S (fuel + 1) listed a w := by
 rw [Bool.and_eq_true, Bool.and_eq_true] at hs
 exact wpAnyH_take hi hs.1.1 hs.1.2 hs.2 hQ (.inl ⟨hw, hy⟩) hS h
theorem tq {P : Program} {md : Region.Mode} {ops : Array Oper} {Q : Exit -> Act -> World -> Prop} {S : World -> Prop} {fuel : Nat} {listed : Array Bool} {a : Act} {w : World} {oi : Oper} (i : Nat) (v : Value)
  (h : wpAnyH P md ops Q S fuel (listed.setIfInBounds i true) (a.put oi.dst v) w)
  (hi : ops[i]? = some oi := by exact rfl) (hs : (Region.noSelect ops && Region.free md ops listed i && (Region.ready md ops listed).contains i) = true := by kernel_rfl)
  (hQ : ∀ c a w, Q (.panic c) (a.put oi.dst v) w -> Q (.panic c) a w := by exact fun _ _ _ h => h) (hw : Region.wanted oi (yielded ops a.tmps) = true := by rfl) (hS : S w := by assumption)
  (hy : ∀ w, S w -> (execOp a.eval oi).run P w = .ok (.value v) w := by (intro W h; (try dsimp only at h); (repeat obtain ⟨_, h⟩ := h); go_simp; try first | with_reducible rfl | go_num | (rw [if_pos (by assumption)]; simp only [*]) | simp only [*])) : wpAnyH P md ops Q S (fuel + 1) listed a w :=
 tk i v hi hs hQ hw hS hy h
section
variable {P : Program}
theorem cell_of_block {w : World} {b : Nat} {C : Array Value} {t : TypeId} {fr : Nat × Nat} (h : w.heap[b]? = some (.cells C t fr)) (o : Nat) : w.cell? ⟨b, o, none⟩ = C[o]? := by
 simp [World.cell?, h]
theorem frozen_of_block {w : World} {b : Nat} {C : Array Value} {t : TypeId} (h : w.heap[b]? = some (.cells C t (0, 0))) (o : Nat) : w.frozen? ⟨b, o, none⟩ = false := by
 simp [World.frozen?, h]
theorem lt_of_heap {w : World} {b : Nat} {o : Obj} (h : w.heap[b]? = some o) : b < w.heap.size := (Array.getElem?_eq_some_iff.1 h).1
theorem block_setCell {w : World} {b : Nat} {C : Array Value} {t : TypeId} {fr : Nat × Nat} (h : w.heap[b]? = some (.cells C t fr)) (o : Nat) (v : Value) :
  (w.setCell ⟨b, o, none⟩ v).heap[b]? = some (.cells (C.setIfInBounds o v) t fr) := by
 have hlt := lt_of_heap h
 have hv : w.heap[b] = .cells C t fr := (Array.getElem?_eq_some_iff.1 h).2
 simp [World.setCell, Array.getElem?_modify, h]
theorem block_setCell_other {w : World} {b k : Nat} (o : Nat) (v : Value) (h : k ≠ b) : (w.setCell ⟨b, o, none⟩ v).heap[k]? = w.heap[k]? :=
 Below.heap_setCell w ⟨b, o, none⟩ v k h
theorem block_alloc {w : World} {b : Nat} {ob : Obj} (h : w.heap[b]? = some ob) (o : Obj) : (w.alloc o).heap[b]? = some ob := by
 rw [Below.heap_alloc _ _ _ (lt_of_heap h)]; exact h
theorem block_new (w : World) (o : Obj) : (w.alloc o).heap[w.heap.size]? = some o := by
 show (w.heap.push o)[w.heap.size]? = _
 simp
theorem new2 (w : World) (o1 o2 : Obj) : ((w.alloc o1).alloc o2).heap[w.heap.size]? = some o1 /\ ((w.alloc o1).alloc o2).heap[w.heap.size + 1]? = some o2 /\ Below w.heap.size w ((w.alloc o1).alloc o2) /\ ((w.alloc o1).alloc o2).heap.size = w.heap.size + 1 + 1 := by
 refine ⟨block_alloc (block_new _ _) _, ?_, ((Below.refl _ _).alloc (Nat.le_refl _) _).alloc (by simp) _, by simp⟩
 have := block_new (w.alloc o1) o2
 simpa using this
theorem new3 (w : World) (o1 o2 o3 : Obj) : (((w.alloc o1).alloc o2).alloc o3).heap[w.heap.size]? = some o1 /\ (((w.alloc o1).alloc o2).alloc o3).heap[w.heap.size + 1]? = some o2 /\ (((w.alloc o1).alloc o2).alloc o3).heap[w.heap.size + 1 + 1]? = some o3 /\
  Below w.heap.size w (((w.alloc o1).alloc o2).alloc o3) /\ (((w.alloc o1).alloc o2).alloc o3).heap.size = w.heap.size + 1 + 1 + 1 := by
 obtain ⟨h1, h2, h3, h4⟩ := new2 w o1 o2
 refine ⟨block_alloc h1 _, block_alloc h2 _, ?_, h3.alloc (by omega) _, by simp⟩
 have := block_new ((w.alloc o1).alloc o2) o3
 rw [h4] at this; exact this
theorem below_block {K : Nat} {w w' : World} (h : Below K w w') {b : Nat} {ob : Obj} (hb : w.heap[b]? = some ob) (hK : b < K) : w'.heap[b]? = some ob := by
 rw [h.block b hK]; exact hb
theorem range_of_block {w : World} {b : Nat} {C : Array Value} {t : TypeId} {fr : Nat × Nat} (h : w.heap[b]? = some (.cells C t fr)) : w.rangeAt b 0 C.toList := by
 intro j v hv
 rw [cell_of_block h]; simpa using hv
theorem there_of_block {w : World} {b : Nat} {C : Array Value} {t : TypeId} (h : w.heap[b]? = some (.cells C t (0, 0))) (o n : Nat) (hn : o + n <= C.size) : w.there b o n := by
 intro j hj
 refine ⟨?_, frozen_of_block h _⟩
 rw [cell_of_block h, Array.getElem?_eq_getElem (by omega)]; rfl
theorem wpList_load_block {ops : Array Oper} {rest : List Oper} {op : Oper} {a : Act} {w : World} {Q : Exit -> Act -> World -> Prop} (hgd : op.guard = none) (ty : TypeId) (x : Operand) (ho : op.op = .load ty x)
  (b : Nat) (hx : a.eval x = .pointer (some ⟨b, 0, none⟩)) (C : Array Value) (t : TypeId) (fr : Nat × Nat) (hb : w.heap[b]? = some (.cells C t fr)) (d : TypeDesc)
  (hu : P.underlying ty = some d) (hd : d.isRow = true) (hi : (P.info? ty).map (·.size) = some C.size)
  (h : wpList P ops Q rest (a.put op.dst (.agg C)) w) : wpList P ops Q (op :: rest) a w :=
 wpList_load_mid hgd ty x ho b 0 hx C.toList d (range_of_block hb) hu hd (by simpa using hi) (by simpa using h)
theorem run_load_block {w : World} {b : Nat} {C : Array Value} {t ty : TypeId} {fr : Nat × Nat} (hb : w.heap[b]? = some (.cells C t fr)) (d : TypeDesc)
  (hu : P.underlying ty = some d) (hd : d.isRow = true) (hi : (P.info? ty).map (·.size) = some C.size) : (loadVar ty ⟨b, 0, none⟩).run P w = .ok (.agg C) w := by
 have := run_loadVar_mid (P := P) w b 0 ty C.toList d (range_of_block hb) hu hd (by simpa using hi)
 simpa using this
theorem setCells_block (b : Nat) : ∀ (vs : List Value) (o : Nat) (w : World) (C : Array Value) (t : TypeId), w.heap[b]? = some (.cells C t (0, 0)) -> o + vs.length <= C.size ->
  (w.setCells b o vs).heap[b]? = some (.cells (C.toList.take o ++ vs ++ C.toList.drop (o + vs.length)).toArray t (0, 0)) /\ (∀ k, k ≠ b -> (w.setCells b o vs).heap[k]? = w.heap[k]?)
   /\ (w.setCells b o vs).os = w.os /\ (w.setCells b o vs).tape = w.tape /\ (w.setCells b o vs).output = w.output /\ (w.setCells b o vs).heap.size = w.heap.size
 | [], o, w, C, t, h, _ => by simp [World.setCells, h]
 | v :: vs, o, w, C, t, h, hl => by
  have ih := setCells_block b vs (o + 1) (w.setCell ⟨b, o, none⟩ v) (C.setIfInBounds o v) t (block_setCell h o v) (by simp at hl ⊢; omega)
  obtain ⟨i1, i2, i3, i4, i5, i6⟩ := ih
  have e : (w.setCells b o (v :: vs)) = (w.setCell ⟨b, o, none⟩ v).setCells b (o + 1) vs := rfl
  rw [e]
  refine ⟨?_, fun k hk => (i2 k hk).trans (block_setCell_other o v hk), i3, i4, i5, by rw [i6]; simp [World.setCell]⟩
  rw [i1]
  have := list_seg_step C.toList o v vs (by simp at hl ⊢; omega)
  rw [Array.toList_setIfInBounds, this]; simp
theorem wpList_store_block {ops : Array Oper} {rest : List Oper} {op : Oper} {a : Act} {w : World} {Q : Exit -> Act -> World -> Prop} (hgd : op.guard = none) (ty : TypeId) (x y : Operand) (ho : op.op = .store ty x y)
  (b : Nat) (cs : Array Value) (hx : a.eval x = .pointer (some ⟨b, 0, none⟩)) (hy : a.eval y = .agg cs) (C : Array Value) (t : TypeId) (hb : w.heap[b]? = some (.cells C t (0, 0))) (hs : cs.size = C.size)
  (hi : (P.info? ty).map (·.size) = some cs.size) (h1 : cs.all (·.oneCell') = true)
  (h : ∀ w1 : World, w.grownBy w1 (some b) -> w1.heap[b]? = some (.cells cs t (0, 0)) -> w1.heap.size = w.heap.size -> wpList P ops Q rest (a.put op.dst undef) w1) : wpList P ops Q (op :: rest) a w := by
 obtain ⟨i1, i2, i3, i4, i5, i6⟩ := setCells_block b cs.toList 0 w C t hb (by simp; omega)
 refine wpList_store_mid hgd ty x y ho b 0 cs hx hy (there_of_block hb 0 _ (by omega)) hi h1 (h _ ⟨i3, i4, i5, by omega, fun k _ hk => i2 k (by simpa using hk)⟩ ?_ i6)
 rw [i1]
 rw [List.drop_eq_nil_of_le (by simp; omega)]
 simp
theorem grown_block {w w1 : World} {r : Option Nat} (h : w.grownBy w1 r) {b : Nat} {ob : Obj} (hb : w.heap[b]? = some ob) (hr : r ≠ some b) : w1.heap[b]? = some ob := by
 rw [h.block b (lt_of_heap hb) (fun e => hr e.symm)]; exact hb
theorem grown_refl (w : World) (r : Option Nat) : w.grownBy w r := ⟨rfl, rfl, rfl, Nat.le_refl _, fun _ _ _ => rfl⟩
theorem grown_trans {a b c : World} {r : Option Nat} (h : a.grownBy b r) (k : b.grownBy c r) : a.grownBy c r :=
 ⟨k.os.trans h.os, k.tape.trans h.tape, k.output.trans h.output, Nat.le_trans h.size k.size, fun i hi hr => (k.block i (Nat.lt_of_lt_of_le hi h.size) hr).trans (h.block i hi hr)⟩
theorem grown_of_below {w w' : World} (h : Below w.heap.size w w') (r : Option Nat) : w.grownBy w' r := ⟨h.os, h.tape, h.output, h.size, fun k hk _ => h.block k hk⟩
theorem grown_setCell {w w' : World} {b : Nat} (h : w.grownBy w' (some b)) (o : Nat) (v : Value) : w.grownBy (w'.setCell ⟨b, o, none⟩ v) (some b) :=
 grown_trans h ⟨rfl, rfl, rfl, by simp [World.setCell], fun k _ hr => block_setCell_other o v (fun e => hr (by rw [e]))⟩
theorem below_of_grown {w w' : World} {b K : Nat} (h : w.grownBy w' (some b)) (hb : K <= b) (hK : K <= w.heap.size) : Below K w w' :=
 ⟨h.os, h.tape, h.output, h.size, fun k hk => h.block k (by omega) (by simp; omega)⟩
theorem run_index_one {w : World} {ty e : TypeId} {len : Nat} {cs : Array Value} {i : Nat} {kd : IntKind} {v : Value} (hu : P.underlying ty = some (.array len e)) (hs : (P.info? e).map (·.size) = some 1) {ik : IntKind} (hue : P.underlying e = some (.int ik))
  (hi : i < len) (hv : cs[i]? = some v) : (Instr.index ty (.agg cs) (.int kd i)).run P w = .ok v w := by
 cases hq : P.info? e with
 | none => simp [hq] at hs
 | some j =>
  have hj : j.size = 1 := by simpa [hq] using hs
  simp [Instr.index, asIntOf, run_underlying hu, sizeOf, typeInfo, hq, hj, part, isAgg, run_underlying hue, hv]
  intro h; omega
def blk (w : World) (b : Nat) : Array Value := match w.heap[b]? with | some (.cells C _ _) => C | _ => #[]
def Blk (w : World) (b n : Nat) : Prop := ∃ C t fr, w.heap[b]? = some (.cells C t fr) /\ C.size = n
theorem Blk.mk {w : World} {b n : Nat} {C : Array Value} {t : TypeId} {fr : Nat × Nat} (h : w.heap[b]? = some (.cells C t fr)) (hn : C.size = n) : Blk w b n := ⟨C, t, fr, h, hn⟩
theorem results_cell {fn : Func} {p : Tmp} {ty : TypeId} (h : fn.results = #[.cell p ty]) (tmps : Array Value) (w : World) {b : Nat} {C : Array Value} {t : TypeId} {fr : Nat × Nat}
  (hp : tmps.getD p undef = .pointer (some ⟨b, 0, none⟩)) (hb : w.heap[b]? = some (.cells C t fr)) (d : TypeDesc) (hu : P.underlying ty = some d) (hd : d.isRow = true) (hi : (P.info? ty).map (·.size) = some C.size) :
  (results fn tmps).run P w = .ok (.agg C) w := by
 have hp' : tmps[p]?.getD undef = .pointer (some ⟨b, 0, none⟩) := by simpa using hp
 simp only [results, h]
 simp [hp', asAddr, run_load_block hb d hu hd hi]
end
end
section
open Go.RowKit Go.Maps
structure Keeps (F : Nat -> Prop) (w w' : World) : Prop where
 os : w'.os = w.os
 tape : w'.tape = w.tape
 output : w'.output = w.output
 size : w.heap.size <= w'.heap.size
 block : ∀ k, k < w.heap.size -> ¬ F k -> w'.heap[k]? = w.heap[k]?
theorem Keeps.refl (F : Nat -> Prop) (w : World) : Keeps F w w := ⟨rfl, rfl, rfl, Nat.le_refl _, fun _ _ _ => rfl⟩
theorem Keeps.trans {F G : Nat -> Prop} {a b c : World} (h : Keeps F a b) (k : Keeps G b c) (hG : ∀ i, G i -> F i \/ a.heap.size <= i) : Keeps F a c :=
 ⟨k.os.trans h.os, k.tape.trans h.tape, k.output.trans h.output, Nat.le_trans h.size k.size, fun i hi hF =>
  (k.block i (Nat.lt_of_lt_of_le hi h.size) (fun hg => by rcases hG i hg with h1 | h1; exact hF h1; omega)).trans (h.block i hi hF)⟩
theorem Keeps.mono {F G : Nat -> Prop} {a b : World} (h : Keeps F a b) (hG : ∀ i, F i -> G i) : Keeps G a b := ⟨h.os, h.tape, h.output, h.size, fun i hi hn => h.block i hi (fun hf => hn (hG i hf))⟩
theorem Keeps.drew {F : Nat -> Prop} {a b : World} (h : Keeps F a b) : Keeps F a b.drew := ⟨h.os, h.tape, h.output, h.size, h.block⟩
theorem Keeps.drewN {F : Nat -> Prop} {a b : World} (h : Keeps F a b) (n : Nat) : Keeps F a (b.drewN n) := ⟨h.os, h.tape, h.output, h.size, h.block⟩
theorem Keeps.of_grown {F : Nat -> Prop} {a b : World} {r : Option Nat} (h : a.grownBy b r) (hr : ∀ i, r = some i -> F i) : Keeps F a b :=
 ⟨h.os, h.tape, h.output, h.size, fun i hi hF => h.block i hi (fun e => hF (hr i e.symm))⟩
theorem Keeps.of_below {F : Nat -> Prop} {a b : World} (h : Below a.heap.size a b) : Keeps F a b := ⟨h.os, h.tape, h.output, h.size, fun i hi _ => h.block i hi⟩
theorem Keeps.grown {F : Nat -> Prop} {a b c : World} {r : Option Nat} (h : Keeps F a b) (k : b.grownBy c r) (hr : ∀ i, r = some i -> F i \/ a.heap.size <= i) : Keeps F a c :=
 h.trans (G := fun i => r = some i) (Keeps.of_grown k fun _ e => e) hr
theorem Keeps.andBelow {F : Nat -> Prop} {a b c : World} (h : Keeps F a b) (k : Below b.heap.size b c) : Keeps F a c := h.trans (G := fun _ => False) (Keeps.of_below k) (fun _ e => e.elim)
theorem Keeps.alloc {F : Nat -> Prop} {a b : World} (h : Keeps F a b) (o : Obj) : Keeps F a (b.alloc o) := h.andBelow ((Below.refl _ _).alloc (Nat.le_refl _) _)
theorem Keeps.below {F : Nat -> Prop} {a b : World} (h : Keeps F a b) {K : Nat} (hK : K <= a.heap.size) (hF : ∀ i, F i -> K <= i) : Below K a b :=
 ⟨h.os, h.tape, h.output, h.size, fun i hi => h.block i (by omega) (fun hf => by have := hF i hf; omega)⟩
theorem Keeps.heap {F : Nat -> Prop} {a b : World} (h : Keeps F a b) {k : Nat} {o : Obj} (hk : a.heap[k]? = some o) (hF : ¬ F k) : b.heap[k]? = some o := by
 rw [h.block k (lt_of_heap hk) hF]; exact hk
theorem Keeps.cell {F : Nat -> Prop} {a b : World} (h : Keeps F a b) {ad : Addr} {v : Value} (hc : a.cell? ad = some v) (hF : ¬ F ad.block) : b.cell? ad = some v := by
 rw [World.cell?_of_block (h.block ad.block (World.block_lt_of_cell? a _ hc) hF)]; exact hc
theorem Keeps.row {F : Nat -> Prop} {a b : World} (h : Keeps F a b) {base : Nat} {e : TypeId} {size : Nat} {v : Value} {n : Nat} {xs : List Value} (hr : a.ownsRow base e size v n xs) (hF : ∀ i, v.ownBlock = some i -> ¬ F i) : b.ownsRow base e size v n xs := by
 refine ⟨hr.1, ?_⟩
 rcases hr.2 with hn | ⟨g, cap, cur, rfl, hb, hg, rest⟩
 ·exact .inl hn
 ·exact .inr ⟨g, cap, cur, rfl, hb, h.heap hg (hF g rfl), rest⟩
theorem Keeps.map {F : Nat -> Prop} {a b : World} (h : Keeps F a b) {H : Type} {P : Program} {k : TypeId} {R : Value -> Option (DataW H × List MemPlace)} {m n : Nat} {D : DataW H} (hm : a.ownsMap P k R m n D) (hF : ¬ F m) : b.ownsMap P k R m n D := by
 obtain ⟨es, clock, hb, rest⟩ := hm
 exact ⟨es, clock, h.heap hb hF, rest⟩
theorem below_of_row {K : Nat} {w w' : World} {r : Option Nat} (h : w.grownBy w' r) (hK : K <= w.heap.size) (hr : ∀ i, r = some i -> K <= i) : Below K w w' :=
 ⟨h.os, h.tape, h.output, h.size, fun k hk => h.block k (by omega) (fun e => by have := hr k e.symm; omega)⟩
theorem ne_of_heap {w : World} {a b : Nat} {x y : Obj} (hx : w.heap[a]? = some x) (hy : w.heap[b]? = some y) (h : x ≠ y) : a ≠ b := fun e => by
 subst e; rw [hx] at hy; exact h (Option.some.inj hy)
theorem row_block {w : World} {base g n cap : Nat} {e : TypeId} {size : Nat} {xs : List Value} (h : w.ownsRow base e size (.slice (some ⟨g, 0, none⟩) n cap) n xs) : ∃ cur, w.heap[g]? = some (.cells cur e (0, 0)) /\ n <= cap /\ cap <= maxLen /\ cur.size = cap * size /\ cur.toList.take (n * size) = xs := by
 rcases h.2 with ⟨hn, _⟩ | ⟨g', cap', cur, hv, _, hg, h1, h2, h3, h4⟩
 ·simp at hn
 ·simp only [Value.slice.injEq, Option.some.injEq, Addr.mk.injEq, and_true] at hv
  obtain ⟨rfl, _, rfl⟩ := hv
  exact ⟨cur, hg, h1, h2, h3, h4⟩
theorem map_block {H : Type} {P : Program} {k : TypeId} {R : Value -> Option (DataW H × List MemPlace)} {w : World} {m n : Nat} {D : DataW H} (h : w.ownsMap P k R m n D) : ∃ es clock, w.heap[m]? = some (.map es clock) := by
 obtain ⟨es, clock, hb, _⟩ := h
 exact ⟨es, clock, hb⟩
def selfElem (v : Value) : Option (DataW Value × List MemPlace) := some (.held v, [])
theorem selfElem_inv {v : Value} {d : DataW Value} {ps : List MemPlace} (h : selfElem v = some (d, ps)) : d = .held v := by
 simp [selfElem] at h; exact h.1.symm
theorem self_lookup {P : Program} {t k e : TypeId} {w : World} {b n : Nat} {D : DataW Value} (h : w.ownsMap P k selfElem b n D) (K : Keyed P k) (ht : P.underlying t = some (.map k e)) {z : Value} (hz : (zeroValue e).run P w = .ok z w) {key : Value} {kl : Lit} (hkey : keyOf P k key = some kl) :
  ∃ v, (Instr.lookup t (.map (some b)) key false).run P w = .ok v w /\ D.atKey kl (.held z) = .held v := by
 obtain ⟨v, ps, hr, hv⟩ := h.lookup K ht hz (zd := .held z) (zp := []) rfl hkey
 exact ⟨v, hr, selfElem_inv hv⟩
theorem keyLit_i64 (n : Int) : WideAt.IsKeyLit (.int .i64 n) := by simp [WideAt.IsKeyLit]
end
section
open Go.RowKit Go.Maps
inductive OpS where
 | write (n : Int) (s : ByteArray)
 | flush
def encOp : OpS -> Value
 | .write n s => .iface 229 (.agg #[.int .i64 n, .string s])
 | .flush => .iface 231 (.agg #[])
structure DiskS where
 first : List ByteArray
 ops : List OpS
 safe : List ByteArray
 waits : Int -> List ByteArray
def upd (f : Int -> List ByteArray) (n : Int) (x : List ByteArray) : Int -> List ByteArray := fun k => if k = n then x else f k
theorem upd_same (f : Int -> List ByteArray) (n : Int) (x : List ByteArray) : upd f n x n = x := by simp [upd]
theorem upd_other (f : Int -> List ByteArray) {n k : Int} (x : List ByteArray) (h : k ≠ n) : upd f n x k = f k := by simp [upd, h]
def opsMax : Nat := 1000000000
theorem opsMax_len {n : Nat} (h : n < opsMax) : n + 1 <= maxLen /\ (n + 1) * 16 <= 140737488355328 /\ n < maxLen := by unfold opsMax at h; unfold maxLen; omega
structure PL where
 g : Nat
 cap : Nat
 m : Nat
 D : DataW Value
 row : Int -> Nat
 rcap : Int -> Nat
def PL.rowV (L : PL) (waits : Int -> List ByteArray) (n : Int) : Value := if waits n = [] then .slice none 0 0 else .slice (some ⟨L.row n, 0, none⟩) (waits n).length (L.rcap n)
def PL.foot (L : PL) (waits : Int -> List ByteArray) (i : Nat) : Prop := i = L.g \/ i = L.m \/ ∃ n, waits n ≠ [] /\ i = L.row n
abbrev strs (l : List ByteArray) : List Value := l.map Value.string
theorem strs_one (l : List ByteArray) : ∀ u ∈ strs l, u.oneCell' = true := by
 intro u hu; obtain ⟨s, _, rfl⟩ := List.mem_map.1 hu; rfl
structure PlatesIn (w : World) (L : PL) (safe : List ByteArray) (waits : Int -> List ByteArray) (B : Nat) : Prop where
 safeRow : w.ownsRow 0 124 1 (.slice (some ⟨L.g, 0, none⟩) safe.length L.cap) safe.length (strs safe)
 mapOwn : w.ownsMap Tryz.prog 3 selfElem L.m B L.D
 absent : ∀ n, waits n = [] -> Maps.has L.D (.int .i64 n) = false
 there : ∀ n, waits n ≠ [] -> Maps.has L.D (.int .i64 n) = true
 held : ∀ n, waits n ≠ [] -> ∀ z, L.D.atKey (.int .i64 n) z = .held (.slice (some ⟨L.row n, 0, none⟩) (waits n).length (L.rcap n))
 rows : ∀ n, waits n ≠ [] -> w.ownsRow 0 124 1 (.slice (some ⟨L.row n, 0, none⟩) (waits n).length (L.rcap n)) (waits n).length (strs (waits n))
 off : ∀ n, waits n ≠ [] -> L.row n ≠ L.g
 apart : ∀ n n', waits n ≠ [] -> waits n' ≠ [] -> L.row n = L.row n' -> n = n'
 len : ∀ n, (waits n).length <= B
 dom : ∀ n, waits n ≠ [] -> 0 <= n /\ n < safe.length
 pos : 0 < safe.length
 most : safe.length <= 4096
variable {w w' : World} {L : PL} {safe : List ByteArray} {waits : Int -> List ByteArray} {B : Nat}
theorem PlatesIn.foot_block (h : PlatesIn w L safe waits B) {i : Nat} (hi : L.foot waits i) : (∃ cur, w.heap[i]? = some (.cells cur 124 (0, 0))) \/ ∃ es c, w.heap[i]? = some (.map es c) := by
 rcases hi with rfl | rfl | ⟨n, hn, rfl⟩
 ·obtain ⟨cur, hc, _⟩ := row_block h.safeRow; exact .inl ⟨cur, hc⟩
 ·obtain ⟨es, c, hm⟩ := map_block h.mapOwn; exact .inr ⟨es, c, hm⟩
 ·obtain ⟨cur, hc, _⟩ := row_block (h.rows n hn); exact .inl ⟨cur, hc⟩
theorem PlatesIn.foot_lt (h : PlatesIn w L safe waits B) {i : Nat} (hi : L.foot waits i) : i < w.heap.size := by
 rcases h.foot_block hi with ⟨_, hc⟩ | ⟨_, _, hc⟩ <;> exact lt_of_heap hc
theorem PlatesIn.foot_other (h : PlatesIn w L safe waits B) {i : Nat} {cs : Array Value} {t : TypeId} {fr : Nat × Nat} (hi : w.heap[i]? = some (.cells cs t fr)) (ht : t ≠ 124) : ¬ L.foot waits i := by
 intro hf
 rcases h.foot_block hf with ⟨_, hc⟩ | ⟨_, _, hc⟩
 ·rw [hi] at hc; simp only [Option.some.injEq, Obj.cells.injEq] at hc; exact ht hc.2.1
 ·rw [hi] at hc; cases hc
theorem PlatesIn.keep (h : PlatesIn w L safe waits B) {G : Nat -> Prop} (k : Keeps G w w') (hG : ∀ i, L.foot waits i -> ¬ G i) : PlatesIn w' L safe waits B where
 safeRow := k.row h.safeRow (fun i hi => hG i (.inl (Option.some.inj hi).symm))
 mapOwn := k.map h.mapOwn (hG _ (.inr (.inl rfl)))
 absent := h.absent
 there := h.there
 held := h.held
 rows := fun n hn => k.row (h.rows n hn) (fun i hi => hG i (.inr (.inr ⟨n, hn, (Option.some.inj hi).symm⟩)))
 off := h.off
 apart := h.apart
 len := h.len
 dom := h.dom
 pos := h.pos
 most := h.most
theorem zeroSecs (w : World) : (zeroValue 127).run Tryz.prog w = .ok (.slice none 0 0) w := Tryz.zeroValue127 w
theorem keyI {n : Int} (h0 : -9223372036854775808 <= n) (h1 : n < 9223372036854775808) : keyOf Tryz.prog 3 (.int .i64 n) = some (.int .i64 n) := by
 refine keyOf_int_mk Tryz.underlying3 ?_
 exact WalkArith.wf_i64 ⟨h0, by omega⟩
theorem PlatesIn.look (h : PlatesIn w L safe waits B) (n : Int) (h0 : 0 <= n) (h1 : n < safe.length) (W : World) (hW : W.heap = w.heap) : (Instr.lookup 190 (.map (some L.m)) (.int .i64 n) false).run Tryz.prog W = .ok (L.rowV waits n) W := by
 have hmost := h.most
 have hmap : W.ownsMap Tryz.prog 3 selfElem L.m B L.D := by
  obtain ⟨es, c, hb, r⟩ := h.mapOwn; exact ⟨es, c, by rw [hW]; exact hb, r⟩
 obtain ⟨v, hr, hv⟩ := self_lookup hmap (int_keyed Tryz.underlying3) Tryz.underlying190 (zeroSecs W) (keyI (n := n) (by omega) (by omega))
 rw [hr]
 by_cases hn : waits n = []
 ·rw [atKey_of_not_has (h.absent n hn)] at hv
  rw [PL.rowV, if_pos hn, <- DataW.held.inj hv]
 ·rw [h.held n hn] at hv
  rw [PL.rowV, if_neg hn, DataW.held.inj hv]
theorem PlatesIn.look2 (h : PlatesIn w L safe waits B) (n : Int) (h0 : 0 <= n) (h1 : n < safe.length) (W : World) (k : Keeps (fun _ => False) w W) : (Instr.lookup 190 (.map (some L.m)) (.int .i64 n) false).run Tryz.prog W = .ok (L.rowV waits n) W :=
 (h.keep k (fun _ _ e => e)).look n h0 h1 W rfl
theorem PlatesIn.rowOwn (h : PlatesIn w L safe waits B) (n : Int) : w.ownsRow 0 124 1 (L.rowV waits n) (waits n).length (strs (waits n)) := by
 by_cases hn : waits n = []
 ·simp only [PL.rowV, hn]; exact World.ownsRow_nil _ _ _ _
 ·simp only [PL.rowV, if_neg hn]; exact h.rows n hn
theorem PL.rowV_block {n : Int} {i : Nat} (h : (L.rowV waits n).ownBlock = some i) : waits n ≠ [] /\ i = L.row n := by
 by_cases hn : waits n = []
 ·simp [PL.rowV, hn, Value.ownBlock] at h
 ·simp [PL.rowV, hn, Value.ownBlock] at h; exact ⟨hn, h.symm⟩
theorem PlatesIn.mid (h : PlatesIn w L safe waits B) {n : Int} {w0 w1 : World} (k0 : Below w.heap.size w w0) (hgr : w0.grownBy w1 (L.rowV waits n).ownBlock) :
  w1.ownsMap Tryz.prog 3 selfElem L.m B L.D /\ (∀ i o, w0.heap[i]? = some o -> ¬ L.foot waits i -> w1.heap[i]? = some o) := by
 have hf : ∀ i, (L.rowV waits n).ownBlock = some i -> L.foot waits i := fun i e => by
  obtain ⟨hn, e'⟩ := PL.rowV_block e; exact .inr (.inr ⟨n, hn, e'⟩)
 have K1 : Keeps (fun i => (L.rowV waits n).ownBlock = some i) w w1 := (Keeps.of_below k0).trans (Keeps.of_grown hgr (fun i e => e)) (fun i e => .inl e)
 refine ⟨K1.map h.mapOwn (fun he => ?_), fun i o hi hn => (hgr.block i (lt_of_heap hi) (fun e => hn (hf i e.symm))).trans hi⟩
 obtain ⟨es, mc, hmb⟩ := map_block h.mapOwn
 obtain ⟨hn, e'⟩ := PL.rowV_block he
 obtain ⟨c, hc, _⟩ := row_block (h.rows n hn)
 rw [<- e', hmb] at hc; cases hc
theorem PlatesIn.wrote (h : PlatesIn w L safe waits B) {n : Int} (h0 : 0 <= n) (h1 : n < safe.length) {s : ByteArray} {w0 w1 w2 : World} {g cap : Nat} (k0 : Below w.heap.size w w0)
  (hown : w1.ownsRow 0 124 1 (.slice (some ⟨g, 0, none⟩) ((waits n).length + 1) cap) ((waits n).length + 1) (strs (waits n) ++ [.string s]))
  (hgr : w0.grownBy w1 (L.rowV waits n).ownBlock) (hat : (L.rowV waits n).ownBlock = some g \/ g = w0.heap.size)
  (hmap : w2.ownsMap Tryz.prog 3 selfElem L.m (B + 1) (L.D.put (.int .i64 n) (.held (.slice (some ⟨g, 0, none⟩) ((waits n).length + 1) cap)))) (hgr2 : w1.grownBy w2 (some L.m)) :
  PlatesIn w2 { L with D := L.D.put (.int .i64 n) (.held (.slice (some ⟨g, 0, none⟩) ((waits n).length + 1) cap)), row := fun k => if k = n then g else L.row k, rcap := fun k => if k = n then cap else L.rcap k } safe (upd waits n (waits n ++ [s])) (B + 1) /\
   (∀ i, ({ L with D := L.D.put (.int .i64 n) (.held (.slice (some ⟨g, 0, none⟩) ((waits n).length + 1) cap)), row := fun k => if k = n then g else L.row k, rcap := fun k => if k = n then cap else L.rcap k } : PL).foot (upd waits n (waits n ++ [s])) i -> L.foot waits i \/ w.heap.size <= i) /\ Keeps (L.foot waits) w w2 := by
 have hold : g < w.heap.size -> waits n ≠ [] /\ g = L.row n := fun hlt => by
  rcases hat with e | e
  ·exact PL.rowV_block e
  ·have := k0.size; omega
 have K1 : Keeps (fun i => (L.rowV waits n).ownBlock = some i) w w1 := (Keeps.of_below k0).trans (Keeps.of_grown hgr (fun i e => e)) (fun i e => .inl e)
 have K2 : Keeps (fun i => (L.rowV waits n).ownBlock = some i \/ i = L.m) w w2 := (K1.mono (fun _ => .inl)).grown hgr2 (fun i e => .inl (.inr (Option.some.inj e).symm))
 obtain ⟨es, mc, hmb⟩ := map_block h.mapOwn
 obtain ⟨gc, hgb, _⟩ := row_block h.safeRow
 obtain ⟨rc, hrb, _⟩ := row_block hown
 obtain ⟨es2, mc2, hmb2⟩ := map_block hmap
 have hgm : g ≠ L.m := by
  intro e
  have hm1 : w1.heap[L.m]? = some (.map es mc) := K1.heap hmb (fun he => by
   obtain ⟨hn, e'⟩ := PL.rowV_block he
   obtain ⟨c, hc, _⟩ := row_block (h.rows n hn)
   rw [<- e'] at hc; rw [hmb] at hc; cases hc)
  rw [<- e, hrb] at hm1; cases hm1
 have hmL : L.m ≠ L.g := fun e => by rw [e, hgb] at hmb; cases hmb
 have hrm : ∀ k, waits k ≠ [] -> L.row k ≠ L.m := fun k hk e => by
  obtain ⟨c, hc, _⟩ := row_block (h.rows k hk)
  rw [e, hmb] at hc; cases hc
 have hbig : ∀ k, waits k ≠ [] -> k ≠ n -> L.row k ≠ g := fun k hk hkn e => by
  have hlt : L.row k < w.heap.size := h.foot_lt (.inr (.inr ⟨k, hk, rfl⟩))
  obtain ⟨hn, e'⟩ := hold (by rw [<- e]; exact hlt)
  exact hkn (h.apart k n hk hn (e.trans e'))
 have hgg : g ≠ L.g := fun e => by
  obtain ⟨hn, e'⟩ := hold (by rw [e]; exact h.foot_lt (.inl rfl))
  exact h.off n hn (e'.symm.trans e)
 refine ⟨⟨?_, hmap, ?_, ?_, ?_, ?_, ?_, ?_, ?_, ?_, h.pos, h.most⟩, fun i hi => ?_, K2.mono (fun i e => ?_)⟩
 ·refine K2.row h.safeRow (fun i hi => ?_)
  obtain rfl : L.g = i := Option.some.inj hi
  rintro (e | e)
  ·obtain ⟨hn, e'⟩ := PL.rowV_block e; exact h.off n hn e'.symm
  ·exact hmL e.symm
 ·intro k hk
  by_cases hkn : k = n
  ·subst hkn; rw [upd_same] at hk; simp at hk
  ·rw [upd_other _ _ hkn] at hk
   rw [has_put_other (by simpa using hkn)]; exact h.absent k hk
 ·intro k hk
  by_cases hkn : k = n
  ·subst hkn; exact has_put_same h.mapOwn.isMap (keyLit_i64 _) _
  ·rw [upd_other _ _ hkn] at hk
   rw [has_put_other (by simpa using hkn)]; exact h.there k hk
 ·intro k hk z
  by_cases hkn : k = n
  ·subst hkn
   rw [atKey_put_same h.mapOwn.isMap (keyLit_i64 _)]
   simp [upd_same]
  ·rw [upd_other _ _ hkn] at hk
   rw [atKey_put_other (by simpa using hkn), h.held k hk]
   simp [upd_other _ _ hkn, hkn]
 ·intro k hk
  by_cases hkn : k = n
  ·subst hkn
   simp only [upd_same, if_true, List.length_append, List.length_cons, List.length_nil, Nat.zero_add]
   have := hown.kept hgr2 (.inr (fun e => hgm (by simpa [Value.ownBlock] using e)))
   simpa [strs] using this
  ·rw [upd_other _ _ hkn] at hk
   simp only [upd_other _ _ hkn, hkn, if_false]
   refine K2.row (h.rows k hk) (fun i hi => ?_)
   obtain rfl : L.row k = i := Option.some.inj hi
   rintro (e | e)
   ·obtain ⟨hn, e'⟩ := PL.rowV_block e; exact hkn (h.apart k n hk hn e')
   ·exact hrm k hk e
 ·intro k hk
  by_cases hkn : k = n
  ·subst hkn; simpa using hgg
  ·rw [upd_other _ _ hkn] at hk
   simpa [hkn] using h.off k hk
 ·intro k k' hk hk' e
  by_cases hkn : k = n
  ·by_cases hkn' : k' = n
   ·rw [hkn, hkn']
   ·rw [upd_other _ _ hkn'] at hk'
    simp only [hkn, hkn', if_true, if_false] at e
    exact absurd e.symm (hbig k' hk' hkn')
  ·by_cases hkn' : k' = n
   ·rw [upd_other _ _ hkn] at hk
    simp only [hkn, hkn', if_true, if_false] at e
    exact absurd e (hbig k hk hkn)
   ·rw [upd_other _ _ hkn] at hk
    rw [upd_other _ _ hkn'] at hk'
    simp only [hkn, hkn', if_false] at e
    exact h.apart k k' hk hk' e
 ·intro k
  by_cases hkn : k = n
  ·subst hkn; rw [upd_same]; have := h.len k; simp; omega
  ·rw [upd_other _ _ hkn]; have := h.len k; omega
 ·intro k hk
  by_cases hkn : k = n
  ·subst hkn; exact ⟨h0, h1⟩
  ·rw [upd_other _ _ hkn] at hk; exact h.dom k hk
 ·rcases hi with e | e | ⟨k, hk, e⟩
  ·exact .inl (.inl e)
  ·exact .inl (.inr (.inl e))
  ·by_cases hkn : k = n
   ·simp only [hkn, if_true] at e
    by_cases hlt : g < w.heap.size
    ·obtain ⟨hn, e'⟩ := hold hlt
     exact .inl (.inr (.inr ⟨n, hn, e.trans e'⟩))
    ·exact .inr (by omega)
   ·rw [upd_other _ _ hkn] at hk
    simp only [hkn, if_false] at e
    exact .inl (.inr (.inr ⟨k, hk, e⟩))
 ·rcases e with e | e
  ·obtain ⟨hn, e'⟩ := PL.rowV_block e; exact .inr (.inr ⟨n, hn, e'⟩)
  ·exact .inr (.inl e)
end
section
open Go.RowKit
theorem hid {p : Prop} (h : p) : Hid p := h
theorem mul_one_u (n : Nat) (hn : n <= 4096) (w : World) : Calls Tryz.prog 115 #[.int .u64 1, .int .u64 n] w fun e w' => e = .returned (.tuple #[.int .u64 0, .int .u64 n]) /\ w' = w := by
 have h := Tryz.bits_Mul 1 n (by omega) (by omega) w
 rw [show 1 * n / 18446744073709551616 = 0 by omega, show 1 * n % 18446744073709551616 = n by omega] at h
 exact h
theorem infoS : (Tryz.prog.info? 124).map (fun i => (i.zero, i.size, i.bytes)) = some (some (.string ⟨#[]⟩), 1, 16) := by kernel_rfl
theorem sizeS : (Tryz.prog.info? 124).map (·.size) = some 1 := by kernel_rfl
theorem madeS (n : Nat) : madeCells (Value.string ⟨#[]⟩).cells (n * 1) = (List.replicate n (Value.string ⟨#[]⟩)).toArray := by
 apply Array.ext
 ·simp [madeCells]
 ·intro i h1 h2
  simp [madeCells, Value.cells, Nat.mod_one]
theorem wpList_make_secs {w : World} {ops : Array Oper} {rest : List Oper} {o : Oper} {a : Act} {Q : Exit -> Act -> World -> Prop} (hg : o.guard = none) (l c : Operand) (hop : o.op = Op.makeSlice 127 l c)
  (n : Nat) (hl : a.eval l = .int .i64 n) (hc : a.eval c = .int .i64 n) (hm : n <= 4096)
  (h : ∀ w1 : World, Below w.heap.size w w1 -> w1.heap[w.heap.size]? = some (.cells (List.replicate n (Value.string ⟨#[]⟩)).toArray 124 (0, 0)) -> w1.heap.size = w.heap.size + 1 ->
   wpList Tryz.prog ops Q rest (a.put o.dst (.slice (some ⟨w.heap.size, 0, none⟩) n n)) w1) : wpList Tryz.prog ops Q (o :: rest) a w := by
 obtain ⟨i, hi, hz, hs, hb⟩ := info_parts infoS
 refine wpList_plain hg fun K hK' => ?_
 have hrun := run_make (P := Tryz.prog) w 127 124 i (.string ⟨#[]⟩) Tryz.underlying127 hi hz .i64 .i64 n n (by omega) (by omega) (by rw [hb]; omega) (by omega)
 unfold Oper.wp
 simp only [Int.toNat_natCast, hs, madeS] at hrun
 generalize (List.replicate n (Value.string ⟨#[]⟩)).toArray = Z at *
 simp [execOp, hop, hl, hc, hrun, Result.andThen]
 exact hK' _ _ (h _ ((Below.refl _ _).alloc (Nat.le_refl _) _) (block_new _ _) (by simp))
theorem wpList_copy_block {P : Program} {w : World} {ops : Array Oper} {rest : List Oper} {o : Oper} {a : Act} {Q : Exit -> Act -> World -> Prop} (hgd : o.guard = none) (d s : Operand) (dT sT : TypeId)
  (ho : o.op = .call { callee := .builtin .copy, args := #[d, s], argTypes := #[dT, sT] }) (elem : TypeId) (hu : P.underlying dT = some (.slice elem)) (hsz : (P.info? elem).map (·.size) = some 1)
  (g off dLen dCap : Nat) (ad : Addr) (sLen sCap : Nat) (hd : a.eval d = .slice (some ⟨g, off, none⟩) dLen dCap) (hs : a.eval s = .slice (some ad) sLen sCap)
  (C : Array Value) (t : TypeId) (hg : w.heap[g]? = some (.cells C t (0, 0))) (cs : List Value) (hn : cs.length = Nat.min sLen dLen) (hsrc : ∀ j v, cs[j]? = some v -> w.cell? (ad.add j) = some v)
  (hfit : off + cs.length <= C.size) (h1 : ∀ v ∈ cs, v.oneCell' = true)
  (h : ∀ w1 : World, w.grownBy w1 (some g) -> w1.heap[g]? = some (.cells (C.toList.take off ++ (cs ++ C.toList.drop (off + cs.length))).toArray t (0, 0)) -> w1.heap.size = w.heap.size ->
   wpList P ops Q rest (a.put o.dst (goInt cs.length)) w1) : wpList P ops Q (o :: rest) a w :=
 wpList_copy_own hgd d s dT sT ho elem hu hsz g off dLen dCap ad sLen sCap hd hs C t hg cs hn hsrc hfit h1
  (h _ ⟨rfl, rfl, rfl, by simp [World.setRow], fun k _ hk => setRow_other w g k _ (fun e => hk (by rw [e]))⟩ (setRow_heap w g C _ t (0, 0) hg) (by simp [World.setRow]))
theorem wp_copy_block {P : Program} {w : World} {o : Oper} {a : Act} {K : Act -> World -> Prop} {Q : Exit -> Act -> World -> Prop} (d s : Operand) (dT sT : TypeId)
  (ho : o.op = .call { callee := .builtin .copy, args := #[d, s], argTypes := #[dT, sT] }) (elem : TypeId) (hu : P.underlying dT = some (.slice elem)) (hsz : (P.info? elem).map (·.size) = some 1)
  (g off dLen dCap : Nat) (ad : Addr) (sLen sCap : Nat) (hd : a.eval d = .slice (some ⟨g, off, none⟩) dLen dCap) (hs : a.eval s = .slice (some ad) sLen sCap)
  (C : Array Value) (t : TypeId) (hg : w.heap[g]? = some (.cells C t (0, 0))) (cs : List Value) (hn : cs.length = Nat.min sLen dLen) (hsrc : ∀ j v, cs[j]? = some v -> w.cell? (ad.add j) = some v)
  (hfit : off + cs.length <= C.size) (h1 : ∀ v ∈ cs, v.oneCell' = true)
  (h : ∀ w1 : World, w.grownBy w1 (some g) -> w1.heap[g]? = some (.cells (C.toList.take off ++ (cs ++ C.toList.drop (off + cs.length))).toArray t (0, 0)) -> w1.heap.size = w.heap.size ->
   K (a.put o.dst (goInt cs.length)) w1) : o.wp P a w K Q := by
 have hrun := run_copy_row (P := P) w dT sT o.type elem g off dLen dCap ad sLen sCap C t cs hu hsz hg hn hsrc hfit h1
 rw [List.append_assoc] at hrun
 unfold Oper.wp
 simp only [execOp, ho, resolve, invoke, builtin, hd, hs, hrun, Sem.run_bind, Sem.run_pure, Result.andThen_ok, List.map_toArray, List.map_cons, List.map_nil]
 exact h _ ⟨rfl, rfl, rfl, by simp [World.setRow], fun k _ hk => setRow_other w g k _ (fun e => hk (by rw [e]))⟩ (setRow_heap w g C _ t (0, 0) hg) (by simp [World.setRow])
def filled (x y : Value) (n k : Nat) : List Value := List.replicate k x ++ List.replicate (n - k) y
theorem length_filled (x y : Value) (n k : Nat) (h : k <= n) : (filled x y n k).length = n := by simp [filled]; omega
theorem filled_more (x y : Value) (n k m : Nat) : (filled x y n k).take k ++ (List.replicate m x ++ (filled x y n k).drop (k + m)) = filled x y n (k + m) := by
 unfold filled
 rw [List.take_append_of_le_length (by simp), List.take_of_length_le (by simp), List.drop_append, List.drop_of_length_le (by simp), List.nil_append, List.drop_replicate, <- List.append_assoc, List.replicate_append_replicate]
 congr 2
 simp; omega
theorem one_src {w w1 : World} {b : Nat} {v : Value} (hb : w1.heap[b]? = w.heap[b]?) (hc : w.cell? ⟨b, 0, none⟩ = some v) : ∀ j u, [v][j]? = some u -> w1.cell? ((⟨b, 0, none⟩ : Addr).add j) = some u := by
 intro j u hu
 cases j with
 | zero =>
  rw [Addr.add_mid, <- Option.some.inj hu]
  exact (World.cell?_of_block (w := w) hb).trans hc
 | succ j => simp at hu
theorem fill_one (n : Nat) (x y : Value) : ((List.replicate n y).toArray.toList.take 0 ++ ([x] ++ (List.replicate n y).toArray.toList.drop (0 + [x].length))) = filled x y n 1 := by
 simp [filled]
theorem fill_src {w : World} {g n k m : Nat} {x y : Value} {t : TypeId} {fr : Nat × Nat} (h : w.heap[g]? = some (.cells (filled x y n k).toArray t fr)) (hm : m <= k) : ∀ j u, (List.replicate m x)[j]? = some u -> w.cell? ((⟨g, 0, none⟩ : Addr).add j) = some u := by
 intro j u hu
 have hj : j < m := by have := (List.getElem?_eq_some_iff.1 hu).1; simpa using this
 rw [Addr.add_mid, Nat.zero_add, cell_of_block h, List.getElem?_toArray, filled, List.getElem?_append_left (by simp; omega), List.getElem?_replicate, if_pos (by omega)]
 rw [List.getElem?_replicate, if_pos hj] at hu
 exact hu
theorem repeat_one (s : ByteArray) (b n : Nat) (h1 : 1 <= n) (hn : n <= 4096) (w : World) (hb : w.cell? ⟨b, 0, none⟩ = some (.string s)) :
  Calls Tryz.prog 70 #[.slice (some ⟨b, 0, none⟩) 1 1, .int .i64 n] w fun e w' => e = .returned (.slice (some ⟨w.heap.size, 0, none⟩) n n) /\ w'.heap[w.heap.size]? = some (.cells (List.replicate n (Value.string s)).toArray 124 (0, 0)) /\ Below w.heap.size w w' := by
 have HB := hid hb
 have hbl := World.block_lt_of_cell? w _ hb
 go_enter Tryz.func70, Tryz.ntmps70
 go_wp2_with (first
  | (go_at_call 115; refine (mul_one_u n hn _).mono ?_; rintro e w9 ⟨rfl, h9⟩; obtain rfl := h9.symm)
  | (refine wpList_make_secs rfl (.tmp 29) (.tmp 29) rfl n rfl rfl hn ?_; intro w1 hB1 hb1 hz1; have HB1 := hid hB1; have Hb1 := hid hb1; clear hB1 hb1 hz1)
  | (refine wpList_copy_block rfl (.tmp 31) (.tmp 32) 127 127 rfl 124 Tryz.underlying127 sizeS w.heap.size 0 n n ⟨b, 0, none⟩ 1 1 rfl rfl _ 124 Hb1.out [.string s] (Nat.min_eq_left h1).symm (one_src (HB1.out.block b hbl) HB.out) (by simpa using h1) (by simp [Value.oneCell']) ?_; intro w2 hg2 hb2 hz2; rw [fill_one] at hb2; have H2 := hid hb2; have HB2 := hid (HB1.out.trans (below_of_grown hg2 (Nat.le_refl _) HB1.out.size)); clear hb2 hg2 hz2 Hb1 HB1))
 clear hb
 go_loopw [8] (fun i wr => ∃ k : Nat, 1 <= k /\ k <= n /\ i = .int .i64 k /\ Hid (wr.heap[w.heap.size]? = some (.cells (filled (.string s) (.string ⟨#[]⟩) n k).toArray 124 (0, 0))) /\ Hid (Below w.heap.size w wr)) (fun i _ => n - (intOf i).toNat)
 case atStart => exact ⟨1, by omega, h1, rfl, H2, HB2⟩
 case round =>
  obtain ⟨k, hk1, hkn, rfl, hF, hBr⟩ := hrel
  clear H2 HB2
  by_cases hlt : k < n
  ·have hk0 : (0 : Int) <= (k : Int) := by omega
   have hk2 : (k : Int) <= (n : Int) := by omega
   have hk3 : (k : Int) < (n : Int) := by omega
   go_wp2
   refine wp_region_noPanic ?_
   refine wp_region_held_drew (S := fun w' => Below w.heap.size w w') (by kernel_rfl) hBr.out.drew (fun hHeld => ?_)
   refine tq 0 _ ?_
   try simp only [tS]
   refine tq 1 _ ?_
   try simp only [tS]
   refine tq 2 _ ?_
   try simp only [tS]
   refine tq 3 _ ?_
   try simp only [tS]
   refine tq 4 _ ?_
   try simp only [tS]
   refine tq 5 _ ?_
   try simp only [tS]
   refine tq 6 _ ?_
   try simp only [tS]
   refine wpAnyH_ready (rs := [7]) (by kernel_rfl) (by simp) (AllReadyH.cons rfl (fun K hK => ?_) AllReadyH.nil)
   rw [if_pos (by rfl)]
   rw [if_neg (show ¬ (n = k) by omega)]
   generalize hm : Nat.min k (n - k) = m
   have hm1 : 1 <= m := by rw [<- hm]; exact Nat.le_min.2 ⟨hk1, by omega⟩
   have hmk : m <= k := by rw [<- hm]; exact Nat.min_le_left _ _
   have hmn : k + m <= n := by have : m <= n - k := (by rw [<- hm]; exact Nat.min_le_right _ _); omega
   refine wp_copy_block (.tmp 41) (.tmp 44) 127 127 rfl 124 Tryz.underlying127 sizeS w.heap.size k (n - k) (n - k) ⟨w.heap.size, 0, none⟩ k n rfl rfl _ 124 (w := wr.drew) hF.out (List.replicate m (.string s)) (by rw [List.length_replicate, hm]) (fill_src hF.out hmk) (by simp [length_filled _ _ _ _ hkn]; omega) (by intro v hv; rw [List.eq_of_mem_replicate hv]; rfl) ?_
   intro w2 hg2 hb2 hz2
   simp only [List.length_replicate] at hb2
   rw [filled_more] at hb2
   have H2 := hid hb2
   have HB2 := hid (hBr.out.drew.trans (below_of_grown hg2 (Nat.le_refl _) hBr.out.drew.size))
   clear hb2 hg2 hz2 hHeld
   refine hK.out _ _ HB2.out (fun hHeld => ?_)
   clear hK K
   try simp only [tS]
   refine tq 8 _ ?_
   try simp only [tS]
   refine tq 9 _ ?_
   try simp only [tS]
   refine wpAnyH_done (by kernel_rfl) ?_ _
   refine NoPanic.normal ?_
   go_wp2
   go_roundw
   case rel =>
    have hw : IntKind.i64.wrap ((k : Int) + (m : Int)) = ((k + m : Nat) : Int) := by rw [IntWalk.i64_in _ (by omega)]; omega
    exact ⟨k + m, by omega, hmn, by rw [hw], H2, HB2⟩
   case measure =>
    have hw : IntKind.i64.wrap ((k : Int) + (m : Int)) = (k : Int) + (m : Int) := IntWalk.i64_in _ (by omega)
    simp [intOf, hw]; omega
  ·have hge : ¬ ((k : Int) < (n : Int)) := by omega
   obtain rfl : k = n := by omega
   go_wp2
   go_ret
   refine ⟨rfl, ?_, hBr.out⟩
   have := hF.out
   rwa [show filled (.string s) (.string ⟨#[]⟩) k k = List.replicate k (Value.string s) by simp [filled]] at this
end
section
open Go.RowKit Go.Maps
theorem wp_lookup_run {P : Program} {w : World} {o : Oper} {a : Act} {K : Act -> World -> Prop} {Q : Exit -> Act -> World -> Prop} (m x : Operand) (t : TypeId) (hop : o.op = Op.lookup t m x false) (M k v : Value) (hm : a.eval m = M) (hx : a.eval x = k)
  (hrun : (Instr.lookup t M k false).run P w = .ok v w) (h : K (a.put o.dst v) w) : o.wp P a w K Q := by
 unfold Oper.wp
 simp [execOp, hop, hm, hx, hrun, Result.andThen]
 exact h
theorem wp_mapUpdate_self {P : Program} {w : World} {o : Oper} {a : Act} {K : Act -> World -> Prop} {Q : Exit -> Act -> World -> Prop} (m x v : Operand) (t : TypeId) (hop : o.op = Op.mapUpdate t m x v) (k e : TypeId) (KK : Keyed P k) (ht : P.underlying t = some (.map k e)) (b n : Nat) (D : DataW Value)
  (hm : a.eval m = .map (some b)) (hown : w.ownsMap P k selfElem b n D) (hn : n < maxLen) (key val : Value) (kl : Lit) (hx : a.eval x = key) (hv : a.eval v = val) (hkey : keyOf P k key = some kl)
  (h : ∀ w', w'.ownsMap P k selfElem b (n + 1) (D.put kl (.held val)) -> w.grownBy w' (some b) -> K (a.put o.dst undef) w') : o.wp P a w K Q := by
 obtain ⟨w', hrun, r1, r2⟩ := hown.update KK ht hn hkey (val := val) (d := .held val) (ps := []) rfl
 unfold Oper.wp
 simp [execOp, hop, hm, hx, hv, hrun, Result.andThen]
 exact h w' r1 r2
theorem assert_write (W : World) (v : Value) : (Instr.typeAssert (.iface 229 v) 240 229 true).run Tryz.prog W = .ok (.tuple #[v, .bool true]) W := by kernel_rfl
theorem do_write (p : Nat) (fv ov : Value) (L : PL) (safe : List ByteArray) (waits : Int -> List ByteArray) (B : Nat) (n : Int) (s : ByteArray) (w : World)
  (hp : w.heap[p]? = some (.cells #[fv, ov, .slice (some ⟨L.g, 0, none⟩) safe.length L.cap, .map (some L.m)] 196 (0, 0))) (h : PlatesIn w L safe waits B) (hB : B < opsMax) (h0 : 0 <= n) (h1 : n < safe.length) :
  Calls Tryz.prog 185 #[.pointer (some ⟨p, 2, none⟩), .iface 229 (.agg #[.int .i64 n, .string s])] w fun e w' => e = .returned (.tuple #[]) /\
   ∃ L', PlatesIn w' L' safe (upd waits n (waits n ++ [s])) (B + 1) /\ L'.g = L.g /\ L'.cap = L.cap /\ L'.m = L.m /\ (∀ i, L'.foot (upd waits n (waits n ++ [s])) i -> L.foot waits i \/ w.heap.size <= i) /\ Keeps (L.foot waits) w w' := by
 have c3 : w.cell? ⟨p, 3, none⟩ = some (.map (some L.m)) := by rw [cell_of_block hp]; rfl
 go_enter Tryz.func185, Tryz.ntmps185
 have hta := assert_write
 have HP := hid hp
 have H := hid h
 clear hp h
 go_wp2
 obtain ⟨i0, hi, hz0, hz1, hz2⟩ := info_parts infoS
 have HI := hid hi
 clear hi
 obtain ⟨n1, n2, n3, n4⟩ := new2 w (.cells #[.int .i64 n, .string s] 229) (.cells #[.string s] 124)
 have HN1 := hid n1
 have HN2 := hid n2
 have HN3 := hid n3
 have HN4 := hid n4
 have HR := hid (((H.out.rowOwn n).alloc (.cells #[.int .i64 n, .string s] 229)).alloc (.cells #[.string s] 124))
 have HL := hid (opsMax_len (Nat.lt_of_le_of_lt (H.out.len n) hB))
 have HNP := hid (H.out.foot_other HP.out (by decide))
 have HNX : Hid (¬ L.foot waits w.heap.size) := fun hf => absurd (H.out.foot_lt hf) (Nat.lt_irrefl _)
 have HPM : Hid (p ≠ L.m) := fun e => HNP.out (.inr (.inl e))
 have HXM : Hid (w.heap.size ≠ L.m) := fun e => HNX.out (.inr (.inl e))
 clear n1 n2 n3 n4
 have hz : p ≠ w.heap.size := fun e => by have := lt_of_heap HP.out; omega
 refine wp_region_noPanic ?_
 refine wp_region_held_drew (S := fun W => W.cell? ⟨p, 3, none⟩ = some (.map (some L.m)) /\ W.cell? ⟨w.heap.size, 0, none⟩ = some (.int .i64 n) /\ W.cell? ⟨w.heap.size, 1, none⟩ = some (.string s)) (by kernel_rfl) ?_ (fun hHeld => ?_)
 ·refine ⟨?_, ?_, ?_⟩
  ·exact (cell_of_block (block_alloc HP.out _) 3)
  ·exact (cell_of_block (block_new w _) 0)
  ·exact (cell_of_block (block_new w _) 1)
 refine tq 0 _ ?_
 try simp only [tS]
 refine tq 1 _ ?_
 try simp only [tS]
 refine tq 2 _ ?_
 try simp only [tS]
 refine tq 3 _ ?_
 try simp only [tS]
 refine tq 4 _ ?_
 try simp only [tS]
 refine tq 5 _ ?_
 try simp only [tS]
 refine tq 6 _ ?_
 try simp only [tS]
 refine tq 7 _ ?_
 try simp only [tS]
 refine tq 8 _ ?_
 try simp only [tS]
 refine tq 9 _ ?_
 try simp only [tS]
 refine tq 10 _ ?_
 try simp only [tS]
 refine tq 11 _ ?_
 try simp only [tS]
 refine tq 13 _ ?_
 try simp only [tS]
 refine tq 14 _ ?_
 try simp only [tS]
 refine wpAnyH_ready (rs := [12, 15]) (by kernel_rfl) (by simp) (AllReadyH.cons rfl (fun K hK => ?_) (AllReadyH.cons rfl (fun K hK => ?_) AllReadyH.nil))
 ·-- the look-up first
  rw [if_pos (by rfl)]
  refine wp_lookup_run (.tmp 20) (.tmp 22) 190 rfl (.map (some L.m)) (.int .i64 n) (L.rowV waits n) rfl rfl (H.out.look2 n h0 h1 _ ((Keeps.of_below ((Below.refl _ _).alloc (Nat.le_refl _) _)).drew)) ?_
  refine hK.out _ _ hHeld (fun hHeld => ?_)
  clear hK K
  try simp only [tS]
  refine wpAnyH_ready (rs := [15]) (by kernel_rfl) (by simp) (AllReadyH.cons rfl (fun K hK => ?_) AllReadyH.nil)
  rw [if_pos (by rfl)]
  unfold Oper.wp
  go_simp
  refine hK.out _ _ ⟨cell_of_block (block_alloc (block_alloc HP.out _) _) 3, cell_of_block (block_alloc (block_new w _) _) 0, cell_of_block (block_alloc (block_new w _) _) 1⟩ (fun hHeld => ?_)
  clear hK K
  refine wpAnyH_ready (rs := [16]) (by kernel_rfl) (by simp) (AllReadyH.cons rfl (fun K hK => ?_) AllReadyH.nil)
  rw [if_pos (by rfl)]
  refine wp_append_lies _ (.tmp 23) (.tmp 26) 127 rfl 0 124 i0 (.string ⟨#[]⟩) 1 16 Tryz.underlying127 HI.out hz0 hz1 hz2 rfl (by omega) (L.rowV waits n) (waits n).length (strs (waits n)) rfl HR.out ⟨w.heap.size + 1, 0, none⟩ 1 1 [.string s] rfl rfl (World.news_of_block (cs := #[.string s]) HN2.out) (by intro u hu; rw [List.mem_singleton.1 hu]; rfl) (by omega) HL.out.1 HL.out.2.1 (Nat.zero_le _) (w.heap.size + 1 + 1) HN4.out ?_
  intro g cap w1 hown hgr hat hlt
  have HG := hid hgr
  have HO := hid hown
  have HA := hid hat
  clear hown hgr hat hlt
  obtain ⟨hm1, hk1⟩ := H.out.mid HN3.out.drew HG.out
  have Hm1 := hid hm1
  have hk1p := hid (hk1 p _ (block_alloc (block_alloc HP.out _) _) HNP.out)
  have hk1x := hid (hk1 w.heap.size _ HN1.out HNX.out)
  clear hm1 hk1
  refine hK.out _ _ ⟨cell_of_block hk1p.out 3, cell_of_block hk1x.out 0, cell_of_block hk1x.out 1⟩ (fun hHeld => ?_)
  clear hK K
  try simp only [tS]
  refine wpAnyH_ready (rs := [17]) (by kernel_rfl) (by simp) (AllReadyH.cons rfl (fun K hK => ?_) AllReadyH.nil)
  rw [if_pos (by rfl)]
  refine wp_mapUpdate_self (.tmp 14) (.tmp 16) (.tmp 27) 190 rfl 3 127 (int_keyed Tryz.underlying3) Tryz.underlying190 L.m B L.D rfl Hm1.out (opsMax_len hB).2.2 (.int .i64 n) (.slice (some ⟨g, 0, none⟩) ((waits n).length + 1) cap) (.int .i64 n) rfl rfl (keyI (by omega) (by have := H.out.most; omega)) ?_
  intro w2 hown2 hgr2
  have HO2 := hid hown2
  have HG2 := hid hgr2
  clear hown2 hgr2
  refine hK.out _ _ ⟨cell_of_block (grown_block HG2.out hk1p.out (fun e => HPM.out (Option.some.inj e).symm)) 3, cell_of_block (grown_block HG2.out hk1x.out (fun e => HXM.out (Option.some.inj e).symm)) 0, cell_of_block (grown_block HG2.out hk1x.out (fun e => HXM.out (Option.some.inj e).symm)) 1⟩ (fun hHeld => ?_)
  clear hK K
  refine wpAnyH_done (by kernel_rfl) ?_ _
  refine NoPanic.normal ?_
  have HW := hid (H.out.wrote h0 h1 HN3.out.drew HO.out HG.out (HA.out.imp id (fun e => e.trans HN4.out.symm)) HO2.out HG2.out)
  clear HG HG2 HO HO2 HA Hm1 hk1p hk1x hHeld
  go_wp2
  go_end0
  exact ⟨rfl, _, HW.out.1, rfl, rfl, rfl, HW.out.2.1, HW.out.2.2⟩
 ·-- the new element first
  rw [if_pos (by rfl)]
  unfold Oper.wp
  go_simp
  refine hK.out _ _ ⟨cell_of_block (block_alloc (block_alloc HP.out _) _) 3, cell_of_block (block_alloc (block_new w _) _) 0, cell_of_block (block_alloc (block_new w _) _) 1⟩ (fun hHeld => ?_)
  clear hK K
  refine wpAnyH_ready (rs := [12]) (by kernel_rfl) (by simp) (AllReadyH.cons rfl (fun K hK => ?_) AllReadyH.nil)
  rw [if_pos (by rfl)]
  refine wp_lookup_run (.tmp 20) (.tmp 22) 190 rfl (.map (some L.m)) (.int .i64 n) (L.rowV waits n) rfl rfl (H.out.look2 n h0 h1 _ ((Keeps.of_below HN3.out).drew)) ?_
  refine hK.out _ _ hHeld (fun hHeld => ?_)
  clear hK K
  try simp only [tS]
  refine wpAnyH_ready (rs := [16]) (by kernel_rfl) (by simp) (AllReadyH.cons rfl (fun K hK => ?_) AllReadyH.nil)
  rw [if_pos (by rfl)]
  refine wp_append_lies _ (.tmp 23) (.tmp 26) 127 rfl 0 124 i0 (.string ⟨#[]⟩) 1 16 Tryz.underlying127 HI.out hz0 hz1 hz2 rfl (by omega) (L.rowV waits n) (waits n).length (strs (waits n)) rfl HR.out ⟨w.heap.size + 1, 0, none⟩ 1 1 [.string s] rfl rfl (World.news_of_block (cs := #[.string s]) HN2.out) (by intro u hu; rw [List.mem_singleton.1 hu]; rfl) (by omega) HL.out.1 HL.out.2.1 (Nat.zero_le _) (w.heap.size + 1 + 1) HN4.out ?_
  intro g cap w1 hown hgr hat hlt
  have HG := hid hgr
  have HO := hid hown
  have HA := hid hat
  clear hown hgr hat hlt
  obtain ⟨hm1, hk1⟩ := H.out.mid HN3.out.drew HG.out
  have Hm1 := hid hm1
  have hk1p := hid (hk1 p _ (block_alloc (block_alloc HP.out _) _) HNP.out)
  have hk1x := hid (hk1 w.heap.size _ HN1.out HNX.out)
  clear hm1 hk1
  refine hK.out _ _ ⟨cell_of_block hk1p.out 3, cell_of_block hk1x.out 0, cell_of_block hk1x.out 1⟩ (fun hHeld => ?_)
  clear hK K
  try simp only [tS]
  refine wpAnyH_ready (rs := [17]) (by kernel_rfl) (by simp) (AllReadyH.cons rfl (fun K hK => ?_) AllReadyH.nil)
  rw [if_pos (by rfl)]
  refine wp_mapUpdate_self (.tmp 14) (.tmp 16) (.tmp 27) 190 rfl 3 127 (int_keyed Tryz.underlying3) Tryz.underlying190 L.m B L.D rfl Hm1.out (opsMax_len hB).2.2 (.int .i64 n) (.slice (some ⟨g, 0, none⟩) ((waits n).length + 1) cap) (.int .i64 n) rfl rfl (keyI (by omega) (by have := H.out.most; omega)) ?_
  intro w2 hown2 hgr2
  have HO2 := hid hown2
  have HG2 := hid hgr2
  clear hown2 hgr2
  refine hK.out _ _ ⟨cell_of_block (grown_block HG2.out hk1p.out (fun e => HPM.out (Option.some.inj e).symm)) 3, cell_of_block (grown_block HG2.out hk1x.out (fun e => HXM.out (Option.some.inj e).symm)) 0, cell_of_block (grown_block HG2.out hk1x.out (fun e => HXM.out (Option.some.inj e).symm)) 1⟩ (fun hHeld => ?_)
  clear hK K
  refine wpAnyH_done (by kernel_rfl) ?_ _
  refine NoPanic.normal ?_
  have HW := hid (H.out.wrote h0 h1 HN3.out.drew HO.out HG.out (HA.out.imp id (fun e => e.trans HN4.out.symm)) HO2.out HG2.out)
  clear HG HG2 HO HO2 HA Hm1 hk1p hk1x hHeld
  go_wp2
  go_end0
  exact ⟨rfl, _, HW.out.1, rfl, rfl, rfl, HW.out.2.1, HW.out.2.2⟩
end
section
open Go.RowKit
theorem run_slice_in (d : Nat) (t e : TypeId) (a : Addr) (n c : Nat) (h : Tryz.prog.underlying t = some (.slice e)) (w : World) : (Op.equalIn (d + 1) t (.slice (some a) n c) (.slice none 0 0)).run Tryz.prog w = .ok false w := by
 simp [Op.equalIn, run_underlying h]
theorem run_slice_nil (t e : TypeId) (a : Addr) (n c : Nat) (h : Tryz.prog.underlying t = some (.slice e)) (w : World) : (binOp .eql t (.slice (some a) n c) (.slice none 0 0)).run Tryz.prog w = .ok (.bool false) w := by
 have he : (Op.equal t (.slice (some a) n c) (.slice none 0 0)).run Tryz.prog w = .ok false w := run_slice_in 9999 t e a n c h w
 simp only [binOp]
 simp [he]
theorem clone_any (xs : List Value) (ad : Addr) (c : Nat) (hpos : 0 < xs.length) (hn : xs.length <= 4096) (h1 : ∀ u ∈ xs, u.oneCell' = true) (w : World) (hx : ∀ j u, xs[j]? = some u -> w.cell? (ad.add j) = some u) :
  Calls Tryz.prog 168 #[.slice (some ad) xs.length c] w fun e w' => ∃ g cap, e = .returned (.slice (some ⟨g, 0, none⟩) xs.length cap) /\ w'.ownsRow w.heap.size 124 1 (.slice (some ⟨g, 0, none⟩) xs.length cap) xs.length xs /\ Below w.heap.size w w' := by
 obtain ⟨i0, hi, hz0, hz1, hz2⟩ := info_parts infoS
 have HI := hid hi
 have HX := hid hx
 clear hi hx
 go_enter Tryz.func168, Tryz.ntmps168
 have hq := fun W => run_slice_nil 127 _ ad xs.length c Tryz.underlying127 W
 go_wp2_with (refine wpList_append_lies _ rfl (.tmp 5) (.tmp 6) 127 rfl w.heap.size 124 i0 (.string ⟨#[]⟩) 1 16 Tryz.underlying127 HI.out hz0 hz1 hz2 rfl (by omega) (.slice (some ⟨w.heap.size, 0, none⟩) 0 0) 0 [] rfl (World.ownsRow_lit w #[] 0 (Nat.le_refl _) (by simp) rfl) ad xs.length c xs rfl (by simp) (fun j u hu => by rw [World.cell?_alloc_lt _ _ _ (World.block_lt_of_cell? w _ (HX.out j u hu))]; exact HX.out j u hu) h1 hpos (by unfold maxLen; omega) (by omega) (by simp) (w.heap.size + 1) (by simp) ?_; intro g cap w1 hown hgr hat hlt)
 go_ret
 rw [List.nil_append, Nat.zero_add] at hown
 refine ⟨g, cap, rfl, hown, ?_⟩
 exact ((Below.refl _ _).alloc (Nat.le_refl _) _).trans ⟨hgr.os, hgr.tape, hgr.output, hgr.size, fun k hk => hgr.block k (by simp; omega) (by simp [Value.ownBlock]; omega)⟩
end
section
open Go.RowKit
theorem isSize_any (n : Int) (w : World) : Calls Tryz.prog 67 #[.int .i64 n] w fun e w' => e = .returned (.bool (decide (1 <= n /\ n <= 4096))) /\ w' = w := by
 by_cases h1 : 1 <= n
 ·by_cases h2 : n <= 4096
  ·go_enter Tryz.func67, Tryz.ntmps67
   go_wp2
   go_ret
   exact ⟨by simp [h1, h2], rfl⟩
  ·go_enter Tryz.func67, Tryz.ntmps67
   go_wp2
   go_ret
   exact ⟨by simp [h2], rfl⟩
 ·go_enter Tryz.func67, Tryz.ntmps67
  go_wp2
  go_ret
  exact ⟨by rw [decide_eq_false (fun h => by omega)]; rfl, rfl⟩
end
section
open Go.RowKit
theorem info63 : (Tryz.prog.info? 192).map (·.size) = some 2 := by kernel_rfl
theorem flushed_any (xs : List Value) (ad : Addr) (c : Nat) (hpos : 0 < xs.length) (hn : xs.length <= 4096) (h1 : ∀ u ∈ xs, u.oneCell' = true) (w : World) (hx : ∀ j u, xs[j]? = some u -> w.cell? (ad.add j) = some u) :
  Calls Tryz.prog 121 #[.slice (some ad) xs.length c] w fun e w' => ∃ g cap m, e = .returned (.agg #[.slice (some ⟨g, 0, none⟩) xs.length cap, .map (some m)]) /\ w.heap.size <= m /\ w'.heap[m]? = some (.map #[] 0) /\ w'.ownsRow w.heap.size 124 1 (.slice (some ⟨g, 0, none⟩) xs.length cap) xs.length xs /\ Below w.heap.size w w' := by
 have HX := hid hx
 clear hx
 go_enter Tryz.func121, Tryz.ntmps121
 go_wp2_with fail
 refine (clone_any xs ad c hpos hn h1 _ (fun j u hu => by rw [World.cell?_alloc_lt _ _ _ (World.block_lt_of_cell? w _ (HX.out j u hu))]; exact HX.out j u hu)).mono ?_
 rintro e w1 ⟨g, cap, rfl, hown, hB⟩
 have hmk := fun W => run_makeMap (P := Tryz.prog) 190 W
 have hb0 := below_block hB (block_new w (.cells #[.slice none 0 0, .map none] 192)) (by simp)
 have HB0 := hid hb0
 have HOW := hid hown
 have HBB := hid hB
 clear hb0 hown hB
 go_wp2_with (refine wpList_store_block rfl 192 (.tmp 2) (.tmp 6) rfl w.heap.size #[.slice (some ⟨g, 0, none⟩) xs.length cap, .map (some w1.heap.size)] rfl rfl _ 192 (block_alloc HB0.out _) rfl info63 (by simp [Value.oneCell']) ?_; intro w2 hg2 hb2 hz2)
 refine bodyPost_ret (results_cell Tryz.results121 _ _ rfl hb2 _ Tryz.underlying192 rfl info63) rfl ⟨g, cap, w1.heap.size, rfl, ?_, ?_, ?_, ?_⟩
 ·have := HBB.out.size; simp at this; omega
 ·exact grown_block hg2 (block_new w1 _) (by have := lt_of_heap HB0.out; intro e; have := Option.some.inj e; omega)
 ·have hgz := (HOW.out.lt g rfl).1
  refine ((HOW.out.alloc _).kept hg2 (.inr (fun e => ?_))).mono (by simp)
  have := Option.some.inj e
  simp at this hgz
  omega
 ·have hw := (Below.refl w.heap.size w).alloc (Nat.le_refl _) (.cells #[.slice none 0 0, .map none] 192)
  have h1 := hw.trans (HBB.out.mono (by simp))
  exact (h1.alloc h1.size _).trans (below_of_grown hg2 (Nat.le_refl _) (h1.alloc h1.size _).size)
structure Fresh (w0 w : World) (p : Nat) (xs : List Value) (first : Value) : Prop where
 fields : ∃ g cap m, w.heap[p]? = some (.cells #[first, .slice none 0 0, .slice (some ⟨g, 0, none⟩) xs.length cap, .map (some m)] 196 (0, 0)) /\ w0.heap.size <= m /\ w.heap[m]? = some (.map #[] 0) /\
  w.ownsRow w0.heap.size 124 1 (.slice (some ⟨g, 0, none⟩) xs.length cap) xs.length xs
 new : w0.heap.size <= p
 below : Below w0.heap.size w0 w
theorem made_any (xs : List Value) (ad : Addr) (c : Nat) (hpos : 0 < xs.length) (hn : xs.length <= 4096) (h1 : ∀ u ∈ xs, u.oneCell' = true) (w : World) (hx : ∀ j u, xs[j]? = some u -> w.cell? (ad.add j) = some u) :
  Calls Tryz.prog 69 #[.slice (some ad) xs.length c] w fun e w' => ∃ p, e = .returned (.pointer (some ⟨p, 0, none⟩)) /\ Fresh w w' p xs (.slice (some ad) xs.length c) := by
 have HX := hid hx
 clear hx
 go_enter Tryz.func69, Tryz.ntmps69
 go_wp2_with fail
 refine (flushed_any xs ad c hpos hn h1 _ HX.out).mono ?_
 rintro e w1 ⟨g, cap, m, rfl, hm, hmb, hown, hB⟩
 have HM := hid hm
 have HMB := hid hmb
 have HOW := hid hown
 have HB := hid hB
 clear hm hmb hown hB
 go_wp2
 go_ret
 refine ⟨_, rfl, ⟨g, cap, m, block_new _ _, HM.out, block_alloc HMB.out _, HOW.out.alloc _⟩, HB.out.size, HB.out.alloc HB.out.size _⟩
end
section
open Go.RowKit
theorem has_is (b o : Nat) (a : Option Addr) (len cap : Nat) (n : Int) (w : World) (hc : w.cell? ⟨b, o, none⟩ = some (.slice a len cap)) (r : Bool) (hr : decide (0 <= n /\ n < (len : Int)) = r) :
  Calls Tryz.prog 169 #[.pointer (some ⟨b, o, none⟩), .int .i64 n] w fun e w' => e = .returned (.bool r) /\ w' = w := by
 by_cases h0 : 0 <= n
 ·by_cases h1 : n < (len : Int)
  ·rw [decide_eq_true ⟨h0, h1⟩] at hr
   subst hr
   go_enter Tryz.func169, Tryz.ntmps169
   go_wp2
   go_ret
   exact ⟨rfl, rfl⟩
  ·rw [decide_eq_false (fun h => h1 h.2)] at hr
   subst hr
   go_enter Tryz.func169, Tryz.ntmps169
   go_wp2
   go_ret
   exact ⟨rfl, rfl⟩
 ·rw [decide_eq_false (fun h => h0 h.1)] at hr
  subst hr
  go_enter Tryz.func169, Tryz.ntmps169
  go_wp2
  go_ret
  exact ⟨rfl, rfl⟩
theorem has_any (b o : Nat) (a : Option Addr) (len cap : Nat) (n : Int) (w : World) (hc : w.cell? ⟨b, o, none⟩ = some (.slice a len cap)) :
  Calls Tryz.prog 169 #[.pointer (some ⟨b, o, none⟩), .int .i64 n] w fun e w' => e = .returned (.bool (decide (0 <= n /\ n < (len : Int)))) /\ w' = w := has_is b o a len cap n w hc _ rfl
end
section
open Go.RowKit Go.Maps
structure DL where
 p : Nat
 fv : Value
 ov : Value
 L : PL
def DL.foot (d : DL) (waits : Int -> List ByteArray) (i : Nat) : Prop := i = d.p \/ d.ov.ownBlock = some i \/ d.L.foot waits i
structure DiskIn (w : World) (d : DL) (S : DiskS) : Prop where
 heap : w.heap[d.p]? = some (.cells #[d.fv, d.ov, .slice (some ⟨d.L.g, 0, none⟩) S.safe.length d.L.cap, .map (some d.L.m)] 196 (0, 0))
 ops : w.ownsRow 0 240 1 d.ov S.ops.length (S.ops.map encOp)
 plates : PlatesIn w d.L S.safe S.waits S.ops.length
 first : ∃ ad c, d.fv = .slice (some ad) S.first.length c /\ (∀ j s, S.first[j]? = some s -> w.cell? (ad.add j) = some (.string s)) /\ ¬ d.foot S.waits ad.block
 flen : S.first.length = S.safe.length
theorem row_type {w : World} {base : Nat} {e : TypeId} {size : Nat} {v : Value} {n : Nat} {xs : List Value} (h : w.ownsRow base e size v n xs) {i : Nat} (hi : v.ownBlock = some i) : ∃ cur, w.heap[i]? = some (.cells cur e (0, 0)) := by
 rcases h.2 with ⟨rfl, _⟩ | ⟨g, cap, cur, rfl, _, hg, _⟩
 ·simp [Value.ownBlock] at hi
 ·obtain rfl : g = i := Option.some.inj hi
  exact ⟨cur, hg⟩
theorem DiskIn.ops_off {w : World} {d : DL} {S : DiskS} (h : DiskIn w d S) {i : Nat} (hi : d.ov.ownBlock = some i) : ¬ d.L.foot S.waits i /\ i ≠ d.p := by
 obtain ⟨cur, hc⟩ := row_type h.ops hi
 refine ⟨h.plates.foot_other hc (by decide), ne_of_heap hc h.heap (fun e => ?_)⟩
 simp only [Obj.cells.injEq] at e
 exact absurd e.2.1 (by decide)
theorem DiskIn.p_off {w : World} {d : DL} {S : DiskS} (h : DiskIn w d S) : ¬ d.L.foot S.waits d.p := h.plates.foot_other h.heap (by decide)
theorem DiskIn.foot_lt {w : World} {d : DL} {S : DiskS} (h : DiskIn w d S) {i : Nat} (hi : d.foot S.waits i) : i < w.heap.size := by
 rcases hi with rfl | e | e
 ·exact lt_of_heap h.heap
 ·obtain ⟨_, hc⟩ := row_type h.ops e; exact lt_of_heap hc
 ·exact h.plates.foot_lt e
theorem add_block (ad : Addr) (j : Nat) : (ad.add j).block = ad.block := by
 unfold Addr.add; split <;> simp_all
theorem DiskIn.keep {w w' : World} {d : DL} {S : DiskS} (h : DiskIn w d S) {G : Nat -> Prop} (k : Keeps G w w') (hG : ∀ i, d.foot S.waits i -> ¬ G i) (hF : ∀ i, d.fv.ownBlock = some i -> ¬ G i) : DiskIn w' d S where
 heap := k.heap h.heap (hG _ (.inl rfl))
 ops := k.row h.ops (fun i hi => hG i (.inr (.inl hi)))
 plates := h.plates.keep k (fun i hi => hG i (.inr (.inr hi)))
 first := by
  obtain ⟨ad, c, e, hc, hn⟩ := h.first
  exact ⟨ad, c, e, fun j s hj => k.cell (hc j s hj) (by rw [add_block]; exact hF _ (by rw [e]; rfl)), hn⟩
 flen := h.flen
theorem DiskIn.below {w w' : World} {d : DL} {S : DiskS} (h : DiskIn w d S) (k : Below w.heap.size w w') : DiskIn w' d S := h.keep (G := fun _ => False) (Keeps.of_below k) (fun _ _ e => e) (fun _ _ e => e)
structure DiskRd (w : World) (d : DL) (S : DiskS) : Prop where
 heap : w.heap[d.p]? = some (.cells #[d.fv, d.ov, .slice (some ⟨d.L.g, 0, none⟩) S.safe.length d.L.cap, .map (some d.L.m)] 196 (0, 0))
 plates : PlatesIn w d.L S.safe S.waits S.ops.length
 ov : ∃ a c, d.ov = .slice a S.ops.length c
theorem row_slice' {w : World} {base : Nat} {e : TypeId} {size : Nat} {v : Value} {n : Nat} {xs : List Value} (h : w.ownsRow base e size v n xs) : ∃ a c, v = .slice a n c := by
 rcases h.2 with ⟨rfl, rfl⟩ | ⟨g, cap, cur, rfl, _⟩
 ·exact ⟨none, 0, rfl⟩
 ·exact ⟨_, _, rfl⟩
theorem DiskIn.rd {w : World} {d : DL} {S : DiskS} (h : DiskIn w d S) : DiskRd w d S := ⟨h.heap, h.plates, row_slice' h.ops⟩
theorem DiskRd.keep {w w' : World} {d : DL} {S : DiskS} (h : DiskRd w d S) {G : Nat -> Prop} (k : Keeps G w w') (hp : ¬ G d.p) (hG : ∀ i, d.L.foot S.waits i -> ¬ G i) : DiskRd w' d S :=
 ⟨k.heap h.heap hp, h.plates.keep k hG, h.ov⟩
theorem DiskRd.below {w w' : World} {d : DL} {S : DiskS} (h : DiskRd w d S) (k : Below w.heap.size w w') : DiskRd w' d S := h.keep (G := fun _ => False) (Keeps.of_below k) (fun e => e) (fun _ _ e => e)
def DiskS.wrote (S : DiskS) (n : Int) (s : ByteArray) : DiskS := { S with ops := S.ops ++ [.write n s], waits := upd S.waits n (S.waits n ++ [s]) }
theorem infoOp : (Tryz.prog.info? 240).map (fun i => (i.zero, i.size, i.bytes)) = some (some .nilIface, 1, 16) := by kernel_rfl
theorem note_write (d : DL) (S : DiskS) (n : Int) (s : ByteArray) (w : World) (h : DiskIn w d S) (hB : S.ops.length < opsMax) (h0 : 0 <= n) (h1 : n < S.safe.length) :
  Calls Tryz.prog 172 #[.pointer (some ⟨d.p, 0, none⟩), .iface 229 (.agg #[.int .i64 n, .string s])] w fun e w' => e = .returned (.tuple #[]) /\
   ∃ d', DiskIn w' d' (S.wrote n s) /\ d'.p = d.p /\ d'.fv = d.fv /\ (∀ i, d'.foot (S.wrote n s).waits i -> d.foot S.waits i \/ w.heap.size <= i) /\ Keeps (d.foot S.waits) w w' := by
 have c1 : w.cell? ⟨d.p, 1, none⟩ = some d.ov := by rw [cell_of_block h.heap]; rfl
 have hlt := lt_of_heap h.heap
 obtain ⟨i0, hi, hz0, hz1, hz2⟩ := info_parts infoOp
 have HI := hid hi
 have H := hid h
 have HL := hid (opsMax_len hB)
 clear hi h
 go_enter Tryz.func172, Tryz.ntmps172
 go_wp2_with (refine wpList_append_lies _ rfl (.tmp 8) (.tmp 10) 194 rfl 0 240 i0 .nilIface 1 16 Tryz.underlying194 HI.out hz0 hz1 hz2 rfl (by omega) d.ov S.ops.length (S.ops.map encOp) rfl (H.out.ops.alloc _) ⟨w.heap.size, 0, none⟩ 1 1 [encOp (.write n s)] rfl rfl (World.news_of_block (cs := #[encOp (.write n s)]) (block_new w _)) (by intro u hu; rw [List.mem_singleton.1 hu]; rfl) (by omega) HL.out.1 HL.out.2.1 (Nat.zero_le _) (w.heap.size + 1) (by simp) ?_; intro g cap w1 hown hgr hat hlt1; have HO := hid hown; have HG := hid hgr; have HA := hid hat; have HP1 := hid ((hgr.block d.p (by simp; omega) (fun e => (H.out.ops_off e.symm).2 rfl)).trans (block_alloc H.out.heap _)); have f1 : w1.cell? ⟨d.p, 1, none⟩ = some d.ov := cell_of_block HP1.out 1; have f2 : w1.frozen? ⟨d.p, 1, none⟩ = false := frozen_of_block HP1.out 1; clear hown hgr hat hlt1)
 have K1 : Keeps (fun i => d.ov.ownBlock = some i) w w1 := (Keeps.of_below ((Below.refl _ _).alloc (Nat.le_refl _) _)).trans (Keeps.of_grown HG.out (fun i e => e)) (fun i e => .inl e)
 have K2 : Keeps (fun i => d.ov.ownBlock = some i \/ i = d.p) w (w1.setCell ⟨d.p, 1, none⟩ (.slice (some ⟨g, 0, none⟩) (S.ops.length + 1) cap)) :=
  (K1.mono (fun _ => .inl)).grown (grown_setCell (grown_refl w1 (some d.p)) 1 _) (fun i e => .inl (.inr (Option.some.inj e).symm))
 have HK2 := hid K2
 have hP2 := block_setCell HP1.out 1 (.slice (some ⟨g, 0, none⟩) (S.ops.length + 1) cap)
 have HP2 := hid hP2
 have hgp : g ≠ d.p := by
  obtain ⟨cur, hc⟩ := row_type HO.out rfl
  refine ne_of_heap hc HP1.out (fun e => ?_)
  simp only [Obj.cells.injEq] at e
  exact absurd e.2.1 (by decide)
 have HO2 := hid (HO.out.kept (grown_setCell (grown_refl w1 (some d.p)) 1 (.slice (some ⟨g, 0, none⟩) (S.ops.length + 1) cap)) (.inr (fun e => hgp (by simpa [Value.ownBlock] using e))))
 have HPL := hid (H.out.plates.keep HK2.out (fun i hi e => by
  rcases e with e | e
  ·exact (H.out.ops_off e).1 hi
  ·exact H.out.p_off (e ▸ hi)))
 clear K1 K2 hP2 f1 f2 HO hgp
 generalize hW : w1.setCell ⟨d.p, 1, none⟩ (.slice (some ⟨g, 0, none⟩) (S.ops.length + 1) cap) = w2 at *
 clear hW
 refine (do_write d.p d.fv (.slice (some ⟨g, 0, none⟩) (S.ops.length + 1) cap) d.L S.safe S.waits S.ops.length n s w2 HP2.out HPL.out hB h0 h1).mono ?_
 rintro e w3 ⟨rfl, L', hP3, e1, e2, e3, hfoot, hK3⟩
 have HP3 := hid hP3
 have HF3 := hid hfoot
 have HK3 := hid hK3
 have HE := hid (And.intro e1 (And.intro e2 e3))
 clear hP3 hfoot hK3 e1 e2 e3
 have HFoot : Hid (∀ i, (DL.foot ⟨d.p, d.fv, .slice (some ⟨g, 0, none⟩) (S.ops.length + 1) cap, L'⟩ (S.wrote n s).waits i) -> d.foot S.waits i \/ w.heap.size <= i) := by
  rintro i (e | e | e)
  ·exact .inl (.inl e)
  ·obtain rfl : g = i := Option.some.inj e
   rcases HA.out with e | e
   ·exact .inl (.inr (.inl e))
   ·exact .inr (by omega)
  ·rcases HF3.out i e with e | e
   ·exact .inl (.inr (.inr e))
   ·exact .inr (Nat.le_trans HK2.out.size e)
 have HKall : Hid (Keeps (d.foot S.waits) w w3) := (HK2.out.mono (fun i e => by rcases e with e | e; exact .inr (.inl e); exact .inl e)).trans HK3.out (fun i e => .inl (.inr (.inr e)))
 go_wp2
 go_end0
 refine ⟨rfl, ⟨d.p, d.fv, .slice (some ⟨g, 0, none⟩) (S.ops.length + 1) cap, L'⟩, ⟨?_, ?_, ?_, ?_, ?_⟩, rfl, rfl, ?_, ?_⟩
 ·rw [HE.out.1, HE.out.2.1, HE.out.2.2]
  exact HK3.out.heap HP2.out H.out.p_off
 ·have h2 := HK3.out.row HO2.out (fun i hi => by
   obtain ⟨cur, hc⟩ := row_type HO2.out hi
   exact HPL.out.foot_other hc (by decide))
  simpa [DiskS.wrote] using h2
 ·simpa [DiskS.wrote] using HP3.out
 ·obtain ⟨ad, c, e, hc, hn⟩ := H.out.first
  refine ⟨ad, c, e, fun j u hj => ?_, fun hf => ?_⟩
  ·refine HK3.out.cell (HK2.out.cell (hc j u hj) ?_) ?_
   ·rw [add_block]; rintro (e | e)
    ·exact hn (.inr (.inl e))
    ·exact hn (.inl e)
   ·rw [add_block]; exact fun e => hn (.inr (.inr e))
  ·have hlt0 : S.first.length ≠ 0 := by have := H.out.flen; have := H.out.plates.pos; omega
   have hltad : ad.block < w.heap.size := by
    have h00 := hc 0 (S.first[0]'(by omega)) (by simp)
    have := World.block_lt_of_cell? w _ h00
    rwa [add_block] at this
   exact hn (by rcases HFoot.out _ hf with e | e; exact e; omega)
 ·exact H.out.flen
 ·exact HFoot.out
 ·exact HKall.out
end
section
open Go.RowKit Go.Maps
def bytesAt (w : World) (ad : Addr) (l : List UInt8) : Prop := ∀ j (hj : j < l.length), w.cell? (ad.add j) = some (.int .u8 (l[j].toNat : Int))
theorem write_ok (d : DL) (S : DiskS) (n : Int) (l : List UInt8) (ad : Addr) (c : Nat) (w : World) (h : DiskIn w d S) (hB : S.ops.length < opsMax) (h0 : 0 <= n) (h1 : n < S.safe.length) (hl : l.length = 512) (hb : bytesAt w ad l) :
  Calls Tryz.prog 130 #[.pointer (some ⟨d.p, 0, none⟩), .int .i64 n, .slice (some ad) 512 c] w fun e w' => e = .returned (.int .i64 0) /\
   ∃ d', DiskIn w' d' (S.wrote n ⟨l.toArray⟩) /\ d'.p = d.p /\ d'.fv = d.fv /\ (∀ i, d'.foot (S.wrote n ⟨l.toArray⟩).waits i -> d.foot S.waits i \/ w.heap.size <= i) /\ Keeps (d.foot S.waits) w w' := by
 have hcv := run_convert_bytes_back (P := Tryz.prog) w 42 124 5 ad c l Tryz.underlying42 Tryz.underlying5 Tryz.underlying124 hb
 rw [hl] at hcv
 have c2 : w.cell? ⟨d.p, 2, none⟩ = some (.slice (some ⟨d.L.g, 0, none⟩) S.safe.length d.L.cap) := by rw [cell_of_block h.heap]; rfl
 have HD := hid (decide_eq_true (And.intro h0 h1))
 have HC2 := hid c2
 have HN := hid (note_write d S n ⟨l.toArray⟩ w h hB h0 h1)
 clear hb hl h c2
 generalize hs : (⟨l.toArray⟩ : ByteArray) = s at *
 clear hs
 go_enter Tryz.func130, Tryz.ntmps130
 go_wp2_with fail
 refine (has_any d.p 2 _ _ _ _ _ HC2.out).mono ?_
 rintro e w9 ⟨rfl, h9⟩
 obtain rfl := h9.symm
 rw [HD.out]
 go_wp2_with fail
 refine HN.out.mono ?_
 rintro e w1 ⟨rfl, hq⟩
 have HQ := hid hq
 clear hq
 go_wp2
 go_ret
 exact ⟨rfl, HQ.out⟩
def errW (S : DiskS) (n : Int) (l : List UInt8) : Int := if ¬ (0 <= n /\ n < S.safe.length) then 2 else if l.length ≠ 512 then 3 else 0
def DiskS.put (S : DiskS) (n : Int) (l : List UInt8) : DiskS := if errW S n l = 0 then S.wrote n ⟨l.toArray⟩ else S
end
section
open Go.RowKit
def blankS : ByteArray := ⟨(Lib.repeatL [0] 512).toArray⟩
end
section
open Go.RowKit Go.Maps
def freshS (xs : List ByteArray) : DiskS := ⟨xs, [], xs, fun _ => []⟩
theorem map_empty {w : World} {m : Nat} (h : w.heap[m]? = some (.map #[] 0)) : w.ownsMap Tryz.prog 3 selfElem m 0 (.map []) :=
 ⟨#[], 0, h, ⟨by simp, MapKept.stamped_empty 0, by simp⟩, Nat.le_refl _, rfl⟩
theorem fresh_disk {w0 w : World} {p : Nat} {xs : List ByteArray} {ad : Addr} {c : Nat} (h : Fresh w0 w p (strs xs) (.slice (some ad) (strs xs).length c)) (hpos : 0 < xs.length) (hmost : xs.length <= 4096) (had : ad.block < w0.heap.size)
  (hx : ∀ j u, (strs xs)[j]? = some u -> w0.cell? (ad.add j) = some u) : ∃ d, DiskIn w d (freshS xs) /\ d.p = p /\ d.fv.ownBlock = some ad.block /\ (∀ i, d.foot (freshS xs).waits i -> w0.heap.size <= i) /\ Below w0.heap.size w0 w := by
 obtain ⟨⟨g, cap, m, f1, f2, f3, f4⟩, fn, fb⟩ := h
 have hl : (strs xs).length = xs.length := by simp
 rw [hl] at f1 f4
 have hg := (f4.lt g rfl).1
 have hfoot : ∀ i, (DL.foot ⟨p, .slice (some ad) xs.length c, .slice none 0 0, ⟨g, cap, m, .map [], fun _ => 0, fun _ => 0⟩⟩ (freshS xs).waits i) -> w0.heap.size <= i := by
  rintro i (e | e | e | e | ⟨n, hn, e⟩)
  ·have e' : i = p := e; omega
  ·simp [Value.ownBlock] at e
  ·have e' : i = g := e; omega
  ·have e' : i = m := e; omega
  ·simp [freshS] at hn
 refine ⟨⟨p, .slice (some ad) xs.length c, .slice none 0 0, ⟨g, cap, m, .map [], fun _ => 0, fun _ => 0⟩⟩, ⟨f1, World.ownsRow_nil _ _ _ _, ?_, ?_, rfl⟩, rfl, rfl, hfoot, fb⟩
 ·exact ⟨f4.mono (Nat.zero_le _), map_empty f3, fun _ _ => rfl, fun n hn => by simp [freshS] at hn, fun n hn => by simp [freshS] at hn, fun n hn => by simp [freshS] at hn, fun n hn => by simp [freshS] at hn, fun n n' hn => by simp [freshS] at hn, fun n => Nat.le_refl _, fun n hn => by simp [freshS] at hn, hpos, hmost⟩
 ·refine ⟨ad, c, rfl, fun j s hj => ?_, fun hf => by have := hfoot _ hf; omega⟩
  have h0 := hx j (.string s) (by simpa [freshS] using hj)
  rw [fb.cell (by rw [add_block]; exact had)]
  exact h0
theorem strs_replicate (n : Nat) (s : ByteArray) : strs (List.replicate n s) = List.replicate n (Value.string s) := by simp [strs]
theorem new_disk (n : Nat) (h1 : 1 <= n) (hn : n <= 4096) (w : World) :
  Calls Tryz.prog 27 #[.int .i64 n] w fun e w' => ∃ d, e = .returned (.tuple #[.pointer (some ⟨d.p, 0, none⟩), .int .i64 0]) /\ DiskIn w' d (freshS (List.replicate n blankS)) /\ (∀ i, d.foot (freshS (List.replicate n blankS)).waits i -> w.heap.size <= i) /\ (∀ i, d.fv.ownBlock = some i -> w.heap.size <= i) /\ Below w.heap.size w w' := by
 have hd : decide (1 <= (n : Int) /\ (n : Int) <= 4096) = true := decide_eq_true ⟨by omega, by omega⟩
 have HD := hid hd
 clear hd
 go_enter Tryz.func27, Tryz.ntmps27
 go_wp2_with fail
 refine (isSize_any _ _).mono ?_
 rintro e w9 ⟨rfl, h9⟩
 obtain rfl := h9.symm
 rw [HD.out]
 go_wp2_with fail
 refine (Tryz.strings_Repeat ⟨#[0]⟩ 512 _ (by omega) (by decide)).mono ?_
 rintro e w1 ⟨rfl, hB1⟩
 have HB1 := hid hB1
 clear hB1
 go_wp2_with fail
 refine (repeat_one blankS w1.heap.size n h1 hn _ (by rw [cell_of_block (block_new w1 _)]; rfl)).mono ?_
 rintro e w2 ⟨rfl, hb2, hB2⟩
 have hz : (w1.alloc (.cells #[.string ⟨(Lib.repeatL [0] 512).toArray⟩] 124)).heap.size = w1.heap.size + 1 := by simp
 rw [hz] at hb2
 have HBa := hid ((HB1.out.alloc HB1.out.size (.cells #[.string ⟨(Lib.repeatL [0] 512).toArray⟩] 124)).trans (hB2.mono (HB1.out.alloc HB1.out.size _).size))
 have Hb2 := hid hb2
 have hl : (List.replicate n (Value.string blankS)).length = n := by simp
 have hx : ∀ j u, (List.replicate n (Value.string blankS))[j]? = some u -> w2.cell? ((⟨w1.heap.size + 1, 0, none⟩ : Addr).add j) = some u := fun j u hu => by rw [Addr.add_mid, Nat.zero_add, cell_of_block Hb2.out, List.getElem?_toArray]; exact hu
 have HX := hid hx
 have hmade := made_any (List.replicate n (Value.string blankS)) ⟨w1.heap.size + 1, 0, none⟩ n (by rw [hl]; omega) (by rw [hl]; exact hn) (by intro u hu; rw [List.eq_of_mem_replicate hu]; rfl) w2 HX.out
 rw [hl] at hmade
 have HMade := hid hmade
 have HL := hid hl
 clear hB2 hb2 hmade hl hz hx
 go_wp2_with fail
 refine HMade.out.mono ?_
 rintro e w3 ⟨p, rfl, hF⟩
 have HF := hid hF
 clear hF HMade
 go_wp2
 go_returns
 have hz1 := HBa.out.size
 have hz2 := HB1.out.size
 have hlt := lt_of_heap Hb2.out
 obtain ⟨d, e1, e2, e3, e4, e5⟩ := fresh_disk (w0 := w2) (w := w3) (p := p) (xs := List.replicate n blankS) (ad := ⟨w1.heap.size + 1, 0, none⟩) (c := n) (by
  have := HF.out
  rw [strs_replicate, HL.out]; exact this) (by simp; omega) (by simp; omega) hlt (by rw [strs_replicate]; exact HX.out)
 refine ⟨d, by rw [e2]; rfl, e1, fun i hi => Nat.le_trans hz1 (e4 i hi), fun i hi => ?_, HBa.out.trans (e5.mono hz1)⟩
 rw [e3] at hi
 have := Option.some.inj hi
 simp at this; omega
end
section
open Go.RowKit Go.Maps Go.Sort Go.Shelf
def waitKeys (waits : Int -> List ByteArray) (N : Nat) : List Int := ((List.range N).map (fun k : Nat => (k : Int))).filter (fun k => !(waits k).isEmpty)
theorem mem_waitKeys {waits : Int -> List ByteArray} {N : Nat} {k : Int} : k ∈ waitKeys waits N ↔ (0 <= k /\ k < N /\ waits k ≠ []) := by
 simp only [waitKeys, List.mem_filter, List.mem_map, List.mem_range]
 constructor
 ·rintro ⟨⟨j, hj, rfl⟩, h⟩
  refine ⟨by omega, by omega, ?_⟩
  simpa using h
 ·rintro ⟨h0, h1, h2⟩
  exact ⟨⟨k.toNat, by omega, by omega⟩, by simpa using h2⟩
theorem sorted_waitKeys (waits : Int -> List ByteArray) (N : Nat) : (waitKeys waits N).Pairwise (fun a b => a < b) := by
 refine List.Pairwise.filter _ (List.pairwise_map.2 (List.pairwise_lt_range.imp (fun h => by omega)))
theorem sort_waitKeys (waits : Int -> List ByteArray) (N : Nat) : (waitKeys waits N).mergeSort leI = waitKeys waits N :=
 List.mergeSort_of_pairwise ((sorted_waitKeys waits N).imp (fun h => by simp only [leI, decide_eq_true_eq]; omega))
theorem PlatesIn.keys {w : World} {L : PL} {safe : List ByteArray} {waits : Int -> List ByteArray} {B : Nat} (h : PlatesIn w L safe waits B) {ss : List Int} (hs : ss.Perm (intKeys L.D)) : ss.mergeSort leI = waitKeys waits safe.length := by
 have hk : ∀ x, x ∈ waitKeys waits safe.length ↔ has L.D (.int .i64 x) = true := fun x => by
  rw [mem_waitKeys]
  constructor
  ·rintro ⟨_, _, hx⟩; exact h.there x hx
  ·intro hx
   have hne : waits x ≠ [] := fun e => by rw [h.absent x e] at hx; cases hx
   exact ⟨(h.dom x hne).1, (h.dom x hne).2, hne⟩
 obtain ⟨es, hD, hpw, _⟩ := h.mapOwn.entries (int_keyed Tryz.underlying3)
 obtain ⟨es', hD', hko⟩ := h.mapOwn.keysOf
 obtain rfl : es = es' := by rw [hD] at hD'; simpa using hD'
 have hp : (waitKeys waits safe.length).Perm (intKeys L.D) := by
  rw [hD] at hk ⊢
  exact perm_intKeys hpw (fun p hp => by obtain ⟨v, hv⟩ := hko p hp; obtain ⟨x, _, hx, _⟩ := Maps.keyOf_i64 Tryz.underlying3 hv; exact ⟨x, hx⟩) ((sorted_waitKeys _ _).imp (fun h => by omega)) hk
 rw [mergeSort_of_perm_i (hs.trans hp.symm), sort_waitKeys]
theorem sortsA (m : Nat) : AnyZI.SortsIn Tryz.prog Tryz.sortedA_ren Fence.wide m :=
 ⟨fun blk off cap ss W hH hblk hsz => callsIn_wide.2 (Tryz.slices_Sort_int blk off cap ss W hH hblk hsz),
  fun p cap W => callsIn_wide.2 (Tryz.slices_Sort_int_none p cap W)⟩
end
section
open Go.RowKit Go.Maps
theorem infoInt : (Tryz.prog.info? 3).map (fun i => (i.zero, i.size, i.bytes)) = some (some (.int .i64 0), 1, 8) := by kernel_rfl
end
section
open Go.RowKit Go.Maps
theorem row_slice {w : World} {base : Nat} {e : TypeId} {v : Value} {n : Nat} {xs : List Value} (h : w.ownsRow base e 1 v n xs) : ∃ sa cap, v = .slice sa n cap /\ ∀ j, j < n -> ∃ g, sa = some ⟨g, 0, none⟩ /\ g < w.heap.size /\ base <= g /\ ∀ i, i < n -> w.cell? ⟨g, i, none⟩ = xs[i]? := by
 rcases Nat.eq_zero_or_pos n with rfl | hn
 ·rcases h.2 with ⟨rfl, _⟩ | ⟨g, cap, cur, rfl, _⟩
  ·exact ⟨none, 0, rfl, fun j hj => by omega⟩
  ·exact ⟨some ⟨g, 0, none⟩, cap, rfl, fun j hj => by omega⟩
 ·obtain ⟨g, cap, rfl, h1, h2⟩ := h.form hn
  exact ⟨some ⟨g, 0, none⟩, cap, rfl, fun j hj => ⟨g, rfl, h2, h1, fun i hi => h.cellAt i (by omega)⟩⟩
end
section
open Go.RowKit Go.Maps
def seenS (safe : List ByteArray) (waits : Int -> List ByteArray) (n : Int) : ByteArray := if waits n = [] then safe.getD n.toNat ⟨#[]⟩ else (waits n).getLastD ⟨#[]⟩
theorem seen_any (p : Nat) (L : PL) (safe : List ByteArray) (waits : Int -> List ByteArray) (B : Nat) (n : Int) (w : World) (h2 : w.cell? ⟨p, 2, none⟩ = some (.slice (some ⟨L.g, 0, none⟩) safe.length L.cap)) (h3 : w.cell? ⟨p, 3, none⟩ = some (.map (some L.m))) (h : PlatesIn w L safe waits B) (h0 : 0 <= n) (h1 : n < safe.length) :
  Calls Tryz.prog 170 #[.pointer (some ⟨p, 2, none⟩), .int .i64 n] w fun e w' => e = .returned (.string (seenS safe waits n)) /\ w' = w := by
 have hm := h.most
 have hlook := h.look n h0 h1 w rfl
 by_cases hn : waits n = []
 ·rw [PL.rowV, if_pos hn] at hlook
  have hlt : n.toNat < safe.length := by omega
  have cn : w.cell? ⟨L.g, n.toNat, none⟩ = some (.string (safe.getD n.toNat ⟨#[]⟩)) := by
   rw [h.safeRow.cellAt n.toNat (by omega)]
   simp [hlt]
  have hs : seenS safe waits n = safe.getD n.toNat ⟨#[]⟩ := by rw [seenS, if_pos hn]
  rw [hs]
  generalize safe.getD n.toNat ⟨#[]⟩ = s at *
  clear h hs hn
  go_enter Tryz.func170, Tryz.ntmps170
  go_wp2
  go_ret
  exact ⟨rfl, rfl⟩
 ·rw [PL.rowV, if_neg hn] at hlook
  have hpos : 0 < (waits n).length := List.length_pos_iff.2 hn
  have hdom := h.rows n hn
  have hmost : (waits n).length <= 9223372036854775807 := by
   obtain ⟨cur, _, h1, h2, _⟩ := row_block hdom
   unfold maxLen at h2; omega
  have cn : w.cell? ⟨L.row n, (waits n).length - 1, none⟩ = some (.string ((waits n).getLastD ⟨#[]⟩)) := by
   rw [hdom.cellAt _ (by omega)]
   rw [List.getElem?_map, <- List.getLast?_eq_getElem?, List.getLast?_eq_some_getLast hn]
   simp [List.getLastD_eq_getLast?, List.getLast?_eq_some_getLast hn]
  have hs : seenS safe waits n = (waits n).getLastD ⟨#[]⟩ := by rw [seenS, if_neg hn]
  rw [hs]
  generalize (waits n).getLastD ⟨#[]⟩ = s at *
  generalize hk : (waits n).length = k at *
  clear h hs hn hdom hk
  have k0 : (0 : Int) < (k : Int) := by omega
  have k1 : ((k : Int) - 1).toNat = k - 1 := by omega
  go_enter Tryz.func170, Tryz.ntmps170
  go_wp2
  go_ret
  exact ⟨rfl, rfl⟩
theorem read_ok_rd (d : DL) (S : DiskS) (n : Int) (w : World) (h : DiskRd w d S) (h0 : 0 <= n) (h1 : n < S.safe.length) :
  Calls Tryz.prog 124 #[.pointer (some ⟨d.p, 0, none⟩), .int .i64 n] w fun e w' => ∃ b c, e = .returned (.tuple #[.slice (some ⟨b, 0, none⟩) (seenS S.safe S.waits n).size c, .int .i64 0]) /\ w.heap.size <= b /\ bytesAt w' ⟨b, 0, none⟩ (seenS S.safe S.waits n).data.toList /\ Below w.heap.size w w' := by
 have c2 : w.cell? ⟨d.p, 2, none⟩ = some (.slice (some ⟨d.L.g, 0, none⟩) S.safe.length d.L.cap) := by rw [cell_of_block h.heap]; rfl
 have c3 : w.cell? ⟨d.p, 3, none⟩ = some (.map (some d.L.m)) := by rw [cell_of_block h.heap]; rfl
 have HD := hid (decide_eq_true (And.intro h0 h1))
 have HC2 := hid c2
 have HS := hid (seen_any d.p d.L S.safe S.waits S.ops.length n w c2 c3 h.plates h0 h1)
 clear h c2 c3
 generalize seenS S.safe S.waits n = s at *
 have hconv := fun W => run_bytes_of_string (P := Tryz.prog) W 124 42 5 s Tryz.underlying124 Tryz.underlying42 Tryz.underlying5
 go_enter Tryz.func124, Tryz.ntmps124
 go_wp2_with fail
 refine (has_any d.p 2 _ _ _ _ _ HC2.out).mono ?_
 rintro e w9 ⟨rfl, h9⟩
 obtain rfl := h9.symm
 rw [HD.out]
 go_wp2_with fail
 refine HS.out.mono ?_
 rintro e w9 ⟨rfl, h9⟩
 obtain rfl := h9.symm
 go_wp2
 go_returns
 refine ⟨w.heap.size, grownCap w s.size 0 5, rfl, Nat.le_refl _, fun j hj => ?_, ((Below.refl _ w).alloc (Nat.le_refl _) _).drew⟩
 have hj' : j < s.data.size := by simpa using hj
 rw [Addr.add_mid, Nat.zero_add]
 refine (cell_of_block (block_new w _) j).trans ?_
 rw [bytesRow_at s _ j hj']
 simp
end
section
open Go.RowKit
def deedLen (l : Int) : Nat := if 0 <= l /\ l <= 600 then l.toNat else 512
theorem infoU8 : (Tryz.prog.info? 5).map (fun i => (i.zero, i.size, i.bytes)) = some (some (.int .u8 0), 1, 1) := by kernel_rfl
theorem madeU8 (n : Nat) : madeCells (Value.int .u8 0).cells (n * 1) = (List.replicate n (Value.int .u8 0)).toArray := by
 apply Array.ext
 ·simp [madeCells]
 ·intro i h1 h2
  simp [madeCells, Value.cells, Nat.mod_one]
theorem wpList_make_u8 {w : World} {ops : Array Oper} {rest : List Oper} {o : Oper} {a : Act} {Q : Exit -> Act -> World -> Prop} (hg : o.guard = none) (l c : Operand) (hop : o.op = Op.makeSlice 42 l c)
  (n : Nat) (x : Int) (hx : x = n) (hl : a.eval l = .int .i64 x) (hc : a.eval c = .int .i64 x) (hm : n <= 4096)
  (h : ∀ w1 : World, Below w.heap.size w w1 -> w1.heap[w.heap.size]? = some (.cells (List.replicate n (Value.int .u8 0)).toArray 5 (0, 0)) -> w1.heap.size = w.heap.size + 1 ->
   wpList Tryz.prog ops Q rest (a.put o.dst (.slice (some ⟨w.heap.size, 0, none⟩) n n)) w1) : wpList Tryz.prog ops Q (o :: rest) a w := by
 subst hx
 obtain ⟨i, hi, hz, hs, hb⟩ := info_parts infoU8
 refine wpList_plain hg fun K hK' => ?_
 have hrun := run_make (P := Tryz.prog) w 42 5 i (.int .u8 0) Tryz.underlying42 hi hz .i64 .i64 n n (by omega) (by omega) (by rw [hb]; omega) (by omega)
 unfold Oper.wp
 simp only [Int.toNat_natCast, hs, madeU8] at hrun
 generalize (List.replicate n (Value.int .u8 0)).toArray = Z at *
 simp [execOp, hop, hl, hc, hrun, Result.andThen]
 exact hK' _ _ (h _ ((Below.refl _ _).alloc (Nat.le_refl _) _) (block_new _ _) (by simp))
end
section
open Go.RowKit Go.Maps
def fullS (n : Nat) (x : Int) : List UInt8 := List.replicate n (UInt8.ofNat x.toNat)
end
section
open Go.RowKit
theorem below_drewN' {K : Nat} {w w' : World} (h : Below K w w') (n : Nat) : Below K w (w'.drewN n) := ⟨h.os, h.tape, h.output, h.size, h.block⟩
def intsAt (w : World) (a : Option Addr) (xs : List Int) : Prop := ∀ j, j < xs.length -> ∃ b o, a = some ⟨b, o, none⟩ /\ ∀ i (hi : i < xs.length), w.cell? ⟨b, o + i, none⟩ = some (.int .i64 xs[i])
def bytesIn (w : World) (a : Option Addr) (l : List UInt8) : Prop := ∀ j, j < l.length -> ∃ b o, a = some ⟨b, o, none⟩ /\ ∀ i (hi : i < l.length), w.cell? ⟨b, o + i, none⟩ = some (.int .u8 (l[i].toNat : Int))
theorem intsAt.below {w w' : World} {a : Option Addr} {xs : List Int} (h : intsAt w a xs) (hb : Below w.heap.size w w') : intsAt w' a xs := fun j hj => by
 obtain ⟨b, o, e, hc⟩ := h j hj
 exact ⟨b, o, e, fun i hi => by rw [hb.cell (p := ⟨b, o + i, none⟩) (World.block_lt_of_cell? w _ (hc i hi))]; exact hc i hi⟩
theorem bytesIn.below {w w' : World} {a : Option Addr} {l : List UInt8} (h : bytesIn w a l) (hb : Below w.heap.size w w') : bytesIn w' a l := fun j hj => by
 obtain ⟨b, o, e, hc⟩ := h j hj
 exact ⟨b, o, e, fun i hi => by rw [hb.cell (p := ⟨b, o + i, none⟩) (World.block_lt_of_cell? w _ (hc i hi))]; exact hc i hi⟩
theorem take_next {α : Type} {a b : List α} {k : Nat} (ha : k < a.length) (hb : k < b.length) (h : a.take k = b.take k) (hx : a[k] = b[k]) : a.take (k + 1) = b.take (k + 1) := by
 rw [List.take_succ_eq_append_getElem ha, List.take_succ_eq_append_getElem hb, h, hx]
theorem toNat_u8_inj {x y : UInt8} (h : (x.toNat : Int) = (y.toNat : Int)) : x = y := UInt8.toNat_inj.1 (by omega)
theorem same_bytes (xs ys : List UInt8) (u v : Option Addr) (c c' : Nat) (w : World) (ha : bytesIn w u xs) (hb : bytesIn w v ys) (hn : xs.length < 4611686018427387904) :
  Calls Tryz.prog 19 #[.slice u xs.length c, .slice v ys.length c'] w fun e w' => e = .returned (.bool (decide (xs = ys))) /\ Below w.heap.size w w' := by
 have HA := hid ha
 have HB := hid hb
 clear ha hb
 by_cases hl : xs.length = ys.length
 ·have hne : ((xs.length : Int) != (ys.length : Int)) = false := by rw [bne_eq_false_iff_eq]; omega
  have HL := hid hl
  go_enter Tryz.func19, Tryz.ntmps19
  go_wp2
  go_loopw [5] (fun i wr => ∃ k : Nat, k <= xs.length /\ i = .int .i64 k /\ Hid (xs.take k = ys.take k) /\ Hid (Below w.heap.size w wr)) (fun i _ => xs.length - (intOf i).toNat)
  case atStart => exact ⟨0, by omega, rfl, rfl, Below.refl _ _⟩
  case round =>
   obtain ⟨k, hk, rfl, ht, hB⟩ := hrel
   by_cases hlt : k < xs.length
   ·have hlt2 : k < ys.length := by rw [<- HL.out]; exact hlt
    obtain ⟨b0, o0, rfl, hc0⟩ := HA.out k hlt
    obtain ⟨b1, o1, rfl, hc1⟩ := HB.out k hlt2
    have d0 : wr.cell? ⟨b0, o0 + k, none⟩ = some (.int .u8 (xs[k].toNat : Int)) := (World.cell?_of_block (w := w) (hB.out.block b0 (World.block_lt_of_cell? w _ (hc0 k hlt)))).trans (hc0 k hlt)
    have d1 : wr.cell? ⟨b1, o1 + k, none⟩ = some (.int .u8 (ys[k].toNat : Int)) := (World.cell?_of_block (w := w) (hB.out.block b1 (World.block_lt_of_cell? w _ (hc1 k hlt2)))).trans (hc1 k hlt2)
    have hi0 : (0 : Int) <= (k : Int) := by omega
    have hi1 : (k : Int) < (xs.length : Int) := by omega
    have hi2 : (k : Int) < (ys.length : Int) := by rw [<- HL.out]; omega
    by_cases hx : xs[k] = ys[k]
    ·have HT := hid (take_next hlt hlt2 ht.out hx)
     rw [<- hx] at d1
     generalize xs[k] = x at *
     clear hc0 hc1 hx
     have hq : ((x.toNat : Int) != (x.toNat : Int)) = false := by simp
     go_wp2
     go_quiet (fail)
     go_wp2
     go_roundw
     case rel => exact ⟨k + 1, by omega, by go_num, HT, by first | exact hB.out.drew | exact below_drewN' hB.out _⟩
     case measure => simp [intOf]; omega
    ·have HF : Hid (decide (xs = ys) = false) := decide_eq_false (fun e => hx (by subst e; rfl))
     have hq : ((xs[k].toNat : Int) != (ys[k].toNat : Int)) = true := by rw [bne_iff_ne]; exact fun e => hx (toNat_u8_inj e)
     generalize xs[k] = x at *
     generalize ys[k] = y at *
     clear hc0 hc1 hx
     go_wp2
     go_quiet (fail)
     go_wp2
     go_ret
     exact ⟨by rw [HF.out]; rfl, by first | exact hB.out.drew | exact below_drewN' hB.out _⟩
   ·have hge : ¬ ((k : Int) < (xs.length : Int)) := by omega
    have HF : Hid (decide (xs = ys) = true) := decide_eq_true (by
     have := ht.out
     rwa [List.take_of_length_le (by omega), List.take_of_length_le (by rw [<- HL.out]; omega)] at this)
    go_wp2
    go_ret
    exact ⟨by rw [HF.out]; rfl, hB.out⟩
 ·have hne : ((xs.length : Int) != (ys.length : Int)) = true := by rw [bne_iff_ne]; omega
  have HF : Hid (decide (xs = ys) = false) := decide_eq_false (fun e => hl (by rw [e]))
  go_enter Tryz.func19, Tryz.ntmps19
  go_wp2
  go_ret
  exact ⟨by rw [HF.out]; rfl, Below.refl _ _⟩
end
section
open Go.RowKit
def imgS (S : DiskS) : List ByteArray := (List.range S.safe.length).map (fun n : Nat => seenS S.safe S.waits (n : Int))
theorem length_imgS (S : DiskS) : (imgS S).length = S.safe.length := by simp [imgS]
theorem imgS_at (S : DiskS) (k : Nat) (h : k < (imgS S).length) : (imgS S)[k] = seenS S.safe S.waits (k : Int) := by simp [imgS]
end
section
open Go.RowKit
theorem below_undrew {K : Nat} {w w' : World} (h : Below K w.drew w') : Below K w w' := ⟨h.os, h.tape, h.output, h.size, h.block⟩
variable {w0 w wa wb : World} {bx bY : Nat} {X Y : Array Value} {d1 d2 d1' : DL} {S1 S2 S1' : DiskS}
end
section
open Go.RowKit
def rowsAt (w : World) (a : Option Addr) (L : List (List UInt8)) : Prop := ∀ j, j < L.length -> ∃ b o, a = some ⟨b, o, none⟩ /\ ∀ i (hi : i < L.length), ∃ a' c', w.cell? ⟨b, o + i, none⟩ = some (.slice a' (L[i]).length c') /\ bytesIn w a' L[i]
theorem rowsAt.below {w w' : World} {a : Option Addr} {L : List (List UInt8)} (h : rowsAt w a L) (hb : Below w.heap.size w w') : rowsAt w' a L := fun j hj => by
 obtain ⟨b, o, e, hc⟩ := h j hj
 refine ⟨b, o, e, fun i hi => ?_⟩
 obtain ⟨a', c', h1, h2⟩ := hc i hi
 exact ⟨a', c', by rw [hb.cell (p := ⟨b, o + i, none⟩) (World.block_lt_of_cell? w _ h1)]; exact h1, h2.below hb⟩
def rowsFrom (w : World) (lo : Nat) (a : Option Addr) (L : List (List UInt8)) : Prop := ∀ j, j < L.length -> ∃ b o, a = some ⟨b, o, none⟩ /\ lo <= b /\ ∀ i (hi : i < L.length), ∃ a' c', w.cell? ⟨b, o + i, none⟩ = some (.slice a' (L[i]).length c') /\ bytesIn w a' L[i] /\ ∀ ad, a' = some ad -> lo <= ad.block
theorem rowsFrom.at {w : World} {lo : Nat} {a : Option Addr} {L : List (List UInt8)} (h : rowsFrom w lo a L) : rowsAt w a L := fun j hj => by
 obtain ⟨b, o, e, _, hc⟩ := h j hj
 exact ⟨b, o, e, fun i hi => by obtain ⟨a', c', h1, h2, _⟩ := hc i hi; exact ⟨a', c', h1, h2⟩⟩
theorem rowsFrom.keep {w w' : World} {lo : Nat} {a : Option Addr} {L : List (List UInt8)} {G : Nat -> Prop} (h : rowsFrom w lo a L) (k : Keeps G w w') (hG : ∀ i, G i -> i < lo) : rowsFrom w' lo a L := fun j hj => by
 obtain ⟨b, o, e, hb, hc⟩ := h j hj
 refine ⟨b, o, e, hb, fun i hi => ?_⟩
 obtain ⟨a', c', h1, h2, h3⟩ := hc i hi
 refine ⟨a', c', k.cell h1 (fun e => by have e2 := hG b e; omega), fun q hq => ?_, h3⟩
 obtain ⟨b2, o2, e2, hc2⟩ := h2 q hq
 exact ⟨b2, o2, e2, fun z hz => k.cell (hc2 z hz) (fun e => by have := hG b2 e; have := h3 _ e2; simp at this; omega)⟩
theorem rowsFrom.below {w w' : World} {lo : Nat} {a : Option Addr} {L : List (List UInt8)} (h : rowsFrom w lo a L) (hb : Below w.heap.size w w') : rowsFrom w' lo a L := h.keep (G := fun _ => False) (Keeps.of_below hb) (fun _ e => e.elim)
theorem bytesIn_of_at {w : World} {b : Nat} {l : List UInt8} (h : bytesAt w ⟨b, 0, none⟩ l) : bytesIn w (some ⟨b, 0, none⟩) l := fun _ _ => ⟨b, 0, rfl, fun i hi => by
 have := h i hi
 rwa [Addr.add_mid] at this⟩
def bytesOf (L : List ByteArray) : List (List UInt8) := L.map (fun s => s.data.toList)
theorem length_bytesOf (L : List ByteArray) : (bytesOf L).length = L.length := by simp [bytesOf]
theorem bytesRow_cells (s : ByteArray) (cap : Nat) : ∀ j (hj : j < s.data.toList.length), (bytesRow s cap)[j]? = some (.int .u8 (s.data.toList[j].toNat : Int)) := fun j hj => by
 rw [bytesRow_at s cap j (by simpa using hj)]; simp
end
section
open Go.RowKit Go.Maps
def mixS (safe : List ByteArray) (waits : Int -> List ByteArray) (left : Lit -> Bool) : List ByteArray :=
 (List.range safe.length).map (fun n : Nat => if left (.int .i64 (n : Int)) then safe.getD n ⟨#[]⟩ else seenS safe waits (n : Int))
theorem length_mixS (safe : List ByteArray) (waits : Int -> List ByteArray) (left : Lit -> Bool) : (mixS safe waits left).length = safe.length := by simp [mixS]
theorem mixS_start {w : World} {L : PL} {safe : List ByteArray} {waits : Int -> List ByteArray} {B : Nat} (h : PlatesIn w L safe waits B) : mixS safe waits (Maps.has L.D) = safe := by
 apply List.ext_getElem (length_mixS _ _ _)
 intro n h1 h2
 simp only [mixS, List.getElem_map, List.getElem_range]
 by_cases hw : waits (n : Int) = []
 ·rw [h.absent _ hw]; simp [seenS, hw, h2]
 ·rw [h.there _ hw]; simp [h2]
theorem mixS_end (safe : List ByteArray) (waits : Int -> List ByteArray) (left : Lit -> Bool) (h : ∀ kl, left kl = false) : mixS safe waits left = (List.range safe.length).map (fun n : Nat => seenS safe waits (n : Int)) := by
 unfold mixS
 refine List.map_congr_left (fun n _ => ?_)
 rw [h]; rfl
theorem mixS_step (safe : List ByteArray) (waits : Int -> List ByteArray) (left : Lit -> Bool) (x : Int) (h0 : 0 <= x) :
  mixS safe waits (fun z => left z && !z.sameKey (.int .i64 x)) = (mixS safe waits left).set x.toNat (seenS safe waits x) := by
 apply List.ext_getElem (by simp [length_mixS])
 intro n h1 h2
 rw [List.getElem_set]
 simp only [mixS, List.getElem_map, List.getElem_range]
 by_cases e : x.toNat = n
 ·have ex : (n : Int) = x := by omega
  rw [if_pos e, ex]
  simp [Lit.sameKey]
 ·have ex : ¬ (n : Int) = x := by omega
  rw [if_neg e]
  simp [Lit.sameKey, ex]
theorem seen_mix (safe : List ByteArray) (waits : Int -> List ByteArray) (other : List ByteArray) (x : Int) (h : waits x ≠ []) : seenS other waits x = seenS safe waits x := by
 simp [seenS, h]
theorem PlatesIn.store {w : World} {L : PL} {safe : List ByteArray} {waits : Int -> List ByteArray} {B : Nat} (h : PlatesIn w L safe waits B) (k : Nat) (s : ByteArray) : PlatesIn (w.setCell ⟨L.g, k, none⟩ (.string s)) L (safe.set k s) waits B := by
 obtain ⟨es, mc, hmb⟩ := map_block h.mapOwn
 obtain ⟨gc, hgb, _⟩ := row_block h.safeRow
 have hmg : L.m ≠ L.g := fun e => by rw [e, hgb] at hmb; cases hmb
 obtain ⟨h1, h2⟩ := h.safeRow.stored k (.string s)
 have K : Keeps (fun i => i = L.g) w (w.setCell ⟨L.g, k, none⟩ (.string s)) := Keeps.of_grown h2 (fun i e => (Option.some.inj e).symm)
 have hl : (safe.set k s).length = safe.length := by simp
 refine ⟨?_, K.map h.mapOwn hmg, h.absent, h.there, h.held, fun n hn => K.row (h.rows n hn) (fun i hi => by rw [<- Option.some.inj hi]; exact h.off n hn), h.off, h.apart, h.len, fun n hn => by rw [hl]; exact h.dom n hn, by rw [hl]; exact h.pos, by rw [hl]; exact h.most⟩
 rw [hl]
 simpa [strs, List.map_set] using h1
theorem PlatesIn.moreB {w : World} {L : PL} {safe : List ByteArray} {waits : Int -> List ByteArray} {B B' : Nat} (h : PlatesIn w L safe waits B) (hB : B <= B') : PlatesIn w L safe waits B' :=
 ⟨h.safeRow, h.mapOwn.mono hB, h.absent, h.there, h.held, h.rows, h.off, h.apart, fun n => Nat.le_trans (h.len n) hB, h.dom, h.pos, h.most⟩
theorem run_clear {w : World} {m : Nat} {es : Array MapEntry} {clock : Nat} (hb : w.heap[m]? = some (.map es clock)) : ∃ w', (∀ ty, (Builtin.clear_ #[190] ty #[.map (some m)]).run Tryz.prog w = .ok (.tuple #[]) w') /\ w'.heap[m]? = some (.map #[] clock) /\ w.grownBy w' (some m) := by
 refine ⟨{ w with heap := w.heap.setIfInBounds m (.map #[] clock) }, fun ty => ?_, ?_, ⟨rfl, rfl, rfl, by simp, fun k _ hk => ?_⟩⟩
 ·simp [Builtin.clear_, run_underlying Tryz.underlying190, MapKept.run_getObj_map hb, MapKept.run_setObj_map _ hb, Result.andThen]
 ·simp [lt_of_heap hb]
 ·have hne : m ≠ k := fun e => hk (by rw [e])
  simp [hne]
theorem PlatesIn.cleared {w w' : World} {L : PL} {safe : List ByteArray} {waits : Int -> List ByteArray} {B clock : Nat} (h : PlatesIn w L safe waits B) (hm : w'.heap[L.m]? = some (.map #[] clock)) (hg : w.grownBy w' (some L.m)) : PlatesIn w' { L with D := .map [] } safe (fun _ => []) 0 := by
 obtain ⟨es, mc, hmb⟩ := map_block h.mapOwn
 obtain ⟨gc, hgb, _⟩ := row_block h.safeRow
 have hmg : L.g ≠ L.m := fun e => by rw [<- e, hgb] at hmb; cases hmb
 exact ⟨h.safeRow.kept hg (.inr (fun e => hmg (by simpa [Value.ownBlock] using e))), ⟨#[], clock, hm, ⟨by simp, MapKept.stamped_empty _, by simp⟩, Nat.le_refl _, rfl⟩, fun _ _ => rfl, fun n hn => absurd rfl hn, fun n hn => absurd rfl hn, fun n hn => absurd rfl hn, fun n hn => absurd rfl hn, fun n n' hn => absurd rfl hn, fun n => Nat.le_refl _, fun n hn => absurd rfl hn, h.pos, h.most⟩
theorem assert_flush_no (W : World) (v : Value) : (Instr.typeAssert (.iface 231 v) 240 229 true).run Tryz.prog W = .ok (.tuple #[.agg #[.int .i64 0, .string ⟨#[]⟩], .bool false]) W := by kernel_rfl
theorem assert_flush (W : World) (v : Value) : (Instr.typeAssert (.iface 231 v) 240 231 true).run Tryz.prog W = .ok (.tuple #[v, .bool true]) W := by kernel_rfl
theorem do_flush (p : Nat) (fv ov : Value) (L : PL) (safe : List ByteArray) (waits : Int -> List ByteArray) (B : Nat) (w : World)
  (hp : w.heap[p]? = some (.cells #[fv, ov, .slice (some ⟨L.g, 0, none⟩) safe.length L.cap, .map (some L.m)] 196 (0, 0))) (h : PlatesIn w L safe waits B) :
  Calls Tryz.prog 185 #[.pointer (some ⟨p, 2, none⟩), .iface 231 (.agg #[])] w fun e w' => e = .returned (.tuple #[]) /\
   PlatesIn w' { L with D := .map [] } ((List.range safe.length).map (fun n : Nat => seenS safe waits (n : Int))) (fun _ => []) 0 /\ Keeps (L.foot waits) w w' := by
 have c3 : w.cell? ⟨p, 3, none⟩ = some (.map (some L.m)) := by rw [cell_of_block hp]; rfl
 have hta := assert_flush_no
 have htb := assert_flush
 have HP := hid hp
 have H := hid h
 have hplt := lt_of_heap hp
 clear hp h
 go_enter Tryz.func185, Tryz.ntmps185
 go_wp2_with (first
  | (at_range; refine wpList_range_own _ rfl (.tmp 34) 190 rfl 3 127 (int_keyed Tryz.underlying3) Tryz.underlying190 selfElem L.m B L.D rfl (H.out.mapOwn.alloc _) ?_; intro w0 hrg0 hg0 hs0)
  | go_in)
 go_frame
 have HFt : Hid (∀ i, L.foot waits i -> i < w.heap.size) := fun i hi => H.out.foot_lt hi
 have HPF := hid (H.out.foot_other HP.out (by decide))
 have hKa : Keeps (fun i => i = L.g) w w0 := (Keeps.of_below ((Below.refl _ _).alloc (Nat.le_refl _) _)).grown hg0 (fun i e => by cases e)
 have HK0 := hid hKa
 have HPl0 : Hid (PlatesIn w0 L (mixS safe waits (Maps.has L.D)) waits B) := by
  have h1 : PlatesIn w0 L safe waits B := H.out.keep (G := fun _ => False) ((Keeps.of_below ((Below.refl _ _).alloc (Nat.le_refl _) _)).grown hg0 (fun i e => by cases e)) (fun _ _ e => e)
  show PlatesIn w0 L _ waits B
  rw [mixS_start H.out]; exact h1
 have HRg0 := hid hrg0
 have hr0 : (w.alloc (.cells #[] 231)).heap.size = w.heap.size + 1 := by simp
 rw [hr0] at HRg0 ⊢
 clear hrg0 hg0 hs0 hKa hr0 hta htb c3
 have HHas : Hid (∀ x, Maps.has L.D (.int .i64 x) = true -> waits x ≠ []) := fun x hx e => by rw [H.out.absent x e] at hx; cases hx
 have HDom := hid H.out.dom
 have HMost := hid H.out.most
 clear H
 go_loopw [6] (fun _ wr => ∃ (left : Lit -> Bool) (cnt : Nat), Hid (wr.ranges Tryz.prog 3 selfElem L.m (w.heap.size + 1) B L.D left cnt) /\ Hid (PlatesIn wr L (mixS safe waits left) waits B) /\ Hid (Keeps (fun i => i = L.g) w wr)) (fun _ wr => wr.rangeLeft L.m (w.heap.size + 1))
 case atStart => exact ⟨_, _, HRg0, HPl0, HK0⟩
 case round =>
  obtain ⟨left, cnt, hrg, hPl, hK⟩ := hrel
  clear HRg0 HPl0 HK0
  have hpr := hK.out.heap HP.out (fun e => HPF.out (.inl e))
  have HPr := hid hpr
  clear hpr
  go_wp2_with (first
   | (at_next; refine wpList_next_ranges _ rfl (.tmp 35) rfl 3 (int_keyed Tryz.underlying3) selfElem encZ id (fun key kl hk => by obtain ⟨x, hx, _⟩ := Maps.keyOf_i64 Tryz.underlying3 hk; exact ⟨x, hx⟩) (fun v _ _ => ⟨v, rfl⟩) L.m (w.heap.size + 1) B _ _ _ rfl hrg.out ?_ ?_)
   | go_in)
  ·-- nothing is left
   intro hc0 hl0
   obtain ⟨es, clock, hmb⟩ := map_block hPl.out.mapOwn
   obtain ⟨w9, hclear, hm9, hg9⟩ := run_clear hmb
   have c3 : wr.cell? ⟨p, 3, none⟩ = some (.map (some L.m)) := by rw [cell_of_block HPr.out]; rfl
   have HC := hid (hPl.out.cleared hm9 hg9)
   have HM := hid (mixS_end safe waits left hl0)
   have HKe : Hid (Keeps (L.foot waits) w w9) := (hK.out.mono (fun i e => .inl e)).grown hg9 (fun i e => .inl (.inr (.inl (Option.some.inj e).symm)))
   clear hm9 hg9 hmb hl0 hc0 hrg hPl hK HPr
   go_wp2
   go_end0
   refine ⟨rfl, ?_, HKe.out⟩
   have := HC.out
   rwa [HM.out] at this
  ·-- a sector has come
   intro x c kl yd yp w2 cnt2 hkey hlk hv hat hrg2 hlt hg2 hs2 hen
   obtain ⟨x', ex, rfl, _⟩ := Maps.keyOf_i64 Tryz.underlying3 hkey
   obtain rfl : x = x' := encZ_inj ex
   have hne : waits x ≠ [] := HHas.out x (has_true_of_atKey hat)
   obtain ⟨hx0, hx1⟩ := HDom.out x hne
   have hPl2 : PlatesIn w2 L (mixS safe waits left) waits B := hPl.out.keep (Keeps.of_grown hg2 (fun i e => e)) (fun i hi e => by have := HFt.out i hi; have := Option.some.inj e; omega)
   have hK2 : Keeps (fun i => i = L.g) w w2 := hK.out.grown hg2 (fun i e => .inr (by have := Option.some.inj e; omega))
   have hp2 := hK2.heap HP.out (fun e => HPF.out (.inl e))
   have HP2 := hid hp2
   have hml := length_mixS safe waits left
   have hmx := HMost.out
   have HSeen := hid (seen_any p L (mixS safe waits left) waits B x w2.drew (by rw [hml]; exact cell_of_block hp2 2) (cell_of_block hp2 3) (hPl2.keep (G := fun _ => False) (Keeps.refl _ _).drew (fun _ _ e => e)) hx0 (by rw [hml]; exact hx1))
   rw [seen_mix safe waits (mixS safe waits left) x hne] at HSeen
   have HSt := hid (fun s => hPl2.store x.toNat s)
   have HPl2 := hid hPl2
   have HK2 := hid hK2
   have HRg := hid hrg2
   have HMs := hid (mixS_step safe waits left x hx0)
   have HLt : Hid (cnt2 < cnt) := hlt
   have HGm : Hid (L.m ≠ L.g) := fun e => by
    obtain ⟨es, mc, hmb⟩ := map_block hPl2.mapOwn
    obtain ⟨gc, hgb, _⟩ := row_block hPl2.safeRow
    rw [e, hgb] at hmb; cases hmb
   have HGl : Hid (L.g < w.heap.size) := HFt.out _ (.inl rfl)
   have hxt : x.toNat < (mixS safe waits left).length := by rw [hml]; omega
   obtain ⟨old, cl⟩ : ∃ o, w2.cell? ⟨L.g, x.toNat, none⟩ = some o := ⟨.string ((mixS safe waits left)[x.toNat]), by
    rw [hPl2.safeRow.cellAt _ (by omega)]; simp [hxt]⟩
   have fl : w2.frozen? ⟨L.g, x.toNat, none⟩ = false := hPl2.safeRow.frozenAt _
   clear hPl2 hK2 hp2 hrg2 hkey hlk hv hat hlt hs2 hne hPl HPr hxt ex
   generalize seenS safe waits x = s at *
   go_wp2
   refine wp_region_noPanic ?_
   refine wp_region_held_drew (S := fun W => W.cell? ⟨p, 2, none⟩ = some (.slice (some ⟨L.g, 0, none⟩) safe.length L.cap)) (by kernel_rfl) (cell_of_block HP2.out 2) (fun hHeld => ?_)
   refine tq 0 _ ?_
   try simp only [tS]
   refine tq 1 _ ?_
   try simp only [tS]
   refine tq 2 _ ?_
   try simp only [tS]
   refine tq 3 _ ?_
   try simp only [tS]
   refine tq 4 _ ?_
   try simp only [tS]
   refine tq 5 _ ?_
   try simp only [tS]
   refine tq 6 _ ?_
   try simp only [tS]
   refine wpAnyH_ready (rs := [7]) (by kernel_rfl) (by simp) (AllReadyH.cons rfl (fun K hK => ?_) AllReadyH.nil)
   rw [if_pos (by rfl)]
   go_simp
   refine HSeen.out.mono ?_
   clear HSeen
   rintro e w9 ⟨rfl, h9⟩
   obtain rfl := h9.symm
   go_wp2_with fail
   refine hK.out _ _ hHeld (fun hHeld => ?_)
   clear hK K
   try simp only [tS]
   refine tq 8 _ ?_
   try simp only [tS]
   refine wpAnyH_ready (rs := [9]) (by kernel_rfl) (by simp) (AllReadyH.cons rfl (fun K hK => ?_) AllReadyH.nil)
   rw [if_pos (by rfl)]
   unfold Oper.wp
   go_simp
   have HPg : Hid (p ≠ L.g) := fun e => HPF.out (.inl e)
   have hgs := grown_setCell (grown_refl w2 (some L.g)) x.toNat (.string s)
   have HR3 := hid (HRg.out.kept hgs (fun e => HGm.out (Option.some.inj e)) (fun e => by have := HGl.out; have := Option.some.inj e; omega))
   have HP3 : Hid (PlatesIn (w2.setCell ⟨L.g, x.toNat, none⟩ (.string s)) L (mixS safe waits (fun z => left z && !z.sameKey (.int .i64 x))) waits B) := by
    show PlatesIn _ L _ waits B
    rw [HMs.out]; exact HSt.out s
   have HK3 := hid (HK2.out.grown hgs (fun i e => .inl (Option.some.inj e).symm))
   clear hgs HSt HMs HK2 HPl2 cl fl
   have hp3 : (w2.setCell ⟨L.g, x.toNat, none⟩ (.string s)).heap[p]? = some (.cells #[fv, ov, .slice (some ⟨L.g, 0, none⟩) safe.length L.cap, .map (some L.m)] 196 (0, 0)) := by rw [block_setCell_other _ _ HPg.out]; exact HP2.out
   have hq3 : (w2.setCell ⟨L.g, x.toNat, none⟩ (.string s)).drew.cell? ⟨p, 2, none⟩ = some (.slice (some ⟨L.g, 0, none⟩) safe.length L.cap) := cell_of_block hp3 2
   refine hK.out _ _ hq3 (fun hHeld => ?_)
   clear hp3 hq3
   clear hK K hHeld
   generalize w2.setCell ⟨L.g, x.toNat, none⟩ (.string s) = w3 at *
   refine wpAnyH_done (by kernel_rfl) ?_ _
   refine NoPanic.normal ?_
   go_wp2
   refine ⟨⟨(fun z => left z && !z.sameKey (.int .i64 x)), cnt2, HR3.out, HP3.out.keep (G := fun _ => False) (Keeps.refl _ _).drew (fun _ _ e => e), HK3.out.drew⟩, ?_⟩
   have h1 : w3.drew.rangeLeft L.m (w.heap.size + 1) = cnt2 := HR3.out.left_eq
   rw [h1, hrg.out.left_eq]
   exact HLt.out
end
section
open Go.RowKit Go.Maps
def DiskS.flushed (S : DiskS) : DiskS := { S with ops := S.ops ++ [.flush], safe := imgS S, waits := fun _ => [] }
theorem note_flush (d : DL) (S : DiskS) (w : World) (h : DiskIn w d S) (hB : S.ops.length < opsMax) :
  Calls Tryz.prog 172 #[.pointer (some ⟨d.p, 0, none⟩), .iface 231 (.agg #[])] w fun e w' => e = .returned (.tuple #[]) /\
   ∃ d', DiskIn w' d' (S.flushed) /\ d'.p = d.p /\ d'.fv = d.fv /\ (∀ i, d'.foot (S.flushed).waits i -> d.foot S.waits i \/ w.heap.size <= i) /\ Keeps (d.foot S.waits) w w' := by
 have c1 : w.cell? ⟨d.p, 1, none⟩ = some d.ov := by rw [cell_of_block h.heap]; rfl
 have hlt := lt_of_heap h.heap
 obtain ⟨i0, hi, hz0, hz1, hz2⟩ := info_parts infoOp
 have HI := hid hi
 have H := hid h
 have HL := hid (opsMax_len hB)
 clear hi h
 go_enter Tryz.func172, Tryz.ntmps172
 go_wp2_with (refine wpList_append_lies _ rfl (.tmp 8) (.tmp 10) 194 rfl 0 240 i0 .nilIface 1 16 Tryz.underlying194 HI.out hz0 hz1 hz2 rfl (by omega) d.ov S.ops.length (S.ops.map encOp) rfl (H.out.ops.alloc _) ⟨w.heap.size, 0, none⟩ 1 1 [encOp .flush] rfl rfl (World.news_of_block (cs := #[encOp .flush]) (block_new w _)) (by intro u hu; rw [List.mem_singleton.1 hu]; rfl) (by omega) HL.out.1 HL.out.2.1 (Nat.zero_le _) (w.heap.size + 1) (by simp) ?_; intro g cap w1 hown hgr hat hlt1; have HO := hid hown; have HG := hid hgr; have HA := hid hat; have HP1 := hid ((hgr.block d.p (by simp; omega) (fun e => (H.out.ops_off e.symm).2 rfl)).trans (block_alloc H.out.heap _)); have f1 : w1.cell? ⟨d.p, 1, none⟩ = some d.ov := cell_of_block HP1.out 1; have f2 : w1.frozen? ⟨d.p, 1, none⟩ = false := frozen_of_block HP1.out 1; clear hown hgr hat hlt1)
 have K1 : Keeps (fun i => d.ov.ownBlock = some i) w w1 := (Keeps.of_below ((Below.refl _ _).alloc (Nat.le_refl _) _)).trans (Keeps.of_grown HG.out (fun i e => e)) (fun i e => .inl e)
 have K2 : Keeps (fun i => d.ov.ownBlock = some i \/ i = d.p) w (w1.setCell ⟨d.p, 1, none⟩ (.slice (some ⟨g, 0, none⟩) (S.ops.length + 1) cap)) :=
  (K1.mono (fun _ => .inl)).grown (grown_setCell (grown_refl w1 (some d.p)) 1 _) (fun i e => .inl (.inr (Option.some.inj e).symm))
 have HK2 := hid K2
 have hP2 := block_setCell HP1.out 1 (.slice (some ⟨g, 0, none⟩) (S.ops.length + 1) cap)
 have HP2 := hid hP2
 have hgp : g ≠ d.p := by
  obtain ⟨cur, hc⟩ := row_type HO.out rfl
  refine ne_of_heap hc HP1.out (fun e => ?_)
  simp only [Obj.cells.injEq] at e
  exact absurd e.2.1 (by decide)
 have HO2 := hid (HO.out.kept (grown_setCell (grown_refl w1 (some d.p)) 1 (.slice (some ⟨g, 0, none⟩) (S.ops.length + 1) cap)) (.inr (fun e => hgp (by simpa [Value.ownBlock] using e))))
 have HPL := hid (H.out.plates.keep HK2.out (fun i hi e => by
  rcases e with e | e
  ·exact (H.out.ops_off e).1 hi
  ·exact H.out.p_off (e ▸ hi)))
 clear K1 K2 hP2 f1 f2 HO hgp
 generalize hW : w1.setCell ⟨d.p, 1, none⟩ (.slice (some ⟨g, 0, none⟩) (S.ops.length + 1) cap) = w2 at *
 clear hW
 refine (do_flush d.p d.fv (.slice (some ⟨g, 0, none⟩) (S.ops.length + 1) cap) d.L S.safe S.waits S.ops.length w2 HP2.out HPL.out).mono ?_
 rintro e w3 ⟨rfl, hP3, hK3⟩
 have HP3 := hid hP3
 have HK3 := hid hK3
 clear hP3 hK3
 have HFoot : Hid (∀ i, (DL.foot ⟨d.p, d.fv, .slice (some ⟨g, 0, none⟩) (S.ops.length + 1) cap, { d.L with D := .map [] }⟩ (S.flushed).waits i) -> d.foot S.waits i \/ w.heap.size <= i) := by
  rintro i (e | e | e)
  ·exact .inl (.inl e)
  ·obtain rfl : g = i := Option.some.inj e
   rcases HA.out with e | e
   ·exact .inl (.inr (.inl e))
   ·exact .inr (by omega)
  ·rcases e with e | e | ⟨n, hn, _⟩
   ·exact .inl (.inr (.inr (.inl e)))
   ·exact .inl (.inr (.inr (.inr (.inl e))))
   ·exact absurd rfl hn
 have HKall : Hid (Keeps (d.foot S.waits) w w3) := (HK2.out.mono (fun i e => by rcases e with e | e; exact .inr (.inl e); exact .inl e)).trans HK3.out (fun i e => .inl (.inr (.inr e)))
 go_wp2
 go_end0
 refine ⟨rfl, ⟨d.p, d.fv, .slice (some ⟨g, 0, none⟩) (S.ops.length + 1) cap, { d.L with D := .map [] }⟩, ⟨?_, ?_, ?_, ?_, ?_⟩, rfl, rfl, ?_, ?_⟩
 ·have h3 := HK3.out.heap HP2.out H.out.p_off
  simpa [DiskS.flushed, length_imgS] using h3
 ·have h2 := HK3.out.row HO2.out (fun i hi => by
   obtain ⟨cur, hc⟩ := row_type HO2.out hi
   exact HPL.out.foot_other hc (by decide))
  simpa [DiskS.flushed] using h2
 ·exact HP3.out.moreB (Nat.zero_le _)
 ·obtain ⟨ad, c, e, hc, hn⟩ := H.out.first
  refine ⟨ad, c, e, fun j u hj => ?_, fun hf => ?_⟩
  ·refine HK3.out.cell (HK2.out.cell (hc j u hj) ?_) ?_
   ·rw [add_block]; rintro (e | e)
    ·exact hn (.inr (.inl e))
    ·exact hn (.inl e)
   ·rw [add_block]; exact fun e => hn (.inr (.inr e))
  ·have hlt0 : S.first.length ≠ 0 := by have := H.out.flen; have := H.out.plates.pos; omega
   have hltad : ad.block < w.heap.size := by
    have h00 := hc 0 (S.first[0]'(by omega)) (by simp)
    have := World.block_lt_of_cell? w _ h00
    rwa [add_block] at this
   exact hn (by rcases HFoot.out _ hf with e | e; exact e; omega)
 ·have := H.out.flen; simpa [DiskS.flushed, length_imgS] using this
 ·exact HFoot.out
 ·exact HKall.out
theorem flush_disk (d : DL) (S : DiskS) (w : World) (h : DiskIn w d S) (hB : S.ops.length < opsMax) :
  Calls Tryz.prog 132 #[.pointer (some ⟨d.p, 0, none⟩)] w fun e w' => e = .returned (.int .i64 0) /\
   ∃ d', DiskIn w' d' S.flushed /\ d'.p = d.p /\ d'.fv = d.fv /\ (∀ i, d'.foot S.flushed.waits i -> d.foot S.waits i \/ w.heap.size <= i) /\ Keeps (d.foot S.waits) w w' := by
 have HN := hid (note_flush d S w h hB)
 clear h
 go_enter Tryz.func132, Tryz.ntmps132
 go_wp2_with fail
 refine HN.out.mono ?_
 rintro e w1 ⟨rfl, hq⟩
 have HQ := hid hq
 clear hq
 go_wp2
 go_ret
 exact ⟨rfl, HQ.out⟩
end
section
open Go.RowKit
theorem sectors_disk_rd (d : DL) (S : DiskS) (w : World) (h : DiskRd w d S) : Calls Tryz.prog 71 #[.pointer (some ⟨d.p, 0, none⟩)] w fun e w' => e = .returned (.int .i64 S.safe.length) /\ w' = w := by
 have c2 : w.cell? ⟨d.p, 2, none⟩ = some (.slice (some ⟨d.L.g, 0, none⟩) S.safe.length d.L.cap) := by rw [cell_of_block h.heap]; rfl
 clear h
 go_enter Tryz.func71, Tryz.ntmps71
 go_wp2
 go_ret
 exact ⟨rfl, rfl⟩
theorem sectors_disk (d : DL) (S : DiskS) (w : World) (h : DiskIn w d S) : Calls Tryz.prog 71 #[.pointer (some ⟨d.p, 0, none⟩)] w fun e w' => e = .returned (.int .i64 S.safe.length) /\ w' = w :=
 sectors_disk_rd d S w h.rd
end
section
open Go.RowKit
structure ROp where
 flush : Bool
 n : Int
 b : List UInt8
structure RefS where
 first : List (List UInt8)
 l : List ROp
def inRd (Rd : Nat -> Prop) (a : Option Addr) : Prop := ∀ ad, a = some ad -> Rd ad.block
theorem bytesIn.keep {w w' : World} {a : Option Addr} {l : List UInt8} {G Rd : Nat -> Prop} (h : bytesIn w a l) (k : Keeps G w w') (hr : inRd Rd a) (hG : ∀ i, Rd i -> ¬ G i) : bytesIn w' a l := fun j hj => by
 obtain ⟨b, o, e, hc⟩ := h j hj
 exact ⟨b, o, e, fun i hi => k.cell (hc i hi) (hG b (hr _ e))⟩
end
section
open Go.RowKit
def RefS.did (R : RefS) (o : ROp) : RefS := { R with l := R.l ++ [o] }
end
section
open Go.RowKit
def errR (R : RefS) (n : Int) (l : List UInt8) : Int := if ¬ (0 <= n /\ n < R.first.length) then 2 else if l.length ≠ 512 then 3 else 0
def RefS.put (R : RefS) (n : Int) (l : List UInt8) : RefS := if errR R n l = 0 then R.did ⟨false, n, l⟩ else R
end
section
open Go.RowKit
def zeros : List UInt8 := List.replicate 512 0
end
section
open Go.RowKit
end
section
open Go.RowKit
end
section
open Go.RowKit
def flushedTo (l : List ROp) : Nat -> Nat
 | 0 => 0
 | k + 1 => if h : k < l.length then (if l[k].flush then k + 1 else flushedTo l k) else flushedTo l k
theorem flushedTo_le (l : List ROp) : ∀ k, flushedTo l k <= k
 | 0 => Nat.le_refl _
 | k + 1 => by
  have := flushedTo_le l k
  unfold flushedTo
  split
  ·split <;> omega
  ·omega
end
section
open Go.RowKit
def atL (R : RefS) : Nat -> List (List UInt8)
 | 0 => R.first
 | k + 1 => if h : k < R.l.length then (if R.l[k].flush then atL R k else (atL R k).set R.l[k].n.toNat R.l[k].b) else atL R k
def okR (R : RefS) : Prop := R.first.length <= 4096 /\ (∀ l ∈ R.first, l.length = 512) /\ ∀ o ∈ R.l, o.flush = false -> 0 <= o.n /\ o.n < R.first.length /\ o.b.length = 512
end
section
open Go.RowKit
end
section
open Go.RowKit
def waitsIn (l : List ROp) (n : Int) (f : Nat) : Nat -> Nat
 | 0 => 0
 | k + 1 => if h : k < l.length then (if f <= k /\ l[k].n = n then waitsIn l n f k + 1 else waitsIn l n f k) else waitsIn l n f k
end
section
open Go.RowKit
def rKeys (f : Nat -> Nat) (k : Nat) : List Int := ((List.range k).filter (fun n : Nat => decide (0 < f n))).map (fun n : Nat => (n : Int))
def rWait (R : RefS) (n : Nat) : Nat := waitsIn R.l (n : Int) (flushedTo R.l R.l.length) R.l.length
end
section
open Go.RowKit
variable {w0 wa wb : World} {d d' : DL} {S S' : DiskS} {r : Nat} {fv lv lv' : Value} {vs vs' : List Value} {Rd : Nat -> Prop} {R R' : RefS}
structure DeedS where
 f : Bool
 n : Int
 l : Int
 x : Int
def DeedS.bytes (D : DeedS) : List UInt8 := fullS (deedLen D.l) D.x
def stepS (S : DiskS) (D : DeedS) : DiskS := if D.f then S.flushed else S.put D.n D.bytes
def stepR (R : RefS) (D : DeedS) : RefS := if D.f then R.did ⟨true, 0, []⟩ else R.put D.n D.bytes
theorem err_same {S : DiskS} {R : RefS} (h : S.safe.length = R.first.length) (n : Int) (l : List UInt8) : errW S n l = errR R n l := by
 unfold errW errR; rw [h]
end
section
open Go.RowKit
end
section
open Go.RowKit
def okS (S : DiskS) : Prop := (∀ s ∈ S.safe, s.size = 512) /\ ∀ n, ∀ s ∈ S.waits n, s.size = 512
theorem blank_size : blankS.size = 512 := by
 show (Lib.repeatL [0] 512).toArray.size = 512
 decide +kernel
theorem ok_seen {S : DiskS} (h : okS S) (k : Nat) (hk : k < S.safe.length) : (seenS S.safe S.waits (k : Int)).size = 512 := by
 unfold seenS
 split
 ·rw [Int.toNat_natCast, List.getD_eq_getElem?_getD, List.getElem?_eq_getElem hk]
  exact h.1 _ (List.getElem_mem hk)
 ·rename_i hne
  refine h.2 (k : Int) _ ?_
  rw [List.getLastD_eq_getLast?, List.getLast?_eq_some_getLast hne]
  exact List.getLast_mem hne
theorem imgS_fresh (xs : List ByteArray) : imgS (freshS xs) = xs := by
 apply List.ext_getElem (by simp [imgS, freshS])
 intro n h1 h2
 simp [imgS, freshS, seenS, h2]
end
section
open Go.RowKit
theorem imgS_flushed (S : DiskS) : imgS S.flushed = imgS S := by
 apply List.ext_getElem (by simp [length_imgS, DiskS.flushed])
 intro n h1 h2
 rw [imgS_at]
 simp [seenS, DiskS.flushed, h2]
end
section
open Go.RowKit
theorem atL_succ (R : RefS) (k : Nat) : atL R (k + 1) = match R.l[k]? with | some o => if o.flush then atL R k else (atL R k).set o.n.toNat o.b | none => atL R k := by
 rw [atL]
 split
 ·rename_i h; rw [List.getElem?_eq_getElem h]
 ·rename_i h; rw [List.getElem?_eq_none (by omega)]
theorem flushedTo_succ (l : List ROp) (k : Nat) : flushedTo l (k + 1) = match l[k]? with | some o => if o.flush then k + 1 else flushedTo l k | none => flushedTo l k := by
 rw [flushedTo]
 split
 ·rename_i h; rw [List.getElem?_eq_getElem h]
 ·rename_i h; rw [List.getElem?_eq_none (by omega)]
def waitsL (l : List ROp) (n : Int) (f : Nat) : Nat -> List (List UInt8)
 | 0 => []
 | k + 1 => match l[k]? with | some o => if f <= k /\ o.n = n then waitsL l n f k ++ [o.b] else waitsL l n f k | none => waitsL l n f k
theorem length_waitsL (l : List ROp) (n : Int) (f : Nat) : ∀ k, (waitsL l n f k).length = waitsIn l n f k
 | 0 => rfl
 | k + 1 => by
  have ih := length_waitsL l n f k
  rw [waitsL, waitsIn]
  by_cases h : k < l.length
  ·rw [List.getElem?_eq_getElem h, dif_pos h]
   by_cases h2 : f <= k /\ l[k].n = n
   ·simp only [if_pos h2, List.length_append, List.length_cons, List.length_nil, ih]
   ·simp only [if_neg h2, ih]
  ·rw [List.getElem?_eq_none (by omega), dif_neg h]; exact ih
theorem waitsL_low (l : List ROp) (n : Int) (f : Nat) : ∀ k, k <= f -> waitsL l n f k = []
 | 0, _ => rfl
 | k + 1, h => by
  have ih := waitsL_low l n f k (by omega)
  rw [waitsL]
  split
  ·rw [if_neg (by omega)]; exact ih
  ·exact ih
theorem atL_congr (R R' : RefS) (hf : R.first = R'.first) : ∀ k, (∀ i, i < k -> R.l[i]? = R'.l[i]?) -> atL R k = atL R' k
 | 0, _ => hf
 | k + 1, h => by rw [atL_succ, atL_succ, h k (by omega), atL_congr R R' hf k (fun i hi => h i (by omega))]
theorem flushedTo_congr (l l' : List ROp) : ∀ k, (∀ i, i < k -> l[i]? = l'[i]?) -> flushedTo l k = flushedTo l' k
 | 0, _ => rfl
 | k + 1, h => by rw [flushedTo_succ, flushedTo_succ, h k (by omega), flushedTo_congr l l' k (fun i hi => h i (by omega))]
theorem waitsL_congr (l l' : List ROp) (n : Int) (f : Nat) : ∀ k, (∀ i, i < k -> l[i]? = l'[i]?) -> waitsL l n f k = waitsL l' n f k
 | 0, _ => rfl
 | k + 1, h => by rw [waitsL, waitsL, h k (by omega), waitsL_congr l l' n f k (fun i hi => h i (by omega))]
theorem snoc_low (l : List ROp) (o : ROp) (i : Nat) (h : i < l.length) : (l ++ [o])[i]? = l[i]? := List.getElem?_append_left h
structure Alike (S : DiskS) (R : RefS) : Prop where
 len : S.safe.length = R.first.length
 ok : okR R
 img : bytesOf (imgS S) = atL R R.l.length
 safe : bytesOf S.safe = atL R (flushedTo R.l R.l.length)
 waits : ∀ n : Int, bytesOf (S.waits n) = waitsL R.l n (flushedTo R.l R.l.length) R.l.length
 ops : S.ops.length = R.l.length
theorem bytesOf_set (L : List ByteArray) (i : Nat) (s : ByteArray) : bytesOf (L.set i s) = (bytesOf L).set i s.data.toList := by simp [bytesOf, List.map_set]
theorem imgS_wrote (S : DiskS) (n : Int) (s : ByteArray) (h0 : 0 <= n) : imgS (S.wrote n s) = (imgS S).set n.toNat s := by
 apply List.ext_getElem (by simp [length_imgS, DiskS.wrote])
 intro k h1 h2
 have h3 : k < (imgS S).length := by simpa using h2
 rw [imgS_at, List.getElem_set]
 by_cases e : n.toNat = k
 ·have e2 : (k : Int) = n := by omega
  rw [if_pos e, e2]
  simp [seenS, DiskS.wrote, upd_same]
 ·have e2 : (k : Int) ≠ n := by omega
  rw [if_neg e, imgS_at S k h3]
  simp [seenS, DiskS.wrote, upd_other _ _ e2]
theorem Alike.write {S : DiskS} {R : RefS} (h : Alike S R) {n : Int} {b : List UInt8} (h0 : 0 <= n) (h1 : n < R.first.length) (hb : b.length = 512) : Alike (S.wrote n ⟨b.toArray⟩) (R.did ⟨false, n, b⟩) := by
 have hlen : (R.did ⟨false, n, b⟩).l.length = R.l.length + 1 := by simp [RefS.did]
 have hat : (R.did ⟨false, n, b⟩).l[R.l.length]? = some ⟨false, n, b⟩ := by simp [RefS.did]
 have hlow : ∀ i, i < R.l.length -> (R.did ⟨false, n, b⟩).l[i]? = R.l[i]? := fun i hi => snoc_low _ _ _ hi
 have hfl : flushedTo (R.did ⟨false, n, b⟩).l (R.did ⟨false, n, b⟩).l.length = flushedTo R.l R.l.length := by
  rw [hlen, flushedTo_succ, hat]; exact flushedTo_congr _ _ _ hlow
 have hle := flushedTo_le R.l R.l.length
 refine ⟨h.len, ⟨h.ok.1, h.ok.2.1, fun o ho hf => ?_⟩, ?_, ?_, fun m => ?_, by rw [hlen, <- h.ops]; simp [DiskS.wrote]⟩
 ·rcases List.mem_append.1 ho with ho | ho
  ·exact h.ok.2.2 o ho hf
  ·rw [List.mem_singleton.1 ho]; exact ⟨h0, h1, hb⟩
 ·rw [hlen, atL_succ, hat, imgS_wrote S n _ h0, bytesOf_set, h.img, atL_congr (R.did ⟨false, n, b⟩) R rfl R.l.length hlow]
  rfl
 ·rw [hfl, atL_congr (R.did ⟨false, n, b⟩) R rfl _ (fun i hi => hlow i (by omega))]
  exact h.safe
 ·rw [hfl, hlen, waitsL, hat, waitsL_congr _ _ _ _ _ hlow, <- h.waits m]
  by_cases e : m = n
  ·subst e
   simp [DiskS.wrote, upd_same, hle, bytesOf]
  ·have e2 : ¬ (flushedTo R.l R.l.length <= R.l.length /\ n = m) := fun h => e h.2.symm
   simp only [if_neg e2]
   simp [DiskS.wrote, upd_other _ _ e]
theorem Alike.flush {S : DiskS} {R : RefS} (h : Alike S R) : Alike S.flushed (R.did ⟨true, 0, []⟩) := by
 have hlen : (R.did ⟨true, 0, []⟩).l.length = R.l.length + 1 := by simp [RefS.did]
 have hat : (R.did ⟨true, 0, []⟩).l[R.l.length]? = some ⟨true, 0, []⟩ := by simp [RefS.did]
 have hlow : ∀ i, i < R.l.length -> (R.did ⟨true, 0, []⟩).l[i]? = R.l[i]? := fun i hi => snoc_low _ _ _ hi
 have hfl : flushedTo (R.did ⟨true, 0, []⟩).l (R.did ⟨true, 0, []⟩).l.length = R.l.length + 1 := by
  rw [hlen, flushedTo_succ, hat]; rfl
 have him : atL (R.did ⟨true, 0, []⟩) (R.l.length + 1) = atL R R.l.length := by
  rw [atL_succ, hat]
  exact atL_congr (R.did ⟨true, 0, []⟩) R rfl R.l.length hlow
 refine ⟨by simpa [DiskS.flushed, length_imgS, RefS.did] using h.len, ⟨h.ok.1, h.ok.2.1, fun o ho hf => ?_⟩, ?_, ?_, fun m => ?_, by rw [hlen, <- h.ops]; simp [DiskS.flushed]⟩
 ·rcases List.mem_append.1 ho with ho | ho
  ·exact h.ok.2.2 o ho hf
  ·rw [List.mem_singleton.1 ho] at hf; cases hf
 ·rw [hlen, him, imgS_flushed, h.img]
 ·rw [hfl, him, <- h.img]; rfl
 ·rw [hfl, hlen, waitsL_low _ _ _ _ (Nat.le_refl _)]; rfl
theorem Alike.put {S : DiskS} {R : RefS} (h : Alike S R) (n : Int) (b : List UInt8) : Alike (S.put n b) (R.put n b) := by
 have e := err_same h.len n b
 unfold DiskS.put RefS.put
 rw [e]
 by_cases h0 : errR R n b = 0
 ·rw [if_pos h0, if_pos h0]
  unfold errR at h0
  by_cases h1 : 0 <= n /\ n < R.first.length
  ·rw [if_neg (fun h => h h1)] at h0
   by_cases h2 : b.length = 512
   ·exact h.write h1.1 h1.2 h2
   ·rw [if_pos h2] at h0; cases h0
  ·rw [if_pos h1] at h0; cases h0
 ·rw [if_neg h0, if_neg h0]; exact h
theorem Alike.step {S : DiskS} {R : RefS} (h : Alike S R) (D : DeedS) : Alike (stepS S D) (stepR R D) := by
 unfold stepS stepR
 split
 ·exact h.flush
 ·exact h.put _ _
theorem blank_zeros : blankS.data.toList = zeros := by
 show (Lib.repeatL [0] 512).toArray.toList = List.replicate 512 0
 decide +kernel
theorem Alike.count {S : DiskS} {R : RefS} (h : Alike S R) (n : Nat) : (S.waits n).length = rWait R n := by
 have := congrArg List.length (h.waits n)
 rw [length_bytesOf, length_waitsL] at this
 exact this
theorem Alike.keys {S : DiskS} {R : RefS} (h : Alike S R) : waitKeys S.waits S.safe.length = rKeys (rWait R) R.first.length := by
 unfold waitKeys rKeys
 rw [h.len, List.filter_map]
 congr 1
 apply List.filter_congr
 intro n _
 have := h.count n
 simp only [Function.comp]
 cases hw : S.waits n with
 | nil => rw [hw] at this; simp at this; simp [<- this]
 | cons a l => rw [hw] at this; simp at this; simp [<- this]
theorem Alike.read {S : DiskS} {R : RefS} (h : Alike S R) (n : Nat) (hn : n < R.first.length) : (atL R R.l.length)[n]? = some (seenS S.safe S.waits n).data.toList := by
 have h1 : n < (imgS S).length := by rw [length_imgS, h.len]; exact hn
 rw [<- h.img, bytesOf, List.getElem?_map, List.getElem?_eq_getElem h1, imgS_at S n h1]
 rfl
end
section
open Go.RowKit
end
section
open Go.RowKit
def doOp (S : DiskS) : OpS -> DiskS
 | .write n s => S.wrote n s
 | .flush => S.flushed
def ropOf : OpS -> ROp
 | .write n s => ⟨false, n, s.data.toList⟩
 | .flush => ⟨true, 0, []⟩
def okOp (N : Nat) : OpS -> Prop
 | .write n s => 0 <= n /\ n < N /\ s.size = 512
 | .flush => True
def doOps (S : DiskS) (l : List OpS) : DiskS := l.foldl doOp S
theorem doOps_snoc (S : DiskS) (l : List OpS) (o : OpS) : doOps S (l ++ [o]) = doOp (doOps S l) o := by simp [doOps]
theorem doOp_first (S : DiskS) (o : OpS) : (doOp S o).first = S.first := by cases o <;> rfl
theorem doOp_len (S : DiskS) (o : OpS) : (doOp S o).safe.length = S.safe.length := by cases o <;> simp [doOp, DiskS.wrote, DiskS.flushed, length_imgS]
theorem doOp_ops (S : DiskS) (o : OpS) : (doOp S o).ops = S.ops ++ [o] := by cases o <;> rfl
theorem doOps_facts (S : DiskS) : ∀ l : List OpS, (doOps S l).first = S.first /\ (doOps S l).safe.length = S.safe.length /\ (doOps S l).ops = S.ops ++ l := by
 intro l
 induction l generalizing S with
 | nil => simp [doOps]
 | cons o l ih =>
  obtain ⟨h1, h2, h3⟩ := ih (doOp S o)
  refine ⟨by rw [show doOps S (o :: l) = doOps (doOp S o) l from rfl, h1, doOp_first], by rw [show doOps S (o :: l) = doOps (doOp S o) l from rfl, h2, doOp_len], ?_⟩
  rw [show doOps S (o :: l) = doOps (doOp S o) l from rfl, h3, doOp_ops]; simp
structure Told (S : DiskS) (R : RefS) : Prop where
 made : S = doOps (freshS S.first) S.ops
 ops : R.l = S.ops.map ropOf
 first : R.first = bytesOf S.first
 ok : ∀ o ∈ S.ops, okOp S.first.length o
 most : S.first.length <= 4096
 size : ∀ s ∈ S.first, s.size = 512
theorem doOps_alike (F : List ByteArray) (hF : F.length <= 4096) (hs : ∀ s ∈ F, s.size = 512) (l : List OpS) (hl : ∀ o ∈ l, okOp F.length o) : Alike (doOps (freshS F) l) ⟨bytesOf F, l.map ropOf⟩ := by
 have key : ∀ k, k <= l.length -> Alike (doOps (freshS F) (l.take k)) ⟨bytesOf F, (l.take k).map ropOf⟩ := by
  intro k
  induction k with
  | zero =>
   intro _
   refine ⟨by simp [doOps, freshS, length_bytesOf], ⟨by simpa [length_bytesOf] using hF, fun b hb => ?_, fun o ho => by simp at ho⟩, ?_, ?_, fun m => rfl, rfl⟩
   ·obtain ⟨s, h1, rfl⟩ := List.mem_map.1 hb
    simpa using hs s h1
   ·show bytesOf (imgS (freshS F)) = bytesOf F
    rw [imgS_fresh]
   ·rfl
  | succ k ih =>
   intro hk
   have ih := ih (by omega)
   rw [List.take_succ_eq_append_getElem (by omega), doOps_snoc, List.map_append]
   have ho := hl l[k] (List.getElem_mem (by omega))
   generalize l[k] = o at *
   generalize doOps (freshS F) (l.take k) = S at *
   cases o with
   | write n s =>
    obtain ⟨h0, h1, h2⟩ := ho
    have := ih.write (n := n) (b := s.data.toList) h0 (by simpa [length_bytesOf] using h1) (by simpa using h2)
    exact this
   | flush => exact ih.flush
 have := key l.length (Nat.le_refl _)
 rwa [List.take_length] at this
theorem Told.alike {S : DiskS} {R : RefS} (h : Told S R) : Alike S R := by
 have := doOps_alike S.first h.most h.size S.ops h.ok
 rw [<- h.made, <- h.first, <- h.ops] at this
 exact this
theorem Told.op {S : DiskS} {R : RefS} (h : Told S R) (o : OpS) (ho : okOp S.first.length o) : Told (doOp S o) (R.did (ropOf o)) := by
 refine ⟨?_, ?_, by rw [doOp_first]; exact h.first, fun o' ho' => ?_, by rw [doOp_first]; exact h.most, by rw [doOp_first]; exact h.size⟩
 ·rw [doOp_first, doOp_ops, doOps_snoc, <- h.made]
 ·rw [doOp_ops, List.map_append, <- h.ops]; rfl
 ·rw [doOp_first]
  rw [doOp_ops, List.mem_append] at ho'
  rcases ho' with h1 | h1
  ·exact h.ok o' h1
  ·rw [List.mem_singleton.1 h1]; exact ho
theorem Told.step {S : DiskS} {R : RefS} (h : Told S R) (D : DeedS) : Told (stepS S D) (stepR R D) := by
 have hl : S.safe.length = R.first.length := h.alike.len
 have hf : S.first.length = R.first.length := by rw [h.first, length_bytesOf]
 unfold stepS stepR
 split
 ·exact h.op .flush trivial
 ·have e := err_same hl D.n D.bytes
  unfold DiskS.put RefS.put
  rw [e]
  by_cases h0 : errR R D.n D.bytes = 0
  ·rw [if_pos h0, if_pos h0]
   unfold errR at h0
   by_cases h1 : 0 <= D.n /\ D.n < R.first.length
   ·rw [if_neg (fun h => h h1)] at h0
    by_cases h2 : D.bytes.length = 512
    ·exact h.op (.write D.n ⟨D.bytes.toArray⟩) ⟨h1.1, by rw [hf]; exact h1.2, by show D.bytes.toArray.size = 512; simpa using h2⟩
    ·rw [if_pos h2] at h0; cases h0
   ·rw [if_pos h1] at h0; cases h0
  ·rw [if_neg h0, if_neg h0]; exact h
end
end Go.Proofs.YtamfgnfclamamaaGreat
