/- Several of my texts in one: Shelf, Iter, BaseA, BaseB, BaseC. -/
import Derived.Shelf.Small.Wraps
import Derived.Shelf.Sort.Plain
import Derived.Shelf.Bits.Mul64
import Derived.Shelf.Strings.Repeat
import Derived.Shelf.Slices.In.SortNone
import Derived.Test.YtpiieilffkickaaGreatDoorProg
import Derived.Shelf.SlGeneric
import Derived.Shelf.SlIterI.Nil
import Derived.Ground.GgzProg
import Derived.WalkKit
import Derived.ProofKit
import Derived.Handy
import Derived.WalkSmall
import Derived.Deep.MidRow
import Derived.ScopeJumps
import Derived.StillTailTactics
import Derived.WalkMore
import Derived.Maps.RangeWalk
import Derived.Lib.SlKeysI
import Derived.Deep.AppendLies
import Derived.Maps.OwnOps
import Derived.WalkArith
import Derived.Test.YtpiieilffkickaaGreatDoorRows
import Derived.Laws.CopyOwn
import Derived.ArgAppend
import Derived.Deep.RegionHeld3
import Derived.Laws.OwnMore
import Derived.Carry
import Derived.Deep.Onto
import Derived.Laws.IdiomStrings
import Derived.Shelf.AbstractIn
import Derived.Deep.QuietTactic
import Derived.BigQuiet
import Derived.OpenShut
import Derived.Lib.SmallJoins
import Derived.SizedLaws
namespace Go.Proofs
open Go.Shelf
def Tryz.lays189_ren:Go.Shelf.Ren:=⟨fun | 189=>168 | 125=>91 | 257=>214 | 128=>165 | 129=>166 | 294=>237 | 295=>238 | 296=>239 | 297=>240 | 298=>241 | 299=>242 | 216=>180 | 300=>243 | 301=>244 | 328=>253 | 329=>208 | 330=>209 | 331=>254 | 332=>255 | 215=>219 | 343=>258 | n=>n,fun | 28=>102 | 3=>3 | 46=>163 | 0=>0 | 51=>240 | 53=>242 | 4=>4 | 183=>234 | 182=>233 | 131=>202 | 5=>5 | 9=>9 | 218=>274 | 222=>269 | 228=>299 | 229=>300 | n=>n,fun | n=>n⟩
theorem Tryz.lays189:Go.Proofs.Lays.n189 Tryz.prog Tryz.lays189_ren:={
 mixed:=by kernel_rfl
 f125:=Tryz.func91.trans (congrArg some (by kernel_rfl))
 f128:=Tryz.func165.trans (congrArg some (by kernel_rfl))
 f129:=Tryz.func166.trans (congrArg some (by kernel_rfl))
 f189:=Tryz.func168.trans (congrArg some (by kernel_rfl))
 f215:=Tryz.func219.trans (congrArg some (by kernel_rfl))
 f216:=Tryz.func180.trans (congrArg some (by kernel_rfl))
 f257:=Tryz.func214.trans (congrArg some (by kernel_rfl))
 f294:=Tryz.func237.trans (congrArg some (by kernel_rfl))
 f295:=Tryz.func238.trans (congrArg some (by kernel_rfl))
 f296:=Tryz.func239.trans (congrArg some (by kernel_rfl))
 f297:=Tryz.func240.trans (congrArg some (by kernel_rfl))
 f298:=Tryz.func241.trans (congrArg some (by kernel_rfl))
 f299:=Tryz.func242.trans (congrArg some (by kernel_rfl))
 f300:=Tryz.func243.trans (congrArg some (by kernel_rfl))
 f301:=Tryz.func244.trans (congrArg some (by kernel_rfl))
 f328:=Tryz.func253.trans (congrArg some (by kernel_rfl))
 f329:=Tryz.func208.trans (congrArg some (by kernel_rfl))
 f330:=Tryz.func209.trans (congrArg some (by kernel_rfl))
 f331:=Tryz.func254.trans (congrArg some (by kernel_rfl))
 f332:=Tryz.func255.trans (congrArg some (by kernel_rfl))
 f343:=Tryz.func258.trans (congrArg some (by kernel_rfl))
 t0:=Tryz.underlying0
 a0:=Tryz.isAgg0
 z0:=Tryz.sizeOf0
 v0:=Tryz.zeroValue0
 t3:=Tryz.underlying3
 a3:=Tryz.isAgg3
 z3:=Tryz.sizeOf3
 v3:=Tryz.zeroValue3
 t4:=Tryz.underlying4
 a4:=Tryz.isAgg4
 z4:=Tryz.sizeOf4
 v4:=Tryz.zeroValue4
 t5:=Tryz.underlying5
 a5:=Tryz.isAgg5
 z5:=Tryz.sizeOf5
 v5:=Tryz.zeroValue5
 t9:=Tryz.underlying9
 a9:=Tryz.isAgg9
 z9:=Tryz.sizeOf9
 v9:=Tryz.zeroValue9
 t28:=Tryz.underlying102
 a28:=Tryz.isAgg102
 z28:=Tryz.sizeOf102
 v28:=Tryz.zeroValue102
 t46:=Tryz.underlying163
 a46:=Tryz.isAgg163
 z46:=Tryz.sizeOf163
 v46:=Tryz.zeroValue163
 t51:=Tryz.underlying240
 a51:=Tryz.isAgg240
 z51:=Tryz.sizeOf240
 v51:=Tryz.zeroValue240
 t53:=Tryz.underlying242
 a53:=Tryz.isAgg242
 z53:=Tryz.sizeOf242
 v53:=Tryz.zeroValue242
 t131:=Tryz.underlying202
 a131:=Tryz.isAgg202
 z131:=Tryz.sizeOf202
 v131:=Tryz.zeroValue202
 t182:=Tryz.underlying233
 a182:=Tryz.isAgg233
 z182:=Tryz.sizeOf233
 v182:=Tryz.zeroValue233
 t183:=Tryz.underlying234
 a183:=Tryz.isAgg234
 z183:=Tryz.sizeOf234
 v183:=Tryz.zeroValue234
 t218:=Tryz.underlying274
 a218:=Tryz.isAgg274
 z218:=Tryz.sizeOf274
 v218:=Tryz.zeroValue274
 t222:=Tryz.underlying269
 a222:=Tryz.isAgg269
 z222:=Tryz.sizeOf269
 v222:=Tryz.zeroValue269
 t228:=Tryz.underlying299
 a228:=Tryz.isAgg299
 z228:=Tryz.sizeOf299
 v228:=Tryz.zeroValue299
 t229:=Tryz.underlying300
 a229:=Tryz.isAgg300
 z229:=Tryz.sizeOf300
 v229:=Tryz.zeroValue300 }
open Go.Sort Go.RowKit in
theorem Tryz.slices_Sort_int (blk off cap:Nat) (zs:List Int) (w:World) (hH:Holds (Value.int .i64) w blk off zs.toArray) (hblk:blk<w.heap.size) (hsz:zs.length<4611686018427387904) :
  Calls Tryz.prog 168 #[.slice (some ⟨blk,off,none⟩) zs.length cap] w fun e w' =>
   e = .returned (.tuple #[])/\∃n os,w'=grow (putRow (Value.int .i64) (Sort.ahead w n) blk off (zs.mergeSort fun x y=>decide (x<=y)).toArray) os:=Any.slices_Sort_int Tryz.lays189 blk off cap zs w hH hblk hsz
def Tryz.lays212_ren:Go.Shelf.Ren:=⟨fun | 212=>97 | 263=>170 | 264=>171 | n=>n,fun | 46=>163 | 51=>240 | 146=>245 | 53=>242 | 148=>247 | n=>n,fun | n=>n⟩
theorem Tryz.lays212:Go.Proofs.Lays.n212 Tryz.prog Tryz.lays212_ren:={
 mixed:=by kernel_rfl
 f212:=Tryz.func97.trans (congrArg some (by kernel_rfl))
 f263:=Tryz.func170.trans (congrArg some (by kernel_rfl))
 f264:=Tryz.func171.trans (congrArg some (by kernel_rfl))
 t46:=Tryz.underlying163
 a46:=Tryz.isAgg163
 z46:=Tryz.sizeOf163
 v46:=Tryz.zeroValue163
 t51:=Tryz.underlying240
 a51:=Tryz.isAgg240
 z51:=Tryz.sizeOf240
 v51:=Tryz.zeroValue240
 t53:=Tryz.underlying242
 a53:=Tryz.isAgg242
 z53:=Tryz.sizeOf242
 v53:=Tryz.zeroValue242
 t146:=Tryz.underlying245
 a146:=Tryz.isAgg245
 z146:=Tryz.sizeOf245
 v146:=Tryz.zeroValue245
 t148:=Tryz.underlying247
 a148:=Tryz.isAgg247
 z148:=Tryz.sizeOf247
 v148:=Tryz.zeroValue247 }
open Go.RowKit Go.Lib in
theorem Tryz.bits_Mul (x y:Nat) (hx:x<18446744073709551616) (hy:y<18446744073709551616) (w:World) :
  Calls Tryz.prog 97 #[.int .u64 x,.int .u64 y] w fun e w'=>e = .returned (.tuple #[.int .u64 ((x*y / 18446744073709551616:Nat):Int),.int .u64 ((x*y%18446744073709551616:Nat):Int)])/\w'=w:=Any.bits_Mul Tryz.lays212 x y hx hy w
def Tryz.lays105_ren:Go.Shelf.Ren:=⟨fun | 105=>47 | 212=>97 | 99=>98 | 165=>99 | 166=>100 | 170=>101 | 169=>102 | 263=>170 | 264=>171 | 206=>172 | 240=>173 | 241=>174 | 276=>215 | 277=>216 | n=>n,fun | 9=>9 | 3=>3 | 4=>4 | 20=>20 | 0=>0 | 46=>163 | 109=>173 | 5=>5 | 72=>178 | 76=>182 | 51=>240 | 146=>245 | 53=>242 | 148=>247 | 70=>176 | 37=>76 | 75=>181 | 127=>249 | 164=>281 | 80=>184 | n=>n,fun | n=>n⟩
theorem Tryz.lays105:Go.Proofs.Lays.n105 Tryz.prog Tryz.lays105_ren:={
 mixed:=by kernel_rfl
 f99:=Tryz.func98.trans (congrArg some (by kernel_rfl))
 f105:=Tryz.func47.trans (congrArg some (by kernel_rfl))
 f165:=Tryz.func99.trans (congrArg some (by kernel_rfl))
 f166:=Tryz.func100.trans (congrArg some (by kernel_rfl))
 f169:=Tryz.func102.trans (congrArg some (by kernel_rfl))
 f170:=Tryz.func101.trans (congrArg some (by kernel_rfl))
 f206:=Tryz.func172.trans (congrArg some (by kernel_rfl))
 f212:=Tryz.func97.trans (congrArg some (by kernel_rfl))
 f240:=Tryz.func173.trans (congrArg some (by kernel_rfl))
 f241:=Tryz.func174.trans (congrArg some (by kernel_rfl))
 f263:=Tryz.func170.trans (congrArg some (by kernel_rfl))
 f264:=Tryz.func171.trans (congrArg some (by kernel_rfl))
 f276:=Tryz.func215.trans (congrArg some (by kernel_rfl))
 f277:=Tryz.func216.trans (congrArg some (by kernel_rfl))
 t0:=Tryz.underlying0
 a0:=Tryz.isAgg0
 z0:=Tryz.sizeOf0
 v0:=Tryz.zeroValue0
 t3:=Tryz.underlying3
 a3:=Tryz.isAgg3
 z3:=Tryz.sizeOf3
 v3:=Tryz.zeroValue3
 t4:=Tryz.underlying4
 a4:=Tryz.isAgg4
 z4:=Tryz.sizeOf4
 v4:=Tryz.zeroValue4
 t5:=Tryz.underlying5
 a5:=Tryz.isAgg5
 z5:=Tryz.sizeOf5
 v5:=Tryz.zeroValue5
 t9:=Tryz.underlying9
 a9:=Tryz.isAgg9
 z9:=Tryz.sizeOf9
 v9:=Tryz.zeroValue9
 t20:=Tryz.underlying20
 a20:=Tryz.isAgg20
 z20:=Tryz.sizeOf20
 v20:=Tryz.zeroValue20
 t37:=Tryz.underlying76
 a37:=Tryz.isAgg76
 z37:=Tryz.sizeOf76
 v37:=Tryz.zeroValue76
 t46:=Tryz.underlying163
 a46:=Tryz.isAgg163
 z46:=Tryz.sizeOf163
 v46:=Tryz.zeroValue163
 t51:=Tryz.underlying240
 a51:=Tryz.isAgg240
 z51:=Tryz.sizeOf240
 v51:=Tryz.zeroValue240
 t53:=Tryz.underlying242
 a53:=Tryz.isAgg242
 z53:=Tryz.sizeOf242
 v53:=Tryz.zeroValue242
 t70:=Tryz.underlying176
 a70:=Tryz.isAgg176
 z70:=Tryz.sizeOf176
 v70:=Tryz.zeroValue176
 t72:=Tryz.underlying178
 a72:=Tryz.isAgg178
 z72:=Tryz.sizeOf178
 v72:=Tryz.zeroValue178
 t75:=Tryz.underlying181
 a75:=Tryz.isAgg181
 z75:=Tryz.sizeOf181
 v75:=Tryz.zeroValue181
 t76:=Tryz.underlying182
 a76:=Tryz.isAgg182
 z76:=Tryz.sizeOf182
 v76:=Tryz.zeroValue182
 t109:=Tryz.underlying173
 a109:=Tryz.isAgg173
 z109:=Tryz.sizeOf173
 v109:=Tryz.zeroValue173
 t127:=Tryz.underlying249
 a127:=Tryz.isAgg249
 z127:=Tryz.sizeOf249
 v127:=Tryz.zeroValue249
 t146:=Tryz.underlying245
 a146:=Tryz.isAgg245
 z146:=Tryz.sizeOf245
 v146:=Tryz.zeroValue245
 t148:=Tryz.underlying247
 a148:=Tryz.isAgg247
 z148:=Tryz.sizeOf247
 v148:=Tryz.zeroValue247
 t164:=Tryz.underlying281
 a164:=Tryz.isAgg281
 z164:=Tryz.sizeOf281
 v164:=Tryz.zeroValue281 }
theorem Tryz.Builder_Extra_105:Builder.Extra Tryz.prog Tryz.lays105_ren:={
 sizeBuilder:=by kernel_rfl
 liesBuilder:=by kernel_rfl
 t5:=Tryz.underlying5
 a5:=Tryz.isAgg5
 z5:=Tryz.sizeOf5
 v5:=Tryz.zeroValue5
 infoByte:=by kernel_rfl
 cellsByte:=by kernel_rfl
 sizeByte:=by kernel_rfl
 neB5:=by decide }
open Go.RowKit Go.Lib in
theorem Tryz.strings_Repeat (s:ByteArray) (c:Nat) (w:World) (hc:c<=9223372036854775807) (hlen:s.size*c<=140737488355328) :
  Calls Tryz.prog 47 #[.string s,.int .i64 c] w fun e w'=>e = .returned (.string ⟨(Lib.repeatL s.data.toList c).toArray⟩)/\Below w.heap.size w w':=Any.strings_Repeat Tryz.lays105 Tryz.Builder_Extra_105 s c w hc hlen
open Go.RowKit Go.Sort in
theorem Tryz.slices_Sort_int_none (p:Option Addr) (cap:Nat) (w:World) :
  Calls Tryz.prog 168 #[.slice p 0 cap] w fun e w'=>e = .returned (.tuple #[])/\w'=w:=Any.slices_Sort_int_none Tryz.lays189 p cap w
end Go.Proofs
namespace Go.Proofs
open Go.Shelf
def Tryz.keysG_ren:Go.Shelf.Ren:=⟨fun | 7=>178 | 10=>217 | n=>n,fun | 23=>125 | 26=>3 | 3=>76 | 28=>169 | 0=>0 | 27=>168 | 33=>113 | 4=>4 | n=>n,fun | n=>n⟩
theorem Tryz.keysG:Go.Proofs.SlLaysZI.n7 Tryz.prog Tryz.keysG_ren:={
 mixed:=by kernel_rfl
 f7:=⟨Tryz.f178.name,by decide,Tryz.func178.trans (congrArg some (by kernel_rfl))⟩
 f10:=⟨Tryz.f217.name,by decide,Tryz.func217.trans (congrArg some (by kernel_rfl))⟩
 t0:=Tryz.underlying0
 a0:=Tryz.isAgg0
 z0:=Tryz.sizeOf0
 v0:=Tryz.zeroValue0
 t4:=Tryz.underlying4
 a4:=Tryz.isAgg4
 z4:=Tryz.sizeOf4
 v4:=Tryz.zeroValue4
 t23:=Tryz.underlying125
 a23:=Tryz.isAgg125
 z23:=Tryz.sizeOf125
 v23:=Tryz.zeroValue125
 t26:=Tryz.underlying3
 a26:=Tryz.isAgg3
 z26:=Tryz.sizeOf3
 v26:=Tryz.zeroValue3
 t27:=Tryz.underlying168
 a27:=Tryz.isAgg168
 z27:=Tryz.sizeOf168
 v27:=Tryz.zeroValue168
 t28:=Tryz.underlying169
 a28:=Tryz.isAgg169
 z28:=Tryz.sizeOf169
 v28:=Tryz.zeroValue169
 t33:=Tryz.underlying113
 a33:=Tryz.isAgg113
 z33:=Tryz.sizeOf113
 v33:=Tryz.zeroValue113 }
def Tryz.keysB_ren:Go.Shelf.Ren:=⟨fun | 7=>93 | 10=>169 | n=>n,fun | 23=>104 | 26=>3 | 3=>76 | 28=>169 | 0=>0 | 27=>168 | 33=>113 | 4=>4 | n=>n,fun | n=>n⟩
theorem Tryz.keysB:Go.Proofs.SlLaysZI.n7 Tryz.prog Tryz.keysB_ren:={
 mixed:=by kernel_rfl
 f7:=⟨Tryz.f93.name,by decide,Tryz.func93.trans (congrArg some (by kernel_rfl))⟩
 f10:=⟨Tryz.f169.name,by decide,Tryz.func169.trans (congrArg some (by kernel_rfl))⟩
 t0:=Tryz.underlying0
 a0:=Tryz.isAgg0
 z0:=Tryz.sizeOf0
 v0:=Tryz.zeroValue0
 t4:=Tryz.underlying4
 a4:=Tryz.isAgg4
 z4:=Tryz.sizeOf4
 v4:=Tryz.zeroValue4
 t23:=Tryz.underlying104
 a23:=Tryz.isAgg104
 z23:=Tryz.sizeOf104
 v23:=Tryz.zeroValue104
 t26:=Tryz.underlying3
 a26:=Tryz.isAgg3
 z26:=Tryz.sizeOf3
 v26:=Tryz.zeroValue3
 t27:=Tryz.underlying168
 a27:=Tryz.isAgg168
 z27:=Tryz.sizeOf168
 v27:=Tryz.zeroValue168
 t28:=Tryz.underlying169
 a28:=Tryz.isAgg169
 z28:=Tryz.sizeOf169
 v28:=Tryz.zeroValue169
 t33:=Tryz.underlying113
 a33:=Tryz.isAgg113
 z33:=Tryz.sizeOf113
 v33:=Tryz.zeroValue113 }
def Tryz.sortedA_ren:Go.Shelf.Ren:=⟨fun | 6=>92 | 8=>167 | 9=>168 | 11=>213 | 13=>91 | 12=>214 | 23=>165 | 24=>166 | 14=>237 | 15=>238 | 16=>239 | 17=>240 | 18=>241 | 19=>242 | 20=>180 | 21=>243 | 22=>244 | 25=>253 | 26=>208 | 27=>209 | 28=>254 | 29=>255 | 30=>219 | 31=>258 | n=>n,fun | 26=>3 | 28=>169 | 24=>102 | 0=>0 | 3=>3 | 37=>163 | 48=>240 | 50=>242 | 4=>4 | 40=>234 | 39=>233 | 45=>202 | 5=>5 | 9=>9 | 51=>274 | 55=>269 | 57=>299 | 58=>300 | 33=>113 | n=>n,fun | n=>n⟩
theorem Tryz.sortedA:Go.Proofs.SlLaysZI.n6 Tryz.prog Tryz.sortedA_ren:={
 mixed:=by kernel_rfl
 f6:=⟨Tryz.f92.name,by decide,Tryz.func92.trans (congrArg some (by kernel_rfl))⟩
 f8:=⟨Tryz.f167.name,by decide,Tryz.func167.trans (congrArg some (by kernel_rfl))⟩
 f11:=⟨Tryz.f213.name,by decide,Tryz.func213.trans (congrArg some (by kernel_rfl))⟩
 t0:=Tryz.underlying0
 a0:=Tryz.isAgg0
 z0:=Tryz.sizeOf0
 v0:=Tryz.zeroValue0
 t24:=Tryz.underlying102
 a24:=Tryz.isAgg102
 z24:=Tryz.sizeOf102
 v24:=Tryz.zeroValue102
 t26:=Tryz.underlying3
 a26:=Tryz.isAgg3
 z26:=Tryz.sizeOf3
 v26:=Tryz.zeroValue3
 t28:=Tryz.underlying169
 a28:=Tryz.isAgg169
 z28:=Tryz.sizeOf169
 v28:=Tryz.zeroValue169
 i26:=by kernel_rfl }
end Go.Proofs
set_option maxRecDepth 100000
set_option maxHeartbeats 2000000
namespace Go.Proofs.YtpiieilffkickaaGreatDoor
section
open Go.RowKit
theorem tS:(∀ {α : Type} (l:List α) (i:Nat) (h:i<l.toArray.size),l.toArray[i]=l[i]'(by simpa using h))/\(∀ {α : Type} (x : α) (l:List α) (i:Nat) (h:i+1<(x :: l).length),(x :: l)[i+1]=l[i]'(by simpa using h))/\(∀ {α : Type} (x : α) (l:List α) (h:0<(x :: l).length),(x :: l)[0]=x) /\
  (∀(a:Act) (d:Tmp) (v:Value),a.put (some d) v={ a with tmps:=a.tmps.setIfInBounds d v })/\(∀(a:Act) (v:Value),a.put none v=a)/\(∀ {α : Type} (l:List α) (i:Nat) (x : α),l.toArray.setIfInBounds i x=(l.set i x).toArray)/\(∀ {α : Type} (x y : α) (l:List α),(x :: l).set 0 y=y :: l)/\(∀ {α : Type} (x y : α) (l:List α) (i:Nat),(x :: l).set (i+1) y=x :: l.set i y) :=
 ⟨fun _ _ _=>rfl,fun _ _ _ _=>rfl,fun _ _ _=>rfl,fun _ _ _=>rfl,fun _ _=>rfl,fun _ _ _=>List.setIfInBounds_toArray ..,fun _ _ _=>rfl,fun _ _ _ _=>rfl⟩
theorem tk {P:Program} {md:Region.Mode} {ops:Array Oper} {Q:Exit->Act->World->Prop} {S:World->Prop} {fuel:Nat} {listed:Array Bool} {a:Act} {w:World} {oi:Oper} (i:Nat) (v:Value) (hi:ops[i]? = some oi) (hs:(Region.noSelect ops&&Region.free md ops listed i&&(Region.ready md ops listed).contains i)=true)
  (hQ:∀c a w,Q (.panic c) (a.put oi.dst v) w->Q (.panic c) a w) (hw:Region.wanted oi (yielded ops a.tmps)=true) (hS:S w) (hy:∀w,S w->(execOp a.eval oi).run P w = .ok (.value v) w)
  (h:wpAnyH P md ops Q S fuel (listed.setIfInBounds i true) (a.put oi.dst v) w):wpAnyH P md ops Q S (fuel+1) listed a w:=by
 rw [Bool.and_eq_true,Bool.and_eq_true] at hs;exact wpAnyH_take hi hs.1.1 hs.1.2 hs.2 hQ (.inl ⟨hw,hy⟩) hS h
theorem tq {P:Program} {md:Region.Mode} {ops:Array Oper} {Q:Exit->Act->World->Prop} {S:World->Prop} {fuel:Nat} {listed:Array Bool} {a:Act} {w:World} {oi:Oper} (i:Nat) (v:Value)
  (h:wpAnyH P md ops Q S fuel (listed.setIfInBounds i true) (a.put oi.dst v) w)
  (hi:ops[i]? = some oi:=by exact rfl) (hs:(Region.noSelect ops&&Region.free md ops listed i&&(Region.ready md ops listed).contains i)=true:=by kernel_rfl)
  (hQ:∀c a w,Q (.panic c) (a.put oi.dst v) w->Q (.panic c) a w:=by exact fun _ _ _ h=>h) (hw:Region.wanted oi (yielded ops a.tmps)=true:=by rfl) (hS:S w:=by assumption)
  (hy:∀w,S w->(execOp a.eval oi).run P w = .ok (.value v) w:=by (intro W h;(try dsimp only at h);(repeat obtain ⟨_,h⟩:=h);go_simp;try first | with_reducible rfl | go_num | (rw [if_pos (by assumption)];simp only [*]) | simp only [*])):wpAnyH P md ops Q S (fuel+1) listed a w :=
 tk i v hi hs hQ hw hS hy h
theorem tr {P:Program} {md:Region.Mode} {ops:Array Oper} {Q:Exit->Act->World->Prop} {S:World->Prop} {fuel:Nat} {listed:Array Bool} {a:Act} {w:World} {o:Oper} (i:Nat)
  (h:∀K':Act->World->Prop,Shut (∀a w,S w->(S w->wpAnyH P md ops Q S fuel (listed.setIfInBounds i true) a w)->K' a w)->Oper.wp P o a w K' Q)
  (hr:Region.ready md ops listed=[i]:=by kernel_rfl) (ho:ops[i]? = some o:=by exact rfl) (hw:Region.wanted o (yielded ops a.tmps)=true:=by rfl):wpAnyH P md ops Q S (fuel+1) listed a w :=
 wpAnyH_ready hr (by simp) (AllReadyH.cons ho (fun K hK=>by rw [if_pos hw];exact h K hK) AllReadyH.nil)
section
variable {P:Program}
theorem aa {w:World} {b:Nat} {C:Array Value} {t:TypeId} {fr:Nat×Nat} (h:w.heap[b]? = some (.cells C t fr)) (o:Nat):w.cell? ⟨b,o,none⟩=C[o]? := by
 simp [World.cell?,h]
theorem ai {w:World} {b:Nat} {C:Array Value} {t:TypeId} (h:w.heap[b]? = some (.cells C t (0,0))) (o:Nat):w.frozen? ⟨b,o,none⟩=false:=by
 simp [World.frozen?,h]
theorem ae {w:World} {b:Nat} {o:Obj} (h:w.heap[b]? = some o):b<w.heap.size:=(Array.getElem?_eq_some_iff.1 h).1
theorem ap {w:World} {b:Nat} {C:Array Value} {t:TypeId} {fr:Nat×Nat} (h:w.heap[b]? = some (.cells C t fr)) (o:Nat) (v:Value) :
  (w.setCell ⟨b,o,none⟩ v).heap[b]? = some (.cells (C.setIfInBounds o v) t fr):=by
 have hlt:=ae h;have hv:w.heap[b] = .cells C t fr:=(Array.getElem?_eq_some_iff.1 h).2;simp [World.setCell,Array.getElem?_modify,h]
theorem al {w:World} {b k:Nat} (o:Nat) (v:Value) (h:k≠b):(w.setCell ⟨b,o,none⟩ v).heap[k]? = w.heap[k]? :=
 Below.heap_setCell w ⟨b,o,none⟩ v k h
theorem aj {w:World} {b:Nat} {ob:Obj} (h:w.heap[b]? = some ob) (o:Obj):(w.alloc o).heap[b]? = some ob:=by
 rw [Below.heap_alloc _ _ _ (ae h)];exact h
theorem af (w:World) (o:Obj):(w.alloc o).heap[w.heap.size]? = some o:=by
 show (w.heap.push o)[w.heap.size]? = _;simp
theorem zc (w:World) (o1 o2:Obj):((w.alloc o1).alloc o2).heap[w.heap.size]? = some o1/\((w.alloc o1).alloc o2).heap[w.heap.size+1]? = some o2/\Below w.heap.size w ((w.alloc o1).alloc o2)/\((w.alloc o1).alloc o2).heap.size=w.heap.size+1+1:=by
 refine ⟨aj (af _ _) _,?_,((Below.refl _ _).alloc (Nat.le_refl _) _).alloc (by simp) _,by simp⟩;have:=af (w.alloc o1) o2;simpa using this
theorem Ag (w:World) (o1 o2 o3:Obj):(((w.alloc o1).alloc o2).alloc o3).heap[w.heap.size]? = some o1/\(((w.alloc o1).alloc o2).alloc o3).heap[w.heap.size+1]? = some o2/\(((w.alloc o1).alloc o2).alloc o3).heap[w.heap.size+1+1]? = some o3 /\
  Below w.heap.size w (((w.alloc o1).alloc o2).alloc o3)/\(((w.alloc o1).alloc o2).alloc o3).heap.size=w.heap.size+1+1+1:=by
 obtain ⟨h1,h2,h3,h4⟩:=zc w o1 o2;refine ⟨aj h1 _,aj h2 _,?_,h3.alloc (by omega) _,by simp⟩;have:=af ((w.alloc o1).alloc o2) o3;rw [h4] at this;exact this
theorem ah {K:Nat} {w w':World} (h:Below K w w') {b:Nat} {ob:Obj} (hb:w.heap[b]? = some ob) (hK:b<K):w'.heap[b]? = some ob:=by
 rw [h.block b hK];exact hb
theorem aL {w:World} {b:Nat} {C:Array Value} {t:TypeId} {fr:Nat×Nat} (h:w.heap[b]? = some (.cells C t fr)):w.rangeAt b 0 C.toList:=by
 intro j v hv;rw [aa h];simpa using hv
theorem eY {w:World} {b:Nat} {C:Array Value} {t:TypeId} (h:w.heap[b]? = some (.cells C t (0,0))) (o n:Nat) (hn:o+n<=C.size):w.there b o n:=by
 intro j hj;refine ⟨?_,ai h _⟩;rw [aa h,Array.getElem?_eq_getElem (by omega)];rfl
theorem dH {ops:Array Oper} {rest:List Oper} {op:Oper} {a:Act} {w:World} {Q:Exit->Act->World->Prop} (hgd:op.guard=none) (ty:TypeId) (x:Operand) (ho:op.op = .load ty x)
  (b:Nat) (hx:a.eval x = .pointer (some ⟨b,0,none⟩)) (C:Array Value) (t:TypeId) (fr:Nat×Nat) (hb:w.heap[b]? = some (.cells C t fr)) (d:TypeDesc)
  (hu:P.underlying ty=some d) (hd:d.isRow=true) (hi:(P.info? ty).map (·.size)=some C.size)
  (h:wpList P ops Q rest (a.put op.dst (.agg C)) w):wpList P ops Q (op :: rest) a w :=
 wpList_load_mid hgd ty x ho b 0 hx C.toList d (aL hb) hu hd (by simpa using hi) (by simpa using h)
theorem mC {w:World} {b:Nat} {C:Array Value} {t ty:TypeId} {fr:Nat×Nat} (hb:w.heap[b]? = some (.cells C t fr)) (d:TypeDesc)
  (hu:P.underlying ty=some d) (hd:d.isRow=true) (hi:(P.info? ty).map (·.size)=some C.size):(loadVar ty ⟨b,0,none⟩).run P w = .ok (.agg C) w:=by
 have:=run_loadVar_mid (P:=P) w b 0 ty C.toList d (aL hb) hu hd (by simpa using hi);simpa using this
theorem dK (b:Nat):∀(vs:List Value) (o:Nat) (w:World) (C:Array Value) (t:TypeId),w.heap[b]? = some (.cells C t (0,0))->o+vs.length<=C.size ->
  (w.setCells b o vs).heap[b]? = some (.cells (C.toList.take o ++ vs ++ C.toList.drop (o+vs.length)).toArray t (0,0))/\(∀k,k≠b->(w.setCells b o vs).heap[k]? = w.heap[k]?)
   /\ (w.setCells b o vs).os=w.os/\(w.setCells b o vs).tape=w.tape/\(w.setCells b o vs).output=w.output/\(w.setCells b o vs).heap.size=w.heap.size
 | [],o,w,C,t,h,_=>by simp [World.setCells,h]
 | v :: vs,o,w,C,t,h,hl=>by
  have ih:=dK b vs (o+1) (w.setCell ⟨b,o,none⟩ v) (C.setIfInBounds o v) t (ap h o v) (by simp at hl ⊢;omega);obtain ⟨i1,i2,i3,i4,i5,i6⟩:=ih;have e:(w.setCells b o (v :: vs))=(w.setCell ⟨b,o,none⟩ v).setCells b (o+1) vs:=rfl;rw [e];refine ⟨?_,fun k hk=>(i2 k hk).trans (al o v hk),i3,i4,i5,by rw [i6];simp [World.setCell]⟩;rw [i1];have:=list_seg_step C.toList o v vs (by simp at hl ⊢;omega);rw [Array.toList_setIfInBounds,this];simp
theorem am {ops:Array Oper} {rest:List Oper} {op:Oper} {a:Act} {w:World} {Q:Exit->Act->World->Prop} (hgd:op.guard=none) (ty:TypeId) (x y:Operand) (ho:op.op = .store ty x y)
  (b:Nat) (cs:Array Value) (hx:a.eval x = .pointer (some ⟨b,0,none⟩)) (hy:a.eval y = .agg cs) (C:Array Value) (t:TypeId) (hb:w.heap[b]? = some (.cells C t (0,0))) (hs:cs.size=C.size)
  (hi:(P.info? ty).map (·.size)=some cs.size) (h1:cs.all (·.oneCell')=true)
  (h:∀w1:World,w.grownBy w1 (some b)->w1.heap[b]? = some (.cells cs t (0,0))->w1.heap.size=w.heap.size->wpList P ops Q rest (a.put op.dst undef) w1):wpList P ops Q (op :: rest) a w:=by
 obtain ⟨i1,i2,i3,i4,i5,i6⟩:=dK b cs.toList 0 w C t hb (by simp;omega);refine wpList_store_mid hgd ty x y ho b 0 cs hx hy (eY hb 0 _ (by omega)) hi h1 (h _ ⟨i3,i4,i5,by omega,fun k _ hk=>i2 k (by simpa using hk)⟩ ?_ i6);rw [i1];rw [List.drop_eq_nil_of_le (by simp;omega)];simp
theorem aw {w w1:World} {r:Option Nat} (h:w.grownBy w1 r) {b:Nat} {ob:Obj} (hb:w.heap[b]? = some ob) (hr:r≠some b):w1.heap[b]? = some ob:=by
 rw [h.block b (ae hb) (fun e=>hr e.symm)];exact hb
theorem ar (w:World) (r:Option Nat):w.grownBy w r:=⟨rfl,rfl,rfl,Nat.le_refl _,fun _ _ _=>rfl⟩
theorem q8 {a b c:World} {r:Option Nat} (h:a.grownBy b r) (k:b.grownBy c r):a.grownBy c r :=
 ⟨k.os.trans h.os,k.tape.trans h.tape,k.output.trans h.output,Nat.le_trans h.size k.size,fun i hi hr=>(k.block i (Nat.lt_of_lt_of_le hi h.size) hr).trans (h.block i hi hr)⟩
theorem mX {w w':World} (h:Below w.heap.size w w') (r:Option Nat):w.grownBy w' r:=⟨h.os,h.tape,h.output,h.size,fun k hk _=>h.block k hk⟩
theorem ak {w w':World} {b:Nat} (h:w.grownBy w' (some b)) (o:Nat) (v:Value):w.grownBy (w'.setCell ⟨b,o,none⟩ v) (some b) :=
 q8 h ⟨rfl,rfl,rfl,by simp [World.setCell],fun k _ hr=>al o v (fun e=>hr (by rw [e]))⟩
theorem dV {w w':World} {b K:Nat} (h:w.grownBy w' (some b)) (hb:K<=b) (hK:K<=w.heap.size):Below K w w' :=
 ⟨h.os,h.tape,h.output,h.size,fun k hk=>h.block k (by omega) (by simp;omega)⟩
theorem js {w:World} {ty e:TypeId} {len:Nat} {cs:Array Value} {i:Nat} {kd:IntKind} {v:Value} (hu:P.underlying ty=some (.array len e)) (hs:(P.info? e).map (·.size)=some 1) {ik:IntKind} (hue:P.underlying e=some (.int ik))
  (hi:i<len) (hv:cs[i]? = some v):(Instr.index ty (.agg cs) (.int kd i)).run P w = .ok v w:=by
 cases hq:P.info? e with
 | none=>simp [hq] at hs
 | some j =>
  have hj:j.size=1:=by simpa [hq] using hs
  simp [Instr.index,asIntOf,run_underlying hu,sizeOf,typeInfo,hq,hj,part,isAgg,run_underlying hue,hv];intro h;omega
def blk (w:World) (b:Nat):Array Value:=match w.heap[b]? with | some (.cells C _ _)=>C | _=>#[]
theorem eQ {fn:Func} {p:Tmp} {ty:TypeId} (h:fn.results=#[.cell p ty]) (tmps:Array Value) (w:World) {b:Nat} {C:Array Value} {t:TypeId} {fr:Nat×Nat}
  (hp:tmps.getD p undef = .pointer (some ⟨b,0,none⟩)) (hb:w.heap[b]? = some (.cells C t fr)) (d:TypeDesc) (hu:P.underlying ty=some d) (hd:d.isRow=true) (hi:(P.info? ty).map (·.size)=some C.size) :
  (results fn tmps).run P w = .ok (.agg C) w:=by
 have hp':tmps[p]?.getD undef = .pointer (some ⟨b,0,none⟩):=by simpa using hp
 simp only [results,h];simp [hp',asAddr,mC hb d hu hd hi]
end
end
section
open Go.RowKit Go.Maps
structure ac (F:Nat->Prop) (w w':World):Prop where
 os:w'.os=w.os
 tape:w'.tape=w.tape
 output:w'.output=w.output
 size:w.heap.size<=w'.heap.size
 block:∀k,k<w.heap.size->¬F k->w'.heap[k]? = w.heap[k]?
theorem ac.refl (F:Nat->Prop) (w:World):ac F w w:=⟨rfl,rfl,rfl,Nat.le_refl _,fun _ _ _=>rfl⟩
theorem ac.trans {F G:Nat->Prop} {a b c:World} (h:ac F a b) (k:ac G b c) (hG:∀i,G i->F i\/a.heap.size<=i):ac F a c :=
 ⟨k.os.trans h.os,k.tape.trans h.tape,k.output.trans h.output,Nat.le_trans h.size k.size,fun i hi hF =>
  (k.block i (Nat.lt_of_lt_of_le hi h.size) (fun hg=>by rcases hG i hg with h1 | h1;exact hF h1;omega)).trans (h.block i hi hF)⟩
theorem ac.mono {F G:Nat->Prop} {a b:World} (h:ac F a b) (hG:∀i,F i->G i):ac G a b:=⟨h.os,h.tape,h.output,h.size,fun i hi hn=>h.block i hi (fun hf=>hn (hG i hf))⟩
theorem ac.drew {F:Nat->Prop} {a b:World} (h:ac F a b):ac F a b.drew:=⟨h.os,h.tape,h.output,h.size,h.block⟩
theorem ac.drewN {F:Nat->Prop} {a b:World} (h:ac F a b) (n:Nat):ac F a (b.drewN n):=⟨h.os,h.tape,h.output,h.size,h.block⟩
theorem ac.of_grown {F:Nat->Prop} {a b:World} {r:Option Nat} (h:a.grownBy b r) (hr:∀i,r=some i->F i):ac F a b :=
 ⟨h.os,h.tape,h.output,h.size,fun i hi hF=>h.block i hi (fun e=>hF (hr i e.symm))⟩
theorem ac.of_below {F:Nat->Prop} {a b:World} (h:Below a.heap.size a b):ac F a b:=⟨h.os,h.tape,h.output,h.size,fun i hi _=>h.block i hi⟩
theorem ac.grown {F:Nat->Prop} {a b c:World} {r:Option Nat} (h:ac F a b) (k:b.grownBy c r) (hr:∀i,r=some i->F i\/a.heap.size<=i):ac F a c :=
 h.trans (G:=fun i=>r=some i) (ac.of_grown k fun _ e=>e) hr
theorem ac.andBelow {F:Nat->Prop} {a b c:World} (h:ac F a b) (k:Below b.heap.size b c):ac F a c:=h.trans (G:=fun _=>False) (ac.of_below k) (fun _ e=>e.elim)
theorem ac.below {F:Nat->Prop} {a b:World} (h:ac F a b) {K:Nat} (hK:K<=a.heap.size) (hF:∀i,F i->K<=i):Below K a b :=
 ⟨h.os,h.tape,h.output,h.size,fun i hi=>h.block i (by omega) (fun hf=>by have:=hF i hf;omega)⟩
theorem ac.heap {F:Nat->Prop} {a b:World} (h:ac F a b) {k:Nat} {o:Obj} (hk:a.heap[k]? = some o) (hF:¬F k):b.heap[k]? = some o:=by
 rw [h.block k (ae hk) hF];exact hk
theorem ac.cell {F:Nat->Prop} {a b:World} (h:ac F a b) {ad:Addr} {v:Value} (hc:a.cell? ad=some v) (hF:¬F ad.block):b.cell? ad=some v:=by
 rw [World.cell?_of_block (h.block ad.block (World.block_lt_of_cell? a _ hc) hF)];exact hc
theorem ac.row {F:Nat->Prop} {a b:World} (h:ac F a b) {base:Nat} {e:TypeId} {size:Nat} {v:Value} {n:Nat} {xs:List Value} (hr:a.ownsRow base e size v n xs) (hF:∀i,v.ownBlock=some i->¬F i):b.ownsRow base e size v n xs:=by
 refine ⟨hr.1,?_⟩;rcases hr.2 with hn | ⟨g,cap,cur,rfl,hb,hg,rest⟩
 ·exact .inl hn
 ·exact .inr ⟨g,cap,cur,rfl,hb,h.heap hg (hF g rfl),rest⟩
theorem ac.map {F:Nat->Prop} {a b:World} (h:ac F a b) {H:Type} {P:Program} {k:TypeId} {R:Value->Option (DataW H×List MemPlace)} {m n:Nat} {D:DataW H} (hm:a.ownsMap P k R m n D) (hF:¬F m):b.ownsMap P k R m n D:=by
 obtain ⟨es,clock,hb,rest⟩:=hm;exact ⟨es,clock,h.heap hb hF,rest⟩
theorem dW {K:Nat} {w w':World} {r:Option Nat} (h:w.grownBy w' r) (hK:K<=w.heap.size) (hr:∀i,r=some i->K<=i):Below K w w' :=
 ⟨h.os,h.tape,h.output,h.size,fun k hk=>h.block k (by omega) (fun e=>by have:=hr k e.symm;omega)⟩
theorem d7 {w:World} {a b:Nat} {x y:Obj} (hx:w.heap[a]? = some x) (hy:w.heap[b]? = some y) (h:x≠y):a≠b:=fun e=>by
 subst e;rw [hx] at hy;exact h (Option.some.inj hy)
theorem bo {w:World} {base g n cap:Nat} {e:TypeId} {size:Nat} {xs:List Value} (h:w.ownsRow base e size (.slice (some ⟨g,0,none⟩) n cap) n xs):∃cur,w.heap[g]? = some (.cells cur e (0,0))/\n<=cap/\cap<=maxLen/\cur.size=cap*size/\cur.toList.take (n*size)=xs:=by
 rcases h.2 with ⟨hn,_⟩ | ⟨g',cap',cur,hv,_,hg,h1,h2,h3,h4⟩
 ·simp at hn
 ·simp only [Value.slice.injEq,Option.some.injEq,Addr.mk.injEq,and_true] at hv;obtain ⟨rfl,_,rfl⟩:=hv;exact ⟨cur,hg,h1,h2,h3,h4⟩
theorem bt {H:Type} {P:Program} {k:TypeId} {R:Value->Option (DataW H×List MemPlace)} {w:World} {m n:Nat} {D:DataW H} (h:w.ownsMap P k R m n D):∃es clock,w.heap[m]? = some (.map es clock):=by
 obtain ⟨es,clock,hb,_⟩:=h;exact ⟨es,clock,hb⟩
def aE (v:Value):Option (DataW Value×List MemPlace):=some (.held v,[])
theorem eM {v:Value} {d:DataW Value} {ps:List MemPlace} (h:aE v=some (d,ps)):d = .held v:=by
 simp [aE] at h;exact h.1.symm
theorem fI {P:Program} {t k e:TypeId} {w:World} {b n:Nat} {D:DataW Value} (h:w.ownsMap P k aE b n D) (K:Keyed P k) (ht:P.underlying t=some (.map k e)) {z:Value} (hz:(zeroValue e).run P w = .ok z w) {key:Value} {kl:Lit} (hkey:keyOf P k key=some kl) :
  ∃v,(Instr.lookup t (.map (some b)) key false).run P w = .ok v w/\D.atKey kl (.held z) = .held v:=by
 obtain ⟨v,ps,hr,hv⟩:=h.lookup K ht hz (zd := .held z) (zp:=[]) rfl hkey;exact ⟨v,hr,eM hv⟩
theorem dZ (n:Int):WideAt.IsKeyLit (.int .i64 n):=by simp [WideAt.IsKeyLit]
end
section
open Go.RowKit Go.Maps
inductive OpS where
 | write (n:Int) (s:ByteArray)
 | flush
def cO:OpS->Value
 | .write n s => .iface 256 (.agg #[.int .i64 n,.string s])
 | .flush => .iface 258 (.agg #[])
structure aq where
 first:List ByteArray
 ops:List OpS
 safe:List ByteArray
 waits:Int->List ByteArray
def upd (f:Int->List ByteArray) (n:Int) (x:List ByteArray):Int->List ByteArray:=fun k=>if k=n then x else f k
theorem eD (f:Int->List ByteArray) (n:Int) (x:List ByteArray):upd f n x n=x:=by simp [upd]
theorem aQ (f:Int->List ByteArray) {n k:Int} (x:List ByteArray) (h:k≠n):upd f n x k=f k:=by simp [upd,h]
def fm:Nat:=1000000000
theorem fk {n:Nat} (h:n<fm):n+1<=maxLen/\(n+1)*16<=140737488355328/\n<maxLen:=by unfold fm at h;unfold maxLen;omega
structure PL where
 g:Nat
 cap:Nat
 m:Nat
 D:DataW Value
 row:Int->Nat
 rcap:Int->Nat
def PL.rowV (L:PL) (waits:Int->List ByteArray) (n:Int):Value:=if waits n=[] then .slice none 0 0 else .slice (some ⟨L.row n,0,none⟩) (waits n).length (L.rcap n)
def PL.foot (L:PL) (waits:Int->List ByteArray) (i:Nat):Prop:=i=L.g\/i=L.m\/∃n,waits n≠[]/\i=L.row n
abbrev fB (l:List ByteArray):List Value:=l.map Value.string
theorem ro (l:List ByteArray):∀u∈fB l,u.oneCell'=true:=by
 intro u hu;obtain ⟨s,_,rfl⟩:=List.mem_map.1 hu;rfl
structure ay (w:World) (L:PL) (safe:List ByteArray) (waits:Int->List ByteArray) (B:Nat):Prop where
 safeRow:w.ownsRow 0 114 1 (.slice (some ⟨L.g,0,none⟩) safe.length L.cap) safe.length (fB safe)
 mapOwn:w.ownsMap Tryz.prog 3 aE L.m B L.D
 absent:∀n,waits n=[]->Maps.has L.D (.int .i64 n)=false
 there:∀n,waits n≠[]->Maps.has L.D (.int .i64 n)=true
 held:∀n,waits n≠[]->∀z,L.D.atKey (.int .i64 n) z = .held (.slice (some ⟨L.row n,0,none⟩) (waits n).length (L.rcap n))
 rows:∀n,waits n≠[]->w.ownsRow 0 114 1 (.slice (some ⟨L.row n,0,none⟩) (waits n).length (L.rcap n)) (waits n).length (fB (waits n))
 off:∀n,waits n≠[]->L.row n≠L.g
 apart:∀n n',waits n≠[]->waits n'≠[]->L.row n=L.row n'->n=n'
 len:∀n,(waits n).length<=B
 dom:∀n,waits n≠[]->0<=n/\n<safe.length
 pos:0<safe.length
 most:safe.length<=4096
variable {w w':World} {L:PL} {safe:List ByteArray} {waits:Int->List ByteArray} {B:Nat}
theorem ay.foot_block (h:ay w L safe waits B) {i:Nat} (hi:L.foot waits i):(∃cur,w.heap[i]? = some (.cells cur 114 (0,0)))\/∃es c,w.heap[i]? = some (.map es c):=by
 rcases hi with rfl | rfl | ⟨n,hn,rfl⟩
 ·obtain ⟨cur,hc,_⟩:=bo h.safeRow;exact .inl ⟨cur,hc⟩
 ·obtain ⟨es,c,hm⟩:=bt h.mapOwn;exact .inr ⟨es,c,hm⟩
 ·obtain ⟨cur,hc,_⟩:=bo (h.rows n hn);exact .inl ⟨cur,hc⟩
theorem ay.foot_lt (h:ay w L safe waits B) {i:Nat} (hi:L.foot waits i):i<w.heap.size:=by
 rcases h.foot_block hi with ⟨_,hc⟩ | ⟨_,_,hc⟩ <;> exact ae hc
theorem ay.foot_other (h:ay w L safe waits B) {i:Nat} {cs:Array Value} {t:TypeId} {fr:Nat×Nat} (hi:w.heap[i]? = some (.cells cs t fr)) (ht:t≠114):¬L.foot waits i:=by
 intro hf;rcases h.foot_block hf with ⟨_,hc⟩ | ⟨_,_,hc⟩
 ·rw [hi] at hc;simp only [Option.some.injEq,Obj.cells.injEq] at hc;exact ht hc.2.1
 ·rw [hi] at hc;cases hc
theorem ay.keep (h:ay w L safe waits B) {G:Nat->Prop} (k:ac G w w') (hG:∀i,L.foot waits i->¬G i):ay w' L safe waits B where
 safeRow:=k.row h.safeRow (fun i hi=>hG i (.inl (Option.some.inj hi).symm))
 mapOwn:=k.map h.mapOwn (hG _ (.inr (.inl rfl)))
 absent:=h.absent
 there:=h.there
 held:=h.held
 rows:=fun n hn=>k.row (h.rows n hn) (fun i hi=>hG i (.inr (.inr ⟨n,hn,(Option.some.inj hi).symm⟩)))
 off:=h.off
 apart:=h.apart
 len:=h.len
 dom:=h.dom
 pos:=h.pos
 most:=h.most
theorem yh (w:World):(zeroValue 117).run Tryz.prog w = .ok (.slice none 0 0) w:=Tryz.zeroValue117 w
theorem ip {n:Int} (h0 : -9223372036854775808<=n) (h1:n<9223372036854775808):keyOf Tryz.prog 3 (.int .i64 n)=some (.int .i64 n):=by
 refine keyOf_int_mk Tryz.underlying3 ?_;exact WalkArith.wf_i64 ⟨h0,by omega⟩
theorem ay.look (h:ay w L safe waits B) (n:Int) (h0:0<=n) (h1:n<safe.length) (W:World) (hW:W.heap=w.heap):(Instr.lookup 185 (.map (some L.m)) (.int .i64 n) false).run Tryz.prog W = .ok (L.rowV waits n) W:=by
 have hmost:=h.most;have hmap:W.ownsMap Tryz.prog 3 aE L.m B L.D:=by
  obtain ⟨es,c,hb,r⟩:=h.mapOwn;exact ⟨es,c,by rw [hW];exact hb,r⟩
 obtain ⟨v,hr,hv⟩:=fI hmap (int_keyed Tryz.underlying3) Tryz.underlying185 (yh W) (ip (n:=n) (by omega) (by omega));rw [hr];by_cases hn:waits n=[]
 ·rw [atKey_of_not_has (h.absent n hn)] at hv;rw [PL.rowV,if_pos hn, <- DataW.held.inj hv]
 ·rw [h.held n hn] at hv;rw [PL.rowV,if_neg hn,DataW.held.inj hv]
theorem ay.look2 (h:ay w L safe waits B) (n:Int) (h0:0<=n) (h1:n<safe.length) (W:World) (k:ac (fun _=>False) w W):(Instr.lookup 185 (.map (some L.m)) (.int .i64 n) false).run Tryz.prog W = .ok (L.rowV waits n) W :=
 (h.keep k (fun _ _ e=>e)).look n h0 h1 W rfl
theorem ay.rowOwn (h:ay w L safe waits B) (n:Int):w.ownsRow 0 114 1 (L.rowV waits n) (waits n).length (fB (waits n)):=by
 by_cases hn:waits n=[]
 ·simp only [PL.rowV,hn];exact World.ownsRow_nil _ _ _ _
 ·simp only [PL.rowV,if_neg hn];exact h.rows n hn
theorem PL.rowV_block {n:Int} {i:Nat} (h:(L.rowV waits n).ownBlock=some i):waits n≠[]/\i=L.row n:=by
 by_cases hn:waits n=[]
 ·simp [PL.rowV,hn,Value.ownBlock] at h
 ·simp [PL.rowV,hn,Value.ownBlock] at h;exact ⟨hn,h.symm⟩
theorem ay.mid (h:ay w L safe waits B) {n:Int} {w0 w1:World} (k0:Below w.heap.size w w0) (hgr:w0.grownBy w1 (L.rowV waits n).ownBlock) :
  w1.ownsMap Tryz.prog 3 aE L.m B L.D/\(∀i o,w0.heap[i]? = some o->¬L.foot waits i->w1.heap[i]? = some o):=by
 have hf:∀i,(L.rowV waits n).ownBlock=some i->L.foot waits i:=fun i e=>by
  obtain ⟨hn,e'⟩:=PL.rowV_block e;exact .inr (.inr ⟨n,hn,e'⟩)
 have K1:ac (fun i=>(L.rowV waits n).ownBlock=some i) w w1:=(ac.of_below k0).trans (ac.of_grown hgr (fun i e=>e)) (fun i e => .inl e);refine ⟨K1.map h.mapOwn (fun he => ?_),fun i o hi hn=>(hgr.block i (ae hi) (fun e=>hn (hf i e.symm))).trans hi⟩;obtain ⟨es,mc,hmb⟩:=bt h.mapOwn;obtain ⟨hn,e'⟩:=PL.rowV_block he;obtain ⟨c,hc,_⟩:=bo (h.rows n hn);rw [<- e',hmb] at hc;cases hc
theorem ay.wrote (h:ay w L safe waits B) {n:Int} (h0:0<=n) (h1:n<safe.length) {s:ByteArray} {w0 w1 w2:World} {g cap:Nat} (k0:Below w.heap.size w w0)
  (hown:w1.ownsRow 0 114 1 (.slice (some ⟨g,0,none⟩) ((waits n).length+1) cap) ((waits n).length+1) (fB (waits n) ++ [.string s]))
  (hgr:w0.grownBy w1 (L.rowV waits n).ownBlock) (hat:(L.rowV waits n).ownBlock=some g\/g=w0.heap.size)
  (hmap:w2.ownsMap Tryz.prog 3 aE L.m (B+1) (L.D.put (.int .i64 n) (.held (.slice (some ⟨g,0,none⟩) ((waits n).length+1) cap)))) (hgr2:w1.grownBy w2 (some L.m)) :
  ay w2 { L with D:=L.D.put (.int .i64 n) (.held (.slice (some ⟨g,0,none⟩) ((waits n).length+1) cap)),row:=fun k=>if k=n then g else L.row k,rcap:=fun k=>if k=n then cap else L.rcap k } safe (upd waits n (waits n ++ [s])) (B+1) /\
   (∀i,({ L with D:=L.D.put (.int .i64 n) (.held (.slice (some ⟨g,0,none⟩) ((waits n).length+1) cap)),row:=fun k=>if k=n then g else L.row k,rcap:=fun k=>if k=n then cap else L.rcap k }:PL).foot (upd waits n (waits n ++ [s])) i->L.foot waits i\/w.heap.size<=i)/\ac (L.foot waits) w w2:=by
 have hold:g<w.heap.size->waits n≠[]/\g=L.row n:=fun hlt=>by
  rcases hat with e | e
  ·exact PL.rowV_block e
  ·have:=k0.size;omega
 have K1:ac (fun i=>(L.rowV waits n).ownBlock=some i) w w1:=(ac.of_below k0).trans (ac.of_grown hgr (fun i e=>e)) (fun i e => .inl e);have K2:ac (fun i=>(L.rowV waits n).ownBlock=some i\/i=L.m) w w2:=(K1.mono (fun _ => .inl)).grown hgr2 (fun i e => .inl (.inr (Option.some.inj e).symm));obtain ⟨es,mc,hmb⟩:=bt h.mapOwn;obtain ⟨gc,hgb,_⟩:=bo h.safeRow;obtain ⟨rc,hrb,_⟩:=bo hown;obtain ⟨es2,mc2,hmb2⟩:=bt hmap;have hgm:g≠L.m:=by
  intro e;have hm1:w1.heap[L.m]? = some (.map es mc):=K1.heap hmb (fun he=>by
   obtain ⟨hn,e'⟩:=PL.rowV_block he;obtain ⟨c,hc,_⟩:=bo (h.rows n hn);rw [<- e'] at hc;rw [hmb] at hc;cases hc)
  rw [<- e,hrb] at hm1;cases hm1
 have hmL:L.m≠L.g:=fun e=>by rw [e,hgb] at hmb;cases hmb
 have hrm:∀k,waits k≠[]->L.row k≠L.m:=fun k hk e=>by
  obtain ⟨c,hc,_⟩:=bo (h.rows k hk);rw [e,hmb] at hc;cases hc
 have hbig:∀k,waits k≠[]->k≠n->L.row k≠g:=fun k hk hkn e=>by
  have hlt:L.row k<w.heap.size:=h.foot_lt (.inr (.inr ⟨k,hk,rfl⟩));obtain ⟨hn,e'⟩:=hold (by rw [<- e];exact hlt);exact hkn (h.apart k n hk hn (e.trans e'))
 have hgg:g≠L.g:=fun e=>by
  obtain ⟨hn,e'⟩:=hold (by rw [e];exact h.foot_lt (.inl rfl));exact h.off n hn (e'.symm.trans e)
 refine ⟨⟨?_,hmap,?_,?_,?_,?_,?_,?_,?_,?_,h.pos,h.most⟩,fun i hi => ?_,K2.mono (fun i e => ?_)⟩
 ·refine K2.row h.safeRow (fun i hi => ?_);obtain rfl:L.g=i:=Option.some.inj hi;rintro (e | e)
  ·obtain ⟨hn,e'⟩:=PL.rowV_block e;exact h.off n hn e'.symm
  ·exact hmL e.symm
 ·intro k hk;by_cases hkn:k=n
  ·subst hkn;rw [eD] at hk;simp at hk
  ·rw [aQ _ _ hkn] at hk;rw [has_put_other (by simpa using hkn)];exact h.absent k hk
 ·intro k hk;by_cases hkn:k=n
  ·subst hkn;exact has_put_same h.mapOwn.isMap (dZ _) _
  ·rw [aQ _ _ hkn] at hk;rw [has_put_other (by simpa using hkn)];exact h.there k hk
 ·intro k hk z;by_cases hkn:k=n
  ·subst hkn;rw [atKey_put_same h.mapOwn.isMap (dZ _)];simp [eD]
  ·rw [aQ _ _ hkn] at hk;rw [atKey_put_other (by simpa using hkn),h.held k hk];simp [aQ _ _ hkn,hkn]
 ·intro k hk;by_cases hkn:k=n
  ·subst hkn;simp only [eD,if_true,List.length_append,List.length_cons,List.length_nil,Nat.zero_add];have:=hown.kept hgr2 (.inr (fun e=>hgm (by simpa [Value.ownBlock] using e)));simpa [fB] using this
  ·rw [aQ _ _ hkn] at hk;simp only [aQ _ _ hkn,hkn,if_false];refine K2.row (h.rows k hk) (fun i hi => ?_);obtain rfl:L.row k=i:=Option.some.inj hi;rintro (e | e)
   ·obtain ⟨hn,e'⟩:=PL.rowV_block e;exact hkn (h.apart k n hk hn e')
   ·exact hrm k hk e
 ·intro k hk;by_cases hkn:k=n
  ·subst hkn;simpa using hgg
  ·rw [aQ _ _ hkn] at hk;simpa [hkn] using h.off k hk
 ·intro k k' hk hk' e;by_cases hkn:k=n
  ·by_cases hkn':k'=n
   ·rw [hkn,hkn']
   ·rw [aQ _ _ hkn'] at hk';simp only [hkn,hkn',if_true,if_false] at e;exact absurd e.symm (hbig k' hk' hkn')
  ·by_cases hkn':k'=n
   ·rw [aQ _ _ hkn] at hk;simp only [hkn,hkn',if_true,if_false] at e;exact absurd e (hbig k hk hkn)
   ·rw [aQ _ _ hkn] at hk;rw [aQ _ _ hkn'] at hk';simp only [hkn,hkn',if_false] at e;exact h.apart k k' hk hk' e
 ·intro k;by_cases hkn:k=n
  ·subst hkn;rw [eD];have:=h.len k;simp;omega
  ·rw [aQ _ _ hkn];have:=h.len k;omega
 ·intro k hk;by_cases hkn:k=n
  ·subst hkn;exact ⟨h0,h1⟩
  ·rw [aQ _ _ hkn] at hk;exact h.dom k hk
 ·rcases hi with e | e | ⟨k,hk,e⟩
  ·exact .inl (.inl e)
  ·exact .inl (.inr (.inl e))
  ·by_cases hkn:k=n
   ·simp only [hkn,if_true] at e;by_cases hlt:g<w.heap.size
    ·obtain ⟨hn,e'⟩:=hold hlt;exact .inl (.inr (.inr ⟨n,hn,e.trans e'⟩))
    ·exact .inr (by omega)
   ·rw [aQ _ _ hkn] at hk;simp only [hkn,if_false] at e;exact .inl (.inr (.inr ⟨k,hk,e⟩))
 ·rcases e with e | e
  ·obtain ⟨hn,e'⟩:=PL.rowV_block e;exact .inr (.inr ⟨n,hn,e'⟩)
  ·exact .inr (.inl e)
end
section
open Go.RowKit
theorem hid {p:Prop} (h:p):Hid p:=h
theorem vr (n:Nat) (hn:n<=4096) (w:World):Calls Tryz.prog 97 #[.int .u64 1,.int .u64 n] w fun e w'=>e = .returned (.tuple #[.int .u64 0,.int .u64 n])/\w'=w:=by
 have h:=Tryz.bits_Mul 1 n (by omega) (by omega) w;rw [show 1*n / 18446744073709551616=0 by omega,show 1*n%18446744073709551616=n by omega] at h;exact h
theorem ww:(Tryz.prog.info? 114).map (fun i=>(i.zero,i.size,i.bytes))=some (some (.string ⟨#[]⟩),1,16):=by kernel_rfl
theorem zr:(Tryz.prog.info? 114).map (·.size)=some 1:=by kernel_rfl
theorem zS (n:Nat):madeCells (Value.string ⟨#[]⟩).cells (n*1)=(List.replicate n (Value.string ⟨#[]⟩)).toArray:=by
 apply Array.ext
 ·simp [madeCells]
 ·intro i h1 h2;simp [madeCells,Value.cells,Nat.mod_one]
theorem kX {w:World} {ops:Array Oper} {rest:List Oper} {o:Oper} {a:Act} {Q:Exit->Act->World->Prop} (hg:o.guard=none) (l c:Operand) (hop:o.op=Op.makeSlice 117 l c)
  (n:Nat) (hl:a.eval l = .int .i64 n) (hc:a.eval c = .int .i64 n) (hm:n<=4096)
  (h:∀w1:World,Below w.heap.size w w1->w1.heap[w.heap.size]? = some (.cells (List.replicate n (Value.string ⟨#[]⟩)).toArray 114 (0,0))->w1.heap.size=w.heap.size+1 ->
   wpList Tryz.prog ops Q rest (a.put o.dst (.slice (some ⟨w.heap.size,0,none⟩) n n)) w1):wpList Tryz.prog ops Q (o :: rest) a w:=by
 obtain ⟨i,hi,hz,hs,hb⟩:=info_parts ww;refine wpList_plain hg fun K hK' => ?_;have hrun:=run_make (P:=Tryz.prog) w 117 114 i (.string ⟨#[]⟩) Tryz.underlying117 hi hz .i64 .i64 n n (by omega) (by omega) (by rw [hb];omega) (by omega);unfold Oper.wp;simp only [Int.toNat_natCast,hs,zS] at hrun;generalize (List.replicate n (Value.string ⟨#[]⟩)).toArray=Z at *;simp [execOp,hop,hl,hc,hrun,Result.andThen];exact hK' _ _ (h _ ((Below.refl _ _).alloc (Nat.le_refl _) _) (af _ _) (by simp))
theorem fG {P:Program} {w:World} {ops:Array Oper} {rest:List Oper} {o:Oper} {a:Act} {Q:Exit->Act->World->Prop} (hgd:o.guard=none) (d s:Operand) (dT sT:TypeId)
  (ho:o.op = .call { callee := .builtin .copy,args:=#[d,s],argTypes:=#[dT,sT] }) (elem:TypeId) (hu:P.underlying dT=some (.slice elem)) (hsz:(P.info? elem).map (·.size)=some 1)
  (g off dLen dCap:Nat) (ad:Addr) (sLen sCap:Nat) (hd:a.eval d = .slice (some ⟨g,off,none⟩) dLen dCap) (hs:a.eval s = .slice (some ad) sLen sCap)
  (C:Array Value) (t:TypeId) (hg:w.heap[g]? = some (.cells C t (0,0))) (cs:List Value) (hn:cs.length=Nat.min sLen dLen) (hsrc:∀j v,cs[j]? = some v->w.cell? (ad.add j)=some v)
  (hfit:off+cs.length<=C.size) (h1:∀v∈cs,v.oneCell'=true)
  (h:∀w1:World,w.grownBy w1 (some g)->w1.heap[g]? = some (.cells (C.toList.take off ++ (cs ++ C.toList.drop (off+cs.length))).toArray t (0,0))->w1.heap.size=w.heap.size ->
   wpList P ops Q rest (a.put o.dst (goInt cs.length)) w1):wpList P ops Q (o :: rest) a w :=
 wpList_copy_own hgd d s dT sT ho elem hu hsz g off dLen dCap ad sLen sCap hd hs C t hg cs hn hsrc hfit h1
  (h _ ⟨rfl,rfl,rfl,by simp [World.setRow],fun k _ hk=>setRow_other w g k _ (fun e=>hk (by rw [e]))⟩ (setRow_heap w g C _ t (0,0) hg) (by simp [World.setRow]))
theorem ju {P:Program} {w:World} {o:Oper} {a:Act} {K:Act->World->Prop} {Q:Exit->Act->World->Prop} (d s:Operand) (dT sT:TypeId)
  (ho:o.op = .call { callee := .builtin .copy,args:=#[d,s],argTypes:=#[dT,sT] }) (elem:TypeId) (hu:P.underlying dT=some (.slice elem)) (hsz:(P.info? elem).map (·.size)=some 1)
  (g off dLen dCap:Nat) (ad:Addr) (sLen sCap:Nat) (hd:a.eval d = .slice (some ⟨g,off,none⟩) dLen dCap) (hs:a.eval s = .slice (some ad) sLen sCap)
  (C:Array Value) (t:TypeId) (hg:w.heap[g]? = some (.cells C t (0,0))) (cs:List Value) (hn:cs.length=Nat.min sLen dLen) (hsrc:∀j v,cs[j]? = some v->w.cell? (ad.add j)=some v)
  (hfit:off+cs.length<=C.size) (h1:∀v∈cs,v.oneCell'=true)
  (h:∀w1:World,w.grownBy w1 (some g)->w1.heap[g]? = some (.cells (C.toList.take off ++ (cs ++ C.toList.drop (off+cs.length))).toArray t (0,0))->w1.heap.size=w.heap.size ->
   K (a.put o.dst (goInt cs.length)) w1):o.wp P a w K Q:=by
 have hrun:=run_copy_row (P:=P) w dT sT o.type elem g off dLen dCap ad sLen sCap C t cs hu hsz hg hn hsrc hfit h1;rw [List.append_assoc] at hrun;unfold Oper.wp;simp only [execOp,ho,resolve,invoke,builtin,hd,hs,hrun,Sem.run_bind,Sem.run_pure,Result.andThen_ok,List.map_toArray,List.map_cons,List.map_nil];exact h _ ⟨rfl,rfl,rfl,by simp [World.setRow],fun k _ hk=>setRow_other w g k _ (fun e=>hk (by rw [e]))⟩ (setRow_heap w g C _ t (0,0) hg) (by simp [World.setRow])
def el (x y:Value) (n k:Nat):List Value:=List.replicate k x ++ List.replicate (n-k) y
theorem oe (x y:Value) (n k:Nat) (h:k<=n):(el x y n k).length=n:=by simp [el];omega
theorem qu (x y:Value) (n k m:Nat):(el x y n k).take k ++ (List.replicate m x ++ (el x y n k).drop (k+m))=el x y n (k+m):=by
 unfold el;rw [List.take_append_of_le_length (by simp),List.take_of_length_le (by simp),List.drop_append,List.drop_of_length_le (by simp),List.nil_append,List.drop_replicate, <- List.append_assoc,List.replicate_append_replicate]
 congr 2
 simp;omega
theorem zh {w w1:World} {b:Nat} {v:Value} (hb:w1.heap[b]? = w.heap[b]?) (hc:w.cell? ⟨b,0,none⟩=some v):∀j u,[v][j]? = some u->w1.cell? ((⟨b,0,none⟩:Addr).add j)=some u:=by
 intro j u hu;cases j with
 | zero =>
  rw [Addr.add_mid, <- Option.some.inj hu];exact (World.cell?_of_block (w:=w) hb).trans hc
 | succ j=>simp at hu
theorem xV (n:Nat) (x y:Value):((List.replicate n y).toArray.toList.take 0 ++ ([x] ++ (List.replicate n y).toArray.toList.drop (0+[x].length)))=el x y n 1:=by
 simp [el]
theorem xA {w:World} {g n k m:Nat} {x y:Value} {t:TypeId} {fr:Nat×Nat} (h:w.heap[g]? = some (.cells (el x y n k).toArray t fr)) (hm:m<=k):∀j u,(List.replicate m x)[j]? = some u->w.cell? ((⟨g,0,none⟩:Addr).add j)=some u:=by
 intro j u hu;have hj:j<m:=by have:=(List.getElem?_eq_some_iff.1 hu).1;simpa using this
 rw [Addr.add_mid,Nat.zero_add,aa h,List.getElem?_toArray,el,List.getElem?_append_left (by simp;omega),List.getElem?_replicate,if_pos (by omega)];rw [List.getElem?_replicate,if_pos hj] at hu;exact hu
theorem sB (s:ByteArray) (b n:Nat) (h1:1<=n) (hn:n<=4096) (w:World) (hb:w.cell? ⟨b,0,none⟩=some (.string s)) :
  Calls Tryz.prog 49 #[.slice (some ⟨b,0,none⟩) 1 1,.int .i64 n] w fun e w'=>e = .returned (.slice (some ⟨w.heap.size,0,none⟩) n n)/\w'.heap[w.heap.size]? = some (.cells (List.replicate n (Value.string s)).toArray 114 (0,0))/\Below w.heap.size w w':=by
 have HB:=hid hb;have hbl:=World.block_lt_of_cell? w _ hb;go_enter Tryz.func49,Tryz.ntmps49
 go_wp2_with (first
  | (go_at_call 97;refine (vr n hn _).mono ?_;rintro e w9 ⟨rfl,h9⟩;obtain rfl:=h9.symm)
  | (refine kX rfl (.tmp 29) (.tmp 29) rfl n rfl rfl hn ?_;intro w1 hB1 hb1 hz1;have HB1:=hid hB1;have Hb1:=hid hb1;clear hB1 hb1 hz1)
  | (refine fG rfl (.tmp 31) (.tmp 32) 117 117 rfl 114 Tryz.underlying117 zr w.heap.size 0 n n ⟨b,0,none⟩ 1 1 rfl rfl _ 114 Hb1.out [.string s] (Nat.min_eq_left h1).symm (zh (HB1.out.block b hbl) HB.out) (by simpa using h1) (by simp [Value.oneCell']) ?_;intro w2 hg2 hb2 hz2;rw [xV] at hb2;have H2:=hid hb2;have HB2:=hid (HB1.out.trans (dV hg2 (Nat.le_refl _) HB1.out.size));clear hb2 hg2 hz2 Hb1 HB1))
 clear hb
 go_loopw [8] (fun i wr=>∃k:Nat,1<=k/\k<=n/\i = .int .i64 k/\Hid (wr.heap[w.heap.size]? = some (.cells (el (.string s) (.string ⟨#[]⟩) n k).toArray 114 (0,0)))/\Hid (Below w.heap.size w wr)) (fun i _=>n-(intOf i).toNat)
 case atStart=>exact ⟨1,by omega,h1,rfl,H2,HB2⟩
 case round =>
  obtain ⟨k,hk1,hkn,rfl,hF,hBr⟩:=hrel;clear H2 HB2;by_cases hlt:k<n
  ·have hk0:(0:Int)<=(k:Int):=by omega
   have hk2:(k:Int)<=(n:Int):=by omega
   have hk3:(k:Int)<(n:Int):=by omega
   go_wp2;refine wp_region_noPanic ?_;refine wp_region_held_drew (S:=fun w'=>Below w.heap.size w w') (by kernel_rfl) hBr.out.drew (fun hHeld => ?_);refine tq 0 _ ?_
   try simp only [tS]
   refine tq 1 _ ?_
   try simp only [tS]
   refine tq 2 _ ?_
   try simp only [tS]
   refine tq 3 _ ?_
   try simp only [tS]
   refine tq 4 _ ?_
   try simp only [tS]
   refine tq 5 _ ?_
   try simp only [tS]
   refine tq 6 _ ?_
   try simp only [tS]
   refine tr 7 (fun K hK => ?_);rw [if_neg (show ¬(n=k) by omega)];generalize hm:Nat.min k (n-k)=m;have hm1:1<=m:=by rw [<- hm];exact Nat.le_min.2 ⟨hk1,by omega⟩
   have hmk:m<=k:=by rw [<- hm];exact Nat.min_le_left _ _
   have hmn:k+m<=n:=by have:m<=n-k:=(by rw [<- hm];exact Nat.min_le_right _ _);omega
   refine ju (.tmp 41) (.tmp 44) 117 117 rfl 114 Tryz.underlying117 zr w.heap.size k (n-k) (n-k) ⟨w.heap.size,0,none⟩ k n rfl rfl _ 114 (w:=wr.drew) hF.out (List.replicate m (.string s)) (by rw [List.length_replicate,hm]) (xA hF.out hmk) (by simp [oe _ _ _ _ hkn];omega) (by intro v hv;rw [List.eq_of_mem_replicate hv];rfl) ?_;intro w2 hg2 hb2 hz2;simp only [List.length_replicate] at hb2;rw [qu] at hb2;have H2:=hid hb2;have HB2:=hid (hBr.out.drew.trans (dV hg2 (Nat.le_refl _) hBr.out.drew.size));clear hb2 hg2 hz2 hHeld;refine hK.out _ _ HB2.out (fun hHeld => ?_);clear hK K
   try simp only [tS]
   refine tq 8 _ ?_
   try simp only [tS]
   refine tq 9 _ ?_
   try simp only [tS]
   refine wpAnyH_done (by kernel_rfl) ?_ _;refine NoPanic.normal ?_;go_wp2
   go_roundw
   case rel =>
    have hw:IntKind.i64.wrap ((k:Int)+(m:Int))=((k+m:Nat):Int):=by rw [IntWalk.i64_in _ (by omega)];omega
    exact ⟨k+m,by omega,hmn,by rw [hw],H2,HB2⟩
   case measure =>
    have hw:IntKind.i64.wrap ((k:Int)+(m:Int))=(k:Int)+(m:Int):=IntWalk.i64_in _ (by omega);simp [intOf,hw];omega
  ·have hge:¬((k:Int)<(n:Int)):=by omega
   obtain rfl:k=n:=by omega
   go_wp2;go_ret;refine ⟨rfl,?_,hBr.out⟩;have:=hF.out
   rwa [show el (.string s) (.string ⟨#[]⟩) k k=List.replicate k (Value.string s) by simp [el]] at this
end
section
open Go.RowKit Go.Maps
theorem jt {P:Program} {w:World} {o:Oper} {a:Act} {K:Act->World->Prop} {Q:Exit->Act->World->Prop} (m x:Operand) (t:TypeId) (hop:o.op=Op.lookup t m x false) (M k v:Value) (hm:a.eval m=M) (hx:a.eval x=k)
  (hrun:(Instr.lookup t M k false).run P w = .ok v w) (h:K (a.put o.dst v) w):o.wp P a w K Q:=by
 unfold Oper.wp;simp [execOp,hop,hm,hx,hrun,Result.andThen];exact h
theorem bh {P:Program} {w:World} {o:Oper} {a:Act} {K:Act->World->Prop} {Q:Exit->Act->World->Prop} (m x v:Operand) (t:TypeId) (hop:o.op=Op.mapUpdate t m x v) (k e:TypeId) (KK:Keyed P k) (ht:P.underlying t=some (.map k e)) (b n:Nat) (D:DataW Value)
  (hm:a.eval m = .map (some b)) (hown:w.ownsMap P k aE b n D) (hn:n<maxLen) (key val:Value) (kl:Lit) (hx:a.eval x=key) (hv:a.eval v=val) (hkey:keyOf P k key=some kl)
  (h:∀w',w'.ownsMap P k aE b (n+1) (D.put kl (.held val))->w.grownBy w' (some b)->K (a.put o.dst undef) w'):o.wp P a w K Q:=by
 obtain ⟨w',hrun,r1,r2⟩:=hown.update KK ht hn hkey (val:=val) (d := .held val) (ps:=[]) rfl;unfold Oper.wp;simp [execOp,hop,hm,hx,hv,hrun,Result.andThen];exact h w' r1 r2
theorem ph (W:World) (v:Value):(Instr.typeAssert (.iface 256 v) 284 256 true).run Tryz.prog W = .ok (.tuple #[v,.bool true]) W:=by kernel_rfl
theorem rt (p:Nat) (fv ov:Value) (L:PL) (safe:List ByteArray) (waits:Int->List ByteArray) (B:Nat) (n:Int) (s:ByteArray) (w:World)
  (hp:w.heap[p]? = some (.cells #[fv,ov,.slice (some ⟨L.g,0,none⟩) safe.length L.cap,.map (some L.m)] 191 (0,0))) (h:ay w L safe waits B) (hB:B<fm) (h0:0<=n) (h1:n<safe.length) :
  Calls Tryz.prog 218 #[.pointer (some ⟨p,2,none⟩),.iface 256 (.agg #[.int .i64 n,.string s])] w fun e w'=>e = .returned (.tuple #[]) /\
   ∃L',ay w' L' safe (upd waits n (waits n ++ [s])) (B+1)/\L'.g=L.g/\L'.cap=L.cap/\L'.m=L.m/\(∀i,L'.foot (upd waits n (waits n ++ [s])) i->L.foot waits i\/w.heap.size<=i)/\ac (L.foot waits) w w':=by
 have c3:w.cell? ⟨p,3,none⟩=some (.map (some L.m)):=by rw [aa hp];rfl
 go_enter Tryz.func218,Tryz.ntmps218;have hta:=ph;have HP:=hid hp;have H:=hid h;clear hp h;go_wp2;obtain ⟨i0,hi,hz0,hz1,hz2⟩:=info_parts ww;have HI:=hid hi;clear hi;obtain ⟨n1,n2,n3,n4⟩:=zc w (.cells #[.int .i64 n,.string s] 256) (.cells #[.string s] 114);have HN1:=hid n1;have HN2:=hid n2;have HN3:=hid n3;have HN4:=hid n4;have HR:=hid (((H.out.rowOwn n).alloc (.cells #[.int .i64 n,.string s] 256)).alloc (.cells #[.string s] 114));have HL:=hid (fk (Nat.lt_of_le_of_lt (H.out.len n) hB));have HNP:=hid (H.out.foot_other HP.out (by decide));have HNX:Hid (¬L.foot waits w.heap.size):=fun hf=>absurd (H.out.foot_lt hf) (Nat.lt_irrefl _);have HPM:Hid (p≠L.m):=fun e=>HNP.out (.inr (.inl e));have HXM:Hid (w.heap.size≠L.m):=fun e=>HNX.out (.inr (.inl e));clear n1 n2 n3 n4;have hz:p≠w.heap.size:=fun e=>by have:=ae HP.out;omega
 refine wp_region_noPanic ?_;refine wp_region_held_drew (S:=fun W=>W.cell? ⟨p,3,none⟩=some (.map (some L.m))/\W.cell? ⟨w.heap.size,0,none⟩=some (.int .i64 n)/\W.cell? ⟨w.heap.size,1,none⟩=some (.string s)) (by kernel_rfl) ?_ (fun hHeld => ?_)
 ·refine ⟨?_,?_,?_⟩
  ·exact (aa (aj HP.out _) 3)
  ·exact (aa (af w _) 0)
  ·exact (aa (af w _) 1)
 refine tq 0 _ ?_
 try simp only [tS]
 refine tq 1 _ ?_
 try simp only [tS]
 refine tq 2 _ ?_
 try simp only [tS]
 refine tq 3 _ ?_
 try simp only [tS]
 refine tq 4 _ ?_
 try simp only [tS]
 refine tq 5 _ ?_
 try simp only [tS]
 refine tq 6 _ ?_
 try simp only [tS]
 refine tq 7 _ ?_
 try simp only [tS]
 refine tq 8 _ ?_
 try simp only [tS]
 refine tq 9 _ ?_
 try simp only [tS]
 refine tq 10 _ ?_
 try simp only [tS]
 refine tq 11 _ ?_
 try simp only [tS]
 refine tq 13 _ ?_
 try simp only [tS]
 refine tq 14 _ ?_
 try simp only [tS]
 refine wpAnyH_ready (rs:=[12,15]) (by kernel_rfl) (by simp) (AllReadyH.cons rfl (fun K hK => ?_) (AllReadyH.cons rfl (fun K hK => ?_) AllReadyH.nil))
 ·-- the look-up first
  rw [if_pos (by rfl)];refine jt (.tmp 20) (.tmp 22) 185 rfl (.map (some L.m)) (.int .i64 n) (L.rowV waits n) rfl rfl (H.out.look2 n h0 h1 _ ((ac.of_below ((Below.refl _ _).alloc (Nat.le_refl _) _)).drew)) ?_;refine hK.out _ _ hHeld (fun hHeld => ?_);clear hK K
  try simp only [tS]
  refine tr 15 (fun K hK => ?_);unfold Oper.wp;go_simp;refine hK.out _ _ ⟨aa (aj (aj HP.out _) _) 3,aa (aj (af w _) _) 0,aa (aj (af w _) _) 1⟩ (fun hHeld => ?_);clear hK K;refine tr 16 (fun K hK => ?_);refine wp_append_lies _ (.tmp 23) (.tmp 26) 117 rfl 0 114 i0 (.string ⟨#[]⟩) 1 16 Tryz.underlying117 HI.out hz0 hz1 hz2 rfl (by omega) (L.rowV waits n) (waits n).length (fB (waits n)) rfl HR.out ⟨w.heap.size+1,0,none⟩ 1 1 [.string s] rfl rfl (World.news_of_block (cs:=#[.string s]) HN2.out) (by intro u hu;rw [List.mem_singleton.1 hu];rfl) (by omega) HL.out.1 HL.out.2.1 (Nat.zero_le _) (w.heap.size+1+1) HN4.out ?_;intro g cap w1 hown hgr hat hlt;have HG:=hid hgr;have HO:=hid hown;have HA:=hid hat;clear hown hgr hat hlt;obtain ⟨hm1,hk1⟩:=H.out.mid HN3.out.drew HG.out;have Hm1:=hid hm1;have hk1p:=hid (hk1 p _ (aj (aj HP.out _) _) HNP.out);have hk1x:=hid (hk1 w.heap.size _ HN1.out HNX.out);clear hm1 hk1;refine hK.out _ _ ⟨aa hk1p.out 3,aa hk1x.out 0,aa hk1x.out 1⟩ (fun hHeld => ?_);clear hK K
  try simp only [tS]
  refine tr 17 (fun K hK => ?_);refine bh (.tmp 14) (.tmp 16) (.tmp 27) 185 rfl 3 117 (int_keyed Tryz.underlying3) Tryz.underlying185 L.m B L.D rfl Hm1.out (fk hB).2.2 (.int .i64 n) (.slice (some ⟨g,0,none⟩) ((waits n).length+1) cap) (.int .i64 n) rfl rfl (ip (by omega) (by have:=H.out.most;omega)) ?_;intro w2 hown2 hgr2;have HO2:=hid hown2;have HG2:=hid hgr2;clear hown2 hgr2;refine hK.out _ _ ⟨aa (aw HG2.out hk1p.out (fun e=>HPM.out (Option.some.inj e).symm)) 3,aa (aw HG2.out hk1x.out (fun e=>HXM.out (Option.some.inj e).symm)) 0,aa (aw HG2.out hk1x.out (fun e=>HXM.out (Option.some.inj e).symm)) 1⟩ (fun hHeld => ?_);clear hK K;refine wpAnyH_done (by kernel_rfl) ?_ _;refine NoPanic.normal ?_;have HW:=hid (H.out.wrote h0 h1 HN3.out.drew HO.out HG.out (HA.out.imp id (fun e=>e.trans HN4.out.symm)) HO2.out HG2.out);clear HG HG2 HO HO2 HA Hm1 hk1p hk1x hHeld;go_wp2
  go_end0
  exact ⟨rfl,_,HW.out.1,rfl,rfl,rfl,HW.out.2.1,HW.out.2.2⟩
 ·-- the new element first
  rw [if_pos (by rfl)];unfold Oper.wp;go_simp;refine hK.out _ _ ⟨aa (aj (aj HP.out _) _) 3,aa (aj (af w _) _) 0,aa (aj (af w _) _) 1⟩ (fun hHeld => ?_);clear hK K;refine tr 12 (fun K hK => ?_);refine jt (.tmp 20) (.tmp 22) 185 rfl (.map (some L.m)) (.int .i64 n) (L.rowV waits n) rfl rfl (H.out.look2 n h0 h1 _ ((ac.of_below HN3.out).drew)) ?_;refine hK.out _ _ hHeld (fun hHeld => ?_);clear hK K
  try simp only [tS]
  refine tr 16 (fun K hK => ?_);refine wp_append_lies _ (.tmp 23) (.tmp 26) 117 rfl 0 114 i0 (.string ⟨#[]⟩) 1 16 Tryz.underlying117 HI.out hz0 hz1 hz2 rfl (by omega) (L.rowV waits n) (waits n).length (fB (waits n)) rfl HR.out ⟨w.heap.size+1,0,none⟩ 1 1 [.string s] rfl rfl (World.news_of_block (cs:=#[.string s]) HN2.out) (by intro u hu;rw [List.mem_singleton.1 hu];rfl) (by omega) HL.out.1 HL.out.2.1 (Nat.zero_le _) (w.heap.size+1+1) HN4.out ?_;intro g cap w1 hown hgr hat hlt;have HG:=hid hgr;have HO:=hid hown;have HA:=hid hat;clear hown hgr hat hlt;obtain ⟨hm1,hk1⟩:=H.out.mid HN3.out.drew HG.out;have Hm1:=hid hm1;have hk1p:=hid (hk1 p _ (aj (aj HP.out _) _) HNP.out);have hk1x:=hid (hk1 w.heap.size _ HN1.out HNX.out);clear hm1 hk1;refine hK.out _ _ ⟨aa hk1p.out 3,aa hk1x.out 0,aa hk1x.out 1⟩ (fun hHeld => ?_);clear hK K
  try simp only [tS]
  refine tr 17 (fun K hK => ?_);refine bh (.tmp 14) (.tmp 16) (.tmp 27) 185 rfl 3 117 (int_keyed Tryz.underlying3) Tryz.underlying185 L.m B L.D rfl Hm1.out (fk hB).2.2 (.int .i64 n) (.slice (some ⟨g,0,none⟩) ((waits n).length+1) cap) (.int .i64 n) rfl rfl (ip (by omega) (by have:=H.out.most;omega)) ?_;intro w2 hown2 hgr2;have HO2:=hid hown2;have HG2:=hid hgr2;clear hown2 hgr2;refine hK.out _ _ ⟨aa (aw HG2.out hk1p.out (fun e=>HPM.out (Option.some.inj e).symm)) 3,aa (aw HG2.out hk1x.out (fun e=>HXM.out (Option.some.inj e).symm)) 0,aa (aw HG2.out hk1x.out (fun e=>HXM.out (Option.some.inj e).symm)) 1⟩ (fun hHeld => ?_);clear hK K;refine wpAnyH_done (by kernel_rfl) ?_ _;refine NoPanic.normal ?_;have HW:=hid (H.out.wrote h0 h1 HN3.out.drew HO.out HG.out (HA.out.imp id (fun e=>e.trans HN4.out.symm)) HO2.out HG2.out);clear HG HG2 HO HO2 HA Hm1 hk1p hk1x hHeld;go_wp2
  go_end0
  exact ⟨rfl,_,HW.out.1,rfl,rfl,rfl,HW.out.2.1,HW.out.2.2⟩
end
section
open Go.RowKit
theorem pW (d:Nat) (t e:TypeId) (a:Addr) (n c:Nat) (h:Tryz.prog.underlying t=some (.slice e)) (w:World):(Op.equalIn (d+1) t (.slice (some a) n c) (.slice none 0 0)).run Tryz.prog w = .ok false w:=by
 simp [Op.equalIn,run_underlying h]
theorem ga (t e:TypeId) (a:Addr) (n c:Nat) (h:Tryz.prog.underlying t=some (.slice e)) (w:World):(binOp .eql t (.slice (some a) n c) (.slice none 0 0)).run Tryz.prog w = .ok (.bool false) w:=by
 have he:(Op.equal t (.slice (some a) n c) (.slice none 0 0)).run Tryz.prog w = .ok false w:=pW 9999 t e a n c h w;simp only [binOp];simp [he]
theorem oP (xs:List Value) (ad:Addr) (c:Nat) (hpos:0<xs.length) (hn:xs.length<=4096) (h1:∀u∈xs,u.oneCell'=true) (w:World) (hx:∀j u,xs[j]? = some u->w.cell? (ad.add j)=some u) :
  Calls Tryz.prog 175 #[.slice (some ad) xs.length c] w fun e w'=>∃g cap,e = .returned (.slice (some ⟨g,0,none⟩) xs.length cap)/\w'.ownsRow w.heap.size 114 1 (.slice (some ⟨g,0,none⟩) xs.length cap) xs.length xs/\Below w.heap.size w w':=by
 obtain ⟨i0,hi,hz0,hz1,hz2⟩:=info_parts ww;have HI:=hid hi;have HX:=hid hx;clear hi hx;go_enter Tryz.func175,Tryz.ntmps175;have hq:=fun W=>ga 117 _ ad xs.length c Tryz.underlying117 W
 go_wp2_with (refine wpList_append_lies _ rfl (.tmp 5) (.tmp 6) 117 rfl w.heap.size 114 i0 (.string ⟨#[]⟩) 1 16 Tryz.underlying117 HI.out hz0 hz1 hz2 rfl (by omega) (.slice (some ⟨w.heap.size,0,none⟩) 0 0) 0 [] rfl (World.ownsRow_lit w #[] 0 (Nat.le_refl _) (by simp) rfl) ad xs.length c xs rfl (by simp) (fun j u hu=>by rw [World.cell?_alloc_lt _ _ _ (World.block_lt_of_cell? w _ (HX.out j u hu))];exact HX.out j u hu) h1 hpos (by unfold maxLen;omega) (by omega) (by simp) (w.heap.size+1) (by simp) ?_;intro g cap w1 hown hgr hat hlt)
 go_ret;rw [List.nil_append,Nat.zero_add] at hown;refine ⟨g,cap,rfl,hown,?_⟩;exact ((Below.refl _ _).alloc (Nat.le_refl _) _).trans ⟨hgr.os,hgr.tape,hgr.output,hgr.size,fun k hk=>hgr.block k (by simp;omega) (by simp [Value.ownBlock];omega)⟩
end
section
open Go.RowKit
theorem tJ (n:Int) (w:World):Calls Tryz.prog 46 #[.int .i64 n] w fun e w'=>e = .returned (.bool (decide (1<=n/\n<=4096)))/\w'=w:=by
 by_cases h1:1<=n
 ·by_cases h2:n<=4096
  ·go_enter Tryz.func46,Tryz.ntmps46;go_wp2;go_ret;exact ⟨by simp [h1,h2],rfl⟩
  ·go_enter Tryz.func46,Tryz.ntmps46;go_wp2;go_ret;exact ⟨by simp [h2],rfl⟩
 ·go_enter Tryz.func46,Tryz.ntmps46;go_wp2;go_ret;exact ⟨by rw [decide_eq_false (fun h=>by omega)];rfl,rfl⟩
end
section
open Go.RowKit
theorem pS:(Tryz.prog.info? 187).map (·.size)=some 2:=by kernel_rfl
theorem lP (xs:List Value) (ad:Addr) (c:Nat) (hpos:0<xs.length) (hn:xs.length<=4096) (h1:∀u∈xs,u.oneCell'=true) (w:World) (hx:∀j u,xs[j]? = some u->w.cell? (ad.add j)=some u) :
  Calls Tryz.prog 103 #[.slice (some ad) xs.length c] w fun e w'=>∃g cap m,e = .returned (.agg #[.slice (some ⟨g,0,none⟩) xs.length cap,.map (some m)])/\w.heap.size<=m/\w'.heap[m]? = some (.map #[] 0)/\w'.ownsRow w.heap.size 114 1 (.slice (some ⟨g,0,none⟩) xs.length cap) xs.length xs/\Below w.heap.size w w':=by
 have HX:=hid hx;clear hx;go_enter Tryz.func103,Tryz.ntmps103
 go_wp2_with fail
 refine (oP xs ad c hpos hn h1 _ (fun j u hu=>by rw [World.cell?_alloc_lt _ _ _ (World.block_lt_of_cell? w _ (HX.out j u hu))];exact HX.out j u hu)).mono ?_;rintro e w1 ⟨g,cap,rfl,hown,hB⟩;have hmk:=fun W=>run_makeMap (P:=Tryz.prog) 185 W;have hb0:=ah hB (af w (.cells #[.slice none 0 0,.map none] 187)) (by simp);have HB0:=hid hb0;have HOW:=hid hown;have HBB:=hid hB;clear hb0 hown hB
 go_wp2_with (refine am rfl 187 (.tmp 2) (.tmp 6) rfl w.heap.size #[.slice (some ⟨g,0,none⟩) xs.length cap,.map (some w1.heap.size)] rfl rfl _ 187 (aj HB0.out _) rfl pS (by simp [Value.oneCell']) ?_;intro w2 hg2 hb2 hz2)
 refine bodyPost_ret (eQ Tryz.results103 _ _ rfl hb2 _ Tryz.underlying187 rfl pS) rfl ⟨g,cap,w1.heap.size,rfl,?_,?_,?_,?_⟩
 ·have:=HBB.out.size;simp at this;omega
 ·exact aw hg2 (af w1 _) (by have:=ae HB0.out;intro e;have:=Option.some.inj e;omega)
 ·have hgz:=(HOW.out.lt g rfl).1;refine ((HOW.out.alloc _).kept hg2 (.inr (fun e => ?_))).mono (by simp);have:=Option.some.inj e;simp at this hgz;omega
 ·have hw:=(Below.refl w.heap.size w).alloc (Nat.le_refl _) (.cells #[.slice none 0 0,.map none] 187);have h1:=hw.trans (HBB.out.mono (by simp));exact (h1.alloc h1.size _).trans (dV hg2 (Nat.le_refl _) (h1.alloc h1.size _).size)
structure zn (w0 w:World) (p:Nat) (xs:List Value) (first:Value):Prop where
 fields:∃g cap m,w.heap[p]? = some (.cells #[first,.slice none 0 0,.slice (some ⟨g,0,none⟩) xs.length cap,.map (some m)] 191 (0,0))/\w0.heap.size<=m/\w.heap[m]? = some (.map #[] 0) /\
  w.ownsRow w0.heap.size 114 1 (.slice (some ⟨g,0,none⟩) xs.length cap) xs.length xs
 new:w0.heap.size<=p
 below:Below w0.heap.size w0 w
theorem wW (xs:List Value) (ad:Addr) (c:Nat) (hpos:0<xs.length) (hn:xs.length<=4096) (h1:∀u∈xs,u.oneCell'=true) (w:World) (hx:∀j u,xs[j]? = some u->w.cell? (ad.add j)=some u) :
  Calls Tryz.prog 48 #[.slice (some ad) xs.length c] w fun e w'=>∃p,e = .returned (.pointer (some ⟨p,0,none⟩))/\zn w w' p xs (.slice (some ad) xs.length c):=by
 have HX:=hid hx;clear hx;go_enter Tryz.func48,Tryz.ntmps48
 go_wp2_with fail
 refine (lP xs ad c hpos hn h1 _ HX.out).mono ?_;rintro e w1 ⟨g,cap,m,rfl,hm,hmb,hown,hB⟩;have HM:=hid hm;have HMB:=hid hmb;have HOW:=hid hown;have HB:=hid hB;clear hm hmb hown hB;go_wp2;go_ret;refine ⟨_,rfl,⟨g,cap,m,af _ _,HM.out,aj HMB.out _,HOW.out.alloc _⟩,HB.out.size,HB.out.alloc HB.out.size _⟩
end
section
open Go.RowKit
theorem zJ (b o:Nat) (a:Option Addr) (len cap:Nat) (n:Int) (w:World) (hc:w.cell? ⟨b,o,none⟩=some (.slice a len cap)) (r:Bool) (hr:decide (0<=n/\n<(len:Int))=r) :
  Calls Tryz.prog 176 #[.pointer (some ⟨b,o,none⟩),.int .i64 n] w fun e w'=>e = .returned (.bool r)/\w'=w:=by
 by_cases h0:0<=n
 ·by_cases h1:n<(len:Int)
  ·rw [decide_eq_true ⟨h0,h1⟩] at hr;subst hr;go_enter Tryz.func176,Tryz.ntmps176;go_wp2;go_ret;exact ⟨rfl,rfl⟩
  ·rw [decide_eq_false (fun h=>h1 h.2)] at hr;subst hr;go_enter Tryz.func176,Tryz.ntmps176;go_wp2;go_ret;exact ⟨rfl,rfl⟩
 ·rw [decide_eq_false (fun h=>h0 h.1)] at hr;subst hr;go_enter Tryz.func176,Tryz.ntmps176;go_wp2;go_ret;exact ⟨rfl,rfl⟩
theorem mn (b o:Nat) (a:Option Addr) (len cap:Nat) (n:Int) (w:World) (hc:w.cell? ⟨b,o,none⟩=some (.slice a len cap)) :
  Calls Tryz.prog 176 #[.pointer (some ⟨b,o,none⟩),.int .i64 n] w fun e w'=>e = .returned (.bool (decide (0<=n/\n<(len:Int))))/\w'=w:=zJ b o a len cap n w hc _ rfl
end
section
open Go.RowKit Go.Maps
structure DL where
 p:Nat
 fv:Value
 ov:Value
 L:PL
def DL.foot (d:DL) (waits:Int->List ByteArray) (i:Nat):Prop:=i=d.p\/d.ov.ownBlock=some i\/d.L.foot waits i
structure aX (w:World) (d:DL) (S:aq):Prop where
 heap:w.heap[d.p]? = some (.cells #[d.fv,d.ov,.slice (some ⟨d.L.g,0,none⟩) S.safe.length d.L.cap,.map (some d.L.m)] 191 (0,0))
 ops:w.ownsRow 0 284 1 d.ov S.ops.length (S.ops.map cO)
 plates:ay w d.L S.safe S.waits S.ops.length
 first:∃ad c,d.fv = .slice (some ad) S.first.length c/\(∀j s,S.first[j]? = some s->w.cell? (ad.add j)=some (.string s))/\¬d.foot S.waits ad.block
 flen:S.first.length=S.safe.length
theorem fw {w:World} {base:Nat} {e:TypeId} {size:Nat} {v:Value} {n:Nat} {xs:List Value} (h:w.ownsRow base e size v n xs) {i:Nat} (hi:v.ownBlock=some i):∃cur,w.heap[i]? = some (.cells cur e (0,0)):=by
 rcases h.2 with ⟨rfl,_⟩ | ⟨g,cap,cur,rfl,_,hg,_⟩
 ·simp [Value.ownBlock] at hi
 ·obtain rfl:g=i:=Option.some.inj hi;exact ⟨cur,hg⟩
theorem aX.ops_off {w:World} {d:DL} {S:aq} (h:aX w d S) {i:Nat} (hi:d.ov.ownBlock=some i):¬d.L.foot S.waits i/\i≠d.p:=by
 obtain ⟨cur,hc⟩:=fw h.ops hi;refine ⟨h.plates.foot_other hc (by decide),d7 hc h.heap (fun e => ?_)⟩;simp only [Obj.cells.injEq] at e;exact absurd e.2.1 (by decide)
theorem aX.p_off {w:World} {d:DL} {S:aq} (h:aX w d S):¬d.L.foot S.waits d.p:=h.plates.foot_other h.heap (by decide)
theorem aX.foot_lt {w:World} {d:DL} {S:aq} (h:aX w d S) {i:Nat} (hi:d.foot S.waits i):i<w.heap.size:=by
 rcases hi with rfl | e | e
 ·exact ae h.heap
 ·obtain ⟨_,hc⟩:=fw h.ops e;exact ae hc
 ·exact h.plates.foot_lt e
theorem aJ (ad:Addr) (j:Nat):(ad.add j).block=ad.block:=by
 unfold Addr.add;split <;> simp_all
theorem aX.keep {w w':World} {d:DL} {S:aq} (h:aX w d S) {G:Nat->Prop} (k:ac G w w') (hG:∀i,d.foot S.waits i->¬G i) (hF:∀i,d.fv.ownBlock=some i->¬G i):aX w' d S where
 heap:=k.heap h.heap (hG _ (.inl rfl))
 ops:=k.row h.ops (fun i hi=>hG i (.inr (.inl hi)))
 plates:=h.plates.keep k (fun i hi=>hG i (.inr (.inr hi)))
 first:=by
  obtain ⟨ad,c,e,hc,hn⟩:=h.first;exact ⟨ad,c,e,fun j s hj=>k.cell (hc j s hj) (by rw [aJ];exact hF _ (by rw [e];rfl)),hn⟩
 flen:=h.flen
theorem aX.below {w w':World} {d:DL} {S:aq} (h:aX w d S) (k:Below w.heap.size w w'):aX w' d S:=h.keep (G:=fun _=>False) (ac.of_below k) (fun _ _ e=>e) (fun _ _ e=>e)
structure di (w:World) (d:DL) (S:aq):Prop where
 heap:w.heap[d.p]? = some (.cells #[d.fv,d.ov,.slice (some ⟨d.L.g,0,none⟩) S.safe.length d.L.cap,.map (some d.L.m)] 191 (0,0))
 plates:ay w d.L S.safe S.waits S.ops.length
 ov:∃a c,d.ov = .slice a S.ops.length c
theorem te {w:World} {base:Nat} {e:TypeId} {size:Nat} {v:Value} {n:Nat} {xs:List Value} (h:w.ownsRow base e size v n xs):∃a c,v = .slice a n c:=by
 rcases h.2 with ⟨rfl,rfl⟩ | ⟨g,cap,cur,rfl,_⟩
 ·exact ⟨none,0,rfl⟩
 ·exact ⟨_,_,rfl⟩
theorem aX.rd {w:World} {d:DL} {S:aq} (h:aX w d S):di w d S:=⟨h.heap,h.plates,te h.ops⟩
theorem di.keep {w w':World} {d:DL} {S:aq} (h:di w d S) {G:Nat->Prop} (k:ac G w w') (hp:¬G d.p) (hG:∀i,d.L.foot S.waits i->¬G i):di w' d S :=
 ⟨k.heap h.heap hp,h.plates.keep k hG,h.ov⟩
theorem di.below {w w':World} {d:DL} {S:aq} (h:di w d S) (k:Below w.heap.size w w'):di w' d S:=h.keep (G:=fun _=>False) (ac.of_below k) (fun e=>e) (fun _ _ e=>e)
def aq.wrote (S:aq) (n:Int) (s:ByteArray):aq:={ S with ops:=S.ops ++ [.write n s],waits:=upd S.waits n (S.waits n ++ [s]) }
theorem ti:(Tryz.prog.info? 284).map (fun i=>(i.zero,i.size,i.bytes))=some (some .nilIface,1,16):=by kernel_rfl
theorem tO (d:DL) (S:aq) (n:Int) (s:ByteArray) (w:World) (h:aX w d S) (hB:S.ops.length<fm) (h0:0<=n) (h1:n<S.safe.length) :
  Calls Tryz.prog 179 #[.pointer (some ⟨d.p,0,none⟩),.iface 256 (.agg #[.int .i64 n,.string s])] w fun e w'=>e = .returned (.tuple #[]) /\
   ∃d',aX w' d' (S.wrote n s)/\d'.p=d.p/\d'.fv=d.fv/\(∀i,d'.foot (S.wrote n s).waits i->d.foot S.waits i\/w.heap.size<=i)/\ac (d.foot S.waits) w w':=by
 have c1:w.cell? ⟨d.p,1,none⟩=some d.ov:=by rw [aa h.heap];rfl
 have hlt:=ae h.heap;obtain ⟨i0,hi,hz0,hz1,hz2⟩:=info_parts ti;have HI:=hid hi;have H:=hid h;have HL:=hid (fk hB);clear hi h;go_enter Tryz.func179,Tryz.ntmps179
 go_wp2_with (refine wpList_append_lies _ rfl (.tmp 8) (.tmp 10) 189 rfl 0 284 i0 .nilIface 1 16 Tryz.underlying189 HI.out hz0 hz1 hz2 rfl (by omega) d.ov S.ops.length (S.ops.map cO) rfl (H.out.ops.alloc _) ⟨w.heap.size,0,none⟩ 1 1 [cO (.write n s)] rfl rfl (World.news_of_block (cs:=#[cO (.write n s)]) (af w _)) (by intro u hu;rw [List.mem_singleton.1 hu];rfl) (by omega) HL.out.1 HL.out.2.1 (Nat.zero_le _) (w.heap.size+1) (by simp) ?_;intro g cap w1 hown hgr hat hlt1;have HO:=hid hown;have HG:=hid hgr;have HA:=hid hat;have HP1:=hid ((hgr.block d.p (by simp;omega) (fun e=>(H.out.ops_off e.symm).2 rfl)).trans (aj H.out.heap _));have f1:w1.cell? ⟨d.p,1,none⟩=some d.ov:=aa HP1.out 1;have f2:w1.frozen? ⟨d.p,1,none⟩=false:=ai HP1.out 1;clear hown hgr hat hlt1)
 have K1:ac (fun i=>d.ov.ownBlock=some i) w w1:=(ac.of_below ((Below.refl _ _).alloc (Nat.le_refl _) _)).trans (ac.of_grown HG.out (fun i e=>e)) (fun i e => .inl e);have K2:ac (fun i=>d.ov.ownBlock=some i\/i=d.p) w (w1.setCell ⟨d.p,1,none⟩ (.slice (some ⟨g,0,none⟩) (S.ops.length+1) cap)) :=
  (K1.mono (fun _ => .inl)).grown (ak (ar w1 (some d.p)) 1 _) (fun i e => .inl (.inr (Option.some.inj e).symm))
 have HK2:=hid K2;have hP2:=ap HP1.out 1 (.slice (some ⟨g,0,none⟩) (S.ops.length+1) cap);have HP2:=hid hP2;have hgp:g≠d.p:=by
  obtain ⟨cur,hc⟩:=fw HO.out rfl;refine d7 hc HP1.out (fun e => ?_);simp only [Obj.cells.injEq] at e;exact absurd e.2.1 (by decide)
 have HO2:=hid (HO.out.kept (ak (ar w1 (some d.p)) 1 (.slice (some ⟨g,0,none⟩) (S.ops.length+1) cap)) (.inr (fun e=>hgp (by simpa [Value.ownBlock] using e))));have HPL:=hid (H.out.plates.keep HK2.out (fun i hi e=>by
  rcases e with e | e
  ·exact (H.out.ops_off e).1 hi
  ·exact H.out.p_off (e ▸ hi)))
 clear K1 K2 hP2 f1 f2 HO hgp;generalize hW:w1.setCell ⟨d.p,1,none⟩ (.slice (some ⟨g,0,none⟩) (S.ops.length+1) cap)=w2 at *;clear hW;refine (rt d.p d.fv (.slice (some ⟨g,0,none⟩) (S.ops.length+1) cap) d.L S.safe S.waits S.ops.length n s w2 HP2.out HPL.out hB h0 h1).mono ?_;rintro e w3 ⟨rfl,L',hP3,e1,e2,e3,hfoot,hK3⟩;have HP3:=hid hP3;have HF3:=hid hfoot;have HK3:=hid hK3;have HE:=hid (And.intro e1 (And.intro e2 e3));clear hP3 hfoot hK3 e1 e2 e3;have HFoot:Hid (∀i,(DL.foot ⟨d.p,d.fv,.slice (some ⟨g,0,none⟩) (S.ops.length+1) cap,L'⟩ (S.wrote n s).waits i)->d.foot S.waits i\/w.heap.size<=i):=by
  rintro i (e | e | e)
  ·exact .inl (.inl e)
  ·obtain rfl:g=i:=Option.some.inj e;rcases HA.out with e | e
   ·exact .inl (.inr (.inl e))
   ·exact .inr (by omega)
  ·rcases HF3.out i e with e | e
   ·exact .inl (.inr (.inr e))
   ·exact .inr (Nat.le_trans HK2.out.size e)
 have HKall:Hid (ac (d.foot S.waits) w w3):=(HK2.out.mono (fun i e=>by rcases e with e | e;exact .inr (.inl e);exact .inl e)).trans HK3.out (fun i e => .inl (.inr (.inr e)));go_wp2
 go_end0
 refine ⟨rfl,⟨d.p,d.fv,.slice (some ⟨g,0,none⟩) (S.ops.length+1) cap,L'⟩,⟨?_,?_,?_,?_,?_⟩,rfl,rfl,?_,?_⟩
 ·rw [HE.out.1,HE.out.2.1,HE.out.2.2];exact HK3.out.heap HP2.out H.out.p_off
 ·have h2:=HK3.out.row HO2.out (fun i hi=>by
   obtain ⟨cur,hc⟩:=fw HO2.out hi;exact HPL.out.foot_other hc (by decide))
  simpa [aq.wrote] using h2
 ·simpa [aq.wrote] using HP3.out
 ·obtain ⟨ad,c,e,hc,hn⟩:=H.out.first;refine ⟨ad,c,e,fun j u hj => ?_,fun hf => ?_⟩
  ·refine HK3.out.cell (HK2.out.cell (hc j u hj) ?_) ?_
   ·rw [aJ];rintro (e | e)
    ·exact hn (.inr (.inl e))
    ·exact hn (.inl e)
   ·rw [aJ];exact fun e=>hn (.inr (.inr e))
  ·have hlt0:S.first.length≠0:=by have:=H.out.flen;have:=H.out.plates.pos;omega
   have hltad:ad.block<w.heap.size:=by
    have h00:=hc 0 (S.first[0]'(by omega)) (by simp);have:=World.block_lt_of_cell? w _ h00
    rwa [aJ] at this
   exact hn (by rcases HFoot.out _ hf with e | e;exact e;omega)
 ·exact H.out.flen
 ·exact HFoot.out
 ·exact HKall.out
end
section
open Go.RowKit Go.Maps
def az (w:World) (ad:Addr) (l:List UInt8):Prop:=∀j (hj:j<l.length),w.cell? (ad.add j)=some (.int .u8 (l[j].toNat:Int))
theorem yn (d:DL) (S:aq) (n:Int) (l:List UInt8) (ad:Addr) (c:Nat) (w:World) (h:aX w d S) (hB:S.ops.length<fm) (h0:0<=n) (h1:n<S.safe.length) (hl:l.length=512) (hb:az w ad l) :
  Calls Tryz.prog 113 #[.pointer (some ⟨d.p,0,none⟩),.int .i64 n,.slice (some ad) 512 c] w fun e w'=>e = .returned (.int .i64 0) /\
   ∃d',aX w' d' (S.wrote n ⟨l.toArray⟩)/\d'.p=d.p/\d'.fv=d.fv/\(∀i,d'.foot (S.wrote n ⟨l.toArray⟩).waits i->d.foot S.waits i\/w.heap.size<=i)/\ac (d.foot S.waits) w w':=by
 have hcv:=run_convert_bytes_back (P:=Tryz.prog) w 76 114 5 ad c l Tryz.underlying76 Tryz.underlying5 Tryz.underlying114 hb;rw [hl] at hcv;have c2:w.cell? ⟨d.p,2,none⟩=some (.slice (some ⟨d.L.g,0,none⟩) S.safe.length d.L.cap):=by rw [aa h.heap];rfl
 have HD:=hid (decide_eq_true (And.intro h0 h1));have HC2:=hid c2;have HN:=hid (tO d S n ⟨l.toArray⟩ w h hB h0 h1);clear hb hl h c2;generalize hs:(⟨l.toArray⟩:ByteArray)=s at *;clear hs;go_enter Tryz.func113,Tryz.ntmps113
 go_wp2_with fail
 refine (mn d.p 2 _ _ _ _ _ HC2.out).mono ?_;rintro e w9 ⟨rfl,h9⟩;obtain rfl:=h9.symm;rw [HD.out]
 go_wp2_with fail
 refine HN.out.mono ?_;rintro e w1 ⟨rfl,hq⟩;have HQ:=hid hq;clear hq;go_wp2;go_ret;exact ⟨rfl,HQ.out⟩
end
section
open Go.RowKit
def eH:ByteArray:=⟨(Lib.repeatL [0] 512).toArray⟩
end
section
open Go.RowKit Go.Maps
def bV (xs:List ByteArray):aq:=⟨xs,[],xs,fun _=>[]⟩
theorem gn {w:World} {m:Nat} (h:w.heap[m]? = some (.map #[] 0)):w.ownsMap Tryz.prog 3 aE m 0 (.map []) :=
 ⟨#[],0,h,⟨by simp,MapKept.stamped_empty 0,by simp⟩,Nat.le_refl _,rfl⟩
theorem sH {w0 w:World} {p:Nat} {xs:List ByteArray} {ad:Addr} {c:Nat} (h:zn w0 w p (fB xs) (.slice (some ad) (fB xs).length c)) (hpos:0<xs.length) (hmost:xs.length<=4096) (had:ad.block<w0.heap.size)
  (hx:∀j u,(fB xs)[j]? = some u->w0.cell? (ad.add j)=some u):∃d,aX w d (bV xs)/\d.p=p/\d.fv.ownBlock=some ad.block/\(∀i,d.foot (bV xs).waits i->w0.heap.size<=i)/\Below w0.heap.size w0 w:=by
 obtain ⟨⟨g,cap,m,f1,f2,f3,f4⟩,fn,fb⟩:=h;have hl:(fB xs).length=xs.length:=by simp
 rw [hl] at f1 f4;have hg:=(f4.lt g rfl).1;have hfoot:∀i,(DL.foot ⟨p,.slice (some ad) xs.length c,.slice none 0 0,⟨g,cap,m,.map [],fun _=>0,fun _=>0⟩⟩ (bV xs).waits i)->w0.heap.size<=i:=by
  rintro i (e | e | e | e | ⟨n,hn,e⟩)
  ·have e':i=p:=e;omega
  ·simp [Value.ownBlock] at e
  ·have e':i=g:=e;omega
  ·have e':i=m:=e;omega
  ·simp [bV] at hn
 refine ⟨⟨p,.slice (some ad) xs.length c,.slice none 0 0,⟨g,cap,m,.map [],fun _=>0,fun _=>0⟩⟩,⟨f1,World.ownsRow_nil _ _ _ _,?_,?_,rfl⟩,rfl,rfl,hfoot,fb⟩
 ·exact ⟨f4.mono (Nat.zero_le _),gn f3,fun _ _=>rfl,fun n hn=>by simp [bV] at hn,fun n hn=>by simp [bV] at hn,fun n hn=>by simp [bV] at hn,fun n hn=>by simp [bV] at hn,fun n n' hn=>by simp [bV] at hn,fun n=>Nat.le_refl _,fun n hn=>by simp [bV] at hn,hpos,hmost⟩
 ·refine ⟨ad,c,rfl,fun j s hj => ?_,fun hf=>by have:=hfoot _ hf;omega⟩;have h0:=hx j (.string s) (by simpa [bV] using hj);rw [fb.cell (by rw [aJ];exact had)];exact h0
theorem iH (n:Nat) (s:ByteArray):fB (List.replicate n s)=List.replicate n (Value.string s):=by simp [fB]
theorem yl (n:Nat) (h1:1<=n) (hn:n<=4096) (w:World) :
  Calls Tryz.prog 17 #[.int .i64 n] w fun e w'=>∃d,e = .returned (.tuple #[.pointer (some ⟨d.p,0,none⟩),.int .i64 0])/\aX w' d (bV (List.replicate n eH))/\(∀i,d.foot (bV (List.replicate n eH)).waits i->w.heap.size<=i)/\(∀i,d.fv.ownBlock=some i->w.heap.size<=i)/\Below w.heap.size w w':=by
 have hd:decide (1<=(n:Int)/\(n:Int)<=4096)=true:=decide_eq_true ⟨by omega,by omega⟩;have HD:=hid hd;clear hd;go_enter Tryz.func17,Tryz.ntmps17
 go_wp2_with fail
 refine (tJ _ _).mono ?_;rintro e w9 ⟨rfl,h9⟩;obtain rfl:=h9.symm;rw [HD.out]
 go_wp2_with fail
 refine (Tryz.strings_Repeat ⟨#[0]⟩ 512 _ (by omega) (by decide)).mono ?_;rintro e w1 ⟨rfl,hB1⟩;have HB1:=hid hB1;clear hB1
 go_wp2_with fail
 refine (sB eH w1.heap.size n h1 hn _ (by rw [aa (af w1 _)];rfl)).mono ?_;rintro e w2 ⟨rfl,hb2,hB2⟩;have hz:(w1.alloc (.cells #[.string ⟨(Lib.repeatL [0] 512).toArray⟩] 114)).heap.size=w1.heap.size+1:=by simp
 rw [hz] at hb2;have HBa:=hid ((HB1.out.alloc HB1.out.size (.cells #[.string ⟨(Lib.repeatL [0] 512).toArray⟩] 114)).trans (hB2.mono (HB1.out.alloc HB1.out.size _).size));have Hb2:=hid hb2;have hl:(List.replicate n (Value.string eH)).length=n:=by simp
 have hx:∀j u,(List.replicate n (Value.string eH))[j]? = some u->w2.cell? ((⟨w1.heap.size+1,0,none⟩:Addr).add j)=some u:=fun j u hu=>by rw [Addr.add_mid,Nat.zero_add,aa Hb2.out,List.getElem?_toArray];exact hu
 have HX:=hid hx;have hmade:=wW (List.replicate n (Value.string eH)) ⟨w1.heap.size+1,0,none⟩ n (by rw [hl];omega) (by rw [hl];exact hn) (by intro u hu;rw [List.eq_of_mem_replicate hu];rfl) w2 HX.out;rw [hl] at hmade;have HMade:=hid hmade;have HL:=hid hl;clear hB2 hb2 hmade hl hz hx
 go_wp2_with fail
 refine HMade.out.mono ?_;rintro e w3 ⟨p,rfl,hF⟩;have HF:=hid hF;clear hF HMade;go_wp2;go_returns;have hz1:=HBa.out.size;have hz2:=HB1.out.size;have hlt:=ae Hb2.out;obtain ⟨d,e1,e2,e3,e4,e5⟩:=sH (w0:=w2) (w:=w3) (p:=p) (xs:=List.replicate n eH) (ad:=⟨w1.heap.size+1,0,none⟩) (c:=n) (by
  have:=HF.out;rw [iH,HL.out];exact this) (by simp;omega) (by simp;omega) hlt (by rw [iH];exact HX.out)
 refine ⟨d,by rw [e2];rfl,e1,fun i hi=>Nat.le_trans hz1 (e4 i hi),fun i hi => ?_,HBa.out.trans (e5.mono hz1)⟩;rw [e3] at hi;have:=Option.some.inj hi;simp at this;omega
end
section
open Go.RowKit Go.Maps Go.Sort Go.Shelf
theorem xY (m:Nat):AnyZI.SortsIn Tryz.prog Tryz.sortedA_ren Fence.wide m :=
 ⟨fun blk off cap ss W hH hblk hsz=>callsIn_wide.2 (Tryz.slices_Sort_int blk off cap ss W hH hblk hsz),
  fun p cap W=>callsIn_wide.2 (Tryz.slices_Sort_int_none p cap W)⟩
end
section
open Go.RowKit Go.Maps
theorem yE:(Tryz.prog.info? 3).map (fun i=>(i.zero,i.size,i.bytes))=some (some (.int .i64 0),1,8):=by kernel_rfl
end
section
open Go.RowKit Go.Maps
theorem kU {w:World} {base:Nat} {e:TypeId} {v:Value} {n:Nat} {xs:List Value} (h:w.ownsRow base e 1 v n xs):∃sa cap,v = .slice sa n cap/\∀j,j<n->∃g,sa=some ⟨g,0,none⟩/\g<w.heap.size/\base<=g/\∀i,i<n->w.cell? ⟨g,i,none⟩=xs[i]? := by
 rcases Nat.eq_zero_or_pos n with rfl | hn
 ·rcases h.2 with ⟨rfl,_⟩ | ⟨g,cap,cur,rfl,_⟩
  ·exact ⟨none,0,rfl,fun j hj=>by omega⟩
  ·exact ⟨some ⟨g,0,none⟩,cap,rfl,fun j hj=>by omega⟩
 ·obtain ⟨g,cap,rfl,h1,h2⟩:=h.form hn;exact ⟨some ⟨g,0,none⟩,cap,rfl,fun j hj=>⟨g,rfl,h2,h1,fun i hi=>h.cellAt i (by omega)⟩⟩
end
section
open Go.RowKit Go.Maps
def seenS (safe:List ByteArray) (waits:Int->List ByteArray) (n:Int):ByteArray:=if waits n=[] then safe.getD n.toNat ⟨#[]⟩ else (waits n).getLastD ⟨#[]⟩
theorem nO (p:Nat) (L:PL) (safe:List ByteArray) (waits:Int->List ByteArray) (B:Nat) (n:Int) (w:World) (h2:w.cell? ⟨p,2,none⟩=some (.slice (some ⟨L.g,0,none⟩) safe.length L.cap)) (h3:w.cell? ⟨p,3,none⟩=some (.map (some L.m))) (h:ay w L safe waits B) (h0:0<=n) (h1:n<safe.length) :
  Calls Tryz.prog 177 #[.pointer (some ⟨p,2,none⟩),.int .i64 n] w fun e w'=>e = .returned (.string (seenS safe waits n))/\w'=w:=by
 have hm:=h.most;have hlook:=h.look n h0 h1 w rfl;by_cases hn:waits n=[]
 ·rw [PL.rowV,if_pos hn] at hlook;have hlt:n.toNat<safe.length:=by omega
  have cn:w.cell? ⟨L.g,n.toNat,none⟩=some (.string (safe.getD n.toNat ⟨#[]⟩)):=by
   rw [h.safeRow.cellAt n.toNat (by omega)];simp [hlt]
  have hs:seenS safe waits n=safe.getD n.toNat ⟨#[]⟩:=by rw [seenS,if_pos hn]
  rw [hs];generalize safe.getD n.toNat ⟨#[]⟩=s at *;clear h hs hn;go_enter Tryz.func177,Tryz.ntmps177;go_wp2;go_ret;exact ⟨rfl,rfl⟩
 ·rw [PL.rowV,if_neg hn] at hlook;have hpos:0<(waits n).length:=List.length_pos_iff.2 hn;have hdom:=h.rows n hn;have hmost:(waits n).length<=9223372036854775807:=by
   obtain ⟨cur,_,h1,h2,_⟩:=bo hdom;unfold maxLen at h2;omega
  have cn:w.cell? ⟨L.row n,(waits n).length-1,none⟩=some (.string ((waits n).getLastD ⟨#[]⟩)):=by
   rw [hdom.cellAt _ (by omega)];rw [List.getElem?_map, <- List.getLast?_eq_getElem?,List.getLast?_eq_some_getLast hn];simp [List.getLastD_eq_getLast?,List.getLast?_eq_some_getLast hn]
  have hs:seenS safe waits n=(waits n).getLastD ⟨#[]⟩:=by rw [seenS,if_neg hn]
  rw [hs];generalize (waits n).getLastD ⟨#[]⟩=s at *;generalize hk:(waits n).length=k at *;clear h hs hn hdom hk;have k0:(0:Int)<(k:Int):=by omega
  have k1:((k:Int)-1).toNat=k-1:=by omega
  go_enter Tryz.func177,Tryz.ntmps177;go_wp2;go_ret;exact ⟨rfl,rfl⟩
theorem tw (d:DL) (S:aq) (n:Int) (w:World) (h:di w d S) (h0:0<=n) (h1:n<S.safe.length) :
  Calls Tryz.prog 106 #[.pointer (some ⟨d.p,0,none⟩),.int .i64 n] w fun e w'=>∃b c,e = .returned (.tuple #[.slice (some ⟨b,0,none⟩) (seenS S.safe S.waits n).size c,.int .i64 0])/\w.heap.size<=b/\az w' ⟨b,0,none⟩ (seenS S.safe S.waits n).data.toList/\Below w.heap.size w w':=by
 have c2:w.cell? ⟨d.p,2,none⟩=some (.slice (some ⟨d.L.g,0,none⟩) S.safe.length d.L.cap):=by rw [aa h.heap];rfl
 have c3:w.cell? ⟨d.p,3,none⟩=some (.map (some d.L.m)):=by rw [aa h.heap];rfl
 have HD:=hid (decide_eq_true (And.intro h0 h1));have HC2:=hid c2;have HS:=hid (nO d.p d.L S.safe S.waits S.ops.length n w c2 c3 h.plates h0 h1);clear h c2 c3;generalize seenS S.safe S.waits n=s at *;have hconv:=fun W=>run_bytes_of_string (P:=Tryz.prog) W 114 76 5 s Tryz.underlying114 Tryz.underlying76 Tryz.underlying5;go_enter Tryz.func106,Tryz.ntmps106
 go_wp2_with fail
 refine (mn d.p 2 _ _ _ _ _ HC2.out).mono ?_;rintro e w9 ⟨rfl,h9⟩;obtain rfl:=h9.symm;rw [HD.out]
 go_wp2_with fail
 refine HS.out.mono ?_;rintro e w9 ⟨rfl,h9⟩;obtain rfl:=h9.symm;go_wp2;go_returns;refine ⟨w.heap.size,grownCap w s.size 0 5,rfl,Nat.le_refl _,fun j hj => ?_,((Below.refl _ w).alloc (Nat.le_refl _) _).drew⟩;have hj':j<s.data.size:=by simpa using hj
 rw [Addr.add_mid,Nat.zero_add];refine (aa (af w _) j).trans ?_;rw [bytesRow_at s _ j hj'];simp
end
section
open Go.RowKit
theorem iE:(Tryz.prog.info? 5).map (fun i=>(i.zero,i.size,i.bytes))=some (some (.int .u8 0),1,1):=by kernel_rfl
theorem sg (n:Nat):madeCells (Value.int .u8 0).cells (n*1)=(List.replicate n (Value.int .u8 0)).toArray:=by
 apply Array.ext
 ·simp [madeCells]
 ·intro i h1 h2;simp [madeCells,Value.cells,Nat.mod_one]
theorem bF {w:World} {ops:Array Oper} {rest:List Oper} {o:Oper} {a:Act} {Q:Exit->Act->World->Prop} (hg:o.guard=none) (l c:Operand) (hop:o.op=Op.makeSlice 76 l c)
  (n:Nat) (x:Int) (hx:x=n) (hl:a.eval l = .int .i64 x) (hc:a.eval c = .int .i64 x) (hm:n<=4096)
  (h:∀w1:World,Below w.heap.size w w1->w1.heap[w.heap.size]? = some (.cells (List.replicate n (Value.int .u8 0)).toArray 5 (0,0))->w1.heap.size=w.heap.size+1 ->
   wpList Tryz.prog ops Q rest (a.put o.dst (.slice (some ⟨w.heap.size,0,none⟩) n n)) w1):wpList Tryz.prog ops Q (o :: rest) a w:=by
 subst hx;obtain ⟨i,hi,hz,hs,hb⟩:=info_parts iE;refine wpList_plain hg fun K hK' => ?_;have hrun:=run_make (P:=Tryz.prog) w 76 5 i (.int .u8 0) Tryz.underlying76 hi hz .i64 .i64 n n (by omega) (by omega) (by rw [hb];omega) (by omega);unfold Oper.wp;simp only [Int.toNat_natCast,hs,sg] at hrun;generalize (List.replicate n (Value.int .u8 0)).toArray=Z at *;simp [execOp,hop,hl,hc,hrun,Result.andThen];exact hK' _ _ (h _ ((Below.refl _ _).alloc (Nat.le_refl _) _) (af _ _) (by simp))
end
section
open Go.RowKit Go.Maps
end
section
open Go.RowKit
theorem cX {K:Nat} {w w':World} (h:Below K w w') (n:Nat):Below K w (w'.drewN n):=⟨h.os,h.tape,h.output,h.size,h.block⟩
def sE (w:World) (a:Option Addr) (xs:List Int):Prop:=∀j,j<xs.length->∃b o,a=some ⟨b,o,none⟩/\∀i (hi:i<xs.length),w.cell? ⟨b,o+i,none⟩=some (.int .i64 xs[i])
def dN (w:World) (a:Option Addr) (l:List UInt8):Prop:=∀j,j<l.length->∃b o,a=some ⟨b,o,none⟩/\∀i (hi:i<l.length),w.cell? ⟨b,o+i,none⟩=some (.int .u8 (l[i].toNat:Int))
theorem dN.below {w w':World} {a:Option Addr} {l:List UInt8} (h:dN w a l) (hb:Below w.heap.size w w'):dN w' a l:=fun j hj=>by
 obtain ⟨b,o,e,hc⟩:=h j hj;exact ⟨b,o,e,fun i hi=>by rw [hb.cell (p:=⟨b,o+i,none⟩) (World.block_lt_of_cell? w _ (hc i hi))];exact hc i hi⟩
end
section
open Go.RowKit
def l7 (S:aq):List ByteArray:=(List.range S.safe.length).map (fun n:Nat=>seenS S.safe S.waits (n:Int))
theorem bL (S:aq):(l7 S).length=S.safe.length:=by simp [l7]
theorem yy (S:aq) (k:Nat) (h:k<(l7 S).length):(l7 S)[k]=seenS S.safe S.waits (k:Int):=by simp [l7]
end
section
open Go.RowKit
theorem kq {K:Nat} {w w':World} (h:Below K w.drew w'):Below K w w':=⟨h.os,h.tape,h.output,h.size,h.block⟩
variable {w0 w wa wb:World} {bx bY:Nat} {X Y:Array Value} {d1 d2 d1':DL} {S1 S2 S1':aq}
end
section
open Go.RowKit
theorem mO (s:ByteArray) (cap:Nat):∀j (hj:j<s.data.toList.length),(bytesRow s cap)[j]? = some (.int .u8 (s.data.toList[j].toNat:Int)):=fun j hj=>by
 rw [bytesRow_at s cap j (by simpa using hj)];simp
end
section
open Go.RowKit Go.Maps
def iK (safe:List ByteArray) (waits:Int->List ByteArray) (left:Lit->Bool):List ByteArray :=
 (List.range safe.length).map (fun n:Nat=>if left (.int .i64 (n:Int)) then safe.getD n ⟨#[]⟩ else seenS safe waits (n:Int))
theorem iQ (safe:List ByteArray) (waits:Int->List ByteArray) (left:Lit->Bool):(iK safe waits left).length=safe.length:=by simp [iK]
theorem sc {w:World} {L:PL} {safe:List ByteArray} {waits:Int->List ByteArray} {B:Nat} (h:ay w L safe waits B):iK safe waits (Maps.has L.D)=safe:=by
 apply List.ext_getElem (iQ _ _ _);intro n h1 h2;simp only [iK,List.getElem_map,List.getElem_range];by_cases hw:waits (n:Int)=[]
 ·rw [h.absent _ hw];simp [seenS,hw,h2]
 ·rw [h.there _ hw];simp [h2]
theorem ym (safe:List ByteArray) (waits:Int->List ByteArray) (left:Lit->Bool) (h:∀kl,left kl=false):iK safe waits left=(List.range safe.length).map (fun n:Nat=>seenS safe waits (n:Int)):=by
 unfold iK;refine List.map_congr_left (fun n _ => ?_);rw [h];rfl
theorem uW (safe:List ByteArray) (waits:Int->List ByteArray) (left:Lit->Bool) (x:Int) (h0:0<=x) :
  iK safe waits (fun z=>left z && !z.sameKey (.int .i64 x))=(iK safe waits left).set x.toNat (seenS safe waits x):=by
 apply List.ext_getElem (by simp [iQ]);intro n h1 h2;rw [List.getElem_set];simp only [iK,List.getElem_map,List.getElem_range];by_cases e:x.toNat=n
 ·have ex:(n:Int)=x:=by omega
  rw [if_pos e,ex];simp [Lit.sameKey]
 ·have ex:¬(n:Int)=x:=by omega
  rw [if_neg e];simp [Lit.sameKey,ex]
theorem wZ (safe:List ByteArray) (waits:Int->List ByteArray) (other:List ByteArray) (x:Int) (h:waits x≠[]):seenS other waits x=seenS safe waits x:=by
 simp [seenS,h]
theorem ay.store {w:World} {L:PL} {safe:List ByteArray} {waits:Int->List ByteArray} {B:Nat} (h:ay w L safe waits B) (k:Nat) (s:ByteArray):ay (w.setCell ⟨L.g,k,none⟩ (.string s)) L (safe.set k s) waits B:=by
 obtain ⟨es,mc,hmb⟩:=bt h.mapOwn;obtain ⟨gc,hgb,_⟩:=bo h.safeRow;have hmg:L.m≠L.g:=fun e=>by rw [e,hgb] at hmb;cases hmb
 obtain ⟨h1,h2⟩:=h.safeRow.stored k (.string s);have K:ac (fun i=>i=L.g) w (w.setCell ⟨L.g,k,none⟩ (.string s)):=ac.of_grown h2 (fun i e=>(Option.some.inj e).symm);have hl:(safe.set k s).length=safe.length:=by simp
 refine ⟨?_,K.map h.mapOwn hmg,h.absent,h.there,h.held,fun n hn=>K.row (h.rows n hn) (fun i hi=>by rw [<- Option.some.inj hi];exact h.off n hn),h.off,h.apart,h.len,fun n hn=>by rw [hl];exact h.dom n hn,by rw [hl];exact h.pos,by rw [hl];exact h.most⟩;rw [hl];simpa [fB,List.map_set] using h1
theorem ay.moreB {w:World} {L:PL} {safe:List ByteArray} {waits:Int->List ByteArray} {B B':Nat} (h:ay w L safe waits B) (hB:B<=B'):ay w L safe waits B' :=
 ⟨h.safeRow,h.mapOwn.mono hB,h.absent,h.there,h.held,h.rows,h.off,h.apart,fun n=>Nat.le_trans (h.len n) hB,h.dom,h.pos,h.most⟩
theorem wk {w:World} {m:Nat} {es:Array MapEntry} {clock:Nat} (hb:w.heap[m]? = some (.map es clock)):∃w',(∀ty,(Builtin.clear_ #[185] ty #[.map (some m)]).run Tryz.prog w = .ok (.tuple #[]) w')/\w'.heap[m]? = some (.map #[] clock)/\w.grownBy w' (some m):=by
 refine ⟨{ w with heap:=w.heap.setIfInBounds m (.map #[] clock) },fun ty => ?_,?_,⟨rfl,rfl,rfl,by simp,fun k _ hk => ?_⟩⟩
 ·simp [Builtin.clear_,run_underlying Tryz.underlying185,MapKept.run_getObj_map hb,MapKept.run_setObj_map _ hb,Result.andThen]
 ·simp [ae hb]
 ·have hne:m≠k:=fun e=>hk (by rw [e]);simp [hne]
theorem ay.cleared {w w':World} {L:PL} {safe:List ByteArray} {waits:Int->List ByteArray} {B clock:Nat} (h:ay w L safe waits B) (hm:w'.heap[L.m]? = some (.map #[] clock)) (hg:w.grownBy w' (some L.m)):ay w' { L with D := .map [] } safe (fun _=>[]) 0:=by
 obtain ⟨es,mc,hmb⟩:=bt h.mapOwn;obtain ⟨gc,hgb,_⟩:=bo h.safeRow;have hmg:L.g≠L.m:=fun e=>by rw [<- e,hgb] at hmb;cases hmb
 exact ⟨h.safeRow.kept hg (.inr (fun e=>hmg (by simpa [Value.ownBlock] using e))),⟨#[],clock,hm,⟨by simp,MapKept.stamped_empty _,by simp⟩,Nat.le_refl _,rfl⟩,fun _ _=>rfl,fun n hn=>absurd rfl hn,fun n hn=>absurd rfl hn,fun n hn=>absurd rfl hn,fun n hn=>absurd rfl hn,fun n n' hn=>absurd rfl hn,fun n=>Nat.le_refl _,fun n hn=>absurd rfl hn,h.pos,h.most⟩
theorem l9 (W:World) (v:Value):(Instr.typeAssert (.iface 258 v) 284 256 true).run Tryz.prog W = .ok (.tuple #[.agg #[.int .i64 0,.string ⟨#[]⟩],.bool false]) W:=by kernel_rfl
theorem pD (W:World) (v:Value):(Instr.typeAssert (.iface 258 v) 284 258 true).run Tryz.prog W = .ok (.tuple #[v,.bool true]) W:=by kernel_rfl
theorem rN (p:Nat) (fv ov:Value) (L:PL) (safe:List ByteArray) (waits:Int->List ByteArray) (B:Nat) (w:World)
  (hp:w.heap[p]? = some (.cells #[fv,ov,.slice (some ⟨L.g,0,none⟩) safe.length L.cap,.map (some L.m)] 191 (0,0))) (h:ay w L safe waits B) :
  Calls Tryz.prog 218 #[.pointer (some ⟨p,2,none⟩),.iface 258 (.agg #[])] w fun e w'=>e = .returned (.tuple #[]) /\
   ay w' { L with D := .map [] } ((List.range safe.length).map (fun n:Nat=>seenS safe waits (n:Int))) (fun _=>[]) 0/\ac (L.foot waits) w w':=by
 have c3:w.cell? ⟨p,3,none⟩=some (.map (some L.m)):=by rw [aa hp];rfl
 have hta:=l9;have htb:=pD;have HP:=hid hp;have H:=hid h;have hplt:=ae hp;clear hp h;go_enter Tryz.func218,Tryz.ntmps218
 go_wp2_with (first
  | (at_range;refine wpList_range_own _ rfl (.tmp 34) 185 rfl 3 117 (int_keyed Tryz.underlying3) Tryz.underlying185 aE L.m B L.D rfl (H.out.mapOwn.alloc _) ?_;intro w0 hrg0 hg0 hs0)
  | go_in)
 go_frame
 have HFt:Hid (∀i,L.foot waits i->i<w.heap.size):=fun i hi=>H.out.foot_lt hi;have HPF:=hid (H.out.foot_other HP.out (by decide));have hKa:ac (fun i=>i=L.g) w w0:=(ac.of_below ((Below.refl _ _).alloc (Nat.le_refl _) _)).grown hg0 (fun i e=>by cases e);have HK0:=hid hKa;have HPl0:Hid (ay w0 L (iK safe waits (Maps.has L.D)) waits B):=by
  have h1:ay w0 L safe waits B:=H.out.keep (G:=fun _=>False) ((ac.of_below ((Below.refl _ _).alloc (Nat.le_refl _) _)).grown hg0 (fun i e=>by cases e)) (fun _ _ e=>e);show ay w0 L _ waits B;rw [sc H.out];exact h1
 have HRg0:=hid hrg0;have hr0:(w.alloc (.cells #[] 258)).heap.size=w.heap.size+1:=by simp
 rw [hr0] at HRg0 ⊢;clear hrg0 hg0 hs0 hKa hr0 hta htb c3;have HHas:Hid (∀x,Maps.has L.D (.int .i64 x)=true->waits x≠[]):=fun x hx e=>by rw [H.out.absent x e] at hx;cases hx
 have HDom:=hid H.out.dom;have HMost:=hid H.out.most;clear H
 go_loopw [6] (fun _ wr=>∃(left:Lit->Bool) (cnt:Nat),Hid (wr.ranges Tryz.prog 3 aE L.m (w.heap.size+1) B L.D left cnt)/\Hid (ay wr L (iK safe waits left) waits B)/\Hid (ac (fun i=>i=L.g) w wr)) (fun _ wr=>wr.rangeLeft L.m (w.heap.size+1))
 case atStart=>exact ⟨_,_,HRg0,HPl0,HK0⟩
 case round =>
  obtain ⟨left,cnt,hrg,hPl,hK⟩:=hrel;clear HRg0 HPl0 HK0;have hpr:=hK.out.heap HP.out (fun e=>HPF.out (.inl e));have HPr:=hid hpr;clear hpr
  go_wp2_with (first
   | (at_next;refine wpList_next_ranges _ rfl (.tmp 35) rfl 3 (int_keyed Tryz.underlying3) aE encZ id (fun key kl hk=>by obtain ⟨x,hx,_⟩:=Maps.keyOf_i64 Tryz.underlying3 hk;exact ⟨x,hx⟩) (fun v _ _=>⟨v,rfl⟩) L.m (w.heap.size+1) B _ _ _ rfl hrg.out ?_ ?_)
   | go_in)
  ·-- nothing is left
   intro hc0 hl0;obtain ⟨es,clock,hmb⟩:=bt hPl.out.mapOwn;obtain ⟨w9,hclear,hm9,hg9⟩:=wk hmb;have c3:wr.cell? ⟨p,3,none⟩=some (.map (some L.m)):=by rw [aa HPr.out];rfl
   have HC:=hid (hPl.out.cleared hm9 hg9);have HM:=hid (ym safe waits left hl0);have HKe:Hid (ac (L.foot waits) w w9):=(hK.out.mono (fun i e => .inl e)).grown hg9 (fun i e => .inl (.inr (.inl (Option.some.inj e).symm)));clear hm9 hg9 hmb hl0 hc0 hrg hPl hK HPr;go_wp2
   go_end0
   refine ⟨rfl,?_,HKe.out⟩;have:=HC.out
   rwa [HM.out] at this
  ·-- a sector has come
   intro x c kl yd yp w2 cnt2 hkey hlk hv hat hrg2 hlt hg2 hs2 hen;obtain ⟨x',ex,rfl,_⟩:=Maps.keyOf_i64 Tryz.underlying3 hkey;obtain rfl:x=x':=encZ_inj ex;have hne:waits x≠[]:=HHas.out x (has_true_of_atKey hat);obtain ⟨hx0,hx1⟩:=HDom.out x hne;have hPl2:ay w2 L (iK safe waits left) waits B:=hPl.out.keep (ac.of_grown hg2 (fun i e=>e)) (fun i hi e=>by have:=HFt.out i hi;have:=Option.some.inj e;omega);have hK2:ac (fun i=>i=L.g) w w2:=hK.out.grown hg2 (fun i e => .inr (by have:=Option.some.inj e;omega));have hp2:=hK2.heap HP.out (fun e=>HPF.out (.inl e));have HP2:=hid hp2;have hml:=iQ safe waits left;have hmx:=HMost.out;have HSeen:=hid (nO p L (iK safe waits left) waits B x w2.drew (by rw [hml];exact aa hp2 2) (aa hp2 3) (hPl2.keep (G:=fun _=>False) (ac.refl _ _).drew (fun _ _ e=>e)) hx0 (by rw [hml];exact hx1));rw [wZ safe waits (iK safe waits left) x hne] at HSeen;have HSt:=hid (fun s=>hPl2.store x.toNat s);have HPl2:=hid hPl2;have HK2:=hid hK2;have HRg:=hid hrg2;have HMs:=hid (uW safe waits left x hx0);have HLt:Hid (cnt2<cnt):=hlt;have HGm:Hid (L.m≠L.g):=fun e=>by
    obtain ⟨es,mc,hmb⟩:=bt hPl2.mapOwn;obtain ⟨gc,hgb,_⟩:=bo hPl2.safeRow;rw [e,hgb] at hmb;cases hmb
   have HGl:Hid (L.g<w.heap.size):=HFt.out _ (.inl rfl);have hxt:x.toNat<(iK safe waits left).length:=by rw [hml];omega
   obtain ⟨old,cl⟩:∃o,w2.cell? ⟨L.g,x.toNat,none⟩=some o:=⟨.string ((iK safe waits left)[x.toNat]),by
    rw [hPl2.safeRow.cellAt _ (by omega)];simp [hxt]⟩
   have fl:w2.frozen? ⟨L.g,x.toNat,none⟩=false:=hPl2.safeRow.frozenAt _;clear hPl2 hK2 hp2 hrg2 hkey hlk hv hat hlt hs2 hne hPl HPr hxt ex;generalize seenS safe waits x=s at *;go_wp2;refine wp_region_noPanic ?_;refine wp_region_held_drew (S:=fun W=>W.cell? ⟨p,2,none⟩=some (.slice (some ⟨L.g,0,none⟩) safe.length L.cap)) (by kernel_rfl) (aa HP2.out 2) (fun hHeld => ?_);refine tq 0 _ ?_
   try simp only [tS]
   refine tq 1 _ ?_
   try simp only [tS]
   refine tq 2 _ ?_
   try simp only [tS]
   refine tq 3 _ ?_
   try simp only [tS]
   refine tq 4 _ ?_
   try simp only [tS]
   refine tq 5 _ ?_
   try simp only [tS]
   refine tq 6 _ ?_
   try simp only [tS]
   refine tr 7 (fun K hK => ?_);go_simp;refine HSeen.out.mono ?_;clear HSeen;rintro e w9 ⟨rfl,h9⟩;obtain rfl:=h9.symm
   go_wp2_with fail
   refine hK.out _ _ hHeld (fun hHeld => ?_);clear hK K
   try simp only [tS]
   refine tq 8 _ ?_
   try simp only [tS]
   refine tr 9 (fun K hK => ?_);unfold Oper.wp;go_simp;have HPg:Hid (p≠L.g):=fun e=>HPF.out (.inl e);have hgs:=ak (ar w2 (some L.g)) x.toNat (.string s);have HR3:=hid (HRg.out.kept hgs (fun e=>HGm.out (Option.some.inj e)) (fun e=>by have:=HGl.out;have:=Option.some.inj e;omega));have HP3:Hid (ay (w2.setCell ⟨L.g,x.toNat,none⟩ (.string s)) L (iK safe waits (fun z=>left z && !z.sameKey (.int .i64 x))) waits B):=by
    show ay _ L _ waits B;rw [HMs.out];exact HSt.out s
   have HK3:=hid (HK2.out.grown hgs (fun i e => .inl (Option.some.inj e).symm));clear hgs HSt HMs HK2 HPl2 cl fl;have hp3:(w2.setCell ⟨L.g,x.toNat,none⟩ (.string s)).heap[p]? = some (.cells #[fv,ov,.slice (some ⟨L.g,0,none⟩) safe.length L.cap,.map (some L.m)] 191 (0,0)):=by rw [al _ _ HPg.out];exact HP2.out
   have hq3:(w2.setCell ⟨L.g,x.toNat,none⟩ (.string s)).drew.cell? ⟨p,2,none⟩=some (.slice (some ⟨L.g,0,none⟩) safe.length L.cap):=aa hp3 2;refine hK.out _ _ hq3 (fun hHeld => ?_);clear hp3 hq3;clear hK K hHeld;generalize w2.setCell ⟨L.g,x.toNat,none⟩ (.string s)=w3 at *;refine wpAnyH_done (by kernel_rfl) ?_ _;refine NoPanic.normal ?_;go_wp2;refine ⟨⟨(fun z=>left z && !z.sameKey (.int .i64 x)),cnt2,HR3.out,HP3.out.keep (G:=fun _=>False) (ac.refl _ _).drew (fun _ _ e=>e),HK3.out.drew⟩,?_⟩;have h1:w3.drew.rangeLeft L.m (w.heap.size+1)=cnt2:=HR3.out.left_eq;rw [h1,hrg.out.left_eq];exact HLt.out
end
section
open Go.RowKit Go.Maps
def aq.flushed (S:aq):aq:={ S with ops:=S.ops ++ [.flush],safe:=l7 S,waits:=fun _=>[] }
theorem tL (d:DL) (S:aq) (w:World) (h:aX w d S) (hB:S.ops.length<fm) :
  Calls Tryz.prog 179 #[.pointer (some ⟨d.p,0,none⟩),.iface 258 (.agg #[])] w fun e w'=>e = .returned (.tuple #[]) /\
   ∃d',aX w' d' (S.flushed)/\d'.p=d.p/\d'.fv=d.fv/\(∀i,d'.foot (S.flushed).waits i->d.foot S.waits i\/w.heap.size<=i)/\ac (d.foot S.waits) w w':=by
 have c1:w.cell? ⟨d.p,1,none⟩=some d.ov:=by rw [aa h.heap];rfl
 have hlt:=ae h.heap;obtain ⟨i0,hi,hz0,hz1,hz2⟩:=info_parts ti;have HI:=hid hi;have H:=hid h;have HL:=hid (fk hB);clear hi h;go_enter Tryz.func179,Tryz.ntmps179
 go_wp2_with (refine wpList_append_lies _ rfl (.tmp 8) (.tmp 10) 189 rfl 0 284 i0 .nilIface 1 16 Tryz.underlying189 HI.out hz0 hz1 hz2 rfl (by omega) d.ov S.ops.length (S.ops.map cO) rfl (H.out.ops.alloc _) ⟨w.heap.size,0,none⟩ 1 1 [cO .flush] rfl rfl (World.news_of_block (cs:=#[cO .flush]) (af w _)) (by intro u hu;rw [List.mem_singleton.1 hu];rfl) (by omega) HL.out.1 HL.out.2.1 (Nat.zero_le _) (w.heap.size+1) (by simp) ?_;intro g cap w1 hown hgr hat hlt1;have HO:=hid hown;have HG:=hid hgr;have HA:=hid hat;have HP1:=hid ((hgr.block d.p (by simp;omega) (fun e=>(H.out.ops_off e.symm).2 rfl)).trans (aj H.out.heap _));have f1:w1.cell? ⟨d.p,1,none⟩=some d.ov:=aa HP1.out 1;have f2:w1.frozen? ⟨d.p,1,none⟩=false:=ai HP1.out 1;clear hown hgr hat hlt1)
 have K1:ac (fun i=>d.ov.ownBlock=some i) w w1:=(ac.of_below ((Below.refl _ _).alloc (Nat.le_refl _) _)).trans (ac.of_grown HG.out (fun i e=>e)) (fun i e => .inl e);have K2:ac (fun i=>d.ov.ownBlock=some i\/i=d.p) w (w1.setCell ⟨d.p,1,none⟩ (.slice (some ⟨g,0,none⟩) (S.ops.length+1) cap)) :=
  (K1.mono (fun _ => .inl)).grown (ak (ar w1 (some d.p)) 1 _) (fun i e => .inl (.inr (Option.some.inj e).symm))
 have HK2:=hid K2;have hP2:=ap HP1.out 1 (.slice (some ⟨g,0,none⟩) (S.ops.length+1) cap);have HP2:=hid hP2;have hgp:g≠d.p:=by
  obtain ⟨cur,hc⟩:=fw HO.out rfl;refine d7 hc HP1.out (fun e => ?_);simp only [Obj.cells.injEq] at e;exact absurd e.2.1 (by decide)
 have HO2:=hid (HO.out.kept (ak (ar w1 (some d.p)) 1 (.slice (some ⟨g,0,none⟩) (S.ops.length+1) cap)) (.inr (fun e=>hgp (by simpa [Value.ownBlock] using e))));have HPL:=hid (H.out.plates.keep HK2.out (fun i hi e=>by
  rcases e with e | e
  ·exact (H.out.ops_off e).1 hi
  ·exact H.out.p_off (e ▸ hi)))
 clear K1 K2 hP2 f1 f2 HO hgp;generalize hW:w1.setCell ⟨d.p,1,none⟩ (.slice (some ⟨g,0,none⟩) (S.ops.length+1) cap)=w2 at *;clear hW;refine (rN d.p d.fv (.slice (some ⟨g,0,none⟩) (S.ops.length+1) cap) d.L S.safe S.waits S.ops.length w2 HP2.out HPL.out).mono ?_;rintro e w3 ⟨rfl,hP3,hK3⟩;have HP3:=hid hP3;have HK3:=hid hK3;clear hP3 hK3;have HFoot:Hid (∀i,(DL.foot ⟨d.p,d.fv,.slice (some ⟨g,0,none⟩) (S.ops.length+1) cap,{ d.L with D := .map [] }⟩ (S.flushed).waits i)->d.foot S.waits i\/w.heap.size<=i):=by
  rintro i (e | e | e)
  ·exact .inl (.inl e)
  ·obtain rfl:g=i:=Option.some.inj e;rcases HA.out with e | e
   ·exact .inl (.inr (.inl e))
   ·exact .inr (by omega)
  ·rcases e with e | e | ⟨n,hn,_⟩
   ·exact .inl (.inr (.inr (.inl e)))
   ·exact .inl (.inr (.inr (.inr (.inl e))))
   ·exact absurd rfl hn
 have HKall:Hid (ac (d.foot S.waits) w w3):=(HK2.out.mono (fun i e=>by rcases e with e | e;exact .inr (.inl e);exact .inl e)).trans HK3.out (fun i e => .inl (.inr (.inr e)));go_wp2
 go_end0
 refine ⟨rfl,⟨d.p,d.fv,.slice (some ⟨g,0,none⟩) (S.ops.length+1) cap,{ d.L with D := .map [] }⟩,⟨?_,?_,?_,?_,?_⟩,rfl,rfl,?_,?_⟩
 ·have h3:=HK3.out.heap HP2.out H.out.p_off;simpa [aq.flushed,bL] using h3
 ·have h2:=HK3.out.row HO2.out (fun i hi=>by
   obtain ⟨cur,hc⟩:=fw HO2.out hi;exact HPL.out.foot_other hc (by decide))
  simpa [aq.flushed] using h2
 ·exact HP3.out.moreB (Nat.zero_le _)
 ·obtain ⟨ad,c,e,hc,hn⟩:=H.out.first;refine ⟨ad,c,e,fun j u hj => ?_,fun hf => ?_⟩
  ·refine HK3.out.cell (HK2.out.cell (hc j u hj) ?_) ?_
   ·rw [aJ];rintro (e | e)
    ·exact hn (.inr (.inl e))
    ·exact hn (.inl e)
   ·rw [aJ];exact fun e=>hn (.inr (.inr e))
  ·have hlt0:S.first.length≠0:=by have:=H.out.flen;have:=H.out.plates.pos;omega
   have hltad:ad.block<w.heap.size:=by
    have h00:=hc 0 (S.first[0]'(by omega)) (by simp);have:=World.block_lt_of_cell? w _ h00
    rwa [aJ] at this
   exact hn (by rcases HFoot.out _ hf with e | e;exact e;omega)
 ·have:=H.out.flen;simpa [aq.flushed,bL] using this
 ·exact HFoot.out
 ·exact HKall.out
theorem sO (d:DL) (S:aq) (w:World) (h:aX w d S) (hB:S.ops.length<fm) :
  Calls Tryz.prog 115 #[.pointer (some ⟨d.p,0,none⟩)] w fun e w'=>e = .returned (.int .i64 0) /\
   ∃d',aX w' d' S.flushed/\d'.p=d.p/\d'.fv=d.fv/\(∀i,d'.foot S.flushed.waits i->d.foot S.waits i\/w.heap.size<=i)/\ac (d.foot S.waits) w w':=by
 have HN:=hid (tL d S w h hB);clear h;go_enter Tryz.func115,Tryz.ntmps115
 go_wp2_with fail
 refine HN.out.mono ?_;rintro e w1 ⟨rfl,hq⟩;have HQ:=hid hq;clear hq;go_wp2;go_ret;exact ⟨rfl,HQ.out⟩
end
section
open Go.RowKit
theorem gZ (d:DL) (S:aq) (w:World) (h:di w d S):Calls Tryz.prog 50 #[.pointer (some ⟨d.p,0,none⟩)] w fun e w'=>e = .returned (.int .i64 S.safe.length)/\w'=w:=by
 have c2:w.cell? ⟨d.p,2,none⟩=some (.slice (some ⟨d.L.g,0,none⟩) S.safe.length d.L.cap):=by rw [aa h.heap];rfl
 clear h;go_enter Tryz.func50,Tryz.ntmps50;go_wp2;go_ret;exact ⟨rfl,rfl⟩
theorem pQ (d:DL) (S:aq) (w:World) (h:aX w d S):Calls Tryz.prog 50 #[.pointer (some ⟨d.p,0,none⟩)] w fun e w'=>e = .returned (.int .i64 S.safe.length)/\w'=w :=
 gZ d S w h.rd
end
section
open Go.RowKit
structure ROp where
 flush:Bool
 n:Int
 b:List UInt8
structure Ae where
 first:List (List UInt8)
 l:List ROp
end
section
open Go.RowKit
end
section
open Go.RowKit
end
section
open Go.RowKit
def Ab:List UInt8:=List.replicate 512 0
end
section
open Go.RowKit
end
section
open Go.RowKit
end
section
open Go.RowKit
end
section
open Go.RowKit
end
section
open Go.RowKit
end
section
open Go.RowKit
end
section
open Go.RowKit
end
section
open Go.RowKit
variable {w0 wa wb:World} {d d':DL} {S S':aq} {r:Nat} {fv lv lv':Value} {vs vs':List Value} {Rd:Nat->Prop} {R R':Ae}
end
section
open Go.RowKit
end
section
open Go.RowKit
def okS (S:aq):Prop:=(∀s∈S.safe,s.size=512)/\∀n,∀s∈S.waits n,s.size=512
theorem t6:eH.size=512:=by
 show (Lib.repeatL [0] 512).toArray.size=512
 decide +kernel
theorem pk {S:aq} (h:okS S) (k:Nat) (hk:k<S.safe.length):(seenS S.safe S.waits (k:Int)).size=512:=by
 unfold seenS
 split
 ·rw [Int.toNat_natCast,List.getD_eq_getElem?_getD,List.getElem?_eq_getElem hk];exact h.1 _ (List.getElem_mem hk)
 ·rename_i hne;refine h.2 (k:Int) _ ?_;rw [List.getLastD_eq_getLast?,List.getLast?_eq_some_getLast hne];exact List.getLast_mem hne
end
section
open Go.RowKit
end
section
open Go.RowKit
theorem iU:eH.data.toList=Ab:=by
 show (Lib.repeatL [0] 512).toArray.toList=List.replicate 512 0
 decide +kernel
end
section
open Go.RowKit
end
section
open Go.RowKit
def eL (S:aq):OpS->aq
 | .write n s=>S.wrote n s
 | .flush=>S.flushed
def qF (N:Nat):OpS->Prop
 | .write n s=>0<=n/\n<N/\s.size=512
 | .flush=>True
def dq (S:aq) (l:List OpS):aq:=l.foldl eL S
theorem jN (S:aq) (o:OpS):(eL S o).first=S.first:=by cases o <;> rfl
theorem nx (S:aq) (o:OpS):(eL S o).safe.length=S.safe.length:=by cases o <;> simp [eL,aq.wrote,aq.flushed,bL]
theorem mt (S:aq) (o:OpS):(eL S o).ops=S.ops ++ [o]:=by cases o <;> rfl
theorem lO (S:aq):∀l:List OpS,(dq S l).first=S.first/\(dq S l).safe.length=S.safe.length/\(dq S l).ops=S.ops ++ l:=by
 intro l
 induction l generalizing S with
 | nil=>simp [dq]
 | cons o l ih =>
  obtain ⟨h1,h2,h3⟩:=ih (eL S o);refine ⟨by rw [show dq S (o :: l)=dq (eL S o) l from rfl,h1,jN],by rw [show dq S (o :: l)=dq (eL S o) l from rfl,h2,nx],?_⟩;rw [show dq S (o :: l)=dq (eL S o) l from rfl,h3,mt];simp
end
section
set_option maxRecDepth 100000
set_option maxHeartbeats 2000000
open Go.RowKit Go.Maps
structure g8 (w:World) (d:DL) (S:aq):Prop where
 rd:di w d S
 ops:∃a,d.ov = .slice a S.ops.length S.ops.length/\(a=none->S.ops=[])/\∀b,a=some b->(∀j u,(S.ops.map cO)[j]? = some u->w.cell? (b.add j)=some u)/\b.block<w.heap.size
 first:∃ad c,d.fv = .slice (some ad) S.first.length c/\(∀j s,S.first[j]? = some s->w.cell? (ad.add j)=some (.string s))/\¬(ad.block=d.p\/d.L.foot S.waits ad.block)
 flen:S.first.length=S.safe.length
theorem tB (p:Nat) (oa:Addr) (n oc k:Nat) (w:World) (c1:w.cell? ⟨p,1,none⟩=some (.slice (some oa) n oc)) (hk:k<=n) (hn:n<=oc) :
  Calls Tryz.prog 104 #[.pointer (some ⟨p,0,none⟩),.int .i64 k] w fun e w'=>e = .returned (.slice (some oa) k k)/\w'=w:=by
 have hk0:(0:Int)<=(k:Int):=by omega
 have hk1:(k:Int)<=(oc:Int):=by omega
 go_enter Tryz.func104,Tryz.ntmps104;go_wp2;go_ret;exact ⟨rfl,rfl⟩
theorem sQ (p:Nat) (w:World) (c1:w.cell? ⟨p,1,none⟩=some (.slice none 0 0)) :
  Calls Tryz.prog 104 #[.pointer (some ⟨p,0,none⟩),.int .i64 0] w fun e w'=>e = .returned (.slice none 0 0)/\w'=w:=by
 go_enter Tryz.func104,Tryz.ntmps104;go_wp2;go_ret;exact ⟨rfl,rfl⟩
end
section
open Go.RowKit Go.Maps
theorem g8.keep {w w':World} {d:DL} {S:aq} (h:g8 w d S) {G:Nat->Prop} (k:ac G w w') (hp:¬G d.p) (hG:∀i,d.L.foot S.waits i->¬G i) (hF:∀i,d.fv.ownBlock=some i\/d.ov.ownBlock=some i->¬G i):g8 w' d S:=by
 obtain ⟨h1,⟨a,e1,e2,e3⟩,⟨ad,c,e4,e5,e6⟩,h4⟩:=h;refine ⟨h1.keep k hp hG,⟨a,e1,e2,fun b hb=>⟨fun j u hu => ?_,Nat.lt_of_lt_of_le (e3 b hb).2 k.size⟩⟩,⟨ad,c,e4,fun j s hj => ?_,e6⟩,h4⟩
 ·exact k.cell ((e3 b hb).1 j u hu) (by rw [aJ];exact hF _ (.inr (by rw [e1,hb];rfl)))
 ·exact k.cell (e5 j s hj) (by rw [aJ];exact hF _ (.inl (by rw [e4];rfl)))
theorem g8.below {w w':World} {d:DL} {S:aq} (h:g8 w d S) (k:Below w.heap.size w w'):g8 w' d S:=h.keep (G:=fun _=>False) (ac.of_below k) (fun e=>e) (fun _ _ e=>e) (fun _ _ e=>e)
def DL.cutFoot (d:DL) (waits:Int->List ByteArray) (i:Nat):Prop:=i=d.p\/d.L.foot waits i
theorem Aa (p:Nat) (fv ov:Value) (L:PL) (S:aq) (B:Nat) (o:OpS) (w:World)
  (hp:w.heap[p]? = some (.cells #[fv,ov,.slice (some ⟨L.g,0,none⟩) S.safe.length L.cap,.map (some L.m)] 191 (0,0))) (h:ay w L S.safe S.waits B) (hB:B<fm) (ho:qF S.safe.length o) :
  Calls Tryz.prog 218 #[.pointer (some ⟨p,2,none⟩),cO o] w fun e w'=>e = .returned (.tuple #[]) /\
   ∃L',ay w' L' (eL S o).safe (eL S o).waits (B+1)/\L'.g=L.g/\L'.cap=L.cap/\L'.m=L.m/\(∀i,L'.foot (eL S o).waits i->L.foot S.waits i\/w.heap.size<=i)/\ac (L.foot S.waits) w w':=by
 cases o with
 | write n s=>exact rt p fv ov L S.safe S.waits B n s w hp h hB ho.1 ho.2.1
 | flush =>
  refine (rN p fv ov L S.safe S.waits B w hp h).mono ?_;rintro e w' ⟨rfl,hP,hK⟩;refine ⟨rfl,{ L with D := .map [] },hP.moreB (Nat.zero_le _),rfl,rfl,rfl,fun i hi => ?_,hK⟩;rcases hi with e | e | ⟨n,hn,_⟩
  ·exact .inl (.inl e)
  ·exact .inl (.inr (.inl e))
  ·exact absurd rfl hn
theorem qY (d:DL) (S:aq) (o:OpS) (w:World) (h:g8 w d S) (hB:S.ops.length<=1000000) (ho:qF S.first.length o) :
  Calls Tryz.prog 179 #[.pointer (some ⟨d.p,0,none⟩),cO o] w fun e w'=>e = .returned (.tuple #[]) /\
   ∃d',aX w' d' (eL S o)/\d'.p=d.p/\d'.fv=d.fv/\(∀i,d'.foot (eL S o).waits i->d.cutFoot S.waits i\/w.heap.size<=i)/\ac (d.cutFoot S.waits) w w':=by
 obtain ⟨oa,hov,hnone,hcells⟩:=h.ops;have c1:w.cell? ⟨d.p,1,none⟩=some (.slice oa S.ops.length S.ops.length):=by rw [aa h.rd.heap, <- hov];rfl
 have hlt:=ae h.rd.heap;obtain ⟨i0,hi,hz0,hz1,hz2⟩:=info_parts ti;have HI:=hid hi;have H:=hid h;have HCl:=hid (show ∀b,oa=some b->∀j u,(S.ops.map cO)[j]? = some u->(w.alloc (.cells #[cO o] 284)).cell? (b.add j)=some u from fun b hb j u hu=>by
  rw [World.cell?_alloc_lt _ _ _ (by rw [aJ];exact (hcells b hb).2)];exact (hcells b hb).1 j u hu)
 have HNo:Hid (oa=none->S.ops.length=0/\S.ops.length=0):=fun e=>by rw [hnone e];exact ⟨rfl,rfl⟩
 have HOo:=hid ho;obtain ⟨t,ov,hev⟩:∃t v,cO o = .iface t v:=by cases o <;> exact ⟨_,_,rfl⟩
 rw [hev] at HCl ⊢;have HEv:=hid hev;clear hi h hcells hnone hev ho;go_enter Tryz.func179,Tryz.ntmps179
 go_wp2_with (refine wpList_append_grows _ rfl (.tmp 8) (.tmp 10) 189 rfl 284 i0 .nilIface 1 16 Tryz.underlying189 HI.out hz0 hz1 hz2 rfl (by omega) oa S.ops.length S.ops.length (S.ops.map cO) rfl HNo.out (by simp) HCl.out ⟨w.heap.size,0,none⟩ 1 1 [.iface t ov] rfl rfl (World.news_of_block (cs:=#[.iface t ov]) (af w _)) (by intro u hu;rw [List.mem_singleton.1 hu];rfl) (by omega) (by unfold maxLen;omega) (by omega) ?_;intro v1 w1 hown hgr;have HO:=hid hown;have HG:=hid hgr;have HP1:=hid ((hgr.block d.p (by simp;omega) (fun e=>by cases e)).trans (aj H.out.rd.heap _));have f1:w1.cell? ⟨d.p,1,none⟩=some d.ov:=aa HP1.out 1;have f2:w1.frozen? ⟨d.p,1,none⟩=false:=ai HP1.out 1;obtain ⟨g,cap,hv1,hgb,hgl⟩:=hown.form (by omega);subst hv1;clear hown hgr)
 have K1:ac (fun i=>i=d.p) w w1:=(ac.of_below ((Below.refl _ _).alloc (Nat.le_refl _) _)).trans (ac.of_grown HG.out (F:=fun _=>False) (fun i e=>by cases e)) (fun i e => .inl e.elim);have K2:ac (fun i=>i=d.p) w (w1.setCell ⟨d.p,1,none⟩ (.slice (some ⟨g,0,none⟩) (S.ops.length+1) cap)) :=
  K1.grown (ak (ar w1 (some d.p)) 1 _) (fun i e => .inl (Option.some.inj e).symm)
 have HK2:=hid K2;have HP2:=hid (ap HP1.out 1 (.slice (some ⟨g,0,none⟩) (S.ops.length+1) cap));have hgw:w.heap.size<=g:=by simp at hgb;omega
 have hgp:g≠d.p:=by omega
 have HO2:=hid (HO.out.kept (ak (ar w1 (some d.p)) 1 (.slice (some ⟨g,0,none⟩) (S.ops.length+1) cap)) (.inr (fun e=>hgp (by simpa [Value.ownBlock] using e))));have hpo:=H.out.rd.plates.foot_other H.out.rd.heap (by decide);have HPL:=hid (H.out.rd.plates.keep HK2.out (fun i hi e=>hpo (by rw [<- e];exact hi)));clear K1 K2 f1 f2 HO;generalize hW:w1.setCell ⟨d.p,1,none⟩ (.slice (some ⟨g,0,none⟩) (S.ops.length+1) cap)=w2 at *;clear hW;rw [<- HEv.out];refine (Aa d.p d.fv (.slice (some ⟨g,0,none⟩) (S.ops.length+1) cap) d.L S S.ops.length o w2 HP2.out HPL.out (by unfold fm;omega) (by rw [<- H.out.flen];exact HOo.out)).mono ?_;rintro e w3 ⟨rfl,L',hP3,e1,e2,e3,hfoot,hK3⟩;have HP3:=hid hP3;have HF3:=hid hfoot;have HK3:=hid hK3;have HE:=hid (And.intro e1 (And.intro e2 e3));clear hP3 hfoot hK3 e1 e2 e3;have HFoot:Hid (∀i,(DL.foot ⟨d.p,d.fv,.slice (some ⟨g,0,none⟩) (S.ops.length+1) cap,L'⟩ (eL S o).waits i)->d.cutFoot S.waits i\/w.heap.size<=i):=by
  rintro i (e | e | e)
  ·exact .inl (.inl e)
  ·obtain rfl:g=i:=Option.some.inj e;exact .inr hgw
  ·rcases HF3.out i e with e | e
   ·exact .inl (.inr e)
   ·exact .inr (Nat.le_trans HK2.out.size e)
 have HKall:Hid (ac (d.cutFoot S.waits) w w3):=(HK2.out.mono (fun i e => .inl e)).trans HK3.out (fun i e => .inl (.inr e));have hfirst:=H.out.first;have HFi:=hid hfirst;clear hfirst;go_wp2
 go_end0
 refine ⟨rfl,⟨d.p,d.fv,.slice (some ⟨g,0,none⟩) (S.ops.length+1) cap,L'⟩,⟨?_,?_,?_,?_,?_⟩,rfl,rfl,HFoot.out,HKall.out⟩
 ·rw [HE.out.1,HE.out.2.1,HE.out.2.2,nx];exact HK3.out.heap HP2.out hpo
 ·have h2:=HK3.out.row HO2.out (fun i hi=>by
   obtain ⟨cur,hc⟩:=fw HO2.out hi;exact HPL.out.foot_other hc (by decide))
  rw [mt];have h3:=h2.mono (Nat.zero_le _);rw [<- HEv.out] at h3;simpa using h3
 ·rw [mt];simpa using HP3.out
 ·obtain ⟨ad,c,e,hc,hn⟩:=HFi.out;rw [jN];refine ⟨ad,c,e,fun j u hj => ?_,fun hf => ?_⟩
  ·refine HK3.out.cell (HK2.out.cell (hc j u hj) ?_) ?_
   ·rw [aJ];exact fun e=>hn (.inl e)
   ·rw [aJ];exact fun e=>hn (.inr e)
  ·have hlt0:S.first.length≠0:=by have:=H.out.flen;have:=H.out.rd.plates.pos;omega
   have hltad:ad.block<w.heap.size:=by
    have h00:=hc 0 (S.first[0]'(by omega)) (by simp);have:=World.block_lt_of_cell? w _ h00
    rwa [aJ] at this
   exact hn (by rcases HFoot.out _ hf with e | e;exact e;omega)
 ·rw [jN,nx];exact H.out.flen
theorem u4 (d:DL) (S:aq) (w:World) (h:g8 w d S) (hB:S.ops.length<=1000000) :
  Calls Tryz.prog 115 #[.pointer (some ⟨d.p,0,none⟩)] w fun e w'=>e = .returned (.int .i64 0) /\
   ∃d',aX w' d' S.flushed/\d'.p=d.p/\d'.fv=d.fv/\(∀i,d'.foot S.flushed.waits i->d.cutFoot S.waits i\/w.heap.size<=i)/\ac (d.cutFoot S.waits) w w':=by
 have hn:=qY d S .flush w h hB trivial;simp only [cO,eL] at hn;have HN:=hid hn;clear hn;clear h;go_enter Tryz.func115,Tryz.ntmps115
 go_wp2_with fail
 refine HN.out.mono ?_;rintro e w1 ⟨rfl,hq⟩;have HQ:=hid hq;clear hq;go_wp2;go_ret;exact ⟨rfl,HQ.out⟩
theorem pH (d:DL) (S:aq) (n:Int) (l:List UInt8) (ad:Addr) (c:Nat) (w:World) (h:g8 w d S) (hB:S.ops.length<=1000000) (h0:0<=n) (h1:n<S.safe.length) (hl:l.length=512) (hb:az w ad l) :
  Calls Tryz.prog 113 #[.pointer (some ⟨d.p,0,none⟩),.int .i64 n,.slice (some ad) 512 c] w fun e w'=>e = .returned (.int .i64 0) /\
   ∃d',aX w' d' (S.wrote n ⟨l.toArray⟩)/\d'.p=d.p/\d'.fv=d.fv/\(∀i,d'.foot (S.wrote n ⟨l.toArray⟩).waits i->d.cutFoot S.waits i\/w.heap.size<=i)/\ac (d.cutFoot S.waits) w w':=by
 have hcv:=run_convert_bytes_back (P:=Tryz.prog) w 76 114 5 ad c l Tryz.underlying76 Tryz.underlying5 Tryz.underlying114 hb;rw [hl] at hcv;have c2:w.cell? ⟨d.p,2,none⟩=some (.slice (some ⟨d.L.g,0,none⟩) S.safe.length d.L.cap):=by rw [aa h.rd.heap];rfl
 have HD:=hid (decide_eq_true (And.intro h0 h1));have HC2:=hid c2;have hn:=qY d S (.write n ⟨l.toArray⟩) w h hB ⟨h0,by rw [h.flen];exact h1,by show l.toArray.size=512;simpa using hl⟩;simp only [cO,eL] at hn;have HN:=hid hn;clear hb hl h c2 hn;generalize hs:(⟨l.toArray⟩:ByteArray)=s at *;clear hs;go_enter Tryz.func113,Tryz.ntmps113
 go_wp2_with fail
 refine (mn d.p 2 _ _ _ _ _ HC2.out).mono ?_;rintro e w9 ⟨rfl,h9⟩;obtain rfl:=h9.symm;rw [HD.out]
 go_wp2_with fail
 refine HN.out.mono ?_;rintro e w1 ⟨rfl,hq⟩;have HQ:=hid hq;clear hq;go_wp2;go_ret;exact ⟨rfl,HQ.out⟩
end
section
open Go.RowKit Go.Maps
structure dJ (w:World) (lo:Nat) (L:PL) (safe:List ByteArray) (ws:Int->List ByteArray) (B:Nat):Prop where
 safeRow:w.ownsRow lo 114 1 (.slice (some ⟨L.g,0,none⟩) safe.length L.cap) safe.length (fB safe)
 mapLo:lo<=L.m
 mapOwn:w.ownsMap Tryz.prog 3 aE L.m B L.D
 absent:∀n,ws n=[]->Maps.has L.D (.int .i64 n)=false
 there:∀n,ws n≠[]->Maps.has L.D (.int .i64 n)=true
 held:∀n,ws n≠[]->∀z,L.D.atKey (.int .i64 n) z = .held (.slice (some ⟨L.row n,0,none⟩) (ws n).length (L.rcap n))
 rows:∀n,ws n≠[]->w.ownsRow lo 114 1 (.slice (some ⟨L.row n,0,none⟩) (ws n).length (L.rcap n)) (ws n).length (fB (ws n))
 off:∀n,ws n≠[]->L.row n≠L.g
 apart:∀n n',ws n≠[]->ws n'≠[]->L.row n=L.row n'->n=n'
theorem mx {w:World} {lo:Nat} {e:TypeId} {g n cap:Nat} {xs:List Value} (h:w.ownsRow lo e 1 (.slice (some ⟨g,0,none⟩) n cap) n xs):lo<=g/\g<w.heap.size:=h.lt g rfl
theorem dJ.foot_block {w:World} {lo:Nat} {L:PL} {safe:List ByteArray} {ws:Int->List ByteArray} {B:Nat} (h:dJ w lo L safe ws B) {i:Nat} (hi:L.foot ws i):(∃cur,w.heap[i]? = some (.cells cur 114 (0,0)))\/∃es c,w.heap[i]? = some (.map es c):=by
 rcases hi with rfl | rfl | ⟨n,hn,rfl⟩
 ·obtain ⟨cur,hc,_⟩:=bo h.safeRow;exact .inl ⟨cur,hc⟩
 ·obtain ⟨es,c,hm⟩:=bt h.mapOwn;exact .inr ⟨es,c,hm⟩
 ·obtain ⟨cur,hc,_⟩:=bo (h.rows n hn);exact .inl ⟨cur,hc⟩
theorem dJ.keep {w w':World} {lo:Nat} {L:PL} {safe:List ByteArray} {ws:Int->List ByteArray} {B:Nat} (h:dJ w lo L safe ws B) {G:Nat->Prop} (k:ac G w w') (hG:∀i,L.foot ws i->¬G i):dJ w' lo L safe ws B where
 safeRow:=k.row h.safeRow (fun i hi=>hG i (.inl (Option.some.inj hi).symm))
 mapLo:=h.mapLo
 mapOwn:=k.map h.mapOwn (hG _ (.inr (.inl rfl)))
 absent:=h.absent
 there:=h.there
 held:=h.held
 rows:=fun n hn=>k.row (h.rows n hn) (fun i hi=>hG i (.inr (.inr ⟨n,hn,(Option.some.inj hi).symm⟩)))
 off:=h.off
 apart:=h.apart
theorem dJ.put {w w1 w2:World} {lo:Nat} {L:PL} {safe:List ByteArray} {ws:Int->List ByteArray} {B:Nat} (h:dJ w lo L safe ws B) {n:Int} {xs:List ByteArray} {g cap:Nat} (hx:xs≠[]) (hB:Below w.heap.size w w1) (hg:w.heap.size<=g) (hlo:lo<=w.heap.size)
  (hown:w1.ownsRow w.heap.size 114 1 (.slice (some ⟨g,0,none⟩) xs.length cap) xs.length (fB xs))
  (hmap:w2.ownsMap Tryz.prog 3 aE L.m (B+1) (L.D.put (.int .i64 n) (.held (.slice (some ⟨g,0,none⟩) xs.length cap)))) (hgr:w1.grownBy w2 (some L.m)) :
  dJ w2 lo { L with D:=L.D.put (.int .i64 n) (.held (.slice (some ⟨g,0,none⟩) xs.length cap)),row:=fun k=>if k=n then g else L.row k,rcap:=fun k=>if k=n then cap else L.rcap k } safe (upd ws n xs) (B+1):=by
 have K2:ac (fun i=>i=L.m) w w2:=(ac.of_below hB).grown hgr (fun i e => .inl (Option.some.inj e).symm);obtain ⟨es,mc,hmb⟩:=bt h.mapOwn;have hmlt:=ae hmb;have hrm:∀k,ws k≠[]->L.row k≠L.m:=fun k hk e=>by
  obtain ⟨c,hc,_⟩:=bo (h.rows k hk);rw [e,hmb] at hc;cases hc
 have hgm:L.g≠L.m:=fun e=>by
  obtain ⟨c,hc,_⟩:=bo h.safeRow;rw [e,hmb] at hc;cases hc
 refine ⟨?_,h.mapLo,hmap,?_,?_,?_,?_,?_,?_⟩
 ·exact K2.row h.safeRow (fun i hi e=>hgm (by
   have e1:L.g=i:=Option.some.inj hi;have e2:i=L.m:=e;rw [e1,e2]))
 ·intro k hk;by_cases hkn:k=n
  ·subst hkn;rw [eD] at hk;exact absurd hk hx
  ·rw [aQ _ _ hkn] at hk;rw [has_put_other (by simpa using hkn)];exact h.absent k hk
 ·intro k hk;by_cases hkn:k=n
  ·subst hkn;exact has_put_same h.mapOwn.isMap (dZ _) _
  ·rw [aQ _ _ hkn] at hk;rw [has_put_other (by simpa using hkn)];exact h.there k hk
 ·intro k hk z;by_cases hkn:k=n
  ·subst hkn;rw [atKey_put_same h.mapOwn.isMap (dZ _)];simp [eD]
  ·rw [aQ _ _ hkn] at hk;rw [atKey_put_other (by simpa using hkn),h.held k hk];simp [aQ _ _ hkn,hkn]
 ·intro k hk;by_cases hkn:k=n
  ·subst hkn;simp only [eD,if_true];exact (hown.mono hlo).kept hgr (.inr (fun e=>by
    have e2:g=L.m:=Option.some.inj e;omega))
  ·rw [aQ _ _ hkn] at hk;simp only [aQ _ _ hkn,hkn,if_false];exact K2.row (h.rows k hk) (fun i hi e=>hrm k hk (by
    have e1:L.row k=i:=Option.some.inj hi;have e2:i=L.m:=e;rw [e1,e2]))
 ·intro k hk;by_cases hkn:k=n
  ·subst hkn;have:=(mx h.safeRow).2;simp only [if_true];omega
  ·rw [aQ _ _ hkn] at hk;simpa [hkn] using h.off k hk
 ·intro k k' hk hk' e;by_cases hkn:k=n
  ·by_cases hkn':k'=n
   ·rw [hkn,hkn']
   ·rw [aQ _ _ hkn'] at hk';simp only [hkn,hkn',if_true,if_false] at e;have:=(mx (h.rows k' hk')).2;omega
  ·by_cases hkn':k'=n
   ·rw [aQ _ _ hkn] at hk;simp only [hkn,hkn',if_true,if_false] at e;have:=(mx (h.rows k hk)).2;omega
   ·rw [aQ _ _ hkn] at hk;rw [aQ _ _ hkn'] at hk';simp only [hkn,hkn',if_false] at e;exact h.apart k k' hk hk' e
theorem dJ.done {w:World} {lo:Nat} {L:PL} {safe:List ByteArray} {ws:Int->List ByteArray} {B B':Nat} (h:dJ w lo L safe ws B) (hB:B<=B') (hl:∀n,(ws n).length<=B') (hd:∀n,ws n≠[]->0<=n/\n<safe.length) (hp:0<safe.length) (hm:safe.length<=4096) :
  ay w L safe ws B'/\∀i,L.foot ws i->lo<=i:=by
 refine ⟨⟨h.safeRow.mono (Nat.zero_le _),?_,h.absent,h.there,h.held,fun n hn=>(h.rows n hn).mono (Nat.zero_le _),h.off,h.apart,hl,hd,hp,hm⟩,?_⟩
 ·obtain ⟨es,c,h1,h2,h3,h4⟩:=h.mapOwn;exact ⟨es,c,h1,h2,Nat.le_trans h3 hB,h4⟩
 ·rintro i (rfl | rfl | ⟨n,hn,rfl⟩)
  ·exact (mx h.safeRow).1
  ·exact h.mapLo
  ·exact (mx (h.rows n hn)).1
def jq (waits:Int->List ByteArray) (left:Lit->Bool) (n:Int):List ByteArray:=if left (.int .i64 n) then [] else waits n
theorem vp (waits:Int->List ByteArray) (left:Lit->Bool) (x:Int) (hx:left (.int .i64 x)=true):jq waits (fun z=>left z && !z.sameKey (.int .i64 x))=upd (jq waits left) x (waits x):=by
 funext n
 unfold jq upd;by_cases e:n=x
 ·subst e;simp [Lit.sameKey]
 ·have:(Lit.int .i64 n).sameKey (.int .i64 x)=false:=by simp [Lit.sameKey,e]
  simp [this,e]
theorem r9 {w:World} {L:PL} {safe:List ByteArray} {waits:Int->List ByteArray} {B:Nat} (h:ay w L safe waits B):jq waits (Maps.has L.D)=fun _=>[]:=by
 funext n
 unfold jq;by_cases hn:waits n=[]
 ·rw [h.absent n hn];simp [hn]
 ·rw [h.there n hn];rfl
theorem mU (waits:Int->List ByteArray) (left:Lit->Bool) (h:∀kl,left kl=false):jq waits left=waits:=by
 funext n
 simp [jq,h]
theorem vA {w:World} {m r B cnt:Nat} {D:DataW Value} {left:Lit->Bool} (h:w.ranges Tryz.prog 3 aE m r B D left cnt):cnt<=B:=by
 obtain ⟨es,clock,since,seen,c0,_,_,hs,_,_,_,hc,_⟩:=h;have:(leftOf es seen).size<=es.size:=by unfold leftOf;exact Array.size_filter_le
 omega
theorem qx {w w':World} (h:Below w.heap.size w w'):w.grownBy w' none:=⟨h.os,h.tape,h.output,h.size,fun k hk _=>h.block k hk⟩
theorem lD {w:World} {m r B cnt:Nat} {D:DataW Value} {left:Lit->Bool} (h:w.ranges Tryz.prog 3 aE m r B D left cnt):∃a b c d,w.heap[r]? = some (.mapIter a b c d):=by
 obtain ⟨es,clock,since,seen,c0,_,_,_,_,hr,_⟩:=h;exact ⟨_,_,_,_,hr⟩
theorem tv (p:Nat) (fv ov:Value) (L:PL) (safe:List ByteArray) (waits:Int->List ByteArray) (B:Nat) (w:World)
  (hp:w.heap[p]? = some (.cells #[fv,ov,.slice (some ⟨L.g,0,none⟩) safe.length L.cap,.map (some L.m)] 191 (0,0))) (h:ay w L safe waits B) (hB4:B<=4096) :
  Calls Tryz.prog 105 #[.pointer (some ⟨p,2,none⟩)] w fun e w'=>∃L',e = .returned (.agg #[.slice (some ⟨L'.g,0,none⟩) safe.length L'.cap,.map (some L'.m)])/\ay w' L' safe waits B/\(∀i,L'.foot waits i->w.heap.size<=i)/\Below w.heap.size w w':=by
 have c2:w.cell? ⟨p,2,none⟩=some (.slice (some ⟨L.g,0,none⟩) safe.length L.cap):=by rw [aa hp];rfl
 have c3:w.cell? ⟨p,3,none⟩=some (.map (some L.m)):=by rw [aa hp];rfl
 have HP:=hid hp;have H:=hid h;have hplt:=ae hp;have HF:=hid (lP (fB safe) ⟨L.g,0,none⟩ L.cap (by simpa using h.pos) (by simpa using h.most) (ro _) (w.alloc (.cells #[.slice none 0 0,.map none] 187)) (fun j u hu=>by
  have hj:j<safe.length:=by simpa using (List.getElem?_eq_some_iff.1 hu).1
  rw [Addr.add_mid,Nat.zero_add,World.cell?_alloc_lt _ _ _ (h.foot_lt (.inl rfl)),h.safeRow.cellAt j (by omega)];exact hu))
 rw [show (fB safe).length=safe.length by simp] at HF;clear hp h;go_enter Tryz.func105,Tryz.ntmps105
 go_wp2_with fail
 refine HF.out.mono ?_;clear HF;rintro e w1 ⟨g,cap,m,rfl,hm,hmb,hown,hB⟩;have hb0:=ah hB (af w (.cells #[.slice none 0 0,.map none] 187)) (by simp);have HB0:=hid hb0;have HOW:=hid hown;have HMB:=hid hmb;have HBB:=hid hB;have hz0:(w.alloc (.cells #[.slice none 0 0,.map none] 187)).heap.size=w.heap.size+1:=by simp
 rw [hz0] at hm HOW HBB;have HBw:Hid (Below w.heap.size w w1):=((Below.refl w.heap.size w).alloc (Nat.le_refl _) (.cells #[.slice none 0 0,.map none] 187)).trans (HBB.out.mono (by omega));clear hb0 hown hB hmb hz0;have hpw1:p<w1.heap.size:=Nat.lt_of_lt_of_le hplt HBw.out.size;have c3a:(w1.alloc (.cells #[.slice (some ⟨g,0,none⟩) safe.length cap,.map (some m)] 187)).cell? ⟨p,3,none⟩=some (.map (some L.m)):=by
  rw [World.cell?_alloc_lt _ _ _ hpw1,HBw.out.cell (p:=⟨p,3,none⟩) hplt];exact c3
 have HBa:Hid (Below w.heap.size w (w1.alloc (.cells #[.slice (some ⟨g,0,none⟩) safe.length cap,.map (some m)] 187))):=HBw.out.alloc HBw.out.size _;have HPa:=hid (H.out.keep (G:=fun _=>False) (ac.of_below HBa.out) (fun _ _ e=>e));have hbc:=af w1 (.cells #[.slice (some ⟨g,0,none⟩) safe.length cap,.map (some m)] 187);have HBc:=hid hbc;have HMa:=hid (aj HMB.out (.cells #[.slice (some ⟨g,0,none⟩) safe.length cap,.map (some m)] 187));have HOa:=hid (HOW.out.alloc (.cells #[.slice (some ⟨g,0,none⟩) safe.length cap,.map (some m)] 187));have hza:(w1.alloc (.cells #[.slice (some ⟨g,0,none⟩) safe.length cap,.map (some m)] 187)).heap.size=w1.heap.size+1:=by simp
 have HZa:=hid hza;have hw01:=HBw.out.size;have HRa:=hid (aj HB0.out (.cells #[.slice (some ⟨g,0,none⟩) safe.length cap,.map (some m)] 187));have hriw:w.heap.size<=(w1.alloc (.cells #[.slice (some ⟨g,0,none⟩) safe.length cap,.map (some m)] 187)).heap.size:=by rw [hza];omega
 clear hbc hza HOW HMB HB0 HBB HZa;generalize hWa:w1.alloc (.cells #[.slice (some ⟨g,0,none⟩) safe.length cap,.map (some m)] 187)=wa at *
 go_wp2_with (first
  | (at_range;refine wpList_range_own _ rfl (.tmp 14) 185 rfl 3 117 (int_keyed Tryz.underlying3) Tryz.underlying185 aE L.m B L.D rfl HPa.out.mapOwn ?_;intro w0 hrg0 hg0 hs0)
  | go_in)
 go_frame
 have hBg:Below wa.heap.size wa w0:=⟨hg0.os,hg0.tape,hg0.output,hg0.size,fun k hk=>hg0.block k hk (by simp)⟩;have HB0:Hid (Below w.heap.size w w0):=HBa.out.trans (hBg.mono HBa.out.size);have HPl0:=hid (H.out.keep (G:=fun _=>False) (ac.of_below HB0.out) (fun _ _ e=>e));have HRg0:=hid hrg0;have HLe0:=hid (vA hrg0);have HCp0:Hid (dJ w0 (w.heap.size+1) ⟨g,cap,m,.map [],fun _=>0,fun _=>0⟩ safe (jq waits (Maps.has L.D)) 0):=by
  show dJ _ _ _ _ _ _;rw [r9 H.out];have hmm:=ah hBg HMa.out (ae HMa.out);have hrr:=(ac.of_below (F:=fun _=>False) hBg).row HOa.out (fun _ _ e=>e);exact ⟨hrr,hm,gn hmm,fun _ _=>rfl,fun n hn=>absurd rfl hn,fun n hn=>absurd rfl hn,fun n hn=>absurd rfl hn,fun n hn=>absurd rfl hn,fun n n' hn=>absurd rfl hn⟩
 have HBc0:=hid (ah hBg HBc.out (ae HBc.out));have HRc0:=hid (ah hBg HRa.out (ae HRa.out));clear hrg0 hg0 hs0 hBg HBa HPa HMa HOa HBc HBw HRa;have HWt:=hid (fun n (hn:waits n≠[])=>H.out.held n hn);have HHas:Hid (∀x,Maps.has L.D (.int .i64 x)=true->waits x≠[]):=fun x hx e=>by rw [H.out.absent x e] at hx;cases hx
 have HDom:=hid H.out.dom;have HMost:=hid H.out.most;have HLen:=hid H.out.len;have HPos:=hid H.out.pos;have HFl:=hid (fun i hi=>H.out.foot_lt (i:=i) hi);generalize hri:wa.heap.size=ri at *;clear hri hWa;clear H
 go_loopw [4,5] (fun _ _ wr=>∃(left:Lit->Bool) (cnt:Nat) (L':PL) (B1:Nat),B1+cnt<=B/\Hid (L'.g=g/\L'.cap=cap/\L'.m=m)/\Hid (wr.ranges Tryz.prog 3 aE L.m ri B L.D left cnt)/\Hid (ay wr L safe waits B)/\Hid (dJ wr (w.heap.size+1) L' safe (jq waits left) B1) /\
  Hid (wr.heap[w1.heap.size]? = some (.cells #[.slice (some ⟨g,0,none⟩) safe.length cap,.map (some m)] 187 (0,0)))/\Hid (wr.heap[w.heap.size]? = some (.cells #[.slice none 0 0,.map none] 187 (0,0)))/\Hid (Below w.heap.size w wr)) (fun _ _ wr=>wr.rangeLeft L.m ri)
 case atStart=>exact ⟨_,_,_,0,by have:=HLe0.out;omega,⟨rfl,rfl,rfl⟩,HRg0,HPl0,HCp0,HBc0,HRc0,HB0⟩
 case round =>
  obtain ⟨left,cnt,L',B1,hBc,hE,hrg,hPl,hCp,hbc,hrc,hBr⟩:=hrel;clear HRg0 HPl0 HCp0 HBc0 HB0 HLe0 HRc0
  go_wp2_with (first
   | (at_next;refine wpList_next_ranges _ rfl (.tmp 15) rfl 3 (int_keyed Tryz.underlying3) aE encZ id (fun key kl hk=>by obtain ⟨x,hx,_⟩:=Maps.keyOf_i64 Tryz.underlying3 hk;exact ⟨x,hx⟩) (fun v _ _=>⟨v,rfl⟩) L.m ri B _ _ _ rfl hrg.out ?_ ?_)
   | go_in)
  ·-- nothing is left
   intro hc0 hl0;have HD:=hid (hCp.out.done (B':=B) (by omega) (by rw [mU waits left hl0];exact HLen.out) (by rw [mU waits left hl0];exact HDom.out) HPos.out HMost.out);rw [mU waits left hl0] at HD;have cp0:wr.cell? ⟨w1.heap.size,0,none⟩=some (.slice (some ⟨g,0,none⟩) safe.length cap):=aa hbc.out 0;have cp1:wr.cell? ⟨w1.heap.size,1,none⟩=some (.map (some m)):=aa hbc.out 1;clear hc0 hl0 hrg hPl hCp
   go_wp2_with (refine am rfl 187 (.tmp 2) (.tmp 26) rfl w.heap.size #[.slice (some ⟨g,0,none⟩) safe.length cap,.map (some m)] rfl rfl _ 187 hrc.out rfl pS (by simp [Value.oneCell']) ?_;intro w9 hg9 hb9 hz9)
   refine bodyPost_ret (eQ Tryz.results105 _ _ rfl hb9 _ Tryz.underlying187 rfl pS) rfl ⟨L',?_,?_,?_,?_⟩
   ·rw [hE.out.1,hE.out.2.1,hE.out.2.2]
   ·refine HD.out.1.keep (ac.of_grown hg9 (fun i e=>e)) (fun i hi e => ?_);have:=HD.out.2 i hi;have:=Option.some.inj e;omega
   ·exact fun i hi=>Nat.le_trans (Nat.le_succ _) (HD.out.2 i hi)
   ·exact hBr.out.trans (dV hg9 (Nat.le_refl _) hBr.out.size)
  ·-- a sector has come
   intro x c kl yd yp w2 cnt2 hkey hlk hv hat hrg2 hlt hg2 hs2 hen;obtain ⟨x',ex,rfl,_⟩:=Maps.keyOf_i64 Tryz.underlying3 hkey;obtain rfl:x=x':=encZ_inj ex;have hne:waits x≠[]:=HHas.out x (has_true_of_atKey hat);obtain ⟨hx0,hx1⟩:=HDom.out x hne;have hcv:c = .slice (some ⟨L.row x,0,none⟩) (waits x).length (L.rcap x):=by
    have e1:=eM hv;have e2:=hat (.held c);rw [HWt.out x hne] at e2;rw [e1] at e2;exact (DataW.held.inj e2).symm
   subst hcv;obtain ⟨ia,ib,ic,id',hit⟩:=lD hrg.out;have hKn:ac (fun i=>i=ri) wr w2:=ac.of_grown hg2 (fun i e=>(Option.some.inj e).symm);have hPl2:ay w2 L safe waits B:=hPl.out.keep hKn (fun i hi e=>by
    have e2:i=ri:=e;rcases hPl.out.foot_block hi with ⟨_,h1⟩ | ⟨_,_,h1⟩ <;> (rw [e2,hit] at h1;cases h1))
   have hCp2:dJ w2 (w.heap.size+1) L' safe (jq waits left) B1:=hCp.out.keep hKn (fun i hi e=>by
    have e2:i=ri:=e;rcases hCp.out.foot_block hi with ⟨_,h1⟩ | ⟨_,_,h1⟩ <;> (rw [e2,hit] at h1;cases h1))
   have hbc2:=hKn.heap hbc.out (fun e=>by
    have e2:w1.heap.size=ri:=e;have:=hbc.out;rw [e2,hit] at this;cases this)
   have hrc2:=hKn.heap hrc.out (fun e=>by
    have e2:w.heap.size=ri:=e;have:=hrc.out;rw [e2,hit] at this;cases this)
   have hB2:Below w.heap.size w w2:=hBr.out.trans (hKn.below hBr.out.size (fun i e=>by rw [show i=ri from e];exact hriw));have hrow:=hPl2.rows x hne;have hlen4:(waits x).length<=4096:=Nat.le_trans (HLen.out x) hB4;have hpos:0<(waits x).length:=List.length_pos_iff.2 hne;have hcl:=oP (fB (waits x)) ⟨L.row x,0,none⟩ (L.rcap x) (by simpa using hpos) (by simpa using hlen4) (ro _) w2.drew (fun j u hu=>by
    have hj:j<(waits x).length:=by simpa using (List.getElem?_eq_some_iff.1 hu).1
    rw [Addr.add_mid,Nat.zero_add];exact (hrow.cellAt j (by omega)).trans hu)
   rw [show (fB (waits x)).length=(waits x).length by simp] at hcl;have HCl:=hid hcl;have HStep:=hid (vp waits left x hlk);have cpc:w2.cell? ⟨w1.heap.size,1,none⟩=some (.map (some m)):=aa hbc2 1;have HPl2:=hid hPl2;have Hrc2:=hid hrc2;have HCp2:=hid hCp2;have Hbc2:=hid hbc2;have HB2:=hid hB2;have HRg:=hid hrg2;have HLt:Hid (cnt2<cnt):=hlt;have hmost:=HMost.out;clear hcl hPl2 hCp2 hbc2 hB2 hrg2 hrow hkey hlk hv hat hlt hs2 hg2 hit hKn ex hPl hCp hbc hrc hrc2;go_wp2;refine wp_region_noPanic ?_;refine wp_region_held_drew (S:=fun W=>W.cell? ⟨w1.heap.size,1,none⟩=some (.map (some m))) (by kernel_rfl) cpc (fun hHeld => ?_);refine tq 0 _ ?_
   try simp only [tS]
   refine tq 1 _ ?_
   try simp only [tS]
   refine tq 2 _ ?_
   try simp only [tS]
   refine tq 3 _ ?_
   try simp only [tS]
   refine tr 4 (fun K hK => ?_);go_simp;refine HCl.out.mono ?_;clear HCl;rintro e w5 ⟨g5,cap5,rfl,hown5,hB5⟩;have hB5':=kq hB5;have hsz2:=hB5'.size;have hg5:w2.heap.size<=g5:=(hown5.lt g5 rfl).1;have hpcl:=ae Hbc2.out;have cpc5:=(hB5'.cell (p:=⟨w1.heap.size,1,none⟩) hpcl).trans cpc;have hmo5:w5.ownsMap Tryz.prog 3 aE m B1 L'.D:=by
    have:=(ac.of_below (F:=fun _=>False) hB5').map HCp2.out.mapOwn (fun e=>e)
    rwa [hE.out.2.2] at this
   have HMo:=hid hmo5;have HB5:=hid hB5';have HO5:=hid hown5;clear hB5 hB5' hown5 hmo5
   go_wp2_with fail
   refine hK.out _ _ cpc5 (fun hHeld => ?_);clear hK K
   try simp only [tS]
   refine tr 5 (fun K hK => ?_);refine bh (.tmp 22) (.tmp 23) (.tmp 25) 185 rfl 3 117 (int_keyed Tryz.underlying3) Tryz.underlying185 m B1 L'.D rfl HMo.out (by unfold maxLen;omega) (.int .i64 x) (.slice (some ⟨g5,0,none⟩) (waits x).length cap5) (.int .i64 x) rfl rfl (ip (by omega) (by omega)) ?_;intro w6 hown6 hgr6;have hK6:ac (fun i=>i=m) w2 w6:=(ac.of_below HB5.out).grown hgr6 (fun i e => .inl (Option.some.inj e).symm);obtain ⟨mes,mcl,hmb⟩:=bt HMo.out;have hmw:w.heap.size<=m:=by omega
   have HCp6:=hid (HCp2.out.put (n:=x) hne HB5.out hg5 (by omega) HO5.out (by rw [hE.out.2.2];exact hown6) (by rw [hE.out.2.2];exact hgr6));rw [<- HStep.out] at HCp6;have HPl6:=hid (HPl2.out.keep hK6 (fun i hi e=>by
    have:=HFl.out i hi;have e2:i=m:=e;omega))
   have HLm:Hid (L.m<w.heap.size):=HFl.out _ (.inr (.inl rfl));have HRg5:=hid (HRg.out.kept (qx HB5.out) (by simp) (by simp));obtain ⟨ia,ib,ic,id',hit⟩:=lD HRg5.out;have HRg6:=hid (HRg5.out.kept hgr6 (fun e=>by have:=HLm.out;have:=Option.some.inj e;omega) (fun e=>by
    have e2:=Option.some.inj e;rw [e2,hmb] at hit;cases hit))
   have hbc6:=hK6.heap Hbc2.out (fun e=>by
    have e2:w1.heap.size=m:=e;have h5:=ah HB5.out Hbc2.out hpcl;rw [e2,hmb] at h5;cases h5)
   have hrc6:=hK6.heap Hrc2.out (fun e=>by
    have e2:w.heap.size=m:=e;have h5:=ah HB5.out Hrc2.out (ae Hrc2.out);rw [e2,hmb] at h5;cases h5)
   have HB6:=hid (HB2.out.trans (hK6.below HB2.out.size (fun i e=>by rw [show i=m from e];exact hmw)));have Hbc6:=hid hbc6;have Hrc6:=hid hrc6;have cpc6:w6.cell? ⟨w1.heap.size,1,none⟩=some (.map (some m)):=aa hbc6 1;clear hown6 hgr6 hK6 hmb hit hbc6 hrc6 HMo HB5 HO5 HPl2 HCp2 Hbc2 Hrc2 HRg HRg5 HB2;refine hK.out _ _ cpc6 (fun hHeld => ?_);clear hK K
   try simp only [List.getElem_toArray,List.getElem_cons_succ,List.getElem_cons_zero,Act.put]
   refine wpAnyH_done (by kernel_rfl) ?_ _;refine NoPanic.normal ?_;clear hHeld cpc6 cpc5 cpc;go_wp2;refine ⟨⟨_,cnt2,{ L' with D:=L'.D.put (.int .i64 x) (.held (.slice (some ⟨g5,0,none⟩) (waits x).length cap5)),row:=fun k=>if k=x then g5 else L'.row k,rcap:=fun k=>if k=x then cap5 else L'.rcap k },B1+1,by have:=HLt.out;omega,hE,HRg6,HPl6,HCp6,Hbc6,Hrc6,HB6⟩,?_⟩;have h1:w6.rangeLeft L.m ri=cnt2:=HRg6.out.left_eq;rw [h1,hrg.out.left_eq];exact HLt.out
end
section
open Go.RowKit Go.Maps
theorem qc (d:DL) (S:aq) (w:World) (h:aX w d S) (hB:S.ops.length<=4096) :
  Calls Tryz.prog 51 #[.pointer (some ⟨d.p,0,none⟩)] w fun e w'=>Below w.heap.size w w'/\∃d',e = .returned (.pointer (some ⟨d'.p,0,none⟩))/\g8 w' d' S/\(∀i,d'.cutFoot S.waits i->w.heap.size<=i)/\d'.fv=d.fv:=by
 obtain ⟨ad,fc,hfv,hfc,hfn⟩:=h.first;obtain ⟨oa,oc,hov,hoa,hocc⟩:∃oa oc,d.ov = .slice oa S.ops.length oc/\((oa=none/\oc=0/\S.ops.length=0)\/∃g,oa=some ⟨g,0,none⟩/\S.ops.length<=oc/\g<w.heap.size)/\∀b,oa=some b->∀j u,(S.ops.map cO)[j]? = some u->w.cell? (b.add j)=some u:=by
  rcases h.ops.2 with ⟨e1,e2⟩ | ⟨g,cap,cur,e1,e2,e3,e4,e5⟩
  ·exact ⟨none,0,by rw [e1,e2],.inl ⟨rfl,rfl,e2⟩,fun b e=>by cases e⟩
  ·have ho:=h.ops;rw [e1] at ho;refine ⟨some ⟨g,0,none⟩,cap,e1,.inr ⟨g,rfl,e4,ae e3⟩,fun b e j u hu => ?_⟩;obtain rfl:=Option.some.inj e;have hj:j<S.ops.length:=by simpa using (List.getElem?_eq_some_iff.1 hu).1
   rw [Addr.add_mid,Nat.zero_add,ho.cellAt j (by omega)];exact hu
 have c0:w.cell? ⟨d.p,0,none⟩=some (.slice (some ad) S.first.length fc):=by rw [aa h.heap, <- hfv];rfl
 have c1:w.cell? ⟨d.p,1,none⟩=some (.slice oa S.ops.length oc):=by rw [aa h.heap, <- hov];rfl
 have HNt:Hid (∀W:World,Below w.heap.size w W->Calls Tryz.prog 104 #[.pointer (some ⟨d.p,0,none⟩),.int .i64 S.ops.length] W fun e w'=>e = .returned (.slice oa S.ops.length S.ops.length)/\w'=W):=fun W hW=>by
  have cw:=(hW.cell (p:=⟨d.p,1,none⟩) (World.block_lt_of_cell? w _ c1)).trans c1;rcases hoa with ⟨rfl,rfl,e⟩ | ⟨g,rfl,e,-⟩
  ·rw [e] at cw ⊢;exact sQ d.p W cw
  ·exact tB d.p ⟨g,0,none⟩ S.ops.length oc S.ops.length W cw (Nat.le_refl _) e
 have HCp:=hid (fun W (hW:Below w.heap.size w W)=>tv d.p d.fv d.ov d.L S.safe S.waits S.ops.length W (h.below hW).heap (h.below hW).plates hB);have H:=hid h;have hFl:=h.flen;have HFl:=hid hFl;have HFC:=hid (And.intro hfc hfn);have HOc:=hid hocc;have HOa:=hid hoa;clear h hFl hfc hfn hocc hoa;go_enter Tryz.func51,Tryz.ntmps51;go_wp2;refine wp_region_noPanic ?_;refine wp_region_held_drew (S:=fun W=>W.cell? ⟨d.p,0,none⟩=some (.slice (some ad) S.first.length fc)/\W.cell? ⟨d.p,1,none⟩=some (.slice oa S.ops.length oc)) (by kernel_rfl) ⟨c0,c1⟩ (fun hHeld => ?_);refine tq 0 _ ?_
 try simp only [tS]
 refine tq 1 _ ?_
 try simp only [tS]
 refine tq 2 _ ?_
 try simp only [tS]
 refine tq 3 _ ?_
 try simp only [tS]
 refine tq 4 _ ?_
 try simp only [tS]
 refine tq 5 _ ?_
 try simp only [tS]
 refine tq 6 _ ?_
 try simp only [tS]
 refine tq 7 _ ?_
 try simp only [tS]
 refine tq 8 _ ?_
 try simp only [tS]
 refine tq 9 _ ?_
 try simp only [tS]
 refine tq 11 _ ?_
 try simp only [tS]
 refine tq 12 _ ?_
 try simp only [tS]
 refine tq 13 _ ?_
 try simp only [tS]
 refine tr 10 (fun K hK => ?_);go_simp;refine (HNt.out w.drew (Below.refl _ _).drew).mono ?_;clear HNt;rintro e w9 ⟨rfl,h9⟩;subst h9
 go_wp2_with fail
 refine hK.out _ _ ⟨c0,c1⟩ (fun hHeld => ?_);clear hK K
 try simp only [tS]
 refine tr 14 (fun K hK => ?_);go_simp;refine (HCp.out w.drew (Below.refl _ _).drew).mono ?_;clear HCp;rintro e w1 ⟨L',rfl,hP1,hft1,hB1⟩;have hB1':=kq hB1;have hdp:=World.block_lt_of_cell? w _ c0;have d0:=(hB1'.cell (p:=⟨d.p,0,none⟩) hdp).trans c0;have d1:=(hB1'.cell (p:=⟨d.p,1,none⟩) hdp).trans c1;have HP1:=hid hP1;have HF1:=hid hft1;have HB1:=hid hB1';clear hP1 hft1 hB1 hB1'
 go_wp2_with fail
 refine hK.out _ _ ⟨d0,d1⟩ (fun hHeld => ?_);clear hK K
 try simp only [tS]
 refine tq 15 _ ?_
 try simp only [tS]
 refine tr 16 (fun K hK => ?_);unfold Oper.wp;go_simp;have hdp1:d.p<w1.heap.size:=Nat.lt_of_lt_of_le hdp HB1.out.size;refine hK.out _ _ ⟨by rw [World.cell?_alloc_lt _ _ _ hdp1];exact d0,by rw [World.cell?_alloc_lt _ _ _ hdp1];exact d1⟩ (fun hHeld => ?_);clear hK K
 try simp only [tS]
 refine tq 17 _ ?_
 try simp only [tS]
 refine wpAnyH_done (by kernel_rfl) ?_ _;refine NoPanic.normal ?_;clear hHeld d0 d1 c0 c1;have HBn:Hid (Below w.heap.size w (w1.alloc (.cells #[.slice (some ad) S.first.length fc,.slice oa S.ops.length S.ops.length,.slice (some ⟨L'.g,0,none⟩) S.safe.length L'.cap,.map (some L'.m)] 191))):=HB1.out.alloc HB1.out.size _;have HNb:=hid (af w1 (.cells #[.slice (some ad) S.first.length fc,.slice oa S.ops.length S.ops.length,.slice (some ⟨L'.g,0,none⟩) S.safe.length L'.cap,.map (some L'.m)] 191));have HPn:=hid (HP1.out.keep (G:=fun _=>False) (ac.of_below ((Below.refl w1.heap.size w1).alloc (Nat.le_refl _) (.cells #[.slice (some ad) S.first.length fc,.slice oa S.ops.length S.ops.length,.slice (some ⟨L'.g,0,none⟩) S.safe.length L'.cap,.map (some L'.m)] 191))) (fun _ _ e=>e));have hs1:=HB1.out.size;go_wp2;go_ret;generalize hWn:w1.alloc (.cells #[.slice (some ad) S.first.length fc,.slice oa S.ops.length S.ops.length,.slice (some ⟨L'.g,0,none⟩) S.safe.length L'.cap,.map (some L'.m)] 191)=wn at *;have hpl:=HPn.out;have hadl:ad.block<w.heap.size:=by
  have hpos:=H.out.plates.pos;have h00:=HFC.out.1 0 (S.first[0]'(by rw [HFl.out];exact hpos)) (by simp);have:=World.block_lt_of_cell? w _ h00
  rwa [aJ] at this
 refine ⟨HBn.out,⟨w1.heap.size,.slice (some ad) S.first.length fc,.slice oa S.ops.length S.ops.length,L'⟩,rfl,⟨⟨HNb.out,hpl,⟨oa,S.ops.length,rfl⟩⟩,⟨oa,rfl,fun e => ?_,fun b e=>⟨fun j u hu => ?_,?_⟩⟩,⟨ad,fc,rfl,fun j s hj => ?_,fun e => ?_⟩,HFl.out⟩,fun i hi => ?_,by first | exact hfv.symm | rfl⟩
 ·rcases HOa.out with ⟨-,-,e2⟩ | ⟨g,e2,-⟩
  ·exact List.eq_nil_of_length_eq_zero e2
  ·rw [e] at e2;cases e2
 ·have hc:=HOc.out b e j u hu;exact (HBn.out.cell (World.block_lt_of_cell? w _ hc)).trans hc
 ·rcases HOa.out with ⟨e2,-,-⟩ | ⟨g,e2,-,hg⟩
  ·rw [e] at e2;cases e2
  ·rw [e] at e2;rw [Option.some.inj e2];exact Nat.lt_of_lt_of_le hg HBn.out.size
 ·have hc:=HFC.out.1 j s hj;exact (HBn.out.cell (World.block_lt_of_cell? w _ hc)).trans hc
 ·rcases e with e | e
  ·have e2:ad.block=w1.heap.size:=e;omega
  ·have:=HF1.out _ e;have h3:w.drew.heap.size=w.heap.size:=rfl;omega
 ·rcases hi with e | e
  ·have e2:i=w1.heap.size:=e;omega
  ·exact HF1.out i e
theorem vV (d:DL) (S:aq) (w:World) (h:aX w d S) (hB:S.ops.length<=4096) :
  Calls Tryz.prog 51 #[.pointer (some ⟨d.p,0,none⟩)] w fun e w'=>Below w.heap.size w w'/\∃d',e = .returned (.pointer (some ⟨d'.p,0,none⟩))/\g8 w' d' S/\∀i,d'.cutFoot S.waits i->w.heap.size<=i:=by
 refine (qc d S w h hB).mono ?_;rintro e w' ⟨h1,d',h2,h3,h4,_⟩;exact ⟨h1,d',h2,h3,h4⟩
end
section
open Go.RowKit
def bq (w:World) (d:DL) (S:aq) (F:Nat->Prop):Prop:=(g8 w d S/\∀i,d.cutFoot S.waits i->F i)\/(aX w d S/\∀i,d.foot S.waits i->F i)
theorem bq.rd {w:World} {d:DL} {S:aq} {F:Nat->Prop} (h:bq w d S F):di w d S:=by
 rcases h with h | h
 ·exact h.1.rd
 ·exact h.1.rd
theorem bq.below {w w':World} {d:DL} {S:aq} {F:Nat->Prop} (h:bq w d S F) (k:Below w.heap.size w w'):bq w' d S F:=by
 rcases h with h | h
 ·exact .inl ⟨h.1.below k,h.2⟩
 ·exact .inr ⟨h.1.below k,h.2⟩
theorem bq.mono {w:World} {d:DL} {S:aq} {F G:Nat->Prop} (h:bq w d S F) (hG:∀i,F i->G i):bq w d S G:=by
 rcases h with h | h
 ·exact .inl ⟨h.1,fun i hi=>hG i (h.2 i hi)⟩
 ·exact .inr ⟨h.1,fun i hi=>hG i (h.2 i hi)⟩
theorem bq.next {w w1 w2:World} {d:DL} {S:aq} {F:Nat->Prop} (h:bq w2 d S (fun i=>(F i\/(w.heap.size<=i/\i<w1.heap.size))\/(w1.heap.size<=i/\i<w2.heap.size))) (h1:w.heap.size<=w1.heap.size) (h2:w1.heap.size<=w2.heap.size):bq w2 d S (fun i=>F i\/(w.heap.size<=i/\i<w2.heap.size)) :=
 h.mono (fun i hi=>by
  rcases hi with (h | h) | h
  ·exact .inl h
  ·exact .inr ⟨h.1,by omega⟩
  ·exact .inr ⟨by omega,h.2⟩)
theorem bq.later {w w1 w2:World} {d:DL} {S:aq} {F:Nat->Prop} (h:bq w2 d S (fun i=>F i\/(w.heap.size<=i/\i<w1.heap.size))) (h2:w1.heap.size<=w2.heap.size):bq w2 d S (fun i=>F i\/(w.heap.size<=i/\i<w2.heap.size)) :=
 h.mono (fun i hi=>hi.imp id (fun h=>⟨h.1,by omega⟩))
def ie (w:World) (d:DL) (S:aq) (F:Nat->Prop):Prop:=aX w d S/\∀i,d.foot S.waits i->F i
theorem ie.mono {w:World} {d:DL} {S:aq} {F G:Nat->Prop} (h:ie w d S F) (hG:∀i,F i->G i):ie w d S G:=⟨h.1,fun i hi=>hG i (h.2 i hi)⟩
theorem ie.next {w w1 w2:World} {d:DL} {S:aq} {F:Nat->Prop} (h:ie w2 d S (fun i=>(F i\/(w.heap.size<=i/\i<w1.heap.size))\/(w1.heap.size<=i/\i<w2.heap.size))) (h1:w.heap.size<=w1.heap.size) (h2:w1.heap.size<=w2.heap.size):ie w2 d S (fun i=>F i\/(w.heap.size<=i/\i<w2.heap.size)) :=
 h.mono (fun i hi=>by
  rcases hi with (h | h) | h
  ·exact .inl h
  ·exact .inr ⟨h.1,by omega⟩
  ·exact .inr ⟨by omega,h.2⟩)
theorem kB (d:DL) (S:aq) (F:Nat->Prop) (w:World) (h:bq w d S F) (hB:S.ops.length<=1000000) :
  Calls Tryz.prog 115 #[.pointer (some ⟨d.p,0,none⟩)] w fun e w'=>e = .returned (.int .i64 0)/\∃d',(d'.p=d.p/\d'.fv=d.fv/\ie w' d' S.flushed (fun i=>F i\/(w.heap.size<=i/\i<w'.heap.size)))/\bq w' d' S.flushed (fun i=>F i\/(w.heap.size<=i/\i<w'.heap.size))/\ac F w w':=by
 rcases h with ⟨h,hf⟩ | ⟨h,hf⟩
 ·refine (u4 d S w h hB).mono ?_;rintro e w' ⟨rfl,d',hD,e1,e2,e3,e4⟩;exact ⟨rfl,d',⟨e1,e2,hD,fun i hi=>(e3 i hi).imp (hf i) (fun h=>⟨h,hD.foot_lt hi⟩)⟩,.inr ⟨hD,fun i hi=>(e3 i hi).imp (hf i) (fun h=>⟨h,hD.foot_lt hi⟩)⟩,e4.mono hf⟩
 ·refine (sO d S w h (by unfold fm;omega)).mono ?_;rintro e w' ⟨rfl,d',hD,e1,e2,e3,e4⟩;exact ⟨rfl,d',⟨e1,e2,hD,fun i hi=>(e3 i hi).imp (hf i) (fun h=>⟨h,hD.foot_lt hi⟩)⟩,.inr ⟨hD,fun i hi=>(e3 i hi).imp (hf i) (fun h=>⟨h,hD.foot_lt hi⟩)⟩,e4.mono hf⟩
theorem j9 (d:DL) (S:aq) (F:Nat->Prop) (n:Int) (l:List UInt8) (ad:Addr) (c:Nat) (w:World) (h:bq w d S F) (hB:S.ops.length<=1000000) (h0:0<=n) (h1:n<S.safe.length) (hl:l.length=512) (hb:az w ad l) :
  Calls Tryz.prog 113 #[.pointer (some ⟨d.p,0,none⟩),.int .i64 n,.slice (some ad) 512 c] w fun e w'=>e = .returned (.int .i64 0)/\∃d',(d'.p=d.p/\d'.fv=d.fv/\ie w' d' (S.wrote n ⟨l.toArray⟩) (fun i=>F i\/(w.heap.size<=i/\i<w'.heap.size)))/\bq w' d' (S.wrote n ⟨l.toArray⟩) (fun i=>F i\/(w.heap.size<=i/\i<w'.heap.size))/\ac F w w':=by
 rcases h with ⟨h,hf⟩ | ⟨h,hf⟩
 ·refine (pH d S n l ad c w h hB h0 h1 hl hb).mono ?_;rintro e w' ⟨rfl,d',hD,e1,e2,e3,e4⟩;exact ⟨rfl,d',⟨e1,e2,hD,fun i hi=>(e3 i hi).imp (hf i) (fun h=>⟨h,hD.foot_lt hi⟩)⟩,.inr ⟨hD,fun i hi=>(e3 i hi).imp (hf i) (fun h=>⟨h,hD.foot_lt hi⟩)⟩,e4.mono hf⟩
 ·refine (yn d S n l ad c w h (by unfold fm;omega) h0 h1 hl hb).mono ?_;rintro e w' ⟨rfl,d',hD,e1,e2,e3,e4⟩;exact ⟨rfl,d',⟨e1,e2,hD,fun i hi=>(e3 i hi).imp (hf i) (fun h=>⟨h,hD.foot_lt hi⟩)⟩,.inr ⟨hD,fun i hi=>(e3 i hi).imp (hf i) (fun h=>⟨h,hD.foot_lt hi⟩)⟩,e4.mono hf⟩
def eA (p size:Nat):Value := .agg #[.pointer (some ⟨p,0,none⟩),.int .i64 size]
def pagesS (S:aq) (size:Nat):Nat:=S.safe.length-1-size
theorem oD (d:DL) (S:aq) (size:Nat) (w:World) (h:di w d S) (hs:size+1<=S.safe.length) :
  Calls Tryz.prog 117 #[eA d.p size] w fun e w'=>e = .returned (.int .i64 (pagesS S size:Nat))/\Below w.heap.size w w':=by
 have hm:=h.plates.most;have HSe:=hid (fun W hW=>gZ d S W (h.below (w':=W) hW));have HP:Hid (((pagesS S size:Nat):Int)=(S.safe.length:Int)-1-(size:Int)):=by unfold Hid pagesS;omega
 clear h;unfold eA;go_enter Tryz.func117,Tryz.ntmps117
 go_wp2_with fail
 have hb:=af w (.cells #[.pointer (some ⟨d.p,0,none⟩),.int .i64 size] 121);have HBl:=hid ((Below.refl w.heap.size w).alloc (Nat.le_refl _) (.cells #[.pointer (some ⟨d.p,0,none⟩),.int .i64 size] 121));have c0:(w.alloc (.cells #[.pointer (some ⟨d.p,0,none⟩),.int .i64 size] 121)).cell? ⟨w.heap.size,0,none⟩=some (.pointer (some ⟨d.p,0,none⟩)):=aa hb 0;have c1:(w.alloc (.cells #[.pointer (some ⟨d.p,0,none⟩),.int .i64 size] 121)).cell? ⟨w.heap.size,1,none⟩=some (.int .i64 size):=aa hb 1;clear hb;generalize w.alloc (.cells #[.pointer (some ⟨d.p,0,none⟩),.int .i64 size] 121)=w1 at *;refine wp_region_noPanic ?_;refine wp_region_held_drew (S:=fun W=>W.cell? ⟨w.heap.size,0,none⟩=some (.pointer (some ⟨d.p,0,none⟩))/\W.cell? ⟨w.heap.size,1,none⟩=some (.int .i64 size)) (by kernel_rfl) ⟨c0,c1⟩ (fun hHeld => ?_);refine tq 0 _ ?_
 try simp only [tS]
 refine tq 1 _ ?_
 try simp only [tS]
 refine tq 4 _ ?_
 try simp only [tS]
 refine tq 5 _ ?_
 try simp only [tS]
 refine tr 2 (fun K hK => ?_);go_simp;refine (HSe.out _ HBl.out.drew).mono ?_;rintro e w2 ⟨rfl,h2⟩;obtain rfl:=h2.symm
 go_wp2_with fail
 refine hK.out _ _ ⟨c0,c1⟩ (fun hHeld => ?_);clear hK K
 try simp only [tS]
 refine tq 3 _ ?_
 try simp only [tS]
 refine tq 6 _ ?_
 try simp only [tS]
 refine tq 7 _ ?_
 try simp only [tS]
 refine wpAnyH_done (by kernel_rfl) ?_ _;refine NoPanic.normal ?_;go_wp2;go_ret;refine ⟨?_,HBl.out.drew⟩;show Ending.returned (Value.int .i64 (IntKind.i64.wrap (IntKind.i64.wrap ((S.safe.length:Int)-1)-(size:Int))))=_;rw [IntWalk.i64_in ((S.safe.length:Int)-1) (by omega),IntWalk.i64_in _ (by omega),HP.out]
theorem uk (d:DL) (S:aq) (size:Nat) (n:Int) (w:World) (h:di w d S) (hs:size+1<=S.safe.length) :
  Calls Tryz.prog 110 #[eA d.p size,.int .i64 n] w fun e w'=>e = .returned (.bool (decide (0<=n/\n<(pagesS S size:Nat))))/\Below w.heap.size w w':=by
 have HPg:=hid (fun W hW=>oD d S size W (h.below (w':=W) hW) hs);unfold eA at HPg ⊢;have hm:=h.plates.most;have hpm:pagesS S size<=4096:=by unfold pagesS;omega
 clear h;by_cases hn:n<0
 ·have hd:decide (0<=n)=false:=decide_eq_false (by omega);go_enter Tryz.func110,Tryz.ntmps110;go_wp2;go_ret;refine ⟨?_,((Below.refl w.heap.size w).alloc (Nat.le_refl _) (.cells #[.pointer (some ⟨d.p,0,none⟩),.int .i64 size] 121))⟩;show Ending.returned (Value.bool false)=_;simp [hd]
 ·have hd:decide (0<=n)=true:=decide_eq_true (by omega);go_enter Tryz.func110,Tryz.ntmps110
  go_wp2_with fail
  refine (HPg.out _ ((Below.refl w.heap.size w).alloc (Nat.le_refl _) (.cells #[.pointer (some ⟨d.p,0,none⟩),.int .i64 size] 121))).mono ?_;rintro e w2 ⟨rfl,hb2⟩;have HB2:=hid (((Below.refl w.heap.size w).alloc (Nat.le_refl _) (.cells #[.pointer (some ⟨d.p,0,none⟩),.int .i64 size] 121)).trans (hb2.mono (by simp)));clear hb2;go_wp2;go_ret;refine ⟨?_,HB2.out⟩;show Ending.returned (Value.bool (decide (n<(pagesS S size:Nat))))=_;simp [hd]
theorem qV (p size:Nat) (n:Int) (w:World) (hs:size<=4096) (h0:0<=n) (h1:n<=4096) :
  Calls Tryz.prog 114 #[eA p size,.int .i64 n] w fun e w'=>e = .returned (.int .i64 (1+(size:Int)+n))/\Below w.heap.size w w':=by
 unfold eA;go_enter Tryz.func114,Tryz.ntmps114;go_wp2;go_ret;exact ⟨rfl,(Below.refl _ _).alloc (Nat.le_refl _) _⟩
theorem eO (p size:Nat) (w:World) (hs:size<=4096) :
  Calls Tryz.prog 94 #[eA p size] w fun e w'=>e = .returned (.int .i64 ((min size 100:Nat):Int))/\Below w.heap.size w w':=by
 unfold eA;go_enter Tryz.func94,Tryz.ntmps94;go_wp2;go_ret;refine ⟨?_,(Below.refl _ _).alloc (Nat.le_refl _) _⟩;show Ending.returned (Value.int .i64 (min (size:Int) 100))=_;rw [show ((min size 100:Nat):Int)=min (size:Int) 100 by omega]
end
section
open Go.RowKit Go.Maps
end
section
open Go.ChangeShapes Go.WideShapes Go.ChangeAt Go.RowKit
theorem own:ownKnob Tryz.prog.godebug=none:=by kernel_rfl
theorem yN:laidOutB Tryz.prog=true:=by kernel_rfl
theorem jo {H:Type} {enc:TypeId×Value->H} {P:Program} (hl:laidOutB P=true) {W W':World} (hb:Below W.heap.size W W'):∀(ts:List TypeId) (vs:List Value) (ds:List (DataW H)) (ps:List MemPlace),
  (∀t∈ts,P.readableRec t=true/\t<P.types.size)->DataW.TrodAll enc P W 0 (fun _=>true) true ts vs ds ps->(∀x∈ps,x.block<W.heap.size)->DataW.TrodAll enc P W' 0 (fun b=>decide (b<W.heap.size)) true ts vs ds ps
 | [],vs,ds,ps,_,h,_=>by cases vs <;> cases ds <;> simp [DataW.TrodAll] at h ⊢;exact h
 | t :: ts,vs,ds,ps,hr,h,hlt=>by
  obtain ⟨v,vs',d,ds',p,q,rfl,rfl,rfl,h1,h2⟩:=trodAll_cons h;exact trodAll_cons_mk (Below.trod hl (hr t (by simp)).1 (hr t (by simp)).2 h1 hb (fun x hx=>hlt x (by simp [hx])))
   (jo hl hb ts vs' ds' q (fun t' ht'=>hr t' (by simp [ht'])) h2 (fun x hx=>hlt x (by simp [hx])))
theorem wR {H:Type} {enc:TypeId×Value->H} {f:Func} {s:ChangeSpec} {W W':World} {args:Array Value} {ds gs:List (DataW H)} {before:List MemPlace}
  (hW:DataW.Whole enc Tryz.prog f.params.toList s.vars false W args.toList ds gs before) (hv:s.vars=[]) (hres:f.resultTypes=#[4]) (hfn:(s.fn H (ds ++ gs))={ results:=[.lit (.bool true)],args:=ds })
  (hr:∀t∈f.params.toList,Tryz.prog.readableRec t=true/\t<Tryz.prog.types.size) (hb:Below W.heap.size W W'):s.post enc Tryz.prog f false true false false W args (.bool true) W':=by
 have hW':=hW;obtain ⟨p,q,hA,hV,rfl,_,_⟩:=hW;refine ⟨ds,gs,p ++ q,[],p,[],hW',?_,?_,?_,hb.frame _,fun h=>by cases h⟩
 ·rw [hfn,hres];exact trodAll_cons_mk (shut_bool Tryz.underlying4 true) trodAll_mk0
 ·rw [hfn];exact jo yN hb _ _ _ _ hr hA (fun x hx=>by simpa using hW'.lt x (by simp [hx]))
 ·rw [hfn,hv];exact rfl
end
section
open Go.ChangeShapes Go.WideShapes Go.ChangeAt Go.RowKit
theorem ef {w:World} {a:Addr} {x:Value} (h:w.cell? a=some x):a=⟨a.block,a.off,none⟩:=by
 obtain ⟨b,o,s⟩:=a;cases s with
 | none=>rfl
 | some q =>
  unfold World.cell? at h;cases hq:w.heap[b]? with
  | none=>simp [hq] at h
  | some ob=>cases ob <;> simp [hq] at h
theorem yS (a:Addr) (j:Nat):(a.add j).off=a.off+j:=by
 unfold Addr.add;split <;> simp_all
theorem us {α : Type} {P:Nat -> α -> Prop}:∀n:Nat,(∀i,i<n->∃x,P i x)->∃l:List α,l.length=n/\∀i (hi:i<l.length),P i l[i]
 | 0,_=>⟨[],rfl,fun i hi=>by simp at hi⟩
 | n+1,h=>by
  obtain ⟨l,hl,hp⟩:=us n (fun i hi=>h i (by omega));obtain ⟨x,hx⟩:=h n (by omega);refine ⟨l ++ [x],by simp [hl],fun i hi => ?_⟩;by_cases e:i<l.length
  ·rw [List.getElem_append_left e];exact hp i e
  ·have e2:i=n:=by simp at hi;omega
   subst e2;rw [List.getElem_append_right (by omega)];simpa [hl] using hx
end
section
open Go.ChangeShapes Go.WideShapes Go.ChangeAt Go.RowKit
end
end Go.Proofs.YtpiieilffkickaaGreatDoor
