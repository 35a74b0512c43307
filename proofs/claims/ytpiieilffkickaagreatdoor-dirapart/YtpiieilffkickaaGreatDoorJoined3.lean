/- Several of my texts in one: AlBits, AlMap, BinS, AlWrite, BaseG, AlFree, AlNext, AlFloat, AlCount, AlPage, AlLive, AlClear, AlInode, BaseH, InRef, InCopy, InPure, InPlain. -/
import Derived.Test.YtpiieilffkickaaGreatDoorJoined2
import Derived.Shelf.SlGeneric
import Derived.Shelf.SlicesG.SearchI
import Derived.Test.YtpiieilffkickaaGreatDoorProg
import Derived.RangeFuncNested
import Derived.RangeFuncBound
import Derived.RangeFuncCalls
import Derived.RangeFuncLeaves
import Derived.Shelf.Abstract
import Derived.Shelf.RegionOpen
import Derived.WalkKit
import Derived.OwnWalkIn
import Derived.TacticsInMore
import Derived.LoopNIn
import Derived.LoopIn
import Derived.Scope
import Derived.Laws.FloatArith
import Derived.Laws.Cover3
import Derived.Lib.SliceRun
set_option maxRecDepth 100000
set_option maxHeartbeats 1000000
namespace Go.Proofs.YtpiieilffkickaaGreatDoor
section
open Go.RowKit
def de (l:List UInt8) (n:Nat):Bool:=(l.getD (n / 8) 0).toNat.testBit (n%8)
def flipL (l:List UInt8) (n:Nat):List UInt8:=l.set (n / 8) (l.getD (n / 8) 0 ^^^ UInt8.ofNat (2^(n%8)))
theorem bO (l:List UInt8) (n:Nat):(flipL l n).length=l.length:=List.length_set
theorem Af (n:Nat):2^(n%8)<256:=by
 have:n%8<8:=Nat.mod_lt _ (by omega);exact Nat.pow_lt_pow_right (by omega) this
theorem fj (l:List UInt8) (n k:Nat) (hn:n / 8<l.length):de (flipL l n) k=if k=n then !de l n else de l k:=by
 unfold de flipL;by_cases e:k / 8=n / 8
 ·rw [e,List.getD_eq_getElem?_getD,List.getElem?_set_self hn];simp only [Option.getD_some,UInt8.toNat_xor,Nat.testBit_xor,UInt8.toNat_ofNat',Nat.mod_eq_of_lt (Af n),Nat.testBit_two_pow];by_cases e2:k=n
  ·subst e2;rw [if_pos rfl,decide_eq_true rfl,Bool.xor_true]
  ·have:¬(n%8=k%8):=by omega
   rw [if_neg e2,decide_eq_false this,Bool.xor_false]
 ·rw [if_neg (fun h=>e (by rw [h])),List.getD_eq_getElem?_getD,List.getElem?_set_ne (fun h=>e h.symm), <- List.getD_eq_getElem?_getD]
theorem zD (k:Nat) (hk:k<8):(UInt8.ofNat k).toNat%8=k:=by
 rw [UInt8.toNat_ofNat_of_lt' (by show k<256;omega)];omega
theorem yT (x:UInt8) (y:Int) (h0:0<=y) (h1:y<8):Op.shift .shr .u8 (x.toNat:Int) .i64 y=pure (.int .u8 ((x >>> UInt8.ofNat y.toNat).toNat:Int)):=by
 rw [shift_shr_any _ _ _ _ h0];have:min y.toNat IntKind.u8.bits=y.toNat:=by simp [IntKind.bits];omega
 rw [this,UInt8.toNat_shiftRight,zD _ (by omega),Nat.shiftRight_eq_div_pow,Int.natCast_ediv,Int.natCast_pow];rfl
theorem yI (y:Int) (h0:0<=y) (h1:y<8):Op.shift .shl .u8 1 .i64 y=pure (.int .u8 ((UInt8.ofNat (2^y.toNat)).toNat:Int)):=by
 rw [shift_shl_any _ _ _ _ h0];have:min y.toNat IntKind.u8.bits=y.toNat:=by simp [IntKind.bits];omega
 have hp:2^y.toNat<256:=Nat.pow_lt_pow_right (n:=8) (by omega) (by omega);rw [this,IntKind.wrap_u8',UInt8.toNat_ofNat_of_lt' (by show _<256;exact hp),Int.one_mul];have e:((2:Int)^y.toNat)=((2^y.toNat:Nat):Int):=by rw [Int.natCast_pow];rfl
 rw [e,Int.emod_eq_of_lt (Int.natCast_nonneg _) (show ((2^y.toNat:Nat):Int)<256 from Int.ofNat_lt.2 hp)]
theorem tF (a b:UInt8):bits .and .u8 (a.toNat:Int) (b.toNat:Int)=((a &&& b).toNat:Int):=by
 show IntKind.u8.wrap ((BitVec.ofInt 8 (a.toNat:Int) &&& BitVec.ofInt 8 (b.toNat:Int)).toNat:Int)=_;have ha:=a.toNat_lt;have hb:=b.toNat_lt;rw [BitVec.toNat_and,BitVec.ofInt_natCast,BitVec.ofInt_natCast,BitVec.toNat_ofNat,BitVec.toNat_ofNat,Nat.mod_eq_of_lt (by omega),Nat.mod_eq_of_lt (by omega), <- UInt8.toNat_and,IntKind.wrap_u8'];have:=(a &&& b).toNat_lt;omega
theorem mY (a b:UInt8):bits .xor .u8 (a.toNat:Int) (b.toNat:Int)=((a ^^^ b).toNat:Int):=by
 show IntKind.u8.wrap ((BitVec.ofInt 8 (a.toNat:Int) ^^^ BitVec.ofInt 8 (b.toNat:Int)).toNat:Int)=_;have ha:=a.toNat_lt;have hb:=b.toNat_lt;rw [BitVec.toNat_xor,BitVec.ofInt_natCast,BitVec.ofInt_natCast,BitVec.toNat_ofNat,BitVec.toNat_ofNat,Nat.mod_eq_of_lt (by omega),Nat.mod_eq_of_lt (by omega), <- UInt8.toNat_xor,IntKind.wrap_u8'];have:=(a ^^^ b).toNat_lt;omega
theorem yB (a:UInt8):Op.intBits .and .u8 (a.toNat:Int) 1=pure (.int .u8 ((a &&& 1).toNat:Int)):=by rw [<- tF];rfl
theorem yV (a b:UInt8):Op.intBits .xor .u8 (a.toNat:Int) (b.toNat:Int)=pure (.int .u8 ((a ^^^ b).toNat:Int)):=by rw [<- mY];rfl
theorem zl:∀x:Fin 256,∀s:Fin 8,(bits BinOp.and IntKind.u8 (((x.val:Nat):Int) >>> (s.val%8)) 1==1)=x.val.testBit s.val:=by decide +kernel
attribute [local go_sem ↓] yT yI yB yV
theorem kZ (g n cap:Nat) (l:List UInt8) (w:World) (h:az w ⟨g,0,none⟩ l) (hl:l.length=512) (hn:n<4096) :
  Calls Tryz.prog 221 #[.slice (some ⟨g,0,none⟩) 512 cap,.int .i64 n] w fun e w'=>e = .returned (.bool (de l n))/\w'=w:=by
 have h8:n / 8<l.length:=by omega
 have c0:w.cell? ⟨g,n / 8,none⟩=some (.int .u8 (l[n / 8].toNat:Int)):=by
  have:=h (n / 8) h8
  rwa [Addr.add_mid,Nat.zero_add] at this
 have hb:de l n=l[n / 8].toNat.testBit (n%8):=by unfold de;rw [List.getD_eq_getElem?_getD,List.getElem?_eq_getElem h8];rfl
 have hv:=zl ⟨l[n / 8].toNat,l[n / 8].toNat_lt⟩ ⟨n%8,by omega⟩;dsimp only at hv;rw [hb];clear hb h;generalize l[n / 8]=x at *;obtain ⟨s,hs⟩:∃s,s=n%8:=⟨_,rfl⟩;obtain ⟨q,hq⟩:∃q,q=n / 8:=⟨_,rfl⟩;rw [<- hs] at hv ⊢;rw [<- hq] at c0 h8;have e1:(n:Int) / 8=(q:Int):=by omega
 have e2:(n:Int)%8=(s:Int):=by omega
 have e1t:Int.tdiv (n:Int) 8=(q:Int):=by rw [Int.tdiv_eq_ediv_of_nonneg (by omega)];exact e1
 have e2t:Int.tmod (n:Int) 8=(s:Int):=by rw [Int.tmod_eq_emod_of_nonneg (by omega)];exact e2
 have hq0:(0:Int)<=(q:Int):=by omega
 have hq1:(q:Int)<512:=by omega
 have hs0:(0:Int)<=(s:Int):=by omega
 have hs1:(s:Int)<8:=by omega
 clear hs hq;go_enter Tryz.func221,Tryz.ntmps221;go_wp2;go_ret;refine ⟨?_,rfl⟩;rw [<- hv]
 rfl
theorem nt (g n cap:Nat) (l:List UInt8) (w:World) (h:bT w g l) (hl:l.length=512) (hn:n<4096) :
  Calls Tryz.prog 184 #[.slice (some ⟨g,0,none⟩) 512 cap,.int .i64 n] w fun e w'=>e = .returned (.tuple #[])/\bT w' g (flipL l n)/\ac (fun i=>i=g) w w':=by
 have h8:n / 8<l.length:=by omega
 have c0:=h.cell (n / 8) h8;have f0:=h.frozen (n / 8) h8;have hst:=h.set (n / 8) h8 (l[n / 8] ^^^ UInt8.ofNat (2^(n%8)));have hb:flipL l n=l.set (n / 8) (l[n / 8] ^^^ UInt8.ofNat (2^(n%8))):=by unfold flipL;rw [List.getD_eq_getElem?_getD,List.getElem?_eq_getElem h8];rfl
 rw [<- hb] at hst;generalize flipL l n=fl at *;clear hb h;generalize l[n / 8]=x at *;obtain ⟨s,hs⟩:∃s,s=n%8:=⟨_,rfl⟩;obtain ⟨q,hq⟩:∃q,q=n / 8:=⟨_,rfl⟩;rw [<- hs, <- hq] at hst;rw [<- hq] at c0 f0 h8;have HSt:=hid hst;have e1:(n:Int) / 8=(q:Int):=by omega
 have e2:(n:Int)%8=(s:Int):=by omega
 have hq0:(0:Int)<=(q:Int):=by omega
 have hq1:(q:Int)<512:=by omega
 have hs0:(0:Int)<=(s:Int):=by omega
 have hs1:(s:Int)<8:=by omega
 clear hs hq hst;go_enter Tryz.func184,Tryz.ntmps184;go_wp2
 go_region
 have hx:bits BinOp.xor IntKind.u8 (x.toNat:Int) (2^s%256)=((x ^^^ UInt8.ofNat (2^s)).toNat:Int):=by
  rw [<- mY,UInt8.toNat_ofNat',Int.natCast_emod,Int.natCast_pow];rfl
 rw [hx];refine ⟨rfl,_,results_none rfl _ _ _,rfl,HSt.out,?_⟩;exact ((ac.refl _ w).grown (ak (ar _ _) _ _) (fun i e => .inl (Option.some.inj e).symm)).drew
theorem fN (w:World):Calls Tryz.prog 126 #[] w fun e w'=>e = .returned (.slice (some ⟨w.heap.size,0,none⟩) 512 512)/\aV w' w.heap.size (zN 512)/\Below w.heap.size w w':=by
 go_enter Tryz.func126,Tryz.ntmps126
 go_wp2_with (refine bF rfl (.const (.int .i64 512)) (.const (.int .i64 512)) rfl 512 512 rfl rfl rfl (by omega) ?_;intro w1 hb1 hr1 hz1;have HB1:=hid hb1;have HR1:Hid (aV w1 w.heap.size (zN 512)):=(by unfold Hid aV;rw [hr1,eX]);clear hb1 hr1 hz1)
 go_ret;exact ⟨rfl,HR1.out,HB1.out⟩
theorem nI (n:Nat) (hn:n<=512) (w:World):Calls Tryz.prog 116 #[.int .i64 n] w fun e w'=>e = .returned (.int .i64 (3+n / 8:Nat))/\w'=w:=by
 obtain ⟨q,hq⟩:∃q,q=n / 8:=⟨_,rfl⟩;rw [<- hq];have e1:(n:Int) / 8=(q:Int):=by omega
 have h0:(0:Int)<=(q:Int):=by omega
 have h1:(q:Int)<=64:=by omega
 clear hq hn;go_enter Tryz.func116,Tryz.ntmps116;go_wp2;go_ret;refine ⟨?_,rfl⟩
 rfl
end
section
set_option maxRecDepth 100000
set_option maxHeartbeats 1000000
open Go.RowKit
def aT (w:World) (m c ino:Nat):Prop:=w.heap[m]? = some (.cells #[.pointer (some ⟨c,0,none⟩),.int .i64 ino] 100 (0,0))
theorem aT.keep {w w':World} {m c ino:Nat} {F:Nat->Prop} (h:aT w m c ino) (k:ac F w w') (hF:¬F m):aT w' m c ino:=k.heap h hF
theorem aT.below {w w':World} {m c ino:Nat} (h:aT w m c ino) (k:Below w.heap.size w w'):aT w' m c ino:=ah k h (ae h)
theorem aT.lt {w:World} {m c ino:Nat} (h:aT w m c ino):m<w.heap.size:=ae h
def qM:Nat:=4607182418800017408
def gd (b a z:Nat) (x y:Nat):Value := .agg #[.int .i64 b,.int .i64 a,.int .i64 z,.complex .f64 x y]
theorem mj:(Tryz.prog.info? 207).map (·.size)=some 4:=by kernel_rfl
section
variable {w:World} {m c ino:Nat}
theorem iJ (h:aT w m c ino) (hi:ino<=512):Calls Tryz.prog 59 #[.pointer (some ⟨m,0,none⟩)] w fun e w'=>e = .returned (.int .i64 (3+ino / 8:Nat))/\w'=w:=by
 have c1:w.cell? ⟨m,1,none⟩=some (.int .i64 ino):=aa h 1;have HA:=hid (nI ino hi w);obtain ⟨f,hf⟩:∃f,f=3+ino / 8:=⟨_,rfl⟩;rw [<- hf] at HA ⊢;clear h hi hf;go_enter Tryz.func59,Tryz.ntmps59
 go_wp2_with fail
 refine HA.out.mono ?_;rintro e w1 ⟨rfl,h1⟩;obtain rfl:=h1.symm;clear h1;go_wp2;go_ret;exact ⟨rfl,rfl⟩
theorem ki (h:aT w m c ino):Calls Tryz.prog 140 #[.pointer (some ⟨m,0,none⟩)] w fun e w'=>e = .returned (.int .i64 ino)/\w'=w:=by
 have c1:w.cell? ⟨m,1,none⟩=some (.int .i64 ino):=aa h 1;clear h;go_enter Tryz.func140,Tryz.ntmps140;go_wp2;go_ret;exact ⟨rfl,rfl⟩
theorem cN (h:aT w m c ino):Calls Tryz.prog 14 #[.pointer (some ⟨m,0,none⟩)] w fun e w'=>e = .returned (.pointer (some ⟨c,0,none⟩))/\w'=w:=by
 have c0:w.cell? ⟨m,0,none⟩=some (.pointer (some ⟨c,0,none⟩)):=aa h 0;clear h;go_enter Tryz.func14,Tryz.ntmps14;go_wp2;go_ret;exact ⟨rfl,rfl⟩
theorem fp (h:aT w m c ino):Calls Tryz.prog 123 #[.pointer (some ⟨m,0,none⟩)] w fun e w'=>e = .returned (gd 1 1 ino 0 qM)/\Below w.heap.size w w':=by
 have hb0:=(Below.refl w.heap.size w).alloc (Nat.le_refl _) (.cells #[.int .i64 0,.int .i64 0,.int .i64 0,.complex .f64 0 0] 207);have hb:=ah hb0 h h.lt;have HB0:=hid hb0;have c1:(w.alloc (.cells #[.int .i64 0,.int .i64 0,.int .i64 0,.complex .f64 0 0] 207)).cell? ⟨m,1,none⟩=some (.int .i64 ino):=aa hb 1;have Hbl:=hid (af w (.cells #[.int .i64 0,.int .i64 0,.int .i64 0,.complex .f64 0 0] 207));clear h hb hb0;go_enter Tryz.func123,Tryz.ntmps123
 go_wp2_with (refine am rfl 207 (.tmp 2) (.tmp 7) rfl w.heap.size #[.int .i64 1,.int .i64 1,.int .i64 ino,.complex .f64 0 4607182418800017408] rfl rfl _ 207 Hbl.out rfl mj (by simp [Value.oneCell']) ?_;intro w2 hg2 hb2 hz2)
 refine bodyPost_ret (eQ Tryz.results123 _ _ rfl hb2 _ Tryz.underlying207 rfl mj) rfl ⟨rfl,?_⟩;exact HB0.out.grown hg2 HB0.out.size (fun i e=>by cases e;exact Nat.le_refl _)
variable {F:Nat->Prop} {size N:Nat} {Pg Cm:Nat->List UInt8} {D:Int->Bool} {o u:Nat}
theorem lM (h:aT w m c ino) (hp:Pc w c F size N Pg Cm D o u):Calls Tryz.prog 122 #[.pointer (some ⟨m,0,none⟩)] w fun e w'=>e = .returned (.int .i64 N)/\Below w.heap.size w w':=by
 have c0:w.cell? ⟨m,0,none⟩=some (.pointer (some ⟨c,0,none⟩)):=aa h 0;obtain ⟨p,h1,h2⟩:=hp.logPages;have H1:=hid h1;have H2:=hid h2;clear h hp h1 h2;go_enter Tryz.func122,Tryz.ntmps122
 go_wp2_with fail
 refine H1.out.mono ?_;rintro e w1 ⟨rfl,h1⟩;obtain rfl:=h1.symm;clear h1
 go_wp2_with fail
 refine H2.out.mono ?_;rintro e w1 ⟨rfl,hb⟩;have HB:=hid hb;clear hb;go_wp2;go_ret;exact ⟨rfl,HB.out⟩
theorem fS (h:aT w m c ino) (hi:ino<=512) (hp:Pc w c F size N Pg Cm D o u):Calls Tryz.prog 125 #[.pointer (some ⟨m,0,none⟩)] w fun e w'=>e = .returned (gd 2 (3+ino / 8) N qM 0)/\Below w.heap.size w w':=by
 have hb0:=(Below.refl w.heap.size w).alloc (Nat.le_refl _) (.cells #[.int .i64 0,.int .i64 0,.int .i64 0,.complex .f64 0 0] 207);have HF:=hid (iJ (h.below hb0) hi);have HP:=hid (lM (h.below hb0) (hp.below hb0));have HB0:=hid hb0;have Hbl:=hid (af w (.cells #[.int .i64 0,.int .i64 0,.int .i64 0,.complex .f64 0 0] 207));obtain ⟨f,hf⟩:∃f,f=3+ino / 8:=⟨_,rfl⟩;rw [<- hf] at HF ⊢;clear h hp hb0 hi hf;go_enter Tryz.func125,Tryz.ntmps125
 go_wp2_with fail
 generalize w.alloc (.cells #[.int .i64 0,.int .i64 0,.int .i64 0,.complex .f64 0 0] 207)=wa at *;refine HF.out.mono ?_;rintro e w1 ⟨rfl,h1⟩;obtain rfl:=h1.symm;clear h1
 go_wp2_with fail
 refine HP.out.mono ?_;rintro e w1 ⟨rfl,hb⟩;have HB1:=hid (HB0.out.trans (hb.mono HB0.out.size));have Hb1:=hid (ah hb Hbl.out (ae Hbl.out));clear hb HF HP
 go_wp2_with (refine am rfl 207 (.tmp 2) (.tmp 7) rfl w.heap.size #[.int .i64 2,.int .i64 f,.int .i64 N,.complex .f64 4607182418800017408 0] rfl rfl _ 207 Hb1.out rfl mj (by simp [Value.oneCell']) ?_;intro w2 hg2 hb2 hz2)
 refine bodyPost_ret (eQ Tryz.results125 _ _ rfl hb2 _ Tryz.underlying207 rfl mj) rfl ⟨rfl,?_⟩;exact HB1.out.grown hg2 HB1.out.size (fun i e=>by cases e;exact Nat.le_refl _)
theorem lq {w0:World} (h:aT w m c ino) (hmF:¬F m) (b a z x y:Nat) (hb:b<N) (hu:u<1000000) (hp:Pc w0 c F size N Pg Cm D o u) (hw:Below w0.heap.size w0 w) :
  Calls Tryz.prog 185 #[.pointer (some ⟨m,0,none⟩),gd b a z x y] w fun e w'=>∃g cap,e = .returned (.slice (some ⟨g,0,none⟩) 512 cap)/\512<=cap/\w.heap.size<=g/\bT w' g (Pg b)/\ac F w w'/\∀W,ac (fun i=>w0.heap.size<=i) w' W->Pc W c F size N Pg Cm D o (u+1):=by
 have hb0:=(Below.refl w.heap.size w).alloc (Nat.le_refl _) (.cells #[.int .i64 b,.int .i64 a,.int .i64 z,.complex .f64 x y] 207);have hdr:=(Below.refl (w.alloc (.cells #[.int .i64 b,.int .i64 a,.int .i64 z,.complex .f64 x y] 207)).heap.size (w.alloc (.cells #[.int .i64 b,.int .i64 a,.int .i64 z,.complex .f64 x y] 207))).drew;have hm0:=h.below hb0;have hbl:=af w (.cells #[.int .i64 b,.int .i64 a,.int .i64 z,.complex .f64 x y] 207);have HFb:Hid (¬F w.heap.size):=fun hf=>by have:=hp.lt _ hf;have:=hw.size;omega
 have HR:=hid (hp.read (hw.trans ((hb0.trans (hdr.mono hb0.size)).mono hw.size)) b hb hu);have HS:Hid (∀W,ac F (w.alloc (.cells #[.int .i64 b,.int .i64 a,.int .i64 z,.complex .f64 x y] 207)) W->W.cell? ⟨m,0,none⟩=some (.pointer (some ⟨c,0,none⟩))/\W.cell? ⟨w.heap.size,0,none⟩=some (.int .i64 b)):=fun W hW=>⟨aa (hm0.keep hW hmF) 0,aa (hW.heap hbl HFb.out) 0⟩;have HB0:=hid (hb0.trans (hdr.mono hb0.size));have HSz:Hid (w.heap.size<=(w.alloc (.cells #[.int .i64 b,.int .i64 a,.int .i64 z,.complex .f64 x y] 207)).heap.size):=hb0.size;have hS0:=HS.out _ (ac.refl _ _);have HKd:Hid (ac F (w.alloc (.cells #[.int .i64 b,.int .i64 a,.int .i64 z,.complex .f64 x y] 207)) (w.alloc (.cells #[.int .i64 b,.int .i64 a,.int .i64 z,.complex .f64 x y] 207)).drew):=(ac.refl _ _).drew;clear h hp hm0 hb0 hdr hbl HFb hw;obtain ⟨n0,hn0⟩:∃n0,n0=w.heap.size:=⟨_,rfl⟩;rw [<- hn0] at HS hS0;unfold gd;go_enter Tryz.func185,Tryz.ntmps185
 go_wp2_with fail
 rw [<- hn0];clear hn0;generalize w.alloc (.cells #[.int .i64 b,.int .i64 a,.int .i64 z,.complex .f64 x y] 207)=wa at *;refine wp_region_noPanic ?_;refine wp_region_held_drew (S:=fun W=>W.cell? ⟨m,0,none⟩=some (.pointer (some ⟨c,0,none⟩))/\W.cell? ⟨n0,0,none⟩=some (.int .i64 b)) (by kernel_rfl) hS0 (fun hHeld => ?_);refine tq 0 _ ?_
 try simp only [tS]
 refine tq 1 _ ?_
 try simp only [tS]
 refine tq 2 _ ?_
 try simp only [tS]
 refine tq 3 _ ?_
 try simp only [tS]
 refine tq 4 _ ?_
 try simp only [tS]
 refine tq 5 _ ?_
 try simp only [tS]
 refine tr 6 (fun K hK => ?_);go_simp;refine HR.out.mono ?_;clear HR;rintro e w1 ⟨g,cap,rfl,hc,hg,hr,hKk,hW⟩;have Hr:=hid hr;have HK:=hid ((ac.of_below HB0.out).trans hKk (fun i e => .inl e));have HW:=hid hW;have hg':w.heap.size<=g:=Nat.le_trans HSz.out hg;have hz:=HS.out w1 (HKd.out.trans hKk (fun i e => .inl e));clear hr hKk hW hg
 go_wp2_with fail
 refine hK.out _ _ hz (fun hHeld => ?_);clear hK K
 try simp only [tS]
 refine tq 7 _ ?_
 try simp only [tS]
 refine tq 8 _ ?_
 try simp only [tS]
 refine tq 9 _ ?_
 try simp only [tS]
 refine tq 10 _ ?_
 try simp only [tS]
 refine tq 11 _ ?_
 try simp only [tS]
 refine wpAnyH_done (by kernel_rfl) ?_ _;refine NoPanic.normal ?_;clear hHeld hz;go_wp2;go_ret;exact ⟨g,cap,rfl,hc,hg',Hr.out,HK.out,HW.out⟩
end
theorem qo (b a z x y:Nat) (n:Int) (w:World):Calls Tryz.prog 232 #[gd b a z x y,.int .i64 n] w fun e w'=>e = .returned (.bool (decide ((a:Int)<=n/\n<(z:Int))))/\Below w.heap.size w w':=by
 have hb0:=(Below.refl w.heap.size w).alloc (Nat.le_refl _) (.cells #[.int .i64 b,.int .i64 a,.int .i64 z,.complex .f64 x y] 207);have HB0:=hid hb0;clear hb0;unfold gd;by_cases h1:(a:Int)<=n
 ·have h1':decide ((a:Int)<=n)=true:=decide_eq_true h1;by_cases h2:n<(z:Int)
  ·rw [decide_eq_true ⟨h1,h2⟩];go_enter Tryz.func232,Tryz.ntmps232;go_wp2;go_ret;exact ⟨rfl,HB0.out⟩
  ·rw [decide_eq_false (fun h=>h2 h.2)];go_enter Tryz.func232,Tryz.ntmps232;go_wp2;go_ret;exact ⟨rfl,HB0.out⟩
 ·rw [decide_eq_false (fun h=>h1 h.1)];go_enter Tryz.func232,Tryz.ntmps232;go_wp2;go_ret;exact ⟨rfl,HB0.out⟩
def jg (pages:Nat) (ino:Int):Prop:=8<=ino/\ino<=512/\ino%8=0/\3+ino / 8<pages/\pages<=4096
instance (pages:Nat) (ino:Int):Decidable (jg pages ino):=by unfold jg;exact inferInstance
theorem sW (pages:Nat) (ino:Int) (hp:pages<=4096) (w:World):Calls Tryz.prog 55 #[.int .i64 pages,.int .i64 ino] w fun e w'=>e = .returned (.bool (decide (jg pages ino)))/\w'=w:=by
 by_cases h1:ino<8
 ·rw [decide_eq_false (fun h=>by have:=h.1;omega)];clear hp;go_enter Tryz.func55,Tryz.ntmps55;go_wp2;go_ret;exact ⟨rfl,rfl⟩
 ·by_cases h2:512<ino
  ·rw [decide_eq_false (fun h=>by have:=h.2.1;omega)];clear hp;go_enter Tryz.func55,Tryz.ntmps55;go_wp2;go_ret;exact ⟨rfl,rfl⟩
  ·obtain ⟨n,rfl⟩:∃n:Nat,ino=(n:Int):=⟨ino.toNat,by omega⟩;by_cases h3:(n:Int)%8=0
   ·have hA:=nI n (by omega) w;obtain ⟨f,hf⟩:∃f,f=3+n / 8:=⟨_,rfl⟩;rw [<- hf] at hA;have HA:=hid hA;have h4:(pages:Int)<=4096:=by omega
    have hdd:decide (jg pages (n:Int))=decide ((f:Int)<(pages:Int)):=by
     apply decide_eq_decide.2;unfold jg;constructor
     ·intro h;have:=h.2.2.2.1;omega
     ·intro h;exact ⟨by omega,by omega,h3,by omega,hp⟩
    rw [hdd];clear hdd hf hA hp;by_cases h5:(f:Int)<(pages:Int)
    ·rw [decide_eq_true h5];go_enter Tryz.func55,Tryz.ntmps55
     go_wp2_with fail
     refine HA.out.mono ?_;rintro e w1 ⟨rfl,h1⟩;obtain rfl:=h1.symm;clear h1;go_wp2;go_ret;exact ⟨rfl,rfl⟩
    ·rw [decide_eq_false h5];go_enter Tryz.func55,Tryz.ntmps55
     go_wp2_with fail
     refine HA.out.mono ?_;rintro e w1 ⟨rfl,h1⟩;obtain rfl:=h1.symm;clear h1;go_wp2;go_ret;exact ⟨rfl,rfl⟩
   ·rw [decide_eq_false (fun h=>h3 h.2.2.1)];clear hp;go_enter Tryz.func55,Tryz.ntmps55;go_wp2;go_ret;exact ⟨rfl,rfl⟩
end
end Go.Proofs.YtpiieilffkickaaGreatDoor
namespace Go.Proofs
open Go.Shelf
def Tryz.binS_ren:Go.Shelf.Ren:=⟨fun | 49=>119 | 59=>180 | 60=>181 | 68=>219 | n=>n,fun | 22=>102 | 23=>3 | 3=>3 | 4=>4 | 51=>163 | 0=>0 | n=>n,fun | n=>n⟩
theorem Tryz.binS:Go.Proofs.SlLaysN.n49 Tryz.prog Tryz.binS_ren:={
 mixed:=by kernel_rfl
 f49:=⟨Tryz.f119.name,by decide,Tryz.func119.trans (congrArg some (by kernel_rfl))⟩
 f59:=⟨Tryz.f180.name,by decide,Tryz.func180.trans (congrArg some (by kernel_rfl))⟩
 f60:=⟨Tryz.f181.name,by decide,Tryz.func181.trans (congrArg some (by kernel_rfl))⟩
 f68:=⟨Tryz.f219.name,by decide,Tryz.func219.trans (congrArg some (by kernel_rfl))⟩
 t0:=Tryz.underlying0
 a0:=Tryz.isAgg0
 z0:=Tryz.sizeOf0
 v0:=Tryz.zeroValue0
 t3:=Tryz.underlying3
 a3:=Tryz.isAgg3
 z3:=Tryz.sizeOf3
 v3:=Tryz.zeroValue3
 t4:=Tryz.underlying4
 a4:=Tryz.isAgg4
 z4:=Tryz.sizeOf4
 v4:=Tryz.zeroValue4
 t22:=Tryz.underlying102
 a22:=Tryz.isAgg102
 z22:=Tryz.sizeOf102
 v22:=Tryz.zeroValue102
 t23:=Tryz.underlying3
 a23:=Tryz.isAgg3
 z23:=Tryz.sizeOf3
 v23:=Tryz.zeroValue3
 t51:=Tryz.underlying163
 a51:=Tryz.isAgg163
 z51:=Tryz.sizeOf163
 v51:=Tryz.zeroValue163 }
end Go.Proofs
set_option maxRecDepth 100000
set_option maxHeartbeats 4000000
namespace Go.Proofs.YtpiieilffkickaaGreatDoor
section
open Go.RowKit Go.Maps
structure WPg where
 n:Nat
 g:Nat
 cap:Nat
 l:List UInt8
def WPg.cells (p:WPg):List Value:=[.int .i64 p.n,.slice (some ⟨p.g,0,none⟩) 512 p.cap]
structure l6 (w:World) (pb:Nat) (ps:List WPg) (F:Nat->Prop) (N:Nat):Prop where
 at_:∀i (hi:i<ps.length),w.cell? ⟨pb,i*2,none⟩=some (.int .i64 ps[i].n)/\w.cell? ⟨pb,i*2+1,none⟩=some (.slice (some ⟨ps[i].g,0,none⟩) 512 ps[i].cap)
 off:0<ps.length->¬F pb
 row:∀p∈ps,p.n<N/\p.l.length=512/\az w ⟨p.g,0,none⟩ p.l/\¬F p.g
theorem l6.keep {w w':World} {pb:Nat} {ps:List WPg} {F:Nat->Prop} {N:Nat} (h:l6 w pb ps F N) (k:ac F w w'):l6 w' pb ps F N :=
 ⟨fun i hi=>⟨k.cell (h.at_ i hi).1 (h.off (by omega)),k.cell (h.at_ i hi).2 (h.off (by omega))⟩,h.off,fun p hp=>⟨(h.row p hp).1,(h.row p hp).2.1,fun j hj=>k.cell ((h.row p hp).2.2.1 j hj) (by rw [aJ];exact (h.row p hp).2.2.2),(h.row p hp).2.2.2⟩⟩
theorem l6.below {w w':World} {pb:Nat} {ps:List WPg} {F:Nat->Prop} {N:Nat} (h:l6 w pb ps F N) (k:Below w.heap.size w w'):l6 w' pb ps F N:=h.keep (ac.of_below k)
def newC (D:Int->Bool) (ps:List WPg):Nat:=(ps.filter (fun p => !D (p.n:Int))).length
theorem vF (D:Int->Bool) (ps:List WPg) (p:WPg):newC D (ps ++ [p])=newC D ps+(if D (p.n:Int) then 0 else 1):=by
 unfold newC;rw [List.filter_append,List.length_append];cases h:D (p.n:Int) <;> simp [h]
def qU (Pg:Nat->List UInt8) (ps:List WPg):Nat->List UInt8:=ps.foldl (fun f p=>bf f p.n p.l) Pg
def jj (D:Int->Bool) (ps:List WPg):Int->Bool:=ps.foldl (fun f p=>br f (p.n:Int)) D
theorem vL (Pg:Nat->List UInt8) (ps:List WPg) (p:WPg):qU Pg (ps ++ [p])=bf (qU Pg ps) p.n p.l:=by simp [qU]
theorem v8 (D:Int->Bool) (ps:List WPg) (p:WPg):jj D (ps ++ [p])=br (jj D ps) (p.n:Int):=by simp [jj]
theorem ux {N:Nat} {D:Int->Bool} {k:Int}:k∈dkD N D ↔ 0<=k/\k<N/\D k=true:=by
 simp only [dkD,List.mem_filter,List.mem_map,List.mem_range];constructor
 ·rintro ⟨⟨j,hj,rfl⟩,h⟩;exact ⟨by omega,by omega,h⟩
 ·rintro ⟨h0,h1,h2⟩;exact ⟨⟨k.toNat,by omega,by omega⟩,h2⟩
theorem mM (N:Nat) (D:Int->Bool) (n:Nat):(dkD N (br D n)).length<=(dkD N D).length+(if D n then 0 else 1):=by
 by_cases h:D n=true
 ·have e:br D n=D:=funext fun k=>by unfold br;by_cases e:k=(n:Int);rw [if_pos e,e,h];rw [if_neg e]
  rw [e,if_pos h];exact Nat.le_refl _
 ·rw [if_neg h];exact nA D (br D n) n (fun k hk=>by unfold br;rw [if_neg hk]) _ (eR N)
theorem eV (D:Int->Bool) (p:WPg) (ps:List WPg):newC D (p :: ps)=(if D (p.n:Int) then 0 else 1)+newC D ps:=by
 unfold newC;cases h:D (p.n:Int) <;> simp [h];omega
theorem rJ (D:Int->Bool) (n:Int):∀ps:List WPg,newC (br D n) ps<=newC D ps
 | []=>Nat.le_refl _
 | p :: ps=>by
  have ih:=rJ D n ps;rw [eV,eV];by_cases h:D (p.n:Int)=true
  ·have h2:br D n (p.n:Int)=true:=by unfold br;split;rfl;exact h
   rw [if_pos h,if_pos h2];omega
  ·rw [if_neg h];split <;> omega
theorem uz (N:Nat):∀(D:Int->Bool) (ps:List WPg),(dkD N (jj D ps)).length<=(dkD N D).length+newC D ps
 | _,[]=>Nat.le_refl _
 | D,p :: ps=>by
  have ih:=uz N (br D p.n) ps;have h1:=mM N D p.n;have h2:=rJ D p.n ps;have e:jj D (p :: ps)=jj (br D p.n) ps:=rfl;rw [e,eV];omega
theorem yb (c:Nat) (x:Int) (w:World):Calls Tryz.prog 119 #[.slice none 0 c,.int .i64 x] w fun e w'=>e = .returned (.tuple #[.int .i64 0,.bool false])/\w'=w:=by
 go_enter Tryz.func119,Tryz.ntmps119;go_wp2
 go_loopw [7,8] (fun i j wr=>i = .int .i64 0/\j = .int .i64 0/\wr=w) (fun _ _ _=>0)
 case atStart=>exact ⟨rfl,rfl,rfl⟩
 case round =>
  obtain ⟨rfl,rfl,rfl⟩:=hrel;go_wp2;go_returns;exact ⟨rfl,rfl⟩
theorem sq (N:Nat) (D:Int->Bool):(dkD N D).Pairwise (fun a b=>a<=b):=((eR N).filter D).imp (fun h=>Int.le_of_lt h)
theorem sJ {w:World} {N:Nat} {D:Int->Bool} {v:Value} {lo:Nat} (hr:w.ownsRow lo 3 1 v (dkD N D).length ((dkD N D).map encZ)) (hN:N<=4096) (n:Nat) (hn:n<N) :
  Calls Tryz.prog 119 #[v,.int .i64 n] w fun e w'=>(∃i,e = .returned (.tuple #[.int .i64 i,.bool (D n)]))/\Below w.heap.size w w':=by
 have hlen:(dkD N D).length<=4096:=Nat.le_trans (List.length_filter_le _ _) (by simp;omega);rcases hr.2 with ⟨rfl,h0⟩ | ⟨g,cap,cur,rfl,hb,hh,hc,-⟩
 ·refine (yb 0 n w).mono ?_;rintro e w' ⟨rfl,rfl⟩;have hD:D (n:Int)=false:=by
   cases h:D (n:Int) with
   | false=>rfl
   | true =>
    have hm:(n:Int)∈dkD N D:=ux.2 ⟨by omega,by omega,h⟩;rw [List.eq_nil_of_length_eq_zero h0] at hm;cases hm
  rw [hD];exact ⟨⟨_,rfl⟩,Below.refl _ _⟩
 ·have hcon:=AnyG.slices_BinarySearch_int Tryz.binS g 0 (dkD N D).length cap (dkD N D) (n:Int) w (Nat.le_refl _) (by omega) (fun j hj=>by
   rw [Nat.zero_add,hr.cellAt j (by omega),List.getElem?_map,List.getElem?_eq_getElem hj,List.getD_eq_getElem?_getD,List.getElem?_eq_getElem hj];rfl) (by rw [List.take_length];exact sq N D)
  change Calls Tryz.prog 119 _ _ _ at hcon;refine hcon.mono ?_;rintro e w' ⟨rfl,q,rfl⟩;rw [List.take_length];have hD:(dkD N D).contains (n:Int)=D (n:Int):=by
   rw [Bool.eq_iff_iff,List.contains_iff_mem,ux];exact ⟨fun h=>h.2.2,fun h=>⟨by omega,by omega,h⟩⟩
  rw [hD];exact ⟨⟨_,rfl⟩,((ac.refl (fun _=>False) w).drewN q).below (Nat.le_refl _) (fun _ h=>h.elim)⟩
theorem tU {w w':World} {lo:Nat} {v:Value} {n:Nat} {xs:List Value} (h:w.ownsRow lo 3 1 v n xs) (hb:Below w.heap.size w w'):w'.ownsRow lo 3 1 v n xs:=(ac.of_below hb:ac (fun _=>False) w w').row h (fun _ _ h=>h)
theorem ix (N:Nat) (D:Int->Bool) (n:Nat) (hn:n<N) (hd:D n=false):(dkD N D).length+1<=(dkD N (br D n)).length:=by
 have key:∀l:List Int,l.Nodup->(n:Int)∈l->(l.filter D).length+1<=(l.filter (br D n)).length:=by
  intro l
  induction l with
  | nil=>intro _ h;cases h
  | cons k l ih =>
   intro hnd hm;obtain ⟨h1,h2⟩:=List.nodup_cons.1 hnd;by_cases e:k=(n:Int)
   ·subst e;have e2:l.filter (br D n)=l.filter D:=List.filter_congr (fun x hx=>by unfold br;rw [if_neg (fun e:x=(n:Int)=>h1 (by rw [<- e];exact hx))]);have e3:br D n (n:Int)=true:=by unfold br;rw [if_pos rfl]
    rw [List.filter_cons,List.filter_cons,hd,e3,e2];simp
   ·have hm':(n:Int)∈l:=(List.mem_cons.1 hm).resolve_left (fun h=>e h.symm);have e3:br D n k=D k:=by unfold br;rw [if_neg e]
    have:=ih h2 hm';rw [List.filter_cons,List.filter_cons,e3]
    split <;> simp <;> omega
 exact key _ ((eR N).imp (fun h=>by omega)) (List.mem_map.2 ⟨n,List.mem_range.2 hn,rfl⟩)
section
variable {w:World} {m c ino:Nat} {F:Nat->Prop} {size N:Nat} {Pg Cm:Nat->List UInt8} {D:Int->Bool} {o u:Nat}
def yG (w:World) (c:Nat) (F:Nat->Prop) (size N:Nat) (Pg Cm:Nat->List UInt8) (D:Int->Bool) (o u:Nat) (ps:List WPg) (e:Ending) (w':World):Prop :=
 ac F w w'/\((min size 100<(dkD N D).length+newC D ps/\e = .returned (.int .i64 7)/\Pc w' c F size N Pg Cm D o u)\/((dkD N D).length+newC D ps<=min size 100/\e = .returned (.int .i64 0)/\Pc w' c F size N (qU Pg ps) Cm (jj D ps) o u))
theorem fd (h:aT w m c ino) (hmF:¬F m) (pb:Nat) (ps:List WPg) (hps:l6 w pb ps F N) (cp:Nat) (hl:ps.length<=100) (hl0:0<ps.length) (hp:Pc w c F size N Pg Cm D o u) :
  Calls Tryz.prog 60 #[.pointer (some ⟨m,0,none⟩),.slice (some ⟨pb,0,none⟩) ps.length cp] w (yG w c F size N Pg Cm D o u ps):=by
 have c0:w.cell? ⟨m,0,none⟩=some (.pointer (some ⟨c,0,none⟩)):=aa h 0;have hkl:=hp.keysLen;have hN:=hp.four;have HM:=hid h;have HPs:=hid hps;have HP:=hid hp;have HDr:=hid hp.dirtyRow;have HFl:=hid hp.lt;obtain ⟨K,hK⟩:∃K,K=(dkD N D).length:=⟨_,rfl⟩;have HK:=hid hK;obtain ⟨Z,hZ⟩:∃Z,Z=min size 100:=⟨_,rfl⟩;have hZ1:Z<=100:=by omega
 have HZ:=hid hZ;rw [<- hK, <- hZ] at hkl;clear h hps hp hK hZ;go_enter Tryz.func60,Tryz.ntmps60
 go_wp2_with fail
 refine HDr.out.mono ?_;clear HDr;rintro e w1 ⟨v,rfl,hrow,hb1⟩;have HRw:=hid hrow;have HB1:=hid hb1;clear hrow hb1 c0;go_wp2
 go_loopw [6,20] (fun mo i wr=>∃k:Nat,k<=ps.length/\i = .int .i64 k/\mo = .int .i64 (newC D (ps.take k):Nat)/\Hid (Below w1.heap.size w1 wr)) (fun _ i _=>ps.length-(intOf i).toNat)
 case atStart=>exact ⟨0,by omega,rfl,rfl,Below.refl _ _⟩
 case round =>
  obtain ⟨k,hk,rfl,rfl,HB⟩:=hrel;have HBw:Hid (Below w.heap.size w wr):=HB1.out.trans (HB.out.mono HB1.out.size);have hnc:newC D (ps.take k)<=k:=Nat.le_trans (List.length_filter_le _ _) (by rw [List.length_take];omega);by_cases hlt:k<ps.length
  ·have hk0:(0:Int)<=(k:Int):=by omega
   have hlt':(k:Int)<(ps.length:Int):=by omega
   obtain ⟨a0,a1⟩:=(HPs.out.below HBw.out).at_ k hlt;have hr0:=HPs.out.row ps[k] (List.getElem_mem hlt);obtain ⟨p,hpe⟩:∃p,p=ps[k]:=⟨_,rfl⟩;rw [<- hpe] at a0 a1 hr0;have hNc:newC D (ps.take (k+1))=newC D (ps.take k)+(if D (p.n:Int) then 0 else 1):=by
    rw [List.take_succ_eq_append_getElem hlt,vF,hpe]
   have hb2:Below wr.heap.size wr (wr.alloc (.cells #[.int .i64 p.n,.slice (some ⟨p.g,0,none⟩) 512 p.cap] 111)):=(Below.refl _ wr).alloc (Nat.le_refl _) _;have hrw:=tU HRw.out (HB.out.trans (hb2.mono HB.out.size));have HBs:=hid (sJ hrw hN p.n hr0.1);have HB2:=hid (HB.out.trans (hb2.mono HB.out.size));clear hpe hr0 hrw hb2;generalize newC D (ps.take k)=nc at *;cases hD:D (p.n:Int) with
   | true =>
    rw [hD] at HBs hNc;simp only [if_true,Nat.add_zero] at hNc;have HNc:=hid hNc;clear hNc hD
    go_wp2_with fail
    refine HBs.out.mono ?_;clear HBs;rintro e w3 ⟨⟨i,rfl⟩,hb3⟩;have HB3:=hid (HB2.out.trans (hb3.mono HB2.out.size));clear hb3 a0 a1;go_wp2;exact ⟨⟨k+1,by omega,by go_num,by rw [HNc.out],HB3⟩,by simp [intOf];omega⟩
   | false =>
    rw [hD] at HBs hNc;have hNc':newC D (ps.take (k+1))=nc+1:=by rw [hNc];rfl
    have HNc:=hid hNc';clear hNc hNc' hD
    go_wp2_with fail
    refine HBs.out.mono ?_;clear HBs;rintro e w3 ⟨⟨i,rfl⟩,hb3⟩;have HB3:=hid (HB2.out.trans (hb3.mono HB2.out.size));clear hb3 a0 a1;go_wp2;exact ⟨⟨k+1,by omega,by go_num,by rw [HNc.out];go_num,HB3⟩,by simp [intOf];omega⟩
  ·obtain rfl:k=ps.length:=by omega
   have hge:¬((ps.length:Int)<(ps.length:Int)):=by omega
   have htk:ps.take ps.length=ps:=List.take_length;rw [htk] at hnc ⊢;have HR:=hid (HP.out.below HBw.out).roomC;rw [<- HZ.out, <- HK.out] at HR;have c0:wr.cell? ⟨m,0,none⟩=some (.pointer (some ⟨c,0,none⟩)):=aa (HM.out.below HBw.out) 0;obtain ⟨nc,hncE⟩:∃nc,nc=newC D ps:=⟨_,rfl⟩;rw [<- hncE] at hnc ⊢;have HNc:=hid hncE;clear htk hncE;by_cases hfull:Z<K+nc
   ·have hgt:(Z:Int)-(K:Int)<(nc:Int):=by omega
    go_wp2_with fail
    refine HR.out.mono ?_;clear HR;rintro e w3 ⟨rfl,hb3⟩;have HB3:=hid (HBw.out.trans (hb3.mono HBw.out.size));clear hb3 c0;go_wp2;go_ret;exact ⟨ac.of_below HB3.out,.inl ⟨by rw [<- HK.out, <- HZ.out, <- HNc.out];exact hfull,rfl,HP.out.below HB3.out⟩⟩
   ·have hgt:¬((Z:Int)-(K:Int)<(nc:Int)):=by omega
    go_wp2_with fail
    refine HR.out.mono ?_;clear HR;rintro e w3 ⟨rfl,hb3⟩;have HB3:=hid (HBw.out.trans (hb3.mono HBw.out.size));have HSt:Hid (∀q,q<=ps.length->(dkD N (jj D (ps.take q))).length<=Z):=fun q hq=>by
     have h1:=uz N D (ps.take q);have h2:newC D (ps.take q)<=newC D ps:=by
      conv=>rhs;rw [<- List.take_append_drop q ps]
      unfold newC;rw [List.filter_append,List.length_append];omega
     rw [<- HK.out] at h1;rw [<- HNc.out] at h2;omega
    clear hb3 c0 hgt;go_wp2
    go_loopw [45] (fun i wi=>∃q:Nat,q<=ps.length/\i = .int .i64 q/\Hid (ac F w wi)/\Hid (Pc wi c F size N (qU Pg (ps.take q)) Cm (jj D (ps.take q)) o u)) (fun i _=>ps.length-(intOf i).toNat)
    case atStart=>exact ⟨0,by omega,rfl,ac.of_below HB3.out,HP.out.below HB3.out⟩
    case round =>
     obtain ⟨q,hq,rfl,HKq,HPq⟩:=hrel;by_cases hql:q<ps.length
     ·have hq0:(0:Int)<=(q:Int):=by omega
      have hql':(q:Int)<(ps.length:Int):=by omega
      have hws:=HPs.out.keep HKq.out;obtain ⟨a0,a1⟩:=hws.at_ q hql;have hr0:=hws.row ps[q] (List.getElem_mem hql);have ht1:qU Pg (ps.take (q+1))=bf (qU Pg (ps.take q)) ps[q].n ps[q].l:=by rw [List.take_succ_eq_append_getElem hql,vL]
      have ht2:jj D (ps.take (q+1))=br (jj D (ps.take q)) (ps[q].n:Int):=by rw [List.take_succ_eq_append_getElem hql,v8]
      have hroom:jj D (ps.take q) (ps[q].n:Int)=true\/(dkD N (jj D (ps.take q))).length<min size 100:=by
       cases hd:jj D (ps.take q) (ps[q].n:Int) with
       | true=>exact .inl rfl
       | false =>
        have h1:=HSt.out (q+1) (by omega);rw [ht2] at h1;have h3:=ix N (jj D (ps.take q)) ps[q].n hr0.1 hd;have:=HZ.out;exact .inr (by omega)
      obtain ⟨p,hpe⟩:∃p,p=ps[q]:=⟨_,rfl⟩;rw [<- hpe] at a0 a1 hr0 ht1 ht2 hroom;have hb4:Below wr.heap.size wr (wr.alloc (.cells #[.int .i64 p.n,.slice (some ⟨p.g,0,none⟩) 512 p.cap] 111)):=(Below.refl _ wr).alloc (Nat.le_refl _) _;have hdr:=(Below.refl (wr.alloc (.cells #[.int .i64 p.n,.slice (some ⟨p.g,0,none⟩) 512 p.cap] 111)).heap.size (wr.alloc (.cells #[.int .i64 p.n,.slice (some ⟨p.g,0,none⟩) 512 p.cap] 111))).drew;have hb5:=hb4.trans (hdr.mono hb4.size);have HWr:=hid ((HPq.out.below hb5).write p.n hr0.1 p.l hr0.2.1 ⟨p.g,0,none⟩ p.cap (fun j hj=>(hb5.cell (World.block_lt_of_cell? wr _ (hr0.2.2.1 j hj))).trans (hr0.2.2.1 j hj)) hroom);rw [<- ht1, <- ht2] at HWr;have hFn:¬F wr.heap.size:=fun hf=>by have:=HFl.out _ hf;have:=HKq.out.size;omega
      have HCs:Hid (∀W,ac F (wr.alloc (.cells #[.int .i64 p.n,.slice (some ⟨p.g,0,none⟩) 512 p.cap] 111)) W->W.cell? ⟨m,0,none⟩=some (.pointer (some ⟨c,0,none⟩))/\W.cell? ⟨wr.heap.size,0,none⟩=some (.int .i64 p.n)/\W.cell? ⟨wr.heap.size,1,none⟩=some (.slice (some ⟨p.g,0,none⟩) 512 p.cap)):=fun W hW=>by
       have h1:=((HM.out.keep HKq.out hmF).below hb4).keep hW hmF;have h2:=hW.heap (af wr (.cells #[.int .i64 p.n,.slice (some ⟨p.g,0,none⟩) 512 p.cap] 111)) hFn;exact ⟨aa h1 0,aa h2 0,aa h2 1⟩
      have hS0:=HCs.out _ (ac.refl _ _);have HK4:Hid (ac F w (wr.alloc (.cells #[.int .i64 p.n,.slice (some ⟨p.g,0,none⟩) 512 p.cap] 111))):=HKq.out.trans (ac.of_below hb4:ac (fun _=>False) wr _) (fun i e=>e.elim);clear ht1 ht2 hroom hpe hr0 hws hb4 hdr hb5 hFn;obtain ⟨nb,hnb⟩:∃nb,nb=wr.heap.size:=⟨_,rfl⟩;rw [<- hnb] at HCs hS0;go_wp2;rw [<- hnb];clear hnb a0 a1;generalize wr.alloc (.cells #[.int .i64 p.n,.slice (some ⟨p.g,0,none⟩) 512 p.cap] 111)=wa at *;refine wp_region_noPanic ?_;refine wp_region_held_drew (S:=fun W=>W.cell? ⟨m,0,none⟩=some (.pointer (some ⟨c,0,none⟩))/\W.cell? ⟨nb,0,none⟩=some (.int .i64 p.n)/\W.cell? ⟨nb,1,none⟩=some (.slice (some ⟨p.g,0,none⟩) 512 p.cap)) (by kernel_rfl) hS0 (fun hHeld => ?_);refine tq 0 _ ?_
      try simp only [tS]
      refine tq 1 _ ?_
      try simp only [tS]
      refine tq 2 _ ?_
      try simp only [tS]
      refine tq 3 _ ?_
      try simp only [tS]
      refine tq 4 _ ?_
      try simp only [tS]
      refine tq 5 _ ?_
      try simp only [tS]
      refine tq 6 _ ?_
      try simp only [tS]
      refine tq 7 _ ?_
      try simp only [tS]
      refine tr 8 (fun K hK => ?_);go_simp;refine HWr.out.mono ?_;clear HWr;rintro e w5 ⟨rfl,hk5,hp5⟩;have HP5:=hid hp5;have HK5:=hid ((HK4.out.drew).trans hk5 (fun i e => .inl e));have hz:=HCs.out w5 ((ac.refl F wa).drew.trans hk5 (fun i e => .inl e));clear hk5 hp5 hS0
      go_wp2_with fail
      refine hK.out _ _ hz (fun hHeld => ?_);clear hK K
      try simp only [tS]
      refine wpAnyH_done (by kernel_rfl) ?_ _;refine NoPanic.normal ?_;clear hHeld hz;go_wp2;exact ⟨⟨q+1,by omega,by go_num,HK5,HP5⟩,by simp [intOf];omega⟩
     ·obtain rfl:q=ps.length:=by omega
      have hge2:¬((ps.length:Int)<(ps.length:Int)):=by omega
      have hPf:=HPq.out;rw [List.take_length] at hPf;have HPf:=hid hPf;clear hPf;go_wp2;go_ret;exact ⟨HKq.out,.inr ⟨by rw [<- HK.out, <- HZ.out, <- HNc.out];omega,rfl,HPf.out⟩⟩
end
end
section
set_option maxRecDepth 100000
set_option maxHeartbeats 4000000
open Go.RowKit
theorem dA (n e0:Int) (w:World):Calls Tryz.prog 129 #[.int .i64 n,.int .i64 e0] w fun e w'=>e = .returned (.tuple #[.int .i64 (if e0=0 then n else 0),.int .i64 e0])/\w'=w:=by
 by_cases h:e0=0
 ·subst h;rw [if_pos rfl];go_enter Tryz.func129,Tryz.ntmps129;go_wp2;go_returns;exact ⟨rfl,rfl⟩
 ·rw [if_neg h];have h1:(e0 != 0)=true:=by simp [h]
  have h2:(e0==0)=false:=beq_eq_false_iff_ne.2 h;go_enter Tryz.func129,Tryz.ntmps129;go_wp2;go_returns;exact ⟨rfl,rfl⟩
section
variable {w:World} {m c ino:Nat} {F:Nat->Prop} {size N:Nat} {Pg Cm:Nat->List UInt8} {D:Int->Bool} {o u:Nat}
def takenP (L:List UInt8) (a z:Nat) (n:Int):Bool:=if (a:Int)<=n/\n<(z:Int) then de L n.toNat else decide (0<=n/\n<(a:Int))
theorem tx (h:aT w m c ino) (hmF:¬F m) (b a z x y:Nat) (n:Int) (hb:b<N) (hz:z<=4096) (hu:u<1000000) (hp:Pc w c F size N Pg Cm D o u) :
  Calls Tryz.prog 193 #[.pointer (some ⟨m,0,none⟩),gd b a z x y,.int .i64 n] w fun e w'=>e = .returned (.bool (takenP (Pg b) a z n))/\ac F w w'/\Pc w' c F size N Pg Cm D o (u+1):=by
 obtain ⟨wa,hwa⟩:∃wa,wa=w.alloc (.cells #[.int .i64 b,.int .i64 a,.int .i64 z,.complex .f64 x y] 207):=⟨_,rfl⟩;have hb0:Below w.heap.size w wa:=by rw [hwa];exact (Below.refl _ w).alloc (Nat.le_refl _) _
 have hbl:wa.heap[w.heap.size]? = some (.cells #[.int .i64 b,.int .i64 a,.int .i64 z,.complex .f64 x y] 207 (0,0)):=by rw [hwa];exact af w _
 have HH:=hid (fun W=>qo b a z x y n W);have HMa:=hid (h.below hb0);have HPa:=hid hp;have HB0:=hid hb0;have HBl:=hid hbl;have hlen:=hp.len b hb;have HLen:=hid hlen;have f0:∀(W:World),Below wa.heap.size wa W->W.cell? ⟨w.heap.size,0,none⟩=some (.int .i64 b)/\W.cell? ⟨w.heap.size,1,none⟩=some (.int .i64 a)/\W.cell? ⟨w.heap.size,2,none⟩=some (.int .i64 z)/\W.cell? ⟨w.heap.size,3,none⟩=some (.complex .f64 x y):=fun W hW=>by
  have hw:=ah hW hbl (ae hbl);exact ⟨aa hw 0,aa hw 1,aa hw 2,aa hw 3⟩
 have HC:=hid f0;clear h hp hb0 hbl hlen f0;unfold gd takenP;by_cases hin:(a:Int)<=n/\n<(z:Int)
 ·rw [if_pos hin];rw [decide_eq_true hin] at HH;obtain ⟨k,rfl⟩:∃k:Nat,n=(k:Int):=⟨n.toNat,by omega⟩;have hk:k<4096:=by omega
  rw [show ((k:Int)).toNat=k by omega];clear hin;go_enter Tryz.func193,Tryz.ntmps193
  go_wp2_with fail
  rw [<- hwa];clear hwa;unfold gd at HH;refine (HH.out wa).mono ?_;clear HH;rintro e w1 ⟨rfl,hb1⟩;obtain ⟨c0,c1,c2,c3⟩:=HC.out w1 hb1;have HB1:=hid (HB0.out.trans (hb1.mono HB0.out.size));have HBi:=hid (lq (HMa.out.below hb1) hmF b a z x y hb hu HPa.out HB1.out);unfold gd at HBi;clear hb1
  go_wp2_with fail
  refine HBi.out.mono ?_;clear HBi;rintro e w2 ⟨g,cap,rfl,hcap,hg,hrow,hK2,hW2⟩;have HIs:=hid (kZ g k cap (Pg b) w2 hrow.1 HLen.out hk);have HK2:=hid ((ac.of_below HB1.out).trans hK2 (fun i e => .inl e));have HW2:=hid hW2;clear hrow hK2 hW2 c0 c1 c2 c3
  go_wp2_with fail
  refine HIs.out.mono ?_;clear HIs;rintro e w3 ⟨rfl,h3⟩;obtain rfl:=h3.symm;clear h3;go_wp2;go_ret;exact ⟨rfl,HK2.out,HW2.out _ (ac.refl _ _)⟩
 ·rw [if_neg hin];rw [decide_eq_false hin] at HH;clear hin;unfold gd at HH;by_cases h1:0<=n
  ·by_cases h2:n<(a:Int)
   ·rw [decide_eq_true ⟨h1,h2⟩];have h1':decide (0<=n)=true:=decide_eq_true h1;go_enter Tryz.func193,Tryz.ntmps193
    go_wp2_with fail
    rw [<- hwa];clear hwa;refine (HH.out wa).mono ?_;clear HH;rintro e w1 ⟨rfl,hb1⟩;obtain ⟨c0,c1,c2,c3⟩:=HC.out w1 hb1;have HB1:=hid (HB0.out.trans (hb1.mono HB0.out.size));clear hb1;go_wp2;go_ret;exact ⟨rfl,ac.of_below HB1.out,(HPa.out.below HB1.out).more (Nat.le_refl _) (Nat.le_succ _)⟩
   ·rw [decide_eq_false (fun h=>h2 h.2)];have h1':decide (0<=n)=true:=decide_eq_true h1;have h2':(a:Int)<=n:=by omega
    go_enter Tryz.func193,Tryz.ntmps193
    go_wp2_with fail
    rw [<- hwa];clear hwa;refine (HH.out wa).mono ?_;clear HH;rintro e w1 ⟨rfl,hb1⟩;obtain ⟨c0,c1,c2,c3⟩:=HC.out w1 hb1;have HB1:=hid (HB0.out.trans (hb1.mono HB0.out.size));clear hb1;go_wp2;go_ret;refine ⟨?_,ac.of_below HB1.out,(HPa.out.below HB1.out).more (Nat.le_refl _) (Nat.le_succ _)⟩
    first | rfl | (simp [h2];done) | (simp [h2];omega)
  ·rw [decide_eq_false (fun h=>h1 h.1)];go_enter Tryz.func193,Tryz.ntmps193
   go_wp2_with fail
   rw [<- hwa];clear hwa;refine (HH.out wa).mono ?_;clear HH;rintro e w1 ⟨rfl,hb1⟩;obtain ⟨c0,c1,c2,c3⟩:=HC.out w1 hb1;have HB1:=hid (HB0.out.trans (hb1.mono HB0.out.size));clear hb1;go_wp2;go_ret;exact ⟨rfl,ac.of_below HB1.out,(HPa.out.below HB1.out).more (Nat.le_refl _) (Nat.le_succ _)⟩
theorem iq (h:aT w m c ino) (hmF:¬F m) (hi:ino<=512) (n:Int) (hN:3<=N) (hu:u<1000000) (hp:Pc w c F size N Pg Cm D o u) :
  Calls Tryz.prog 141 #[.pointer (some ⟨m,0,none⟩),.int .i64 n] w fun e w'=>e = .returned (.bool (takenP (Pg 1) 1 ino n))/\ac F w w'/\Pc w' c F size N Pg Cm D o (u+1):=by
 have HO:=hid (fp h);have HT:=hid (fun W (hW:Below w.heap.size w W)=>tx (h.below hW) hmF 1 1 ino 0 qM n (by omega) (by omega) hu (hp.below hW));generalize takenP (Pg 1) 1 ino n=t at *;clear h hp;go_enter Tryz.func141,Tryz.ntmps141
 go_wp2_with fail
 refine HO.out.mono ?_;clear HO;rintro e w1 ⟨rfl,hb1⟩;have HT1:=hid (HT.out w1 hb1);have HK1:Hid (ac F w w1):=ac.of_below hb1;clear HT hb1
 go_wp2_with fail
 refine HT1.out.mono ?_;clear HT1;rintro e w2 ⟨rfl,hk2,hp2⟩;have HK2:=hid (HK1.out.trans hk2 (fun i e => .inl e));have HP2:=hid hp2;clear hk2 hp2;go_wp2;go_ret;exact ⟨rfl,HK2.out,HP2.out⟩
theorem mN (h:aT w m c ino) (hi:ino<=512) (n:Int):Calls Tryz.prog 130 #[.pointer (some ⟨m,0,none⟩),.int .i64 n] w fun e w'=>e = .returned (if 0<=n/\n<(ino:Int) then .tuple #[.int .i64 (3+n / 8),.int .i64 (n%8*64),.int .i64 0] else .tuple #[.int .i64 0,.int .i64 0,.int .i64 2])/\w'=w:=by
 have c1:w.cell? ⟨m,1,none⟩=some (.int .i64 ino):=aa h 1;clear h;by_cases hin:0<=n/\n<(ino:Int)
 ·rw [if_pos hin];obtain ⟨h0,h1⟩:=hin;go_enter Tryz.func130,Tryz.ntmps130;go_wp2;go_returns;exact ⟨rfl,rfl⟩
 ·rw [if_neg hin];by_cases h0:n<0
  ·go_enter Tryz.func130,Tryz.ntmps130;go_wp2;go_returns;exact ⟨rfl,rfl⟩
  ·have h1:(ino:Int)<=n:=by omega
   have h2:¬(n<0):=h0;clear hin;go_enter Tryz.func130,Tryz.ntmps130;go_wp2;go_returns;exact ⟨rfl,rfl⟩
end
end
section
open Go.RowKit
section
variable {w:World} {m c ino:Nat} {F:Nat->Prop} {size N:Nat} {Pg Cm:Nat->List UInt8} {D:Int->Bool} {o u:Nat}
theorem bT.wpg {w:World} {g:Nat} {l:List UInt8} (h:bT w g l) (hl:l.length=512) (b cap:Nat) (hb:b<N) (hF:¬F g) (hn:¬F w.heap.size) :
  l6 (w.alloc (.cells #[.int .i64 b,.slice (some ⟨g,0,none⟩) 512 cap] 111)) w.heap.size [⟨b,g,cap,l⟩] F N:=by
 have hbl:=af w (.cells #[.int .i64 b,.slice (some ⟨g,0,none⟩) 512 cap] 111);have hb0:Below w.heap.size w (w.alloc (.cells #[.int .i64 b,.slice (some ⟨g,0,none⟩) 512 cap] 111)):=(Below.refl _ w).alloc (Nat.le_refl _) _;refine ⟨fun i hi => ?_,fun _=>hn,fun p hp => ?_⟩
 ·obtain rfl:i=0:=by simp at hi;omega
  exact ⟨aa hbl 0,aa hbl 1⟩
 ·obtain rfl:p=⟨b,g,cap,l⟩:=by simpa using hp
  exact ⟨hb,hl,(h.below hb0).1,hF⟩
def k8 (w:World) (c:Nat) (F:Nat->Prop) (size N:Nat) (Pg Cm:Nat->List UInt8) (D:Int->Bool) (o u b a z:Nat) (n:Int) (e:Ending) (w':World):Prop :=
 ac F w w'/\((¬((a:Int)<=n/\n<(z:Int))/\e = .returned (.int .i64 2)/\Pc w' c F size N Pg Cm D o (u+1)) \/
  (((a:Int)<=n/\n<(z:Int))/\de (Pg b) n.toNat=false/\e = .returned (.int .i64 4)/\Pc w' c F size N Pg Cm D o (u+1)) \/
  (((a:Int)<=n/\n<(z:Int))/\de (Pg b) n.toNat=true/\min size 100<(dkD N D).length+(if D b then 0 else 1)/\e = .returned (.int .i64 7)/\Pc w' c F size N Pg Cm D o (u+1)) \/
  (((a:Int)<=n/\n<(z:Int))/\de (Pg b) n.toNat=true/\(dkD N D).length+(if D b then 0 else 1)<=min size 100/\e = .returned (.int .i64 0)/\Pc w' c F size N (bf Pg b (flipL (Pg b) n.toNat)) Cm (br D b) o (u+1)))
theorem jV (D:Int->Bool) (p:WPg):newC D [p]=(if D (p.n:Int) then 0 else 1):=by
 rw [eV];rfl
theorem uO (h:aT w m c ino) (hmF:¬F m) (b a z x y:Nat) (n:Int) (hb:b<N) (hz:z<=4096) (hu:u<1000000) (hp:Pc w c F size N Pg Cm D o u) :
  Calls Tryz.prog 235 #[.pointer (some ⟨m,0,none⟩),gd b a z x y,.int .i64 n] w (k8 w c F size N Pg Cm D o u b a z n):=by
 obtain ⟨wa,hwa⟩:∃wa,wa=w.alloc (.cells #[.int .i64 b,.int .i64 a,.int .i64 z,.complex .f64 x y] 207):=⟨_,rfl⟩;have hb0:Below w.heap.size w wa:=by rw [hwa];exact (Below.refl _ w).alloc (Nat.le_refl _) _
 have hbl:wa.heap[w.heap.size]? = some (.cells #[.int .i64 b,.int .i64 a,.int .i64 z,.complex .f64 x y] 207 (0,0)):=by rw [hwa];exact af w _
 have HH:=hid (fun W=>qo b a z x y n W);have HMa:=hid (h.below hb0);have HPa:=hid hp;have HB0:=hid hb0;have HLen:=hid (hp.len b hb);have HFl:=hid hp.lt;have HC:Hid (∀(W:World),ac F wa W->W.cell? ⟨w.heap.size,0,none⟩=some (.int .i64 b)/\W.cell? ⟨w.heap.size,1,none⟩=some (.int .i64 a)/\W.cell? ⟨w.heap.size,2,none⟩=some (.int .i64 z)/\W.cell? ⟨w.heap.size,3,none⟩=some (.complex .f64 x y)):=fun W hW=>by
  have hw:=hW.heap hbl (fun hf=>Nat.lt_irrefl _ (hp.lt _ hf));exact ⟨aa hw 0,aa hw 1,aa hw 2,aa hw 3⟩
 have HSa:Hid (w.heap.size<wa.heap.size):=ae hbl;clear h hp hb0 hbl;unfold gd;unfold gd at HH;by_cases hin:(a:Int)<=n/\n<(z:Int)
 ·rw [decide_eq_true hin] at HH;have HIn:=hid hin;obtain ⟨k,rfl⟩:∃k:Nat,n=(k:Int):=⟨n.toNat,by omega⟩;have hk:k<4096:=by omega
  have hkk:((k:Int)).toNat=k:=by omega
  have HKk:=hid hkk;clear hin hkk;go_enter Tryz.func235,Tryz.ntmps235
  go_wp2_with fail
  rw [<- hwa];clear hwa;refine (HH.out wa).mono ?_;clear HH;rintro e w1 ⟨rfl,hb1⟩;obtain ⟨c0,c1,c2,c3⟩:=HC.out w1 (ac.of_below hb1);have HB1:=hid (HB0.out.trans (hb1.mono HB0.out.size));have HBi:=hid (lq (HMa.out.below hb1) hmF b a z x y hb hu HPa.out HB1.out);unfold gd at HBi;have HKa1:Hid (ac F wa w1):=ac.of_below hb1;have HM1:=hid (HMa.out.below hb1);have hs1:=hb1.size;clear hb1
  go_wp2_with fail
  refine HBi.out.mono ?_;clear HBi;rintro e w2 ⟨g,cap,rfl,hcap,hg,hrow,hK2,hW2⟩;have HRow:=hid hrow;have HIs:=hid (kZ g k cap (Pg b) w2 hrow.1 HLen.out hk);have HKa2:=hid (HKa1.out.trans hK2 (fun i e => .inl e));have HK2:=hid ((ac.of_below HB1.out).trans hK2 (fun i e => .inl e));have HW2:=hid hW2;have HM2:Hid (aT w2 m c ino):=HM1.out.keep hK2 hmF;have HgF:Hid (¬F g):=fun hf=>by have:=HFl.out _ hf;have:=HB1.out.size;omega
  have Hgw:Hid (wa.heap.size<=g):=Nat.le_trans hs1 hg;clear hrow hK2 hW2 c0 c1 c2 c3;cases hbit:de (Pg b) k with
  | false =>
   rw [hbit] at HIs;have HBit:=hid hbit;clear hbit
   go_wp2_with fail
   refine HIs.out.mono ?_;clear HIs;rintro e w3 ⟨rfl,h3⟩;obtain rfl:=h3.symm;clear h3;go_wp2;go_ret;exact ⟨HK2.out,.inr (.inl ⟨HIn.out,by rw [HKk.out];exact HBit.out,rfl,HW2.out _ (ac.refl _ _)⟩)⟩
  | true =>
   rw [hbit] at HIs;have HBit:=hid hbit;have HFp:=hid (nt g k cap (Pg b) w2 HRow.out HLen.out hk);clear hbit
   go_wp2_with fail
   refine HIs.out.mono ?_;clear HIs;rintro e w3 ⟨rfl,h3⟩;obtain rfl:=h3.symm;clear h3
   go_wp2_with fail
   refine HFp.out.mono ?_;clear HFp;rintro e w3 ⟨rfl,hr3,hk3⟩;have hK3:ac F w w3:=HK2.out.trans hk3 (fun i e => .inr (by have e':i=g:=e;have:=HB1.out.size;have:=Hgw.out;have:=HSa.out;omega));have hgF:=HgF.out;have hcl:=HC.out w2 HKa2.out;have d0:w3.cell? ⟨w.heap.size,0,none⟩=some (.int .i64 b):=hk3.cell hcl.1 (show ¬w.heap.size=g by have:=Hgw.out;have:=HSa.out;omega);have hnF:¬F w3.heap.size:=fun hf=>by have:=HFl.out _ hf;have:=hK3.size;omega
   have hwp:=hr3.wpg (N:=N) (F:=F) (by rw [bO];exact HLen.out) b cap hb hgF hnF;have hb4:Below w3.heap.size w3 (w3.alloc (.cells #[.int .i64 b,.slice (some ⟨g,0,none⟩) 512 cap] 111)):=(Below.refl _ w3).alloc (Nat.le_refl _) _;have hgm:¬m=g:=fun e=>by have h1:=HMa.out.lt;have:=Hgw.out;omega
   have hP3:Pc w3 c F size N Pg Cm D o (u+1):=HW2.out _ (hk3.mono (fun i e=>by have e':i=g:=e;have:=Hgw.out;have:=HSa.out;omega));have HWr:=hid (fd ((HM2.out.keep hk3 hgm).below hb4) hmF w3.heap.size [⟨b,g,cap,flipL (Pg b) k⟩] hwp 1 (by simp) (by simp) (hP3.below hb4));have HK4:Hid (ac F w (w3.alloc (.cells #[.int .i64 b,.slice (some ⟨g,0,none⟩) 512 cap] 111))):=hK3.trans (ac.of_below hb4:ac (fun _=>False) w3 _) (fun i e=>e.elim);clear hr3 hk3 hK3 hgF hcl hnF hwp hb4 hgm hP3
   go_wp2_with fail
   refine HWr.out.mono ?_;clear HWr;rintro e w5 ⟨hk5,hw5⟩;have HK5:=hid (HK4.out.trans hk5 (fun i e => .inl e));rw [jV] at hw5;rcases hw5 with ⟨hf,rfl,hp5⟩ | ⟨hf,rfl,hp5⟩
   ·have HP5:=hid hp5;have Hf:=hid hf;clear hp5 hf hk5 d0;go_wp2;go_ret;exact ⟨HK5.out,.inr (.inr (.inl ⟨HIn.out,by rw [HKk.out];exact HBit.out,Hf.out,rfl,HP5.out⟩))⟩
   ·have HP5:=hid hp5;have Hf:=hid hf;clear hp5 hf hk5 d0;go_wp2;go_ret;refine ⟨HK5.out,.inr (.inr (.inr ⟨HIn.out,by rw [HKk.out];exact HBit.out,Hf.out,rfl,?_⟩))⟩;rw [HKk.out];exact HP5.out
 ·rw [decide_eq_false hin] at HH;have HIn:=hid hin;clear hin;go_enter Tryz.func235,Tryz.ntmps235
  go_wp2_with fail
  rw [<- hwa];clear hwa;refine (HH.out wa).mono ?_;clear HH;rintro e w1 ⟨rfl,hb1⟩;have HB1:=hid (HB0.out.trans (hb1.mono HB0.out.size));clear hb1;go_wp2;go_ret;exact ⟨ac.of_below HB1.out,.inl ⟨HIn.out,rfl,(HPa.out.below HB1.out).more (Nat.le_refl _) (Nat.le_succ _)⟩⟩
theorem k8.from {w w0:World} {b a z:Nat} {n:Int} {e:Ending} {w':World} (h:k8 w c F size N Pg Cm D o u b a z n e w') (k:ac F w0 w):k8 w0 c F size N Pg Cm D o u b a z n e w':=⟨k.trans h.1 (fun _ e => .inl e),h.2⟩
theorem nX (h:aT w m c ino) (hmF:¬F m) (hi:ino<=512) (n:Int) (hN:3<=N) (hu:u<1000000) (hp:Pc w c F size N Pg Cm D o u) :
  Calls Tryz.prog 200 #[.pointer (some ⟨m,0,none⟩),.int .i64 n] w (k8 w c F size N Pg Cm D o u 2 (3+ino / 8) N n):=by
 have hN4:=hp.four;have HO:=hid (fS h hi hp);have HT:=hid (fun W (hW:Below w.heap.size w W)=>uO (h.below hW) hmF 2 (3+ino / 8) N qM 0 n (by omega) hN4 hu (hp.below hW));clear h hp hN4;go_enter Tryz.func200,Tryz.ntmps200
 go_wp2_with fail
 refine HO.out.mono ?_;clear HO;rintro e w1 ⟨rfl,hb1⟩;have HT1:=hid (HT.out w1 hb1);have HK1:Hid (ac F w w1):=ac.of_below hb1;clear HT hb1
 go_wp2_with fail
 refine HT1.out.mono ?_;clear HT1;intro e w2 hg;have HG:=hid (hg.from HK1.out);obtain ⟨v,rfl⟩:∃v:Int,e = .returned (.int .i64 v):=by
  rcases hg.2 with ⟨-,h,-⟩ | ⟨-,-,h,-⟩ | ⟨-,-,-,h,-⟩ | ⟨-,-,-,h,-⟩ <;> exact ⟨_,h⟩
 clear hg;go_wp2;go_ret;exact HG.out
end
end
section
open Go.RowKit
def bp:Nat->List UInt8
 | 0=>zN 512
 | n+1=>flipL (bp n) n
theorem dt:∀n,(bp n).length=512
 | 0=>aO 512
 | n+1=>by rw [bp,bO,dt n]
theorem zf (n:Nat):de (zN 512) n=false:=by
 unfold de;have:(zN 512).getD (n / 8) 0=0:=by
  rw [List.getD_eq_getElem?_getD];cases h:(zN 512)[n / 8]? with
  | none=>rfl
  | some x =>
   have hm:=List.mem_of_getElem? h;unfold zN at hm;exact List.eq_of_mem_replicate hm
 rw [this];exact Nat.zero_testBit _
theorem fK:∀(a n:Nat),a<=4096->de (bp a) n=decide (n<a)
 | 0,n,_=>by rw [bp,zf];simp
 | a+1,n,h=>by
  rw [bp,fj _ _ _ (by rw [dt];omega),fK a n (by omega),fK a a (by omega)];by_cases e:n=a
  ·rw [if_pos e];simp [e]
  ·rw [if_neg e];apply decide_eq_decide.2;omega
theorem lJ (b a z x y:Nat) (ha:a<=4096) (w:World):Calls Tryz.prog 124 #[gd b a z x y] w fun e w'=>∃g,e = .returned (.slice (some ⟨g,0,none⟩) 512 512)/\w.heap.size<=g/\bT w' g (bp a)/\Below w.heap.size w w':=by
 obtain ⟨wa,hwa⟩:∃wa,wa=w.alloc (.cells #[.int .i64 b,.int .i64 a,.int .i64 z,.complex .f64 x y] 207):=⟨_,rfl⟩;have hb0:Below w.heap.size w wa:=by rw [hwa];exact (Below.refl _ w).alloc (Nat.le_refl _) _
 have hbl:wa.heap[w.heap.size]? = some (.cells #[.int .i64 b,.int .i64 a,.int .i64 z,.complex .f64 x y] 207 (0,0)):=by rw [hwa];exact af w _
 have HB0:=hid hb0;have HBl:=hid hbl;have ha':(a:Int)<=4096:=by omega
 clear hb0 hbl;unfold gd;go_enter Tryz.func124,Tryz.ntmps124
 go_wp2_with fail
 rw [<- hwa];clear hwa;refine (fN wa).mono ?_;rintro e w1 ⟨rfl,hz1,hb1⟩;have c1:w1.cell? ⟨w.heap.size,1,none⟩=some (.int .i64 a):=aa (ah hb1 HBl.out (ae HBl.out)) 1;have HZ1:=hid (qs hz1);have HB1:=hid (HB0.out.trans (hb1.mono HB0.out.size));have hsa:=HB0.out.size;obtain ⟨g,hg⟩:∃g,g=wa.heap.size:=⟨_,rfl⟩;rw [<- hg] at HZ1 ⊢;have hgw:w.heap.size<=g:=by omega
 clear hz1 hb1 hsa hg;go_wp2
 go_loopw [8] (fun i wr=>∃k:Nat,k<=a/\i = .int .i64 k/\Hid (bT wr g (bp k))/\Hid (Below w.heap.size w wr)) (fun i _=>a-(intOf i).toNat)
 case atStart=>exact ⟨0,by omega,rfl,HZ1,HB1⟩
 case round =>
  obtain ⟨k,hk,rfl,HR,HB⟩:=hrel;clear HZ1 HB1 c1;by_cases hlt:k<a
  ·have hk0:(0:Int)<=(k:Int):=by omega
   have hlt':(k:Int)<(a:Int):=by omega
   have HFp:=hid (nt g k 512 (bp k) wr HR.out (dt k) (by omega))
   go_wp2_with fail
   refine HFp.out.mono ?_;clear HFp;rintro e w2 ⟨rfl,hr2,hk2⟩;have HR2:Hid (bT w2 g (bp (k+1))):=hr2;have HB2:Hid (Below w.heap.size w w2):=HB.out.trans (hk2.below HB.out.size (fun i e=>by have e':i=g:=e;omega));clear hr2 hk2;go_wp2;exact ⟨⟨k+1,by omega,by go_num,HR2,HB2⟩,by simp [intOf];omega⟩
  ·obtain rfl:k=a:=by omega
   have hge:¬((k:Int)<(k:Int)):=by omega
   go_wp2;go_ret;exact ⟨g,rfl,hgw,HR.out,HB.out⟩
def eF:List UInt8:=[68,85,78,49] ++ (zN 512).drop 4
def gb (pages ino:Nat):List UInt8:=((eF.take 4 ++ beS 4 pages ++ eF.drop 8).take 8 ++ beS 4 ino ++ (eF.take 4 ++ beS 4 pages ++ eF.drop 8).drop 12)
theorem fX:eF.length=512:=by unfold eF;rw [List.length_append,List.length_drop,aO];rfl
theorem fY (n:Nat):(eF.take 4 ++ beS 4 n ++ eF.drop 8).length=512:=by
 rw [List.length_append,List.length_append,List.length_take,List.length_drop,aA,fX];rfl
theorem nW (pages ino:Nat):(gb pages ino).length=512:=by
 unfold gb;rw [List.length_append,List.length_append,List.length_take,List.length_drop,aA,fY];rfl
theorem tV (pages ino:Nat) (hp:pages<=4096) (hi:ino<=4096) (w:World):Calls Tryz.prog 121 #[.int .i64 pages,.int .i64 ino] w fun e w'=>e = .returned (.slice (some ⟨w.heap.size,0,none⟩) 512 512)/\aV w' w.heap.size (gb pages ino)/\Below w.heap.size w w':=by
 go_enter Tryz.func121,Tryz.ntmps121
 go_wp2_with fail
 refine (fN w).mono ?_;rintro e w1 ⟨rfl,hz1,hb1⟩;have HZ1:=hid hz1;have HB1:=hid hb1;obtain ⟨g,hg⟩:∃g,g=w.heap.size:=⟨_,rfl⟩;rw [<- hg] at HZ1;have HG:=hid hg;have hgle:w.heap.size<=g:=by omega
 clear hz1 hb1;rw [<- hg];clear hg
 go_wp2_with (refine gU rfl (.tmp 7) (.const (.string ⟨#[68,85,78,49]⟩)) rfl g 512 (zN 512) ⟨#[68,85,78,49]⟩ rfl rfl HZ1.out (aO 512) (by decide) ?_;intro r2 w2 hr2 hk2;have HB2:=hid (HB1.out.trans (hk2.below HB1.out.size (fun i e=>by have e':i=g:=e;omega)));have HR2:Hid (aV w2 g eF):=hr2;clear hr2 hk2 HZ1 HB1)
 have HPu:=hid (ep g 4 4 508 pages eF w2 HR2.out (by rw [fX];omega) (by rw [fX];omega) (by omega));refine HPu.out.mono ?_;clear HPu;rintro e w3 ⟨rfl,hr3,hk3⟩;have HR3:Hid (aV w3 g (eF.take 4 ++ beS 4 pages ++ eF.drop 8)):=hr3;have HB3:=hid (HB2.out.trans (hk3.below HB2.out.size (fun i e=>by have e':i=g:=e;omega)));have HPv:=hid (ep g 8 4 504 ino _ w3 HR3.out (by rw [fY];omega) (by rw [fY];omega) (by omega));clear hr3 hk3 HR2 HB2
 go_wp2_with fail
 refine HPv.out.mono ?_;clear HPv;rintro e w4 ⟨rfl,hr4,hk4⟩;have HR4:Hid (aV w4 g (gb pages ino)):=hr4;have HB4:=hid (HB3.out.trans (hk4.below HB3.out.size (fun i e=>by have e':i=g:=e;omega)));clear hr4 hk4 HR3 HB3;go_wp2;go_ret;rw [<- HG.out];refine ⟨rfl,HR4.out,?_⟩;rw [HG.out];exact HB4.out
end
section
open Go.RowKit
def jk (N ino k:Nat):List (Nat×List UInt8):=[(0,gb N ino),(1,bp 1),(2,bp (3+ino / 8))] ++ (List.range k).map (fun j=>(3+j,zN 512))
def WPg.key (p:WPg):Nat×List UInt8:=(p.n,p.l)
structure jp (w0 w:World) (ps:List WPg) (N ino k:Nat):Prop where
 keys:ps.map WPg.key=jk N ino k
 rows:∀p∈ps,p.l.length=512/\az w ⟨p.g,0,none⟩ p.l/\w0.heap.size<=p.g
def bQ (ps:List WPg):List Value:=ps.flatMap WPg.cells
theorem pu (ps:List WPg) (p:WPg):bQ (ps ++ [p])=bQ ps ++ [.int .i64 p.n,.slice (some ⟨p.g,0,none⟩) 512 p.cap]:=by simp [bQ,WPg.cells]
theorem jJ:∀(ps:List WPg) (i:Nat) (hi:i<ps.length),(bQ ps)[i*2]? = some (.int .i64 ps[i].n)/\(bQ ps)[i*2+1]? = some (.slice (some ⟨ps[i].g,0,none⟩) 512 ps[i].cap)
 | p :: ps,0,_=>by simp [bQ,WPg.cells]
 | p :: ps,i+1,hi=>by
  have ih:=jJ ps i (by simpa using hi);have e:bQ (p :: ps)=[.int .i64 p.n,.slice (some ⟨p.g,0,none⟩) 512 p.cap] ++ bQ ps:=by simp [bQ,WPg.cells]
  rw [e];refine ⟨?_,?_⟩
  ·rw [show (i+1)*2=i*2+2 by omega,List.getElem?_append_right (by simp),show i*2+2-[Value.int .i64 p.n,.slice (some ⟨p.g,0,none⟩) 512 p.cap].length=i*2 by simp];simpa using ih.1
  ·rw [show (i+1)*2+1=i*2+1+2 by omega,List.getElem?_append_right (by simp),show i*2+1+2-[Value.int .i64 p.n,.slice (some ⟨p.g,0,none⟩) 512 p.cap].length=i*2+1 by simp];simpa using ih.2
theorem jp.below {w0 w w':World} {ps:List WPg} {N ino k:Nat} (h:jp w0 w ps N ino k) (hb:Below w.heap.size w w'):jp w0 w' ps N ino k :=
 ⟨h.keys,fun p hp=>⟨(h.rows p hp).1,fun j hj=>(hb.cell (World.block_lt_of_cell? w _ ((h.rows p hp).2.1 j hj))).trans ((h.rows p hp).2.1 j hj),(h.rows p hp).2.2⟩⟩
theorem jp.len {w0 w:World} {ps:List WPg} {N ino k:Nat} (h:jp w0 w ps N ino k):ps.length=3+k:=by
 have:=congrArg List.length h.keys;simp [jk] at this;omega
theorem yx {w:World} {lo g gp n:Nat} {v:Value} {ps:List WPg} {l:List UInt8} (h:w.ownsRow lo 111 2 v n (bQ ps)) (e:v.ownBlock=some g) (hp:0<ps.length) (hl:az w ⟨gp,0,none⟩ l) (h0:0<l.length):gp≠g:=fun hg=>by
 subst hg;rcases h.2 with ⟨rfl,-⟩ | ⟨g',cap,cur,rfl,-,hh,hn,-,hs,ht⟩
 ·cases e
 ·obtain rfl:g'=gp:=Option.some.inj e;have h1:=hl 0 h0;rw [Addr.add_mid,Nat.zero_add,aa hh] at h1;have h2:=(jJ ps 0 hp).1;rw [<- ht,Nat.zero_mul] at h2;have h3:cur.toList[0]? = some (.int .i64 ps[0].n):=by
   rw [List.getElem?_take] at h2
   split at h2
   ·exact h2
   ·cases h2
  rw [Array.getElem?_toList] at h3;rw [h3] at h1;simp at h1
section
variable {w:World} {m c ino:Nat} {F:Nat->Prop} {size N:Nat} {Pg Cm:Nat->List UInt8} {D:Int->Bool} {o u:Nat}
theorem sI (h:aT w m c ino) (hi:ino<=512) (hp:Pc w c F size N Pg Cm D o u) :
  Calls Tryz.prog 61 #[.pointer (some ⟨m,0,none⟩)] w fun e w'=>∃pb cap ps,e = .returned (.slice (some ⟨pb,0,none⟩) (3+ino / 8) cap)/\w'.ownsRow w.heap.size 111 2 (.slice (some ⟨pb,0,none⟩) (3+ino / 8) cap) (3+ino / 8) (bQ ps)/\jp w w' ps N ino (ino / 8)/\Below w.heap.size w w':=by
 obtain ⟨i0,hi0,hz0,hz1,hz2⟩:=info_parts qt;have HI0:=hid hi0;have hN4:=hp.four;have HPa:=hid (fun W (hW:Below w.heap.size w W)=>lM (h.below hW) (hp.below hW));have HSu:=hid (fun W=>tV N ino hN4 (by omega) W);have HOi:=hid (fun W (hW:Below w.heap.size w W)=>fp (h.below hW));have HOp:=hid (fun W (hW:Below w.heap.size w W)=>fS (h.below hW) hi (hp.below hW));have HAi:=hid (fun W=>lJ 1 1 ino 0 qM (by omega) W);have HAp:=hid (fun W=>lJ 2 (3+ino / 8) N qM 0 (by omega) W);have HFi:=hid (fun W (hW:Below w.heap.size w W)=>iJ (h.below hW) hi);have HC:Hid (∀W,Below w.heap.size w W->W.cell? ⟨m,1,none⟩=some (.int .i64 ino)):=fun W hW=>aa (h.below hW) 1;have hC0:=HC.out w (Below.refl _ _);obtain ⟨f,hf⟩:∃f,f=ino / 8:=⟨_,rfl⟩;rw [<- hf] at HOp HAp HFi ⊢;have hf64:f<=64:=by omega
 have HEk:Hid (∀k,jk N ino k=[(0,gb N ino),(1,bp 1),(2,bp (3+f))] ++ (List.range k).map (fun j=>(3+j,zN 512))):=fun k=>by rw [hf];rfl
 clear h hp hf hi0 hN4;go_enter Tryz.func61,Tryz.ntmps61;go_wp2;refine wp_region_noPanic ?_;refine wp_region_held_drew (S:=fun W=>W.cell? ⟨m,1,none⟩=some (.int .i64 ino)) (by kernel_rfl) hC0 (fun hHeld => ?_);refine tq 0 _ ?_
 try simp only [tS]
 refine tq 2 _ ?_
 try simp only [tS]
 refine tq 3 _ ?_
 try simp only [tS]
 refine tq 4 _ ?_
 try simp only [tS]
 refine tq 5 _ ?_
 try simp only [tS]
 refine tq 8 _ ?_
 try simp only [tS]
 refine tq 12 _ ?_
 try simp only [tS]
 refine tr 1 (fun K hK => ?_);go_simp;refine (HPa.out w.drew ((Below.refl _ w).drew)).mono ?_;rintro e w1 ⟨rfl,hb1⟩;have HB1:Hid (Below w.heap.size w w1):=(Below.refl _ w).drew.trans (hb1.mono (Nat.le_refl _));have hz:=HC.out w1 HB1.out;clear hb1 hC0
 go_wp2_with fail
 refine hK.out _ _ hz (fun hHeld => ?_);clear hK K
 try simp only [tS]
 refine tr 6 (fun K hK => ?_);go_simp;refine (HSu.out w1).mono ?_;rintro e w2 ⟨rfl,hs2,hb2⟩;have HB2:=hid (HB1.out.trans (hb2.mono HB1.out.size));have HS2:=hid hs2;have Hn1:=hid HB1.out.size;obtain ⟨g0,hg0⟩:∃g0,g0=w1.heap.size:=⟨_,rfl⟩;rw [<- hg0] at HS2 Hn1 ⊢;have hz2':=HC.out w2 HB2.out;clear hb2 hs2 hg0 hz
 go_wp2_with fail
 refine hK.out _ _ hz2' (fun hHeld => ?_);clear hK K
 try simp only [tS]
 refine tq 7 _ ?_
 try simp only [tS]
 refine tr 9 (fun K hK => ?_);go_simp;refine (HOi.out w2 HB2.out).mono ?_;rintro e w3 ⟨rfl,hb3⟩;have HB3:=hid (HB2.out.trans (hb3.mono HB2.out.size));have HS3:=hid (HS2.out.below hb3);have hz3:=HC.out w3 HB3.out;clear hb3 hz2' HS2
 go_wp2_with fail
 refine hK.out _ _ hz3 (fun hHeld => ?_);clear hK K
 try simp only [tS]
 refine tr 10 (fun K hK => ?_);go_simp;refine (HAi.out w3).mono ?_;rintro e w4 ⟨g1,rfl,hg1,hr4,hb4⟩;have HB4:=hid (HB3.out.trans (hb4.mono HB3.out.size));have HS4:=hid (HS3.out.below hb4);have HR4:=hid hr4.1;have Hg1:Hid (w.heap.size<=g1):=Nat.le_trans HB3.out.size hg1;have hz4:=HC.out w4 HB4.out;clear hb4 hz3 HS3 hr4 hg1
 go_wp2_with fail
 refine hK.out _ _ hz4 (fun hHeld => ?_);clear hK K
 try simp only [tS]
 refine tq 11 _ ?_
 try simp only [tS]
 refine tr 13 (fun K hK => ?_);go_simp;refine (HOp.out w4 HB4.out).mono ?_;rintro e w5 ⟨rfl,hb5⟩;have HB5:=hid (HB4.out.trans (hb5.mono HB4.out.size));have HS5:=hid (HS4.out.below hb5);have HR5:Hid (az w5 ⟨g1,0,none⟩ (bp 1)):=fun j hj=>(hb5.cell (World.block_lt_of_cell? w4 _ (HR4.out j hj))).trans (HR4.out j hj);have hz5:=HC.out w5 HB5.out;clear hb5 hz4 HS4 HR4
 go_wp2_with fail
 refine hK.out _ _ hz5 (fun hHeld => ?_);clear hK K
 try simp only [tS]
 refine tr 14 (fun K hK => ?_);go_simp;refine (HAp.out w5).mono ?_;rintro e w6 ⟨g2,rfl,hg2,hr6,hb6⟩;have HB6:=hid (HB5.out.trans (hb6.mono HB5.out.size));have HS6:=hid (HS5.out.below hb6);have HR6:Hid (az w6 ⟨g1,0,none⟩ (bp 1)):=fun j hj=>(hb6.cell (World.block_lt_of_cell? w5 _ (HR5.out j hj))).trans (HR5.out j hj);have HT6:=hid hr6.1;have Hg2:Hid (w.heap.size<=g2):=Nat.le_trans HB5.out.size hg2;have hz6:=HC.out w6 HB6.out;clear hb6 hz5 HS5 HR5 hr6 hg2
 go_wp2_with fail
 refine hK.out _ _ hz6 (fun hHeld => ?_);clear hK K
 try simp only [tS]
 refine tq 15 _ ?_
 try simp only [tS]
 refine tr 16 (fun K hK => ?_);go_simp;have hb7:Below w6.heap.size w6 (w6.alloc (.cells #[.int .i64 0,.slice (some ⟨g0,0,none⟩) 512 512,.int .i64 1,.slice (some ⟨g1,0,none⟩) 512 512,.int .i64 2,.slice (some ⟨g2,0,none⟩) 512 512] 111)):=(Below.refl _ w6).alloc (Nat.le_refl _) _;have HB7:=hid (HB6.out.trans (hb7.mono HB6.out.size));have hz7:=HC.out _ HB7.out;have hn6:=HB6.out.size;have HE7:Hid (jp w (w6.alloc (.cells #[.int .i64 0,.slice (some ⟨g0,0,none⟩) 512 512,.int .i64 1,.slice (some ⟨g1,0,none⟩) 512 512,.int .i64 2,.slice (some ⟨g2,0,none⟩) 512 512] 111)) [⟨0,g0,512,gb N ino⟩,⟨1,g1,512,bp 1⟩,⟨2,g2,512,bp (3+f)⟩] N ino 0):=by
  refine ⟨by rw [HEk.out];rfl,fun p hp => ?_⟩;have hcell:∀(g:Nat) (l:List UInt8),az w6 ⟨g,0,none⟩ l->az (w6.alloc (.cells #[.int .i64 0,.slice (some ⟨g0,0,none⟩) 512 512,.int .i64 1,.slice (some ⟨g1,0,none⟩) 512 512,.int .i64 2,.slice (some ⟨g2,0,none⟩) 512 512] 111)) ⟨g,0,none⟩ l:=fun g l hl j hj=>(hb7.cell (World.block_lt_of_cell? w6 _ (hl j hj))).trans (hl j hj);simp only [List.mem_cons,List.mem_nil_iff,or_false] at hp;rcases hp with rfl | rfl | rfl
  ·exact ⟨nW _ _,hcell _ _ HS6.out.at,Hn1.out⟩
  ·exact ⟨dt _,hcell _ _ HR6.out,Hg1.out⟩
  ·exact ⟨dt _,hcell _ _ HT6.out,Hg2.out⟩
 have HO7:Hid ((w6.alloc (.cells #[.int .i64 0,.slice (some ⟨g0,0,none⟩) 512 512,.int .i64 1,.slice (some ⟨g1,0,none⟩) 512 512,.int .i64 2,.slice (some ⟨g2,0,none⟩) 512 512] 111)).ownsRow w.heap.size 111 2 (.slice (some ⟨w6.heap.size,0,none⟩) 3 3) 3 (bQ [⟨0,g0,512,gb N ino⟩,⟨1,g1,512,bp 1⟩,⟨2,g2,512,bp (3+f)⟩])) :=
  ⟨rfl,.inr ⟨w6.heap.size,3,_,rfl,hn6,af w6 _,Nat.le_refl _,by unfold maxLen;omega,rfl,rfl⟩⟩
 clear hb7 hz6 hn6 HS6 HR6 HT6;generalize w6.alloc (.cells #[.int .i64 0,.slice (some ⟨g0,0,none⟩) 512 512,.int .i64 1,.slice (some ⟨g1,0,none⟩) 512 512,.int .i64 2,.slice (some ⟨g2,0,none⟩) 512 512] 111)=w7 at *;generalize w6.heap.size=pb at *;refine hK.out _ _ hz7 (fun hHeld => ?_);clear hK K
 try simp only [tS]
 refine tq 17 _ ?_
 try simp only [tS]
 refine wpAnyH_done (by kernel_rfl) ?_ _;refine NoPanic.normal ?_;clear hHeld hz7 HPa HSu HOi HOp HAi HAp;go_wp2
 go_loopw [3,4] (fun v i wr=>∃(k:Nat) (ps:List WPg),k<=f/\i = .int .i64 ((3+k:Nat):Int)/\Hid (wr.ownsRow w.heap.size 111 2 v (3+k) (bQ ps))/\Hid (jp w wr ps N ino k)/\Hid (Below w.heap.size w wr)) (fun _ i _=>3+f-(intOf i).toNat)
 case atStart=>exact ⟨0,_,by omega,rfl,HO7,HE7,HB7⟩
 case round =>
  obtain ⟨k,ps,hk,rfl,hO,hE,hB⟩:=hrel;clear HO7 HE7 HB7;by_cases hlt:k<f
  ·have hlt':((3+k:Nat):Int)<((3+f:Nat):Int):=by omega
   have HF1:=hid (HFi.out wr hB.out);obtain ⟨n,hn⟩:∃n,n=3+k:=⟨_,rfl⟩;rw [<- hn] at hlt' hO ⊢;have HN:=hid hn;have hn67:n<=67:=by omega
   clear hn;obtain ⟨z,hz⟩:∃z,z=3+f:=⟨_,rfl⟩;rw [<- hz] at hlt' HF1;clear hz
   go_wp2_with fail
   refine HF1.out.mono ?_;clear HF1;rintro e w8 ⟨rfl,h8⟩;obtain rfl:=h8.symm;clear h8
   go_wp2_with fail
   refine (fN wr).mono ?_;rintro e w8 ⟨rfl,hz8,hb8⟩;have HB8:=hid (hB.out.trans (hb8.mono hB.out.size));have hO8:=(ac.of_below hb8:ac (fun _=>False) wr w8).row hO.out (fun _ _ h=>h);have HO8:=hid hO8;have HE8:=hid (hE.out.below hb8);have HZ8:=hid hz8;have hwr:=hB.out.size;obtain ⟨gz,hgz⟩:∃gz,gz=wr.heap.size:=⟨_,rfl⟩;rw [<- hgz] at HZ8 ⊢;have hgzw:w.heap.size<=gz:=by omega
   clear hb8 hO8 hz8 hgz hwr hO hE hB;have hs8:=HB8.out.size
   go_wp2_with (refine wpList_append_lies _ rfl (.tmp 28) (.tmp 32) 101 rfl w.heap.size 111 i0 (.agg #[.int .i64 0,.slice none 0 0]) 2 32 Tryz.underlying101 HI0.out hz0 hz1 hz2 rfl (by omega) u3 n _ rfl (HO8.out.alloc _) ⟨w8.heap.size,0,none⟩ 1 1 [.int .i64 n,.slice (some ⟨gz,0,none⟩) 512 512] rfl rfl (World.news_of_block (cs:=#[.int .i64 n,.slice (some ⟨gz,0,none⟩) 512 512]) (af w8 _)) (by intro u hu;rcases List.mem_cons.1 hu with rfl | hu;rfl;rw [List.mem_singleton.1 hu];rfl) (by omega) (by unfold maxLen;omega) (by omega) (by simp;omega) (w8.heap.size+1) (by simp) ?_;intro g9 cap9 w9 hown hgr hat hlt9;have HOw:=hid hown;have HGr:=hid hgr;clear hown hgr hat hlt9)
   have hnn:=HN.out;have hb9:Below w8.heap.size w8 (w8.alloc (.cells #[.int .i64 n,.slice (some ⟨gz,0,none⟩) 512 512] 111)):=(Below.refl _ w8).alloc (Nat.le_refl _) _;have hk9:ac (fun i=>u3.ownBlock=some i) w8 w9:=(ac.of_below hb9).grown HGr.out (fun i e => .inl e);have hrowpl:∀i,u3.ownBlock=some i->w.heap.size<=i:=fun i e=>(HO8.out.lt i e).1;refine ⟨⟨k+1,ps ++ [⟨n,gz,512,zN 512⟩],by omega,by rw [hnn];go_num,?_,?_,?_⟩,by rw [hnn];simp [intOf];omega⟩
   ·unfold Hid;rw [pu,show 3+(k+1)=n+1 by omega];exact HOw.out
   ·refine ⟨?_,fun p hp => ?_⟩
    ·rw [List.map_append,HE8.out.keys];simp [jk,List.range_succ,WPg.key,hnn]
    ·have hne:∀(gp:Nat) (l:List UInt8),l.length=512->az w8 ⟨gp,0,none⟩ l->az w9 ⟨gp,0,none⟩ l:=fun gp l hl5 hl j hj=>hk9.cell (hl j hj) (fun e=>by
      rw [aJ] at e;exact yx HO8.out e (by rw [HE8.out.len];omega) hl (by omega) rfl)
     rcases List.mem_append.1 hp with hp | hp
     ·exact ⟨(HE8.out.rows p hp).1,hne _ _ (HE8.out.rows p hp).1 (HE8.out.rows p hp).2.1,(HE8.out.rows p hp).2.2⟩
     ·obtain rfl:p=⟨n,gz,512,zN 512⟩:=by simpa using hp
      exact ⟨aO 512,hne _ _ (aO 512) HZ8.out.at,hgzw⟩
   ·exact HB8.out.trans (hk9.below HB8.out.size hrowpl)
  ·obtain rfl:k=f:=by omega
   have HF1:=hid (HFi.out wr hB.out);obtain ⟨n,hn⟩:∃n,n=3+k:=⟨_,rfl⟩;rw [<- hn] at hO HF1 ⊢;have hge:¬((n:Int)<(n:Int)):=by omega
   have HN:=hid hn;clear hn;have hpos:3<=n:=by have:=HN.out;omega
   obtain ⟨pb',cap',hv⟩:∃pb' cap',u3 = .slice (some ⟨pb',0,none⟩) n cap':=by
    rcases hO.out.2 with ⟨-,h0⟩ | ⟨g,cp,cur,e,-⟩
    ·omega
    ·exact ⟨g,cp,e⟩
   subst hv
   go_wp2_with fail
   refine HF1.out.mono ?_;clear HF1;rintro e w8 ⟨rfl,h8⟩;obtain rfl:=h8.symm;clear h8;go_wp2;go_ret;rw [<- HN.out];exact ⟨pb',cap',ps,rfl,hO.out,hE.out,hB.out⟩
end
end
section
open Go.RowKit
def og (Pg:Nat->List UInt8) (ks:List (Nat×List UInt8)):Nat->List UInt8:=ks.foldl (fun f p=>bf f p.1 p.2) Pg
def rG (D:Int->Bool) (ks:List (Nat×List UInt8)):Int->Bool:=ks.foldl (fun f p=>br f (p.1:Int)) D
theorem oY:∀(ps:List WPg) (Pg:Nat->List UInt8),qU Pg ps=og Pg (ps.map WPg.key)
 | [],_=>rfl
 | p :: ps,Pg=>oY ps (bf Pg p.n p.l)
theorem oH:∀(ps:List WPg) (D:Int->Bool),jj D ps=rG D (ps.map WPg.key)
 | [],_=>rfl
 | p :: ps,D=>oH ps (br D (p.n:Int))
theorem yJ {N ino k:Nat} {x:Nat×List UInt8} (h:x∈jk N ino k):x.1<3+k:=by
 simp only [jk,List.cons_append,List.nil_append,List.mem_cons,List.mem_map,List.mem_range] at h;rcases h with rfl | rfl | rfl | ⟨j,hj,rfl⟩
 ·show 0<3+k;omega
 ·show 1<3+k;omega
 ·show 2<3+k;omega
 ·show 3+j<3+k;omega
section
variable {w:World} {m c ino:Nat} {F:Nat->Prop} {size N:Nat} {Pg Cm:Nat->List UInt8} {D:Int->Bool} {o u:Nat}
theorem jp.wpgs {w0 w:World} {ps:List WPg} {k pb cap:Nat} (h:jp w0 w ps N ino k) (hr:w.ownsRow w0.heap.size 111 2 (.slice (some ⟨pb,0,none⟩) (3+k) cap) (3+k) (bQ ps)) (hF:∀i,F i->i<w0.heap.size) (hN:3+k<=N):l6 w pb ps F N:=by
 have hl:=h.len;refine ⟨fun i hi => ?_,fun _ hf => ?_,fun p hp => ?_⟩
 ·obtain ⟨h1,h2⟩:=jJ ps i hi;rcases hr.2 with ⟨e,-⟩ | ⟨g,cp,cur,e,-,hh,hn,-,hs,ht⟩
  ·cases e
  ·obtain ⟨rfl,rfl⟩:pb=g/\cap=cp:=by simpa using e
   have hc:∀j v,(bQ ps)[j]? = some v->w.cell? ⟨pb,j,none⟩=some v:=fun j v hv=>by
    rw [<- ht,List.getElem?_take] at hv
    split at hv
    ·rw [aa hh, <- Array.getElem?_toList];exact hv
    ·cases hv
   exact ⟨hc _ _ h1,hc _ _ h2⟩
 ·have h1:=(hr.lt pb rfl).1;have h2:=hF _ hf;omega
 ·have hk:p.key∈jk N ino k:=by rw [<- h.keys];exact List.mem_map.2 ⟨p,hp,rfl⟩
  have h1:=yJ hk;have h2:=h.rows p hp;exact ⟨by show p.n<N;have h3:p.n<3+k:=h1;omega,h2.1,h2.2.1,fun hf=>by have:=hF _ hf;have:=h2.2.2;omega⟩
def zO (w:World) (c:Nat) (F:Nat->Prop) (size N:Nat) (Pg Cm:Nat->List UInt8) (D:Int->Bool) (o u:Nat) (ino:Int) (e:Ending) (w':World):Prop :=
 ac F w w'/\((¬jg N ino/\e = .returned (.tuple #[.pointer none,.int .i64 2])/\Pc w' c F size N Pg Cm D o u) \/
  ∃n:Nat,ino=(n:Int)/\jg N ino/\((min size 100<(dkD N D).length+(3+n / 8)/\e = .returned (.tuple #[.pointer none,.int .i64 7])/\Pc w' c F size N Pg Cm D o u) \/
   ((dkD N D).length+(3+n / 8)<=min size 100/\∃m,w.heap.size<=m/\¬F m/\aT w' m c n/\e = .returned (.tuple #[.pointer (some ⟨m,0,none⟩),.int .i64 0])/\Pc w' c F size N (og Pg (jk N n (n / 8))) Cm (rG D (jk N n (n / 8))) o u)))
theorem uY (ino:Int) (hp:Pc w c F size N Pg Cm D o u):Calls Tryz.prog 20 #[.pointer (some ⟨c,0,none⟩),.int .i64 ino] w (zO w c F size N Pg Cm D o u ino):=by
 obtain ⟨p,hl1,hl2⟩:=hp.logPages;have hN4:=hp.four;have HL1:=hid hl1;have HL2:=hid hl2;have HMb:=hid (fun W=>sW N ino hN4 W);have HP:=hid hp;have HFl:=hid hp.lt;have hkl:=hp.keysLen;obtain ⟨K,hK⟩:∃K,K=(dkD N D).length:=⟨_,rfl⟩;have HK:=hid hK;obtain ⟨Z,hZ⟩:∃Z,Z=min size 100:=⟨_,rfl⟩;have hZ1:Z<=100:=by omega
 have HZ:=hid hZ;rw [<- hK, <- hZ] at hkl;clear hp hl1 hl2 hK hZ hN4;by_cases hmay:jg N ino
 ·rw [decide_eq_true hmay] at HMb;have HMay:=hid hmay;obtain ⟨n,rfl⟩:∃n:Nat,ino=(n:Int):=⟨ino.toNat,by have:=hmay.1;omega⟩;have hn5:n<=512:=by have:=hmay.2.1;omega
  have hfN:3+n / 8<=N:=by have:=hmay.2.2.2.1;omega
  clear hmay;go_enter Tryz.func20,Tryz.ntmps20
  go_wp2_with fail
  refine HL1.out.mono ?_;clear HL1;rintro e w1 ⟨rfl,h1⟩;obtain rfl:=h1.symm;clear h1
  go_wp2_with fail
  refine HL2.out.mono ?_;clear HL2;rintro e w1 ⟨rfl,hb1⟩;have HB1:=hid hb1;clear hb1
  go_wp2_with fail
  refine (HMb.out w1).mono ?_;clear HMb;rintro e w2 ⟨rfl,h2⟩;obtain rfl:=h2.symm;clear h2;obtain ⟨wm,hwm⟩:∃wm,wm=w1.alloc (.cells #[.pointer (some ⟨c,0,none⟩),.int .i64 n] 100):=⟨_,rfl⟩;have hbm:Below w1.heap.size w1 wm:=by rw [hwm];exact (Below.refl _ w1).alloc (Nat.le_refl _) _
  have hmb:aT wm w1.heap.size c n:=by rw [hwm];exact af w1 _
  have HBm:=hid (HB1.out.trans (hbm.mono HB1.out.size));have HMm:=hid hmb;have hR:=(HP.out.below HBm.out).roomC;rw [<- HZ.out, <- HK.out] at hR;have HR:=hid hR;have HmF:Hid (¬F w1.heap.size):=fun hf=>by have:=HFl.out _ hf;have:=HB1.out.size;omega
  have HSm:=hid HB1.out.size;obtain ⟨mb,hmbE⟩:∃mb,mb=w1.heap.size:=⟨_,rfl⟩;rw [<- hmbE] at HMm HmF HSm;clear hbm hmb hR
  go_wp2_with fail
  rw [<- hwm, <- hmbE];clear hwm hmbE;refine HR.out.mono ?_;clear HR;rintro e w3 ⟨rfl,hb3⟩;have HB3:=hid (HBm.out.trans (hb3.mono HBm.out.size));have HM3:=hid (HMm.out.below hb3);have HFi:=hid (iJ HM3.out hn5);have HEm:=hid (sI HM3.out hn5 (HP.out.below HB3.out));obtain ⟨f,hf⟩:∃f,f=n / 8:=⟨_,rfl⟩;rw [<- hf] at HFi HEm hfN;have HF:=hid hf;clear hb3 hf;have hff:f<=64:=by have:=HF.out;omega
  go_wp2_with fail
  refine HFi.out.mono ?_;clear HFi;rintro e w4 ⟨rfl,h4⟩;obtain rfl:=h4.symm;clear h4;by_cases hfull:Z<K+(3+f)
  ·have hlt:(Z:Int)-(K:Int)<((3+f:Nat):Int):=by omega
   obtain ⟨ff,hffE⟩:∃ff,ff=3+f:=⟨_,rfl⟩;rw [<- hffE] at hlt ⊢;clear hffE;go_wp2;go_returns;refine ⟨ac.of_below HB3.out,.inr ⟨n,rfl,HMay.out,.inl ⟨?_,rfl,HP.out.below HB3.out⟩⟩⟩;rw [<- HK.out, <- HZ.out, <- HF.out];exact hfull
  ·have hlt:¬((Z:Int)-(K:Int)<((3+f:Nat):Int)):=by omega
   obtain ⟨ff,hffE⟩:∃ff,ff=3+f:=⟨_,rfl⟩;rw [<- hffE] at hlt HEm ⊢;have HFF:=hid hffE;clear hffE
   go_wp2_with fail
   refine HEm.out.mono ?_;clear HEm;rintro e w5 ⟨pb,cap,ps,rfl,hrow,hE,hb5⟩;have hB5:=HB3.out.trans (hb5.mono HB3.out.size);have HB5:=hid hB5;have hrow':w5.ownsRow w3.heap.size 111 2 (.slice (some ⟨pb,0,none⟩) (3+f) cap) (3+f) (bQ ps):=by rw [<- HFF.out];exact hrow
   have hF3:∀i,F i->i<w3.heap.size:=fun i hi=>Nat.lt_of_lt_of_le (HFl.out i hi) HB3.out.size;have hws:=hE.wpgs (F:=F) hrow' hF3 hfN;have hlen:ps.length=ff:=by rw [hE.len,HFF.out]
   have hwr:=fd (HM3.out.below hb5) HmF.out pb ps hws cap (by rw [hlen,HFF.out];omega) (by rw [hlen,HFF.out];omega) (HP.out.below hB5);rw [hlen] at hwr;have HWr:=hid hwr;have HKe:=hid hE.keys;have HM5:=hid (HM3.out.below hb5);have HLn:=hid hlen;clear hb5 hB5 hrow hrow' hF3 hws hwr hE hlen
   go_wp2_with fail
   refine HWr.out.mono ?_;clear HWr;rintro e w6 ⟨hk6,hw6⟩;have HK6:=hid ((ac.of_below HB5.out:ac F w w5).trans hk6 (fun i e => .inl e));have HM6:Hid (aT w6 mb c n):=HM5.out.keep hk6 HmF.out;have hncl:newC D ps<=ff:=by rw [<- HLn.out];exact List.length_filter_le _ _
   clear hk6;rcases hw6 with ⟨hf6,rfl,hp6⟩ | ⟨hf6,rfl,hp6⟩
   ·exfalso;have h1:=HK.out;have h2:=HZ.out;have h3:=HFF.out;omega
   ·have HP6:=hid hp6;clear hp6 hf6;go_wp2;go_returns;refine ⟨HK6.out,.inr ⟨n,rfl,HMay.out,.inr ⟨?_,mb,HSm.out,HmF.out,HM6.out,rfl,?_⟩⟩⟩
    ·rw [<- HK.out, <- HZ.out, <- HF.out];omega
    ·have h1:=HP6.out;rw [oY,oH,HKe.out,HF.out] at h1;exact h1
 ·rw [decide_eq_false hmay] at HMb;have HMay:=hid hmay;clear hmay;go_enter Tryz.func20,Tryz.ntmps20
  go_wp2_with fail
  refine HL1.out.mono ?_;clear HL1;rintro e w1 ⟨rfl,h1⟩;obtain rfl:=h1.symm;clear h1
  go_wp2_with fail
  refine HL2.out.mono ?_;clear HL2;rintro e w1 ⟨rfl,hb1⟩;have HB1:=hid hb1;clear hb1
  go_wp2_with fail
  refine (HMb.out w1).mono ?_;clear HMb;rintro e w2 ⟨rfl,h2⟩;obtain rfl:=h2.symm;clear h2;go_wp2;go_returns;exact ⟨ac.of_below HB1.out,.inl ⟨HMay.out,rfl,HP.out.below HB1.out⟩⟩
end
end
section
open Go.RowKit
end
section
set_option maxRecDepth 100000
set_option maxHeartbeats 4000000
open Go.RowKit Go.Shelf
attribute [local go_sem] Oper.semAt_some
def bw (L:List UInt8) (a z n:Nat):Bool:=decide (a<=n/\n<z) && !de L n
def ax (L:List UInt8) (a z k:Nat):List Nat:=(List.range k).filter (bw L a z)
theorem jL {L:List UInt8} {a z k:Nat} (h:bw L a z k=true):ax L a z (k+1)=ax L a z k ++ [k]:=by
 unfold ax;rw [List.range_succ,List.filter_append];simp [h]
theorem gw {L:List UInt8} {a z k:Nat} (h:bw L a z k=false):ax L a z (k+1)=ax L a z k:=by
 unfold ax;rw [List.range_succ,List.filter_append];simp [h]
theorem tC (L:List UInt8) (a z k:Nat):(ax L a z k).length<=k:=by
 unfold ax;exact Nat.le_trans (List.length_filter_le _ _) (by simp)
theorem nK {L:List UInt8} {a z k:Nat} (h:z<=k):∀d,ax L a z (k+d)=ax L a z k
 | 0=>rfl
 | d+1=>by
  rw [show k+(d+1)=(k+d)+1 by omega,gw,nK h d];unfold bw;rw [decide_eq_false (fun hh=>by omega)];rfl
theorem fR {Q:Exit->Act->World->Prop} {a:Act} {w:World} (h:Q .normal a w):Exit.noGoto Q .normal a w:=h
theorem wo (n:Nat) (hn:2<=n) (l bb kb g cap a z:Nat) (G:Nat->Prop) (L:List UInt8) (hL:L.length=512) (hz:z<=4096) (hbn:¬G bb) (hkn:¬G kb) (hgn:¬G g) (J Jx:List Nat->World->Prop)
  (hY:∀pre (x:Nat) W,x<4096->J pre W->pre.length<z->YieldAt Fence.wide (n-1) Tryz.prog l #[.int .i64 (x:Int)] W fun e W' =>
   (e = .returned (.bool true)/\J (pre ++ [x]) W'/\ac G W W')\/(e = .returned (.bool false)/\Jx (pre ++ [x]) W'))
  (W:World) (hbb:W.cell? ⟨bb,0,none⟩=some (.slice (some ⟨g,0,none⟩) 512 cap)) (hk1:W.cell? ⟨kb,1,none⟩=some (.int .i64 a)) (hk2:W.cell? ⟨kb,2,none⟩=some (.int .i64 z)) (hby:az W ⟨g,0,none⟩ L) (h0:J [] W) :
  CallsIn Fence.wide n Tryz.prog 220 #[.func (.yield l) #[] #[],.pointer (some ⟨bb,0,none⟩),.pointer (some ⟨kb,0,none⟩)] W fun e W'=>(∃v,e = .returned v) /\
   ((∃ys,ys=ax L a z 4096/\J ys W')\/(∃pre,(∃q,bw L a z q=true/\q<4096/\pre=ax L a z q ++ [q])/\Jx pre W')):=by
 have HY:=hid hY;have HC:Hid (∀wr,ac G W wr->wr.cell? ⟨bb,0,none⟩=some (.slice (some ⟨g,0,none⟩) 512 cap)/\wr.cell? ⟨kb,1,none⟩=some (.int .i64 a)/\wr.cell? ⟨kb,2,none⟩=some (.int .i64 z)):=fun wr hb=>⟨hb.cell hbb hbn,hb.cell hk1 hkn,hb.cell hk2 hkn⟩;have HS:Hid (∀wr q,ac G W wr->q<4096->CallsIn (Fence.wide) (n-1) Tryz.prog 221 #[.slice (some ⟨g,0,none⟩) 512 cap,.int .i64 (q:Nat)] wr fun e w'=>e = .returned (.bool (de L q))/\w'=wr):=fun wr q hb hq =>
  callsIn_wide.2 (kZ g q cap L wr (fun j hj=>hb.cell (hby j hj) (by rw [aJ];exact hgn)) hL hq)
 have HJ0:=hid h0;clear hY hk1 hk2 hby h0;have hf9:Fence.wide.fn 221:=trivial;have h1n:1<=n:=by omega
 refine callsIn_of_wp Tryz.func220 rfl trivial ?_ rfl;simp only [Tryz.ntmps220,List.size_toArray,List.length_cons,List.length_nil,Nat.reduceAdd,Nat.reduceSub,Array.replicate_succ,Array.replicate_zero,List.push_toArray,List.append_toArray,List.nil_append,List.cons_append];refine wpIn_wide.2 (wp_scope_straight ((wpIn_wide (n:=n)).1 ?_))
 gi_wp2
 refine wpIn_label ?_
 gi_wp2
 clear hbb
 gi_loopw [8] (fun i wr=>∃k:Nat,k<=512/\i = .int .i64 k/\Hid (J (ax L a z (8*k)) wr)/\Hid (ac G W wr)) (fun i _=>512-(intOf i).toNat)
 case atStart=>exact ⟨0,by omega,rfl,HJ0,ac.refl _ _⟩
 case round =>
  obtain ⟨k,hk,rfl,HJ,HB⟩:=hrel;clear HJ0;by_cases hlt:k<512
  ·have hlt':(k:Int)<512:=by omega
   have hk0:(0:Int)<=(k:Int):=by omega
   gi_wp2
   gi_loopw [5] (fun i wi=>∃q:Nat,8*k<=q/\q<=8*k+8/\i = .int .i64 q/\Hid (J (ax L a z q) wi)/\Hid (ac G W wi)) (fun i _=>8*k+8-(intOf i).toNat)
   case atStart=>exact ⟨8*k,by omega,by omega,by go_num,HJ,HB⟩
   case round =>
    obtain ⟨q,hq1,hq2,rfl,HJq,HBq⟩:=hrel;clear HJ HB;obtain ⟨cb,ck1,ck2⟩:=HC.out wr HBq.out;by_cases hqe:q<8*k+8
    ·have hqe':(q:Int)<8*(k:Int)+8:=by omega
     by_cases hzq:z<=q
     ·have hzq':(z:Int)<=(q:Int):=by omega
      have he:ax L a z 4096=ax L a z q:=by
       have:=nK (L:=L) (a:=a) hzq (4096-q)
       rwa [show q+(4096-q)=4096 by omega] at this
      have HE:Hid (J (ax L a z 4096) wr):=by rw [he];exact HJq
      clear he
      gi_wp2
      refine fR ?_
      go_end0
      exact ⟨⟨_,rfl⟩,.inl ⟨_,rfl,HE.out⟩⟩
     ·have hzq':¬((z:Int)<=(q:Int)):=by omega
      by_cases haq:a<=q
      ·have haq':(a:Int)<=(q:Int):=by omega
       have hSq:=HS.out wr q HBq.out (by omega);cases hbit:de L q with
       | true =>
        rw [hbit] at hSq;have HSq:=hid hSq;have hno:bw L a z q=false:=by unfold bw;rw [hbit];simp
        have HJ2:Hid (J (ax L a z (q+1)) wr):=by rw [gw hno];exact HJq
        clear hSq hno
        gi_wp2_with (gi_at_call 221;refine HSq.out.mono ?_;rintro e w9 ⟨rfl,h9⟩;obtain rfl:=h9.symm;clear h9)
        refine ⟨fun _ h=>(by cases h),?_⟩
        gi_wp2
        go_roundw
        case rel=>exact ⟨q+1,by omega,by omega,by go_num,HJ2,HBq⟩
        case measure=>simp [intOf];omega
       | false =>
        rw [hbit] at hSq;have HSq:=hid hSq;have hyes:bw L a z q=true:=by unfold bw;rw [hbit,decide_eq_true ⟨haq,by omega⟩];rfl
        have HYes:=hid hyes;obtain ⟨fn,tmps,assign,body,hy,hR⟩:=HY.out _ q wr (by omega) HJq.out (Nat.lt_of_le_of_lt (tC _ _ _ _) (by omega));have HR:=hid hR;clear hSq hyes hR
        gi_wp2_with (gi_at_call 221;refine HSq.out.mono ?_;rintro e w9 ⟨rfl,h9⟩;obtain rfl:=h9.symm;clear h9)
        refine HR.out.mono ?_;rintro e W3 (⟨rfl,hJ3,hk3⟩ | ⟨rfl,hJx3⟩)
        ·have HJ3:Hid (J (ax L a z (q+1)) W3):=by rw [jL HYes.out];exact hJ3
         have HB3:=hid (HBq.out.trans hk3 (fun i e => .inl e));clear hJ3 hk3
         gi_wp2
         go_roundw
         case rel=>exact ⟨q+1,by omega,by omega,by go_num,HJ3,HB3⟩
         case measure=>simp [intOf];omega
        ·have HX:=hid hJx3;clear hJx3
         gi_wp2
         refine fR ?_
         go_end0
         exact ⟨⟨_,rfl⟩,.inr ⟨_,⟨q,HYes.out,by omega,rfl⟩,HX.out⟩⟩
      ·have haq':¬((a:Int)<=(q:Int)):=by omega
       have hno:bw L a z q=false:=by unfold bw;rw [decide_eq_false (fun h=>haq h.1)];rfl
       have HJ2:Hid (J (ax L a z (q+1)) wr):=by rw [gw hno];exact HJq
       clear hno
       gi_wp2
       refine ⟨fun _ h=>(by cases h),?_⟩
       gi_wp2
       go_roundw
       case rel=>exact ⟨q+1,by omega,by omega,by go_num,HJ2,HBq⟩
       case measure=>simp [intOf];omega
    ·obtain rfl:q=8*k+8:=by omega
     have hqe':¬(((8*k+8:Nat):Int)<8*(k:Int)+8):=by omega
     gi_wp2
     go_roundw
     case rel=>exact ⟨k+1,by omega,by go_num,HJq,HBq⟩
     case measure=>simp [intOf];omega
  ·obtain rfl:k=512:=by omega
   gi_wp2
   refine fR ?_
   go_end0
   exact ⟨⟨_,rfl⟩,.inl ⟨_,rfl,HJ.out⟩⟩
theorem dF {G:Nat->Prop} {A B C:World} (h:ac G A B) (k:ac G B C):ac G A C:=h.trans k (fun _ e => .inl e)
theorem dI {G:Nat->Prop} {w:World} (hG:∀i,w.heap.size<=i->G i) (W:World) (l:Nat) (o o':Obj) (hl:w.heap.size<=l) (_:W.heap[l]? = some o) (_:o.isCells=false) (_:o.isWalk=false):ac G W (W.putObj l o') :=
 ac.of_grown (grownBy_putObj' W l o') (fun i e=>by cases e;exact hG _ hl)
end
section
set_option maxRecDepth 100000
set_option maxHeartbeats 4000000
open Go.RowKit Go.Shelf
attribute [local go_sem] Oper.semAt_some
theorem nC (L:List UInt8) (a z k:Nat):∀d,∃t,ax L a z (k+d)=ax L a z k ++ t
 | 0=>⟨[],by simp⟩
 | d+1=>by
  obtain ⟨t,ht⟩:=nC L a z k d;rw [show k+(d+1)=(k+d)+1 by omega];cases h:bw L a z (k+d) with
  | true=>exact ⟨t ++ [k+d],by rw [jL h,ht,List.append_assoc]⟩
  | false=>exact ⟨t,by rw [gw h,ht]⟩
theorem lT {L:List UInt8} {a z q:Nat} (h1:ax L a z q=[]) (h2:bw L a z q=true) (hq:q<4096):∃rest,ax L a z 4096=q :: rest:=by
 obtain ⟨t,ht⟩:=nC L a z (q+1) (4096-(q+1));rw [show q+1+(4096-(q+1))=4096 by omega,jL h2,h1] at ht;exact ⟨t,ht⟩
theorem vS (b a z x y g cap:Nat) (w:World):Calls Tryz.prog 186 #[gd b a z x y,.slice (some ⟨g,0,none⟩) 512 cap] w fun e w'=>e = .returned (.func (.func 220) #[] #[.pointer (some ⟨w.heap.size+1,0,none⟩),.pointer (some ⟨w.heap.size,0,none⟩)])/\w'=(w.alloc (.cells #[.int .i64 b,.int .i64 a,.int .i64 z,.complex .f64 x y] 207)).alloc (.cells #[.slice (some ⟨g,0,none⟩) 512 cap] 76):=by
 unfold gd;go_enter Tryz.func186,Tryz.ntmps186;go_wp2;go_ret;exact ⟨by simp,rfl⟩
theorem rL (n:Nat) (hn:2<=n) (bb kb g cap a z:Nat) (G:Nat->Prop) (L:List UInt8) (hL:L.length=512) (hz:z<=4096) (w:World) (hbn:¬G bb) (hkn:¬G kb) (hgn:¬G g)
  (hbb:w.cell? ⟨bb,0,none⟩=some (.slice (some ⟨g,0,none⟩) 512 cap)) (hk1:w.cell? ⟨kb,1,none⟩=some (.int .i64 a)) (hk2:w.cell? ⟨kb,2,none⟩=some (.int .i64 z)) (hby:az w ⟨g,0,none⟩ L) :
  SeqStopsK Fence.wide n Tryz.prog 220 #[.pointer (some ⟨bb,0,none⟩),.pointer (some ⟨kb,0,none⟩)] (fun x:Fin 4096=>#[Value.int .i64 ((x.val:Nat):Int)]) (ac G) (fun ys=>ys.map Fin.val=ax L a z 4096) (fun pre=>∃q,bw L a z q=true/\q<4096/\pre.map Fin.val=ax L a z q ++ [q]) z w:=fun l J Jx W hW _ _ hY h0=>by
 have hb:ac (fun _=>False) w W:=ac.of_below hW;refine (wo n hn l bb kb g cap a z G L hL hz hbn hkn hgn (fun pre W=>∃p,p.map Fin.val=pre/\J p W) (fun pre W=>∃p,p.map Fin.val=pre/\Jx p W) (fun pre x W1 hx hJ hl => ?_) W (hb.cell hbb (fun h=>h)) (hb.cell hk1 (fun h=>h)) (hb.cell hk2 (fun h=>h)) (fun j hj=>hb.cell (hby j hj) (fun h=>h)) ⟨[],rfl,h0⟩).mono ?_
 ·obtain ⟨p,rfl,hJ⟩:=hJ;obtain ⟨fn,tmps,assign,body,hy,hR⟩:=hY p ⟨x,hx⟩ W1 hJ (by rwa [List.length_map] at hl);refine ⟨fn,tmps,assign,body,hy,hR.mono ?_⟩;rintro e W' (⟨rfl,h1,h2⟩ | ⟨rfl,h1⟩)
  ·exact .inl ⟨rfl,⟨_,by rw [List.map_append];rfl,h1⟩,h2⟩
  ·exact .inr ⟨rfl,⟨_,by rw [List.map_append];rfl,h1⟩⟩
 ·rintro e W' ⟨he,⟨ys,rfl,p,hp,hj⟩ | ⟨pre,⟨q,hq1,hq2,rfl⟩,p,hp,hj⟩⟩
  ·exact ⟨he,.inl ⟨p,hp,hj⟩⟩
  ·exact ⟨he,.inr ⟨p,⟨q,hq1,hq2,hp⟩,hj⟩⟩
theorem jS {w:World} {tmps:Array Value} {b1 b2 b3:Nat} {x y z t:Value} (h1:tmps.getD 4 undef = .pointer (some ⟨b1,0,none⟩)) (h2:tmps.getD 5 undef = .pointer (some ⟨b2,0,none⟩)) (h3:tmps.getD 6 undef = .pointer (some ⟨b3,0,none⟩))
  (r1:w.heap[b1]? = some (.cells #[x] 3 (0,0))) (r2:w.heap[b2]? = some (.cells #[y,z] 111 (0,0))) (r3:w.heap[b3]? = some (.cells #[t] 31 (0,0))) :
  (results Tryz.f127 tmps).run Tryz.prog w = .ok (.tuple #[x,.agg #[y,z],t]) w:=by
 have c1:w.cell? ⟨b1,0,none⟩=some x:=aa r1 0;have c3:w.cell? ⟨b3,0,none⟩=some t:=aa r3 0;have c2:w.cell? ⟨b2,0,none⟩=some y:=aa r2 0;have c4:w.cell? ⟨b2,1,none⟩=some z:=aa r2 1;have h1':tmps[4]?.getD undef = .pointer (some ⟨b1,0,none⟩):=by simpa using h1
 have h2':tmps[5]?.getD undef = .pointer (some ⟨b2,0,none⟩):=by simpa using h2
 have h3':tmps[6]?.getD undef = .pointer (some ⟨b3,0,none⟩):=by simpa using h3
 simp only [results,Tryz.results127];simp [go_sem,h1',h2',h3',asAddr,c1,c2,c3,c4]
structure oG (w w1 wD:World) (g cap b q:Nat) (L:List UInt8) (W:World):Prop where
 row:bT W g (flipL L q)
 r1:W.heap[w.heap.size+1]? = some (.cells #[.int .i64 q] 3 (0,0))
 r2:W.heap[w.heap.size+1+1]? = some (.cells #[.int .i64 b,.slice (some ⟨g,0,none⟩) 512 cap] 111 (0,0))
 r3:W.heap[w.heap.size+1+1+1]? = some (.cells #[.int .i64 0] 31 (0,0))
 keep:ac (fun i=>i=g\/i=w.heap.size+1\/i=w.heap.size+1+1\/i=w.heap.size+1+1+1) wD W
theorem oG.own {w w1 wD A B:World} {g cap b q:Nat} {L:List UInt8} {row:Option Nat} (h:oG w w1 wD g cap b q L A) (hw:w.heap.size+1+1+1<wD.heap.size) (hg:g<wD.heap.size) (hgr:A.grownBy B row) (hr:∀r,row=some r->wD.heap.size<=r):oG w w1 wD g cap b q L B:=by
 have hne:∀i,i<wD.heap.size->row≠some i:=fun i hi e=>by have:=hr i e;omega
 exact ⟨h.row.keep (ac.of_grown hgr (F:=fun i=>row=some i) (fun i e=>e)) (hne g hg),aw hgr h.r1 (hne _ (by omega)),aw hgr h.r2 (hne _ (by omega)),aw hgr h.r3 (hne _ (by omega)),h.keep.grown hgr (fun i e => .inr (hr i e))⟩
theorem yo {w w1 wD W W2:World} {g cap b q:Nat} {L:List UInt8} (hw:w.heap.size+1+1+1<wD.heap.size) (hgw:w.heap.size+1+1+1<g) (hg:g<wD.heap.size) (hk:ac (fun i=>i=g) W W2) (hkD:ac (fun i=>i=g) wD W2) (hr:bT W2 g (flipL L q))
  (v1:W2.heap[w.heap.size+1]? = some (.cells #[.int .i64 0] 3 (0,0))) (v2:W2.heap[w.heap.size+1+1]? = some (.cells #[.int .i64 0,.slice none 0 0] 111 (0,0))) (v3:W2.heap[w.heap.size+1+1+1]? = some (.cells #[.int .i64 0] 31 (0,0))) :
  KeepsFrom wD.heap.size W ((((W2.setCell ⟨w.heap.size+1,0,none⟩ (.int .i64 (q:Int))).setCell ⟨w.heap.size+1+1,0,none⟩ (.int .i64 b)).setCell ⟨w.heap.size+1+1,1,none⟩ (.slice (some ⟨g,0,none⟩) 512 cap)).setCell ⟨w.heap.size+1+1+1,0,none⟩ (.int .i64 0)).drew /\
  oG w w1 wD g cap b q L ((((W2.setCell ⟨w.heap.size+1,0,none⟩ (.int .i64 (q:Int))).setCell ⟨w.heap.size+1+1,0,none⟩ (.int .i64 b)).setCell ⟨w.heap.size+1+1,1,none⟩ (.slice (some ⟨g,0,none⟩) 512 cap)).setCell ⟨w.heap.size+1+1+1,0,none⟩ (.int .i64 0)).drew:=by
 have k4:ac (fun i=>i=w.heap.size+1\/i=w.heap.size+1+1\/i=w.heap.size+1+1+1) W2 ((((W2.setCell ⟨w.heap.size+1,0,none⟩ (.int .i64 (q:Int))).setCell ⟨w.heap.size+1+1,0,none⟩ (.int .i64 b)).setCell ⟨w.heap.size+1+1,1,none⟩ (.slice (some ⟨g,0,none⟩) 512 cap)).setCell ⟨w.heap.size+1+1+1,0,none⟩ (.int .i64 0)).drew :=
  (((((ac.refl _ W2).grown (ak (ar _ _) _ _) (fun i e => .inl (.inl (Option.some.inj e).symm))).grown (ak (ar _ _) _ _) (fun i e => .inl (.inr (.inl (Option.some.inj e).symm)))).grown (ak (ar _ _) _ _) (fun i e => .inl (.inr (.inl (Option.some.inj e).symm)))).grown (ak (ar _ _) _ _) (fun i e => .inl (.inr (.inr (Option.some.inj e).symm)))).drew
 have hr4:=hr.keep k4 (by omega);refine ⟨⟨Nat.le_trans hk.size k4.size,fun i ob hi ho _=>k4.heap (hk.heap ho (by omega)) (by omega)⟩,hr4,?_,?_,?_,?_⟩
 ·refine (al _ _ (by omega)).trans ((al _ _ (by omega)).trans ((al _ _ (by omega)).trans (ap v1 0 _)))
 ·refine (al _ _ (by omega)).trans ?_;have h1:=(al (w:=W2) (b:=w.heap.size+1) (k:=w.heap.size+1+1) 0 (.int .i64 (q:Int)) (by omega)).trans v2;exact ap (ap h1 0 (.int .i64 b)) 1 _
 ·have h1:=(al (w:=W2) (b:=w.heap.size+1) (k:=w.heap.size+1+1+1) 0 (.int .i64 (q:Int)) (by omega)).trans v3;have h2:=(al (w:=W2.setCell ⟨w.heap.size+1,0,none⟩ (.int .i64 (q:Int))) (b:=w.heap.size+1+1) (k:=w.heap.size+1+1+1) 0 (.int .i64 b) (by omega)).trans h1;have h3:=(al (w:=(W2.setCell ⟨w.heap.size+1,0,none⟩ (.int .i64 (q:Int))).setCell ⟨w.heap.size+1+1,0,none⟩ (.int .i64 b)) (b:=w.heap.size+1+1) (k:=w.heap.size+1+1+1) 1 (.slice (some ⟨g,0,none⟩) 512 cap) (by omega)).trans h2;exact ap h3 0 _
 ·exact (hkD.mono (G:=fun i=>i=g\/i=w.heap.size+1\/i=w.heap.size+1+1\/i=w.heap.size+1+1+1) (fun i e => .inl e)).trans k4 (fun i e => .inl (.inr e))
section
variable {w:World} {m c ino:Nat} {F:Nat->Prop} {size N:Nat} {Pg Cm:Nat->List UInt8} {D:Int->Bool} {o u:Nat}
def zL (w:World) (c:Nat) (F:Nat->Prop) (size N:Nat) (Pg Cm:Nat->List UInt8) (D:Int->Bool) (o u b a z:Nat) (e:Ending) (w':World):Prop :=
 ac F w w'/\Pc w' c F size N Pg Cm D o (u+1)/\((ax (Pg b) a z 4096=[]/\e = .returned (.tuple #[.int .i64 0,.agg #[.int .i64 0,.slice none 0 0],.int .i64 7])) \/
  ∃q rest g cap,ax (Pg b) a z 4096=q :: rest/\q<4096/\e = .returned (.tuple #[.int .i64 (q:Nat),.agg #[.int .i64 b,.slice (some ⟨g,0,none⟩) 512 cap],.int .i64 0])/\w.heap.size<=g/\az w' ⟨g,0,none⟩ (flipL (Pg b) q))
theorem oq (h:aT w m c ino) (hmF:¬F m) (b a z x y:Nat) (hb:b<N) (hz:z<=4096) (hu:u<1000000) (hp:Pc w c F size N Pg Cm D o u) :
  Calls Tryz.prog 127 #[.pointer (some ⟨m,0,none⟩),gd b a z x y] w (zL w c F size N Pg Cm D o u b a z):=by
 refine (callsIn_wide (n:=8)).1 ?_;obtain ⟨wA,hA⟩:∃wA,wA=(((w.alloc (.cells #[.int .i64 b,.int .i64 a,.int .i64 z,.complex .f64 x y] 207)).alloc (.cells #[.int .i64 0] 3)).alloc (.cells #[.int .i64 0,.slice none 0 0] 111)).alloc (.cells #[.int .i64 0] 31):=⟨_,rfl⟩;have hA0:wA.heap[w.heap.size]? = some (.cells #[.int .i64 b,.int .i64 a,.int .i64 z,.complex .f64 x y] 207 (0,0)):=by rw [hA];exact aj (aj (aj (af w _) _) _) _
 have hA1:wA.heap[w.heap.size+1]? = some (.cells #[.int .i64 0] 3 (0,0)):=by
  have h1:=af (w.alloc (.cells #[.int .i64 b,.int .i64 a,.int .i64 z,.complex .f64 x y] 207)) (.cells #[.int .i64 0] 3);rw [World.size_alloc] at h1;rw [hA];exact aj (aj h1 _) _
 have hA2:wA.heap[w.heap.size+1+1]? = some (.cells #[.int .i64 0,.slice none 0 0] 111 (0,0)):=by
  have h1:=af ((w.alloc (.cells #[.int .i64 b,.int .i64 a,.int .i64 z,.complex .f64 x y] 207)).alloc (.cells #[.int .i64 0] 3)) (.cells #[.int .i64 0,.slice none 0 0] 111);rw [World.size_alloc,World.size_alloc] at h1;rw [hA];exact aj h1 _
 have hA3:wA.heap[w.heap.size+1+1+1]? = some (.cells #[.int .i64 0] 31 (0,0)):=by
  have h1:=af (((w.alloc (.cells #[.int .i64 b,.int .i64 a,.int .i64 z,.complex .f64 x y] 207)).alloc (.cells #[.int .i64 0] 3)).alloc (.cells #[.int .i64 0,.slice none 0 0] 111)) (.cells #[.int .i64 0] 31);rw [World.size_alloc,World.size_alloc,World.size_alloc] at h1;rw [hA];exact h1
 have hAs:wA.heap.size=w.heap.size+4:=by rw [hA];simp
 have hAB:Below w.heap.size w wA:=by rw [hA];exact ((((Below.refl _ w).alloc (Nat.le_refl _) _).alloc (by simp) _).alloc (by simp;omega) _).alloc (by simp;omega) _
 have HBi:=hid (lq (h.below hAB) hmF b a z x y hb hu hp hAB);have hlen:=hp.len b hb;have HFl:=hid hp.lt;have HA0:=hid hA0;have HA1:=hid hA1;have HA2:=hid hA2;have HA3:=hid hA3;have HAs:=hid hAs;have HAB:=hid hAB;have HLen:=hid hlen;clear hA0 hA1 hA2 hA3 hAs hAB h hp hlen;refine callsIn_of_wp_marks Tryz.func127 rfl trivial ?_ rfl;simp only [Tryz.ntmps127,List.size_toArray,List.length_cons,List.length_nil,Nat.reduceAdd,Nat.reduceSub,Array.replicate_succ,Array.replicate_zero,List.push_toArray,List.append_toArray,List.nil_append,List.cons_append];have hf1:Fence.wide.fn 185:=trivial;have hf2:Fence.wide.fn 186:=trivial;have hf3:Fence.wide.fn 184:=trivial;unfold gd
 gi_wp2
 rw [<- hA];clear hA;refine (callsIn_wide.2 HBi.out).mono ?_;clear HBi;rintro e w1 ⟨g,cap,rfl,hcap,hg,hrow,hK1,hW1⟩;have HRow:=hid hrow;have HK1:=hid hK1;have HW1:=hid hW1;have hs1:=hK1.size;have HB0:Hid (w1.heap[w.heap.size]? = some (.cells #[.int .i64 b,.int .i64 a,.int .i64 z,.complex .f64 x y] 207 (0,0))):=hK1.heap HA0.out (fun hf=>Nat.lt_irrefl _ (HFl.out _ hf));have HB1:Hid (w1.heap[w.heap.size+1]? = some (.cells #[.int .i64 0] 3 (0,0))):=hK1.heap HA1.out (fun hf=>by have:=HFl.out _ hf;omega);have HB2:Hid (w1.heap[w.heap.size+1+1]? = some (.cells #[.int .i64 0,.slice none 0 0] 111 (0,0))):=hK1.heap HA2.out (fun hf=>by have:=HFl.out _ hf;omega);have HB3:Hid (w1.heap[w.heap.size+1+1+1]? = some (.cells #[.int .i64 0] 31 (0,0))):=hK1.heap HA3.out (fun hf=>by have:=HFl.out _ hf;omega);have HSz:Hid (wA.heap.size<=w1.heap.size/\wA.heap.size<=g/\g<w1.heap.size):=⟨hs1,hg,hrow.lt⟩;obtain ⟨wB,hB⟩:∃wB,wB=w1.alloc (.cells #[.slice (some ⟨g,0,none⟩) 512 cap] 76):=⟨_,rfl⟩;have hbB:=(Below.refl w1.heap.size w1).alloc (Nat.le_refl _) (.cells #[.slice (some ⟨g,0,none⟩) 512 cap] 76);have hB0:=ah hbB HB0.out (ae HB0.out);have d0:=aa hB0 0;have d1:=aa hB0 1;have d2:=aa hB0 2;have d3:=aa hB0 3;have d4:(w1.alloc (.cells #[.slice (some ⟨g,0,none⟩) 512 cap] 76)).cell? ⟨w1.heap.size,0,none⟩=some (.slice (some ⟨g,0,none⟩) 512 cap):=aa (af w1 _) 0;simp only [List.getElem?_toArray,List.getElem?_cons_zero,List.getElem?_cons_succ] at d0 d1 d2 d3;clear hrow hK1 hW1 hs1 hg HA0 HA1 HA2 HA3 hB0 hbB
 gi_wp2
 refine (callsIn_wide.2 (vS b a z x y g cap _)).mono ?_;rintro e wD ⟨rfl,hD⟩;rw [<- hB] at hD;have hsB:wB.heap.size=w1.heap.size+1:=by rw [hB];simp
 have hBB:Below w1.heap.size w1 wB:=by rw [hB];exact (Below.refl _ w1).alloc (Nat.le_refl _) _
 have hDB:Below wB.heap.size wB wD:=by rw [hD];exact ((Below.refl _ wB).alloc (Nat.le_refl _) _).alloc (by simp) _
 have hsD:wD.heap.size=w1.heap.size+3:=by rw [hD];simp [hsB]
 have h1D:=hBB.trans (hDB.mono hBB.size);have x0:wD.heap[w1.heap.size]? = some (.cells #[.slice (some ⟨g,0,none⟩) 512 cap] 76 (0,0)):=by
  have:=af w1 (.cells #[.slice (some ⟨g,0,none⟩) 512 cap] 76);rw [<- hB] at this;exact ah hDB this (by omega)
 have x1:wD.heap[w1.heap.size+1]? = some (.cells #[.int .i64 b,.int .i64 a,.int .i64 z,.complex .f64 x y] 207 (0,0)):=by
  have:=af wB (.cells #[.int .i64 b,.int .i64 a,.int .i64 z,.complex .f64 x y] 207);rw [hsB] at this;rw [hD];exact aj this _
 have x2:wD.heap[w1.heap.size+1+1]? = some (.cells #[.slice (some ⟨g,0,none⟩) 512 cap] 76 (0,0)):=by
  have:=af (wB.alloc (.cells #[.int .i64 b,.int .i64 a,.int .i64 z,.complex .f64 x y] 207)) (.cells #[.slice (some ⟨g,0,none⟩) 512 cap] 76);rw [World.size_alloc,hsB] at this;rw [hD];exact this
 have y0:=ah h1D HB0.out (ae HB0.out);have y1:=ah h1D HB1.out (ae HB1.out);have y2:=ah h1D HB2.out (ae HB2.out);have y3:=ah h1D HB3.out (ae HB3.out);have HX0:=hid x0;have HX1:=hid x1;have HX2:=hid x2;have HY0:=hid y0;have HY1:=hid y1;have HY2:=hid y2;have HY3:=hid y3;have HsD:=hid hsD;have HD1:=hid h1D;have HRD:=hid (HRow.out.below h1D);rw [<- hB,hsB];clear d0 d1 d2 d3 d4 hD hsB hBB hDB hsD h1D x0 x1 x2 y0 y1 y2 y3 HB0 HB1 HB2 HB3 hB wB
 gi_wp2
 have HFin:Hid (∀V,ac (fun i=>i=g\/i=w.heap.size+1\/i=w.heap.size+1+1\/i=w.heap.size+1+1+1) wD V->ac F w V/\Pc V c F size N Pg Cm D o (u+1)):=fun V hV=>by
  have hge:∀i,(i=g\/i=w.heap.size+1\/i=w.heap.size+1+1\/i=w.heap.size+1+1+1)->w.heap.size<=i:=fun i hi=>by have:=HSz.out;have:=HAs.out;omega
  have k1:ac F w wD:=(((ac.of_below HAB.out:ac F w wA).trans HK1.out (fun i e => .inl e)).trans (ac.of_below HD1.out:ac (fun _=>False) w1 wD) (fun i e=>e.elim));exact ⟨k1.trans hV (fun i e => .inr (hge i e)),HW1.out V ((ac.of_below HD1.out).trans hV (fun i e => .inl (hge i e)))⟩
 have HSt:=hid (rL 7 (by omega) (w1.heap.size+1+1) (w1.heap.size+1) g cap a z (fun i=>wD.heap.size<=i) (Pg b) HLen.out hz wD (by have:=HsD.out;omega) (by have:=HsD.out;omega) (by have:=HsD.out;have:=HSz.out;omega) (aa HX2.out 0) (aa HX1.out 1) (aa HX1.out 2) HRD.out.1);refine wpIn_rangeFunc_ownG rfl (by omega) (gf:=220) (lb:=#[.pointer (some ⟨w1.heap.size+1+1,0,none⟩),.pointer (some ⟨w1.heap.size+1,0,none⟩)]) rfl trivial (enters_of Tryz.func220 (by kernel_rfl) rfl)
  HSt.out dF (dI (fun i h=>h)) (Below.refl _ _) (fun _=>rfl)
  (fun pre W=>pre=[]/\Hid (Below wD.heap.size wD W))
  (fun cd pre W=>cd = .ret/\∃q:Fin 4096,pre=[q]/\Hid (oG w w1 wD g cap b q.val (Pg b) W))
  (fun s A B row hs hgr hr=>⟨hs.1,hs.2.out.grown hgr hs.2.out.size (fun k e=>(hr k e).1)⟩)
  (fun cd s A B row hs hgr hr=>by obtain ⟨h1,q,h2,h3⟩:=hs;exact ⟨h1,q,h2,h3.out.own (by have:=HsD.out;have:=HSz.out;have:=HAs.out;omega) (by have:=HsD.out;have:=HSz.out;omega) hgr (fun r e=>(hr r e).1)⟩)
  ⟨rfl,Below.refl _ _⟩
  (fun q:Fin 4096=>{ tmps:=#[.pointer (some ⟨m,0,none⟩),.agg #[.int .i64 b,.int .i64 a,.int .i64 z,.complex .f64 x y],undef,.pointer (some ⟨w.heap.size,0,none⟩),.pointer (some ⟨w.heap.size+1,0,none⟩),.pointer (some ⟨w.heap.size+1+1,0,none⟩),.pointer (some ⟨w.heap.size+1+1+1,0,none⟩),.pointer (some ⟨w1.heap.size,0,none⟩),.int .i64 ((q.val:Nat):Int),.pointer (some ⟨m,0,none⟩),.agg #[.int .i64 b,.int .i64 a,.int .i64 z,.complex .f64 x y],.slice (some ⟨g,0,none⟩) 512 cap,.agg #[.int .i64 b,.int .i64 a,.int .i64 z,.complex .f64 x y],.slice (some ⟨g,0,none⟩) 512 cap,.func (.func 220) #[] #[.pointer (some ⟨w1.heap.size+1+1,0,none⟩),.pointer (some ⟨w1.heap.size+1,0,none⟩)],.int .i64 ((q.val:Nat):Int),undef,undef,undef,undef,undef,undef,undef,undef,undef],defers:=[] }) ?assign ?body ?done ?stop
 case assign =>
  intro l q W K hK
  gi_wp2
  exact hK
 case body =>
  rintro l pre q W ⟨rfl,hB⟩ _;have z0:=ah hB.out HX0.out (ae HX0.out);have c7:W.cell? ⟨w1.heap.size,0,none⟩=some (.slice (some ⟨g,0,none⟩) 512 cap):=aa z0 0;have hf:=nt g q.val cap (Pg b) W (HRD.out.below hB.out) HLen.out q.isLt;have HF:=hid hf;clear z0 hf
  gi_wp2
  refine (CallsIn.inRound l (callsIn_wide.2 HF.out)).mono ?_;clear HF;rintro e W2 ⟨rfl,hr2,hk2⟩;have hng:∀i,i<w1.heap.size->i<wA.heap.size\/i=w1.heap.size->i≠g:=fun i _ hi e=>by have:=HSz.out;omega
  have hSz:=HSz.out;have hAs:=HAs.out;have z0:=hk2.heap (ah hB.out HX0.out (ae HX0.out)) (show ¬w1.heap.size=g by omega);have v0:=hk2.heap (ah hB.out HY0.out (ae HY0.out)) (show ¬w.heap.size=g by omega);have v1:=hk2.heap (ah hB.out HY1.out (ae HY1.out)) (show ¬w.heap.size+1=g by omega);have v2:=hk2.heap (ah hB.out HY2.out (ae HY2.out)) (show ¬w.heap.size+1+1=g by omega);have v3:=hk2.heap (ah hB.out HY3.out (ae HY3.out)) (show ¬w.heap.size+1+1+1=g by omega);have HV1:=hid v1;have HV2:=hid v2;have HV3:=hid v3;have HR2:=hid hr2;have HKW:Hid (ac (fun i=>i=g) wD W2):=(ac.of_below hB.out).trans hk2 (fun i e => .inl e);have HK2:=hid hk2;have e7:W2.cell? ⟨w1.heap.size,0,none⟩=some (.slice (some ⟨g,0,none⟩) 512 cap):=aa z0 0;have e0:W2.cell? ⟨w.heap.size,0,none⟩=some (.int .i64 b):=aa v0 0;have e1:W2.cell? ⟨w.heap.size+1,0,none⟩=some (.int .i64 0):=aa v1 0;have e2:W2.cell? ⟨w.heap.size+1+1,0,none⟩=some (.int .i64 0):=aa v2 0;have e3:W2.cell? ⟨w.heap.size+1+1,1,none⟩=some (.slice none 0 0):=aa v2 1;have e4:W2.cell? ⟨w.heap.size+1+1+1,0,none⟩=some (.int .i64 0):=aa v3 0;have f1:W2.frozen? ⟨w.heap.size+1,0,none⟩=false:=ai v1 0;have f2:W2.frozen? ⟨w.heap.size+1+1,0,none⟩=false:=ai v2 0;have f3:W2.frozen? ⟨w.heap.size+1+1,1,none⟩=false:=ai v2 1;have f4:W2.frozen? ⟨w.heap.size+1+1+1,0,none⟩=false:=ai v3 0;have n1:¬w1.heap.size=w.heap.size+1:=by omega
  have n2:¬w1.heap.size=w.heap.size+1+1:=by omega
  have n3:¬w1.heap.size=w.heap.size+1+1+1:=by omega
  have n1':¬w.heap.size+1=w1.heap.size:=by omega
  have n2':¬w.heap.size+1+1=w1.heap.size:=by omega
  have n3':¬w.heap.size+1+1+1=w1.heap.size:=by omega
  clear hng hSz hAs z0 v0 v1 v2 v3 hr2 hk2 c7;have HE:Hid (KeepsFrom wD.heap.size W ((((W2.setCell ⟨w.heap.size+1,0,none⟩ (.int .i64 ((q.val:Nat):Int))).setCell ⟨w.heap.size+1+1,0,none⟩ (.int .i64 b)).setCell ⟨w.heap.size+1+1,1,none⟩ (.slice (some ⟨g,0,none⟩) 512 cap)).setCell ⟨w.heap.size+1+1+1,0,none⟩ (.int .i64 0)).drew/\oG w w1 wD g cap b q.val (Pg b) ((((W2.setCell ⟨w.heap.size+1,0,none⟩ (.int .i64 ((q.val:Nat):Int))).setCell ⟨w.heap.size+1+1,0,none⟩ (.int .i64 b)).setCell ⟨w.heap.size+1+1,1,none⟩ (.slice (some ⟨g,0,none⟩) 512 cap)).setCell ⟨w.heap.size+1+1+1,0,none⟩ (.int .i64 0)).drew) :=
   yo (by have:=HsD.out;have:=HSz.out;have:=HAs.out;omega) (by have:=HSz.out;have:=HAs.out;omega) (by have:=HsD.out;have:=HSz.out;omega) HK2.out HKW.out HR2.out HV1.out HV2.out HV3.out
  clear HKW HK2 HR2 HV1 HV2 HV3
  gi_wp2
  gi_region
  all_goals (gi_wp2;exact ⟨HE.out.1,rfl,q,rfl,HE.out.2⟩)
 case done =>
  rintro D ys W hD hys ⟨rfl,hB⟩ hK;have hfr:ax (Pg b) a z 4096=[]:=hys.symm;have HFr:=hid hfr;have v1:=ah hB.out HY1.out (ae HY1.out);have v2:=ah hB.out HY2.out (ae HY2.out);have v3:=ah hB.out HY3.out (ae HY3.out);have e1:W.cell? ⟨w.heap.size+1,0,none⟩=some (.int .i64 0):=aa v1 0;have e2:W.cell? ⟨w.heap.size+1+1,0,none⟩=some (.int .i64 0):=aa v2 0;have e3:W.cell? ⟨w.heap.size+1+1,1,none⟩=some (.slice none 0 0):=aa v2 1;have e4:W.cell? ⟨w.heap.size+1+1+1,0,none⟩=some (.int .i64 0):=aa v3 0;have f1:W.frozen? ⟨w.heap.size+1,0,none⟩=false:=ai v1 0;have f2:W.frozen? ⟨w.heap.size+1+1,0,none⟩=false:=ai v2 0;have f3:W.frozen? ⟨w.heap.size+1+1,1,none⟩=false:=ai v2 1;have f4:W.frozen? ⟨w.heap.size+1+1+1,0,none⟩=false:=ai v3 0;have HV1:=hid v1;have HV2:=hid v2;have HV3:=hid v3;have HKD:=hid hK;clear hys hfr v1 v2 v3 hK
  gi_wp2
  have hwD:w.heap.size+1+1+1<wD.heap.size:=by have:=HsD.out;have:=HSz.out;have:=HAs.out;omega
  have hK9:((((W.setCell ⟨w.heap.size+1,0,none⟩ (.int .i64 0)).setCell ⟨w.heap.size+1+1,0,none⟩ (.int .i64 0)).setCell ⟨w.heap.size+1+1,1,none⟩ (.slice none 0 0)).setCell ⟨w.heap.size+1+1+1,0,none⟩ (.int .i64 7)).heap[D]? = some (.deferred (some [])) :=
   (al _ _ (by omega)).trans ((al _ _ (by omega)).trans ((al _ _ (by omega)).trans ((al _ _ (by omega)).trans HKD.out)))
  have k4:ac (fun i=>i=g\/i=w.heap.size+1\/i=w.heap.size+1+1\/i=w.heap.size+1+1+1) wD (((W.setCell ⟨w.heap.size+1,0,none⟩ (.int .i64 0)).setCell ⟨w.heap.size+1+1,0,none⟩ (.int .i64 0)).setCell ⟨w.heap.size+1+1,1,none⟩ (.slice none 0 0)) :=
   ((((ac.of_below hB.out).grown (ak (ar _ _) _ _) (fun i e => .inl (.inr (.inl (Option.some.inj e).symm)))).grown (ak (ar _ _) _ _) (fun i e => .inl (.inr (.inr (.inl (Option.some.inj e).symm))))).grown (ak (ar _ _) _ _) (fun i e => .inl (.inr (.inr (.inl (Option.some.inj e).symm)))))
  have k5:ac (fun i=>i=g\/i=w.heap.size+1\/i=w.heap.size+1+1\/i=w.heap.size+1+1+1) wD ((((W.setCell ⟨w.heap.size+1,0,none⟩ (.int .i64 0)).setCell ⟨w.heap.size+1+1,0,none⟩ (.int .i64 0)).setCell ⟨w.heap.size+1+1,1,none⟩ (.slice none 0 0)).setCell ⟨w.heap.size+1+1+1,0,none⟩ (.int .i64 7)):=k4.grown (ak (ar _ _) _ _) (fun i e => .inl (.inr (.inr (.inr (Option.some.inj e).symm))));have hg9:=grownBy_putObj' ((((W.setCell ⟨w.heap.size+1,0,none⟩ (.int .i64 0)).setCell ⟨w.heap.size+1+1,0,none⟩ (.int .i64 0)).setCell ⟨w.heap.size+1+1,1,none⟩ (.slice none 0 0)).setCell ⟨w.heap.size+1+1+1,0,none⟩ (.int .i64 7)) D (.deferred none);have k6:=k5.grown hg9 (fun i e => .inr (by cases e;exact hD));have s1:(((W.setCell ⟨w.heap.size+1,0,none⟩ (.int .i64 0)).setCell ⟨w.heap.size+1+1,0,none⟩ (.int .i64 0)).setCell ⟨w.heap.size+1+1,1,none⟩ (.slice none 0 0)).heap[w.heap.size+1]? = some (.cells #[.int .i64 0] 3 (0,0)) :=
   (al _ _ (by omega)).trans ((al _ _ (by omega)).trans (ap HV1.out 0 _))
  have s2:(((W.setCell ⟨w.heap.size+1,0,none⟩ (.int .i64 0)).setCell ⟨w.heap.size+1+1,0,none⟩ (.int .i64 0)).setCell ⟨w.heap.size+1+1,1,none⟩ (.slice none 0 0)).heap[w.heap.size+1+1]? = some (.cells #[.int .i64 0,.slice none 0 0] 111 (0,0)) :=
   ap (ap ((al _ _ (by omega)).trans HV2.out) 0 (.int .i64 0)) 1 _
  have s3:(((W.setCell ⟨w.heap.size+1,0,none⟩ (.int .i64 0)).setCell ⟨w.heap.size+1+1,0,none⟩ (.int .i64 0)).setCell ⟨w.heap.size+1+1,1,none⟩ (.slice none 0 0)).heap[w.heap.size+1+1+1]? = some (.cells #[.int .i64 0] 31 (0,0)) :=
   (al _ _ (by omega)).trans ((al _ _ (by omega)).trans ((al _ _ (by omega)).trans HV3.out))
  refine ⟨by simp,.inl ⟨_,_,rfl,run_takeDeferred hK9,?_⟩⟩;refine ⟨_,jS rfl rfl rfl (aw hg9 ((al _ _ (by omega)).trans s1) (fun e=>by cases e;omega)) (aw hg9 ((al _ _ (by omega)).trans s2) (fun e=>by cases e;omega)) (aw hg9 (ap s3 0 _) (fun e=>by cases e;omega)),?_⟩;exact ⟨(HFin.out _ k6).1,(HFin.out _ k6).2,.inl ⟨HFr.out,rfl⟩⟩
 case stop =>
  rintro D cd pre W hD hpre ⟨rfl,q,rfl,hX⟩ hK;obtain ⟨q',hf1,hf2,hpq⟩:=hpre;have hq:ax (Pg b) a z q.val=[]/\bw (Pg b) a z q.val=true:=by
   have h1:ax (Pg b) a z q' ++ [q']=[] ++ [q.val]:=hpq.symm;obtain ⟨h2,h3⟩:=List.append_inj' h1 rfl;have h4:q'=q.val:=by simpa using h3
   rw [<- h4];exact ⟨h2,hf1⟩
  obtain ⟨rest,hrest⟩:=lT hq.1 hq.2 q.isLt;have HR:=hid hrest;have HKD:=hid hK;clear hK hpq hf1 hf2 hq hrest
  gi_wp2
  have hwD:w.heap.size+1+1+1<wD.heap.size:=by have:=HsD.out;have:=HSz.out;have:=HAs.out;omega
  have hg9:=grownBy_putObj' W D (.deferred none);have k6:=hX.out.keep.grown hg9 (fun i e => .inr (by cases e;exact hD));have hgD:g<wD.heap.size:=by have:=HsD.out;have:=HSz.out;omega
  refine ⟨by simp,.inl ⟨_,_,rfl,run_takeDeferred HKD.out,?_⟩⟩;refine ⟨_,jS rfl rfl rfl (aw hg9 hX.out.r1 (fun e=>by cases e;omega)) (aw hg9 hX.out.r2 (fun e=>by cases e;omega)) (aw hg9 hX.out.r3 (fun e=>by cases e;omega)),?_⟩;exact ⟨(HFin.out _ k6).1,(HFin.out _ k6).2,.inr ⟨q.val,rest,g,cap,HR.out,q.isLt,rfl,by have:=HSz.out;have:=HAs.out;omega,(hX.out.row.keep (ac.of_grown hg9 (F:=fun i=>some D=some i) (fun i e=>e)) (fun e=>by cases e;omega)).1⟩⟩
end
end
section
open Go.RowKit
end
section
open Go.RowKit Go.Shelf
attribute [local go_sem] Oper.semAt_some
theorem om {P:Program} {w:World} {a:Addr} {m:Mode} (k:FloatKind) (x y:Nat):(store a (.complex k x y) m).run P w=stored P w a (.complex k x y) m:=run_store P w a _ m rfl
attribute [local go_sem] om
end
section
set_option maxRecDepth 100000
set_option maxHeartbeats 4000000
open Go.RowKit
section
variable {w:World} {m c ino:Nat} {F:Nat->Prop} {size N:Nat} {Pg Cm:Nat->List UInt8} {D:Int->Bool} {o u:Nat}
theorem bN {L:List UInt8} {a z q:Nat} {rest:List Nat} (h:ax L a z 4096=q :: rest):a<=q/\q<z/\de L q=false:=by
 have hm:q∈ax L a z 4096:=by rw [h];exact List.mem_cons_self
 unfold ax at hm;have h2:=(List.mem_filter.1 hm).2;unfold bw at h2;simp only [Bool.and_eq_true,decide_eq_true_eq,Bool.not_eq_true'] at h2;exact ⟨h2.1.1,h2.1.2,h2.2⟩
theorem tf:(zN 512).length=512:=aO 512
def zF (w:World) (c:Nat) (F:Nat->Prop) (size N:Nat) (Pg Cm:Nat->List UInt8) (D:Int->Bool) (o u a:Nat) (e:Ending) (w':World):Prop :=
 ac F w w'/\((ax (Pg 2) a N 4096=[]/\e = .returned (.tuple #[.int .i64 0,.int .i64 7])/\Pc w' c F size N Pg Cm D o (u+1)) \/
  ∃(q:Nat) (rest:List Nat),ax (Pg 2) a N 4096=q :: rest/\((min size 100<(dkD N D).length+((if D 2 then 0 else 1)+(if D q then 0 else 1))/\e = .returned (.tuple #[.int .i64 0,.int .i64 7])/\Pc w' c F size N Pg Cm D o (u+1)) \/
   ((dkD N D).length+((if D 2 then 0 else 1)+(if D q then 0 else 1))<=min size 100/\e = .returned (.tuple #[.int .i64 q,.int .i64 0])/\Pc w' c F size N (bf (bf Pg 2 (flipL (Pg 2) q)) q (zN 512)) Cm (br (br D 2) q) o (u+1))))
theorem oW (h:aT w m c ino) (hmF:¬F m) (hi:ino<=512) (hN:3<=N) (hu:u<1000000) (hp:Pc w c F size N Pg Cm D o u) :
  Calls Tryz.prog 198 #[.pointer (some ⟨m,0,none⟩)] w (zF w c F size N Pg Cm D o u (3+ino / 8)):=by
 have hN4:=hp.four;have HO:=hid (fS h hi hp);have HFl:=hid hp.lt;have HLen:=hid (hp.len 2 (by omega));have HNx:=hid (fun W (hW:Below w.heap.size w W)=>oq (h.below hW) hmF 2 (3+ino / 8) N qM 0 (by omega) hN4 hu (hp.below hW));have HM:=hid h;obtain ⟨f,hf⟩:∃f,f=3+ino / 8:=⟨_,rfl⟩;rw [<- hf] at HO HNx ⊢;clear h hp hf;go_enter Tryz.func198,Tryz.ntmps198
 go_wp2_with fail
 refine HO.out.mono ?_;clear HO;rintro e w1 ⟨rfl,hb1⟩;have HB1:=hid hb1;have HN1:=hid (HNx.out w1 hb1);clear HNx hb1
 go_wp2_with fail
 refine HN1.out.mono ?_;clear HN1;rintro e w2 ⟨hk2,hp2,hx⟩;have HK2:=hid ((ac.of_below HB1.out:ac F w w1).trans hk2 (fun i e => .inl e));have HP2:=hid hp2;have HM2:Hid (aT w2 m c ino):=(HM.out.below HB1.out).keep hk2 hmF;have Hs:=hid hk2.size;clear hk2 hp2;rcases hx with ⟨h0,rfl⟩ | ⟨q,rest,g,cap,h0,hq4,rfl,hg,hby⟩
 ·have H0:=hid h0;have hb3:Below w2.heap.size w2 (w2.alloc (.cells #[.int .i64 0,.slice none 0 0] 111)):=(Below.refl _ w2).alloc (Nat.le_refl _) _;have HB3:=hid hb3;clear h0 hb3;go_wp2;go_returns;exact ⟨HK2.out.trans (ac.of_below HB3.out:ac (fun _=>False) w2 _) (fun i e=>e.elim),.inl ⟨H0.out,rfl,HP2.out.below HB3.out⟩⟩
 ·have H0:=hid h0;have hff:=bN h0;obtain ⟨wa,hwa⟩:∃wa,wa=w2.alloc (.cells #[.int .i64 2,.slice (some ⟨g,0,none⟩) 512 cap] 111):=⟨_,rfl⟩;have hb3:Below w2.heap.size w2 wa:=by rw [hwa];exact (Below.refl _ w2).alloc (Nat.le_refl _) _
  have hbx:wa.heap[w2.heap.size]? = some (.cells #[.int .i64 2,.slice (some ⟨g,0,none⟩) 512 cap] 111 (0,0)):=by rw [hwa];exact af w2 _
  have HBx:=hid hbx;have HB3:=hid hb3;have HK3:Hid (ac F w wa):=HK2.out.trans (ac.of_below hb3:ac (fun _=>False) w2 _) (fun i e=>e.elim);have Hby:Hid (az wa ⟨g,0,none⟩ (flipL (Pg 2) q)):=fun j hj=>(hb3.cell (World.block_lt_of_cell? w2 _ (hby j hj))).trans (hby j hj);have Hg:Hid (w.heap.size<=g):=Nat.le_trans HB1.out.size hg;have hCx:∀W,Below wa.heap.size wa W->W.cell? ⟨w2.heap.size,0,none⟩=some (.int .i64 2)/\W.cell? ⟨w2.heap.size,1,none⟩=some (.slice (some ⟨g,0,none⟩) 512 cap):=fun W hW=>by
   have hw:=ah hW hbx (ae hbx);exact ⟨aa hw 0,aa hw 1⟩
  have HCx:=hid hCx;have hS0:=hCx wa (Below.refl _ _);have Hff:=hid hff;clear h0 hff hb3 hbx hby hg hCx;obtain ⟨nb,hnb⟩:∃nb,nb=w2.heap.size:=⟨_,rfl⟩;rw [<- hnb] at HCx hS0 HBx;go_wp2;rw [<- hwa, <- hnb];have HNb:Hid (w.heap.size<=nb):=by rw [hnb];exact HK2.out.size
  clear hwa hnb;refine wp_region_noPanic ?_;refine wp_region_held_drew (S:=fun W=>W.cell? ⟨nb,0,none⟩=some (.int .i64 2)/\W.cell? ⟨nb,1,none⟩=some (.slice (some ⟨g,0,none⟩) 512 cap)) (by kernel_rfl) hS0 (fun hHeld => ?_);refine tq 0 _ ?_
  try simp only [tS]
  refine tq 1 _ ?_
  try simp only [tS]
  refine tq 2 _ ?_
  try simp only [tS]
  refine tq 3 _ ?_
  try simp only [tS]
  refine tr 4 (fun K hK => ?_);go_simp;refine (fN wa.drew).mono ?_;rintro e w4 ⟨rfl,hz4,hb4⟩;have hb04:Below wa.heap.size wa w4:=(Below.refl _ wa).drew.trans (hb4.mono (Nat.le_refl _));have HZ4:=hid hz4;have HB4:=hid hb04;have hz:=HCx.out w4 hb04;clear hz4 hb4 hb04 hS0;obtain ⟨zb,hzb⟩:∃zb,zb=wa.drew.heap.size:=⟨_,rfl⟩;rw [<- hzb] at HZ4 ⊢;have HZb:Hid (zb=wa.heap.size):=hzb;clear hzb
  go_wp2_with fail
  refine hK.out _ _ hz (fun hHeld => ?_);clear hK K
  try simp only [tS]
  refine tq 5 _ ?_
  try simp only [tS]
  refine tr 6 (fun K hK => ?_);go_simp;have hb5:Below w4.heap.size w4 (w4.alloc (.cells #[.int .i64 2,.slice (some ⟨g,0,none⟩) 512 cap,.int .i64 q,.slice (some ⟨zb,0,none⟩) 512 512] 111)):=(Below.refl _ w4).alloc (Nat.le_refl _) _;have hb05:=HB4.out.trans (hb5.mono HB4.out.size);have hz5:=HCx.out _ hb05;have hK5:ac F w (w4.alloc (.cells #[.int .i64 2,.slice (some ⟨g,0,none⟩) 512 cap,.int .i64 q,.slice (some ⟨zb,0,none⟩) 512 512] 111)):=HK3.out.trans (ac.of_below hb05:ac (fun _=>False) wa _) (fun i e=>e.elim);have hbl5:=af w4 (.cells #[.int .i64 2,.slice (some ⟨g,0,none⟩) 512 cap,.int .i64 q,.slice (some ⟨zb,0,none⟩) 512 512] 111);have hws:l6 (w4.alloc (.cells #[.int .i64 2,.slice (some ⟨g,0,none⟩) 512 cap,.int .i64 q,.slice (some ⟨zb,0,none⟩) 512 512] 111)) w4.heap.size [⟨2,g,cap,flipL (Pg 2) q⟩,⟨q,zb,512,zN 512⟩] F N:=by
   refine ⟨fun i hi => ?_,fun _ hf => ?_,fun p hp => ?_⟩
   ·have hi2:i=0\/i=1:=by simp at hi;omega
    rcases hi2 with rfl | rfl
    ·exact ⟨aa hbl5 0,aa hbl5 1⟩
    ·exact ⟨aa hbl5 2,aa hbl5 3⟩
   ·have h1:=HFl.out _ hf;have h2:=HK3.out.size;have h3:=HB4.out.size;omega
   ·simp only [List.mem_cons,List.mem_nil_iff,or_false] at hp;rcases hp with rfl | rfl
    ·refine ⟨by show 2<N;omega,by show (flipL (Pg 2) q).length=512;rw [bO];exact HLen.out,fun j hj=>(hb05.cell (World.block_lt_of_cell? wa _ (Hby.out j hj))).trans (Hby.out j hj),fun hf => ?_⟩;have h1:=HFl.out _ hf;have h2:=Hg.out;have h3:g<w.heap.size:=h1;omega
    ·refine ⟨Hff.out.2.1,tf,(HZ4.out.below hb5).at,fun hf => ?_⟩;have h1:zb<w.heap.size:=HFl.out _ hf;have h2:=HK3.out.size;have h3:=HZb.out;omega
  have HWr:=hid (fd (((HM2.out.below HB3.out).below hb05)) hmF w4.heap.size _ hws 2 (by simp) (by simp) ((HP2.out.below HB3.out).below hb05));have HK5:=hid hK5;clear hb5 hb05 hK5 hbl5 hws hz;generalize w4.alloc (.cells #[.int .i64 2,.slice (some ⟨g,0,none⟩) 512 cap,.int .i64 q,.slice (some ⟨zb,0,none⟩) 512 512] 111)=w5 at *;generalize w4.heap.size=pb at *;refine hK.out _ _ hz5 (fun hHeld => ?_);clear hK K
  try simp only [tS]
  have HCz:Hid (∀W,ac F w5 W->W.cell? ⟨nb,0,none⟩=some (.int .i64 2)/\W.cell? ⟨nb,1,none⟩=some (.slice (some ⟨g,0,none⟩) 512 cap)):=fun W hW=>by
   have hF:¬F nb:=fun hf=>by
    have h1:=HFl.out _ hf;have h2:=HNb.out;omega
   exact ⟨hW.cell hz5.1 hF,hW.cell hz5.2 hF⟩
  refine tr 7 (fun K hK => ?_);go_simp;refine HWr.out.mono ?_;clear HWr;rintro e w6 ⟨hk6,hw6⟩;have HK6:=hid (HK5.out.trans hk6 (fun i e => .inl e));have hz6:=HCz.out w6 hk6;rw [eV,jV] at hw6;clear hk6 hz5;rcases hw6 with ⟨hf,rfl,hp6⟩ | ⟨hf,rfl,hp6⟩
  ·have HP6:=hid hp6;have Hf:=hid hf;clear hp6 hf
   go_wp2_with fail
   refine hK.out _ _ hz6 (fun hHeld => ?_);clear hK K
   try simp only [tS]
   refine tr 8 (fun K hK => ?_);go_simp;refine (dA (q:Int) 7 w6).mono ?_;rintro e w7 ⟨rfl,h7⟩;obtain rfl:=h7.symm;clear h7
   go_wp2_with fail
   refine hK.out _ _ hz6 (fun hHeld => ?_);clear hK K
   try simp only [tS]
   refine tq 9 _ ?_
   try simp only [tS]
   refine tq 10 _ ?_
   try simp only [tS]
   refine tq 11 _ ?_
   try simp only [tS]
   refine tq 12 _ ?_
   try simp only [tS]
   refine wpAnyH_done (by kernel_rfl) ?_ _;refine NoPanic.normal ?_;clear hHeld hz6;go_wp2;go_returns;exact ⟨HK6.out,.inr ⟨q,rest,H0.out,.inl ⟨Hf.out,rfl,HP6.out⟩⟩⟩
  ·have HP6:=hid hp6;have Hf:=hid hf;clear hp6 hf
   go_wp2_with fail
   refine hK.out _ _ hz6 (fun hHeld => ?_);clear hK K
   try simp only [tS]
   refine tr 8 (fun K hK => ?_);go_simp;refine (dA (q:Int) 0 w6).mono ?_;rintro e w7 ⟨rfl,h7⟩;obtain rfl:=h7.symm;clear h7;rw [if_pos rfl]
   go_wp2_with fail
   refine hK.out _ _ hz6 (fun hHeld => ?_);clear hK K
   try simp only [tS]
   refine tq 9 _ ?_
   try simp only [tS]
   refine tq 10 _ ?_
   try simp only [tS]
   refine tq 11 _ ?_
   try simp only [tS]
   refine tq 12 _ ?_
   try simp only [tS]
   refine wpAnyH_done (by kernel_rfl) ?_ _;refine NoPanic.normal ?_;clear hHeld hz6;go_wp2;go_returns;exact ⟨HK6.out,.inr ⟨q,rest,H0.out,.inr ⟨Hf.out,rfl,HP6.out⟩⟩⟩
end
end
section
open Go.RowKit
theorem lQ {L:List UInt8} {a z:Nat}:∀k,(∀j,j<k->bw L a z j=false)->ax L a z k=[]
 | 0,_=>rfl
 | k+1,h=>by rw [gw (h k (by omega)),lQ k (fun j hj=>h j (by omega))]
theorem uN {L:List UInt8} {a z k:Nat} (h1:∀j,j<k->bw L a z j=false) (h2:bw L a z k=true) (hk:k<4096):∃rest,ax L a z 4096=k :: rest:=lT (lQ k h1) h2 hk
theorem oL (N:Nat):∀(ks:List (Nat×List UInt8)) (D:Int->Bool),(dkD N (rG D ks)).length<=(dkD N D).length+ks.length
 | [],_=>Nat.le_refl _
 | p :: ks,D=>by
  have ih:=oL N ks (br D p.1);have h1:=mM N D p.1;have e:rG D (p :: ks)=rG (br D p.1) ks:=rfl;rw [e,List.length_cons];have h2:(if D (p.1:Int)=true then 0 else 1)<=1:=by split <;> omega
  omega
theorem ka (N:Nat) (D:Int->Bool) (n:Nat):(dkD N (br D n)).length<=(dkD N D).length+1:=by
 have h1:=mM N D n;have h2:(if D (n:Int)=true then 0 else 1)<=1:=by split <;> omega
 omega
theorem qC (N ino k:Nat):(jk N ino k).length=3+k:=by simp [jk];omega
theorem jK {Pg:Nat->List UInt8} {n:Nat}:∀(ks:List (Nat×List UInt8)),(∀x∈ks,x.1≠n)->og Pg ks n=Pg n:=by
 intro ks
 induction ks generalizing Pg with
 | nil=>intro _;rfl
 | cons p ks ih =>
  intro h;have e:og Pg (p :: ks)=og (bf Pg p.1 p.2) ks:=rfl;rw [e,ih (fun x hx=>h x (List.mem_cons_of_mem _ hx))];unfold bf;rw [if_neg (fun e=>h p List.mem_cons_self e.symm)]
theorem yO (N ino k:Nat) (Pg:Nat->List UInt8):og Pg (jk N ino k) 0=gb N ino/\og Pg (jk N ino k) 1=bp 1/\og Pg (jk N ino k) 2=bp (3+ino / 8):=by
 have e:og Pg (jk N ino k)=og (bf (bf (bf Pg 0 (gb N ino)) 1 (bp 1)) 2 (bp (3+ino / 8))) ((List.range k).map (fun j=>(3+j,zN 512))):=rfl;have hr:∀n,n<3->∀x∈(List.range k).map (fun j=>(3+j,zN 512)),x.1≠n:=fun n hn x hx=>by
  obtain ⟨j,-,rfl⟩:=List.mem_map.1 hx;show 3+j≠n;omega
 rw [e,jK _ (hr 0 (by omega)),jK _ (hr 1 (by omega)),jK _ (hr 2 (by omega))];exact ⟨rfl,rfl,rfl⟩
end
section
set_option maxRecDepth 100000
set_option maxHeartbeats 2000000
open Go.RowKit
theorem rI (l:List UInt8) (ad:Addr) (c:Nat) (w:World) (hpos:0<l.length) (hn:l.length<=4096) (hb:az w ad l) :
  Calls Tryz.prog 188 #[.slice (some ad) l.length c] w fun e w'=>∃g cap,e = .returned (.slice (some ⟨g,0,none⟩) l.length cap)/\w'.ownsRow w.heap.size 5 1 (.slice (some ⟨g,0,none⟩) l.length cap) l.length (l.map U8)/\Below w.heap.size w w':=by
 obtain ⟨i0,hi,hz0,hz1,hz2⟩:=info_parts iE;have HI:=hid hi;have HX:Hid (∀j u,(l.map U8)[j]? = some u->w.cell? (ad.add j)=some u):=fun j u hu=>by
  have hj:j<l.length:=by simpa using (List.getElem?_eq_some_iff.1 hu).1
  rw [hb j hj];rw [List.getElem?_map,List.getElem?_eq_getElem hj] at hu;exact hu
 clear hi hb;go_enter Tryz.func188,Tryz.ntmps188;have hq:=fun W=>ga 76 _ ad l.length c Tryz.underlying76 W
 go_wp2_with (refine wpList_append_lies _ rfl (.tmp 5) (.tmp 6) 76 rfl w.heap.size 5 i0 (.int .u8 0) 1 1 Tryz.underlying76 HI.out hz0 hz1 hz2 rfl (by omega) (.slice (some ⟨w.heap.size,0,none⟩) 0 0) 0 [] rfl (World.ownsRow_lit w #[] 0 (Nat.le_refl _) (by simp) rfl) ad l.length c (l.map U8) rfl (by simp) (fun j u hu=>by rw [World.cell?_alloc_lt _ _ _ (World.block_lt_of_cell? w _ (HX.out j u hu))];exact HX.out j u hu) (by intro u hu;obtain ⟨x,_,rfl⟩:=List.mem_map.1 hu;rfl) hpos (by unfold maxLen;omega) (by omega) (by simp) (w.heap.size+1) (by simp) ?_;intro g cap w1 hown hgr hat hlt)
 go_ret;rw [List.nil_append,Nat.zero_add] at hown;refine ⟨g,cap,by simp,hown,?_⟩;exact ((Below.refl _ _).alloc (Nat.le_refl _) _).trans ⟨hgr.os,hgr.tape,hgr.output,hgr.size,fun k hk=>hgr.block k (by simp;omega) (by simp [Value.ownBlock];omega)⟩
def clr:List UInt8->Nat->Nat->List UInt8
 | l,_,0=>l
 | l,o,n+1=>clr (l.set o 0) (o+1) n
theorem gK:∀(n:Nat) (l:List UInt8) (o:Nat),(clr l o n).length=l.length
 | 0,_,_=>rfl
 | n+1,l,o=>by rw [clr,gK n,List.length_set]
theorem bT.clears {g:Nat}:∀(n o:Nat) (l:List UInt8) (w:World),bT w g l->o+n<=l.length->bT (w.setCells g o (List.replicate n (.int .u8 0))) g (clr l o n)/\ac (fun i=>i=g) w (w.setCells g o (List.replicate n (.int .u8 0)))
 | 0,_,_,w,h,_=>⟨h,ac.refl _ w⟩
 | n+1,o,l,w,h,hl=>by
  have h1:=h.set o (by omega) 0;have k1:ac (fun i=>i=g) w (w.setCell ⟨g,o,none⟩ (.int .u8 0)):=(ac.refl _ w).grown (ak (ar _ _) _ _) (fun i e => .inl (Option.some.inj e).symm);obtain ⟨h2,k2⟩:=bT.clears n (o+1) (l.set o 0) _ h1 (by rw [List.length_set];omega);rw [List.replicate_succ];exact ⟨h2,k1.trans k2 (fun i e => .inl e)⟩
theorem yC:(Tryz.prog.info? 111).map (·.size)=some 2:=by kernel_rfl
theorem rn {w:World} {tmps:Array Value} {b:Nat} {y z t:Value} (h1:tmps.getD 4 undef = .pointer (some ⟨b,0,none⟩)) (h2:tmps.getD 5 undef=t) (r:w.heap[b]? = some (.cells #[y,z] 111 (0,0))) :
  (results Tryz.f128 tmps).run Tryz.prog w = .ok (.tuple #[.agg #[y,z],t]) w:=by
 have c2:w.cell? ⟨b,0,none⟩=some y:=aa r 0;have c4:w.cell? ⟨b,1,none⟩=some z:=aa r 1;have h1':tmps[4]?.getD undef = .pointer (some ⟨b,0,none⟩):=by simpa using h1
 have h2':tmps[5]?.getD undef=t:=by simpa using h2
 simp only [results,Tryz.results128];simp [go_sem,h1',h2',asAddr,c2,c4]
theorem zI (w:World):(zeroValue 5).run Tryz.prog w = .ok (.int .u8 0) w:=by kernel_rfl
theorem jn {w:World} {g:Nat} {l:List UInt8} (h:bT w g l) (o n c:Nat) (hn:0<n) (hl:o+n<=l.length):∀ty,(Builtin.clear_ #[76] ty #[.slice (some ⟨g,o,none⟩) n c]).run Tryz.prog w = .ok (.tuple #[]) (w.setCells g o (List.replicate n (.int .u8 0))):=fun ty =>
 Lib.run_clear_slice w 76 5 ty (.int .u8 0) Tryz.underlying76 zI rfl rfl g o n c hn (fun j hj=>by rw [h.cell (o+j) (by omega)];rfl) (fun j hj=>h.frozen (o+j) (by omega))
section
variable {w:World} {m c ino:Nat} {F:Nat->Prop} {size N:Nat} {Pg Cm:Nat->List UInt8} {D:Int->Bool} {o u:Nat}
theorem pV (h:aT w m c ino) (hi:ino<=512) (q:Nat) (hq:q<ino) (hN:3+ino / 8<=N) (h8:ino%8=0) (hu:u<1000000) (hp:Pc w c F size N Pg Cm D o u) :
  Calls Tryz.prog 128 #[.pointer (some ⟨m,0,none⟩),.int .i64 q] w fun e w'=>∃g cap,e = .returned (.tuple #[.agg #[.int .i64 (3+q / 8:Nat),.slice (some ⟨g,0,none⟩) 512 cap],.bool (decide (¬clr (Pg (3+q / 8)) (q%8*64) 64=Pg (3+q / 8)))])/\w.heap.size<=g/\az w' ⟨g,0,none⟩ (clr (Pg (3+q / 8)) (q%8*64) 64)/\ac F w w'/\Pc w' c F size N Pg Cm D o (u+1):=by
 obtain ⟨pg,hpg⟩:∃pg,pg=3+q / 8:=⟨_,rfl⟩;obtain ⟨at_,hat⟩:∃at_,at_=q%8*64:=⟨_,rfl⟩;have hpgN:pg<N:=by omega
 have hat4:at_+64<=512:=by omega
 have ht0:=fun W (hW:Below w.heap.size w W)=>mN (h.below hW) hi (q:Int);rw [if_pos (⟨by omega,by omega⟩:(0:Int)<=(q:Int)/\(q:Int)<(ino:Int)),show (3:Int)+(q:Int) / 8=(pg:Int) by omega,show (q:Int)%8*64=(at_:Int) by omega] at ht0;rw [<- hpg, <- hat];have HT:=hid ht0;have HLen:=hid (hp.len pg hpgN);have HRd:=hid (fun W (hW:Below w.heap.size w W)=>hp.read hW pg hpgN hu);have HFl:=hid hp.lt;have HM:=hid h;clear hpg hat ht0 hq hN h8 h hp;generalize Pg pg=l at *;go_enter Tryz.func128,Tryz.ntmps128
 go_wp2_with fail
 obtain ⟨wa,hwa⟩:∃wa,wa=w.alloc (.cells #[.int .i64 0,.slice none 0 0] 111):=⟨_,rfl⟩;have hb0:Below w.heap.size w wa:=by rw [hwa];exact (Below.refl _ w).alloc (Nat.le_refl _) _
 have hbl:wa.heap[w.heap.size]? = some (.cells #[.int .i64 0,.slice none 0 0] 111 (0,0)):=by rw [hwa];exact af w _
 rw [<- hwa];have HB0:=hid hb0;have HBl:=hid hbl;have HTa:=hid (HT.out wa hb0);have HRa:=hid (HRd.out wa hb0);have c0:wa.cell? ⟨m,0,none⟩=some (.pointer (some ⟨c,0,none⟩)):=aa (HM.out.below hb0) 0;clear HT HRd hwa hb0 hbl;obtain ⟨rb,hrb⟩:∃rb,rb=w.heap.size:=⟨_,rfl⟩;rw [<- hrb] at HBl ⊢;have HRb:=hid hrb;clear hrb;refine HTa.out.mono ?_;clear HTa;rintro e w1 ⟨rfl,h1⟩;obtain rfl:=h1.symm;clear h1
 go_wp2_with fail
 refine HRa.out.mono ?_;clear HRa;rintro e w2 ⟨g,cap,rfl,hcap,hg,hr2,hk2,hf2⟩;have hFr:¬F rb:=fun hf=>by have:=HFl.out _ hf;have:=HRb.out;omega
 have HBl2:=hid (hk2.heap HBl.out hFr);have HK2:=hid ((ac.of_below HB0.out:ac F w wa).trans hk2 (fun i e => .inl e));have HF2:=hid hf2;have HG:=hid hg;have HR2:=hid hr2;have hcl:=rI l ⟨g,0,none⟩ cap w2 (by rw [HLen.out];omega) (by rw [HLen.out];omega) hr2.1;rw [HLen.out] at hcl;have HCl:=hid hcl;have hcap':(512:Int)<=(cap:Int):=by omega
 have hat0:(0:Int)<=(at_:Int):=by omega
 have hat5:(at_:Int)+64<=512:=by omega
 clear hg hr2 hk2 hf2 hcl hFr c0
 go_wp2_with fail
 refine HCl.out.mono ?_;clear HCl;rintro e w3 ⟨g2,cap2,rfl,hrow,hb3⟩;have HR3:=hid (HR2.out.below hb3);have HRow:=hid (lH (l:=l) hrow HLen.out);have HG2:Hid (w2.heap.size<=g2):=by
  rcases hrow.2 with ⟨e,-⟩ | ⟨g',cap',cur,e,hle,-⟩
  ·cases e
  ·obtain ⟨rfl,-⟩:g2=g'/\cap2=cap':=by simpa using e
   exact hle
 have HB3:=hid hb3;have hcr:=jn HR3.out at_ 64 (cap-at_) (by omega) (by rw [HLen.out];exact hat4);have hst:=bT.clears 64 at_ l w3 HR3.out (by rw [HLen.out];exact hat4);obtain ⟨w4,hw4⟩:∃w4,w4=w3.setCells g at_ (List.replicate 64 (.int .u8 0)):=⟨_,rfl⟩;rw [<- hw4] at hcr hst;have HSt:=hid hst;clear hb3 hrow hw4 hst;have hb4:az w4 ⟨g2,0,none⟩ l:=(HRow.out.keep HSt.out.2 (fun e=>by have e':g2=g:=e;have h1:=HR2.out.lt;have h2:=HG2.out;omega)).1;have heq:=iZ (clr l at_ 64) l ⟨g,0,none⟩ ⟨g2,0,none⟩ cap cap2 w4 HSt.out.1.1 hb4;rw [gK,HLen.out] at heq;have HEq:=hid heq;have HBl4:Hid (w4.heap[rb]? = some (.cells #[.int .i64 0,.slice none 0 0] 111 (0,0))):=HSt.out.2.heap (ah HB3.out HBl2.out (ae HBl2.out)) (fun e=>by have e':rb=g:=e;have h1:=HG.out;have h2:=ae HBl.out;omega);clear heq hb4 HBl2 HRow HR3 HR2
 go_wp2_with fail
 refine HEq.out.mono ?_;clear HEq;rintro e w5 ⟨rfl,h5⟩;obtain rfl:=h5.symm;clear h5 hcr;obtain ⟨bb,hbb⟩:∃bb,bb=decide (clr l at_ 64=l):=⟨_,rfl⟩;rw [<- hbb];have HBb:=hid hbb;clear hbb
 go_wp2_with (refine am rfl 111 (.tmp 4) (.tmp 37) rfl rb #[.int .i64 pg,.slice (some ⟨g,0,none⟩) 512 cap] rfl rfl _ 111 HBl4.out rfl yC (by simp [Value.oneCell']) ?_;intro w6 hg6 hb6 hz6)
 have hrb:=HRb.out;have hsz0:=HB0.out.size;have hga:=HG.out;have hsb:=ae HBl.out;have k34:ac (fun i=>w.heap.size<=i) w3 w4:=HSt.out.2.mono (fun i e=>by have e':i=g:=e;show w.heap.size<=i;omega);have k46:ac (fun i=>w.heap.size<=i) w4 w6:=ac.of_grown hg6 (fun i e=>by cases e;show w.heap.size<=rb;omega);have k26:ac (fun i=>w.heap.size<=i) w2 w6:=((ac.of_below HB3.out:ac (fun i=>w.heap.size<=i) w2 w3).trans k34 (fun i e => .inl e)).trans k46 (fun i e => .inl e);refine bodyPost_ret (rn rfl rfl hb6) rfl ⟨g,cap,?_,by omega,?_,HK2.out.trans k26 (fun i e => .inr e),HF2.out w6 k26⟩
 ·rw [HBb.out,decide_not];rfl
 ·exact (HSt.out.1.keep (ac.of_grown hg6 (F:=fun i=>some rb=some i) (fun i e=>e)) (fun e=>by cases e;omega)).1
end
end
section
set_option maxRecDepth 100000
set_option maxHeartbeats 2000000
open Go.RowKit
section
variable {w:World} {m c ino:Nat} {F:Nat->Prop} {size N:Nat} {Pg Cm:Nat->List UInt8} {D:Int->Bool} {o u:Nat}
def td (Pg:Nat->List UInt8) (q:Nat):List UInt8:=clr (Pg (3+q / 8)) (q%8*64) 64
def rT (Pg:Nat->List UInt8) (D:Int->Bool) (q:Nat):Nat:=(if D 1 then 0 else 1)+(if td Pg q=Pg (3+q / 8) then 0 else if D (3+q / 8:Nat) then 0 else 1)
def il (Pg:Nat->List UInt8) (q:Nat):Nat->List UInt8:=if td Pg q=Pg (3+q / 8) then bf Pg 1 (flipL (Pg 1) q) else bf (bf Pg 1 (flipL (Pg 1) q)) (3+q / 8) (td Pg q)
def nR (Pg:Nat->List UInt8) (D:Int->Bool) (q:Nat):Int->Bool:=if td Pg q=Pg (3+q / 8) then br D 1 else br (br D 1) (3+q / 8:Nat)
def yW (w:World) (c:Nat) (F:Nat->Prop) (size N:Nat) (Pg Cm:Nat->List UInt8) (D:Int->Bool) (o u ino:Nat) (e:Ending) (w':World):Prop :=
 ac F w w'/\((ax (Pg 1) 1 ino 4096=[]/\e = .returned (.tuple #[.int .i64 0,.int .i64 7])/\Pc w' c F size N Pg Cm D o (u+2)) \/
  ∃(q:Nat) (rest:List Nat),ax (Pg 1) 1 ino 4096=q :: rest/\((min size 100<(dkD N D).length+rT Pg D q/\e = .returned (.tuple #[.int .i64 0,.int .i64 7])/\Pc w' c F size N Pg Cm D o (u+2)) \/
   ((dkD N D).length+rT Pg D q<=min size 100/\e = .returned (.tuple #[.int .i64 q,.int .i64 0])/\Pc w' c F size N (il Pg q) Cm (nR Pg D q) o (u+2))))
theorem sX (h:aT w m c ino) (hmF:¬F m) (hi:ino<=512) (h8:ino%8=0) (hN:3+ino / 8<=N) (hN2:2<=N) (hu:u<999999) (hp:Pc w c F size N Pg Cm D o u) :
  Calls Tryz.prog 65 #[.pointer (some ⟨m,0,none⟩)] w (yW w c F size N Pg Cm D o u ino):=by
 have hN4:=hp.four;have HO:=hid (fp h);have HFl:=hid hp.lt;have HLen:=hid (hp.len 1 (by omega));have HNx:=hid (fun W (hW:Below w.heap.size w W)=>oq (h.below hW) hmF 1 1 ino 0 qM (by omega) (by omega) (by omega) (hp.below hW));have HM:=hid h;clear h hp;go_enter Tryz.func65,Tryz.ntmps65
 go_wp2_with fail
 refine HO.out.mono ?_;clear HO;rintro e w1 ⟨rfl,hb1⟩;have HB1:=hid hb1;have HN1:=hid (HNx.out w1 hb1);clear HNx hb1
 go_wp2_with fail
 refine HN1.out.mono ?_;clear HN1;rintro e w2 ⟨hk2,hp2,hx⟩;have HK2:=hid ((ac.of_below HB1.out:ac F w w1).trans hk2 (fun i e => .inl e));have HP2:=hid hp2;have HM2:Hid (aT w2 m c ino):=(HM.out.below HB1.out).keep hk2 hmF;clear hk2 hp2;rcases hx with ⟨h0,rfl⟩ | ⟨q,rest,g,cap,h0,hq4,rfl,hg,hby⟩
 ·have H0:=hid h0;clear h0;have hb3:Below w2.heap.size w2 (w2.alloc (.cells #[.int .i64 0,.slice none 0 0] 111)):=(Below.refl _ w2).alloc (Nat.le_refl _) _;have HB3:=hid hb3;clear hb3;go_wp2;go_returns;exact ⟨HK2.out.trans (ac.of_below HB3.out:ac (fun _=>False) w2 _) (fun i e=>e.elim),.inl ⟨H0.out,rfl,(HP2.out.below HB3.out).more (Nat.le_refl _) (by omega)⟩⟩
 ·have H0:=hid h0;have hff:=bN h0;obtain ⟨wa,hwa⟩:∃wa,wa=w2.alloc (.cells #[.int .i64 1,.slice (some ⟨g,0,none⟩) 512 cap] 111):=⟨_,rfl⟩;have hb3:Below w2.heap.size w2 wa:=by rw [hwa];exact (Below.refl _ w2).alloc (Nat.le_refl _) _
  have hbx:wa.heap[w2.heap.size]? = some (.cells #[.int .i64 1,.slice (some ⟨g,0,none⟩) 512 cap] 111 (0,0)):=by rw [hwa];exact af w2 _
  have HBx:=hid hbx;have HB3:=hid hb3;have HK3:Hid (ac F w wa):=HK2.out.trans (ac.of_below hb3:ac (fun _=>False) w2 _) (fun i e=>e.elim);have Hby:Hid (az wa ⟨g,0,none⟩ (flipL (Pg 1) q)):=fun j hj=>(hb3.cell (World.block_lt_of_cell? w2 _ (hby j hj))).trans (hby j hj);have Hg:Hid (w.heap.size<=g):=Nat.le_trans HB1.out.size hg;have hcl:=pV (HM2.out.below hb3) hi q (by omega) hN h8 (by omega) (HP2.out.below hb3);obtain ⟨T,hT⟩:∃T,T=td Pg q:=⟨_,rfl⟩;obtain ⟨tp,htp⟩:∃tp,tp=3+q / 8:=⟨_,rfl⟩;have htN:tp<N:=by omega
  have HTl:Hid (T.length=512):=by rw [hT];unfold td;rw [Hid,gK];exact HP2.out.len _ (by omega)
  rw [show clr (Pg (3+q / 8)) (q%8*64) 64=T from hT.symm, <- htp] at hcl;have HCl:=hid hcl;have HT:=hid hT;have HTp:=hid htp;clear hcl hT htp;have Hff:=hid hff;clear h0 hff hb3 hbx hby hg;obtain ⟨nb,hnb⟩:∃nb,nb=w2.heap.size:=⟨_,rfl⟩;rw [<- hnb] at HBx;have HNb:Hid (w.heap.size<=nb):=by rw [hnb];exact HK2.out.size
  go_wp2_with fail
  rw [<- hwa, <- hnb];clear hwa hnb;refine HCl.out.mono ?_;clear HCl;rintro e w4 ⟨g3,cap3,rfl,hg3,hby3,hk4,hp4⟩;have HK4:=hid (HK3.out.trans hk4 (fun i e => .inl e));have hFn:¬F nb:=fun hf=>by have h1:=HFl.out _ hf;have h2:=HNb.out;omega
  have HBx4:=hid (hk4.heap HBx.out hFn);have HP4:=hid hp4;have HM4:Hid (aT w4 m c ino):=(HM2.out.below HB3.out).keep hk4 hmF;have Hby4:Hid (az w4 ⟨g,0,none⟩ (flipL (Pg 1) q)):=fun j hj=>hk4.cell (Hby.out j hj) (by rw [aJ];exact fun hf=>by have h1:g<w.heap.size:=HFl.out _ hf;have h2:=Hg.out;omega);have Hby3:=hid hby3;have Hg3:Hid (w.heap.size<=g3):=Nat.le_trans HK3.out.size hg3;have HSz4:=hid HK4.out.size;clear hg3 hby3 hk4 hp4 hFn HBx Hby HB3 HM2 HP2;have hb5:Below w4.heap.size w4 (w4.alloc (.cells #[.int .i64 tp,.slice (some ⟨g3,0,none⟩) 512 cap3] 111)):=(Below.refl _ w4).alloc (Nat.le_refl _) _;have hbt:=af w4 (.cells #[.int .i64 tp,.slice (some ⟨g3,0,none⟩) 512 cap3] 111);obtain ⟨w5,hw5⟩:∃w5,w4.alloc (.cells #[.int .i64 tp,.slice (some ⟨g3,0,none⟩) 512 cap3] 111)=w5:=⟨_,rfl⟩;rw [hw5] at hb5 hbt;have hbx5:=ah hb5 HBx4.out (ae HBx4.out);have c0:w5.cell? ⟨nb,0,none⟩=some (.int .i64 1):=aa hbx5 0;have c1:w5.cell? ⟨nb,1,none⟩=some (.slice (some ⟨g,0,none⟩) 512 cap):=aa hbx5 1;have HK5:Hid (ac F w w5):=HK4.out.andBelow hb5;have HP5:=hid (HP4.out.below hb5);have HM5:=hid (HM4.out.below hb5);have Hby5:Hid (az w5 ⟨g,0,none⟩ (flipL (Pg 1) q)):=fun j hj=>(hb5.cell (World.block_lt_of_cell? w4 _ (Hby4.out j hj))).trans (Hby4.out j hj);have Hbt5:Hid (az w5 ⟨g3,0,none⟩ T):=fun j hj=>(hb5.cell (World.block_lt_of_cell? w4 _ (Hby3.out j hj))).trans (Hby3.out j hj);have HFg:Hid (¬F g):=fun hf=>by have h1:g<w.heap.size:=HFl.out _ hf;have h2:=Hg.out;omega
  have HFg3:Hid (¬F g3):=fun hf=>by have h1:g3<w.heap.size:=HFl.out _ hf;have h2:=Hg3.out;omega
  have HFn5:Hid (¬F w5.heap.size):=fun hf=>by have h1:=HFl.out _ hf;have h2:=HK5.out.size;omega
  have HLf:Hid ((flipL (Pg 1) q).length=512):=by rw [Hid,bO];exact HLen.out
  by_cases hot:T=Pg tp
  ·rw [decide_eq_false (show ¬ ¬T=Pg tp from fun h=>h hot)];have HOt:=hid hot;have hb6:Below w5.heap.size w5 (w5.alloc (.cells #[.int .i64 1,.slice (some ⟨g,0,none⟩) 512 cap] 111)):=(Below.refl _ w5).alloc (Nat.le_refl _) _;have hbl6:=af w5 (.cells #[.int .i64 1,.slice (some ⟨g,0,none⟩) 512 cap] 111);have hws:l6 (w5.alloc (.cells #[.int .i64 1,.slice (some ⟨g,0,none⟩) 512 cap] 111)) w5.heap.size [⟨1,g,cap,flipL (Pg 1) q⟩] F N:=by
    refine ⟨fun i hi => ?_,fun _=>HFn5.out,fun p hp => ?_⟩
    ·obtain rfl:i=0:=by simp at hi;omega
     exact ⟨aa hbl6 0,aa hbl6 1⟩
    ·obtain rfl:p=⟨1,g,cap,flipL (Pg 1) q⟩:=by simpa using hp
     exact ⟨by show 1<N;omega,HLf.out,fun j hj=>(hb6.cell (World.block_lt_of_cell? w5 _ (Hby5.out j hj))).trans (Hby5.out j hj),HFg.out⟩
   have HWr:=hid (fd (HM5.out.below hb6) hmF w5.heap.size _ hws 1 (by simp) (by simp) (HP5.out.below hb6));have HK6:=hid (HK5.out.andBelow hb6);clear hot hb6 hbl6 hws hbt hbx5 hb5;have HC:Hid (rT Pg D q=(if D 1 then 0 else 1)):=by rw [Hid,rT, <- HT.out, <- HTp.out,if_pos HOt.out];rfl
   have HP:Hid (il Pg q=bf Pg 1 (flipL (Pg 1) q)):=by rw [Hid,il, <- HT.out, <- HTp.out,if_pos HOt.out]
   have HD:Hid (nR Pg D q=br D 1):=by rw [Hid,nR, <- HT.out, <- HTp.out,if_pos HOt.out]
   go_wp2_with fail
   refine HWr.out.mono ?_;clear HWr;rintro e w7 ⟨hk7,hw7⟩;have HK7:=hid (HK6.out.trans hk7 (fun i e => .inl e));rw [jV] at hw7;clear hk7 c0 c1 hw5;rcases hw7 with ⟨hf,rfl,hp7⟩ | ⟨hf,rfl,hp7⟩
   ·have HP7:=hid hp7;have Hf:=hid hf;clear hp7 hf
    go_wp2_with fail
    refine (dA (q:Int) 7 w7).mono ?_;rintro e w8 ⟨rfl,h8'⟩;obtain rfl:=h8'.symm;clear h8';go_wp2;go_returns;exact ⟨HK7.out,.inr ⟨q,rest,H0.out,.inl ⟨by rw [HC.out];exact Hf.out,rfl,HP7.out⟩⟩⟩
   ·have HP7:=hid hp7;have Hf:=hid hf;clear hp7 hf
    go_wp2_with fail
    refine (dA (q:Int) 0 w7).mono ?_;rintro e w8 ⟨rfl,h8'⟩;obtain rfl:=h8'.symm;clear h8';rw [if_pos rfl];go_wp2;go_returns;exact ⟨HK7.out,.inr ⟨q,rest,H0.out,.inr ⟨by rw [HC.out];exact Hf.out,rfl,by rw [HP.out,HD.out];exact HP7.out⟩⟩⟩
  ·rw [decide_eq_true hot];have HOt:=hid hot;have t0:w5.cell? ⟨w4.heap.size,0,none⟩=some (.int .i64 tp):=aa hbt 0;have t1:w5.cell? ⟨w4.heap.size,1,none⟩=some (.slice (some ⟨g3,0,none⟩) 512 cap3):=aa hbt 1;have hb6:Below w5.heap.size w5 (w5.alloc (.cells #[.int .i64 1,.slice (some ⟨g,0,none⟩) 512 cap,.int .i64 tp,.slice (some ⟨g3,0,none⟩) 512 cap3] 111)):=(Below.refl _ w5).alloc (Nat.le_refl _) _;have hbl6:=af w5 (.cells #[.int .i64 1,.slice (some ⟨g,0,none⟩) 512 cap,.int .i64 tp,.slice (some ⟨g3,0,none⟩) 512 cap3] 111);have hws:l6 (w5.alloc (.cells #[.int .i64 1,.slice (some ⟨g,0,none⟩) 512 cap,.int .i64 tp,.slice (some ⟨g3,0,none⟩) 512 cap3] 111)) w5.heap.size [⟨1,g,cap,flipL (Pg 1) q⟩,⟨tp,g3,cap3,T⟩] F N:=by
    refine ⟨fun i hi => ?_,fun _=>HFn5.out,fun p hp => ?_⟩
    ·have hi2:i=0\/i=1:=by simp at hi;omega
     rcases hi2 with rfl | rfl
     ·exact ⟨aa hbl6 0,aa hbl6 1⟩
     ·exact ⟨aa hbl6 2,aa hbl6 3⟩
    ·simp only [List.mem_cons,List.mem_nil_iff,or_false] at hp;rcases hp with rfl | rfl
     ·exact ⟨by show 1<N;omega,HLf.out,fun j hj=>(hb6.cell (World.block_lt_of_cell? w5 _ (Hby5.out j hj))).trans (Hby5.out j hj),HFg.out⟩
     ·exact ⟨htN,HTl.out,fun j hj=>(hb6.cell (World.block_lt_of_cell? w5 _ (Hbt5.out j hj))).trans (Hbt5.out j hj),HFg3.out⟩
   have HWr:=hid (fd (HM5.out.below hb6) hmF w5.heap.size _ hws 2 (by simp) (by simp) (HP5.out.below hb6));have HK6:=hid (HK5.out.andBelow hb6);clear hot hb6 hbl6 hws hbt hbx5 hb5;have HC:Hid (rT Pg D q=(if D 1 then 0 else 1)+(if D (tp:Nat) then 0 else 1)):=by rw [Hid,rT, <- HT.out, <- HTp.out,if_neg HOt.out]
   have HP:Hid (il Pg q=bf (bf Pg 1 (flipL (Pg 1) q)) tp T):=by rw [Hid,il, <- HT.out, <- HTp.out,if_neg HOt.out]
   have HD:Hid (nR Pg D q=br (br D 1) (tp:Nat)):=by rw [Hid,nR, <- HT.out, <- HTp.out,if_neg HOt.out]
   go_wp2_with fail
   refine HWr.out.mono ?_;clear HWr;rintro e w7 ⟨hk7,hw7⟩;have HK7:=hid (HK6.out.trans hk7 (fun i e => .inl e));rw [eV,jV] at hw7;clear hk7 c0 c1 t0 t1 hw5;rcases hw7 with ⟨hf,rfl,hp7⟩ | ⟨hf,rfl,hp7⟩
   ·have HP7:=hid hp7;have Hf:=hid hf;clear hp7 hf
    go_wp2_with fail
    refine (dA (q:Int) 7 w7).mono ?_;rintro e w8 ⟨rfl,h8'⟩;obtain rfl:=h8'.symm;clear h8';go_wp2;go_returns;exact ⟨HK7.out,.inr ⟨q,rest,H0.out,.inl ⟨by rw [HC.out];exact Hf.out,rfl,HP7.out⟩⟩⟩
   ·have HP7:=hid hp7;have Hf:=hid hf;clear hp7 hf
    go_wp2_with fail
    refine (dA (q:Int) 0 w7).mono ?_;rintro e w8 ⟨rfl,h8'⟩;obtain rfl:=h8'.symm;clear h8';rw [if_pos rfl];go_wp2;go_returns;exact ⟨HK7.out,.inr ⟨q,rest,H0.out,.inr ⟨by rw [HC.out];exact Hf.out,rfl,by rw [HP.out,HD.out];exact HP7.out⟩⟩⟩
end
end
section
set_option maxRecDepth 100000
set_option maxHeartbeats 2000000
open Go.RowKit
def gy (w:World) (g:Nat) (L:List Bool):Prop:=∀j (hj:j<L.length),w.cell? ⟨g,j,none⟩=some (.bool L[j])
theorem gy.keep {w w':World} {g:Nat} {L:List Bool} {F:Nat->Prop} (h:gy w g L) (k:ac F w w') (hF:¬F g):gy w' g L:=fun j hj=>k.cell (h j hj) hF
end
section
open Go.RowKit
def zM (w:World) (g cap:Nat) (L:List Bool) (e:Ending) (w':World):Prop :=
 ((∀j (hj:j<L.length),L[j]=true)/\e = .returned (.tuple #[.slice (some ⟨g,0,none⟩) L.length cap,.int .i64 0,.int .i64 7])/\w'=w) \/
  ∃(n:Nat) (hn:n<L.length) (g' cap':Nat),L[n]=false/\(∀j (hj:j<n),L[j]=true)/\e = .returned (.tuple #[.slice (some ⟨g',0,none⟩) L.length cap',.int .i64 n,.int .i64 0])/\w.heap.size<=g'/\gy w' g' (L.set n true)/\Below w.heap.size w w'
theorem nJ (g cap:Nat) (L:List Bool) (hL:L.length<=4096) (w:World) (h:gy w g L) :
  Calls Tryz.prog 134 #[.slice (some ⟨g,0,none⟩) L.length cap] w (zM w g cap L):=by
 have H:=hid h;obtain ⟨i0,hi0,hz0,hz1,hz2⟩:=info_parts sY;have HI:=hid hi0;have HX:Hid (∀j u,(L.map Value.bool)[j]? = some u->w.cell? ((⟨g,0,none⟩:Addr).add j)=some u):=fun j u hu=>by
  have hj:j<L.length:=by simpa using (List.getElem?_eq_some_iff.1 hu).1
  rw [Addr.add_mid,Nat.zero_add,h j hj];rw [List.getElem?_map,List.getElem?_eq_getElem hj] at hu;exact hu
 clear h hi0;go_enter Tryz.func134,Tryz.ntmps134;go_wp2
 go_loopw [5] (fun iv wr=>∃j:Nat,j<=L.length/\iv = .int .i64 j/\Hid (∀i (hi:i<L.length),i<j->L[i]=true)/\wr=w) (fun iv _=>L.length-(intOf iv).toNat)
 case atStart=>exact ⟨0,by omega,rfl,fun i _ hi=>by omega,rfl⟩
 case round =>
  obtain ⟨j,hj,rfl,HT,rfl⟩:=hrel;by_cases hlt:j<L.length
  ·have hlt':(j:Int)<(L.length:Int):=by omega
   have hj0:(0:Int)<=(j:Int):=by omega
   have c0:=H.out j hlt;cases hb:L[j] with
   | true =>
    rw [hb] at c0;go_wp2;exact ⟨⟨j+1,by omega,by go_num,fun i hi hij=>by
     rcases Nat.lt_or_ge i j with h1 | h1
     ·exact HT.out i hi h1
     ·have e:i=j:=by omega
      subst e;exact hb,trivial⟩,by simp [intOf];omega⟩
   | false =>
    rw [hb] at c0;have hpos:0<L.length:=by omega
    go_wp2_with (refine wpList_append_lies _ rfl (.tmp 18) (.tmp 19) 132 rfl wr.heap.size 4 i0 (.bool false) 1 1 Tryz.underlying132 HI.out hz0 hz1 hz2 rfl (by omega) (.slice none 0 0) 0 [] rfl (World.ownsRow_nil _ _ _ _) ⟨g,0,none⟩ L.length cap (L.map Value.bool) rfl (by simp) HX.out (by intro u hu;obtain ⟨x,_,rfl⟩:=List.mem_map.1 hu;rfl) hpos (by unfold maxLen;omega) (by omega) (Nat.le_refl _) wr.heap.size rfl ?_;intro g2 cap2 w2 hown hgr hat hlt2;rw [Nat.zero_add,List.nil_append] at hown;rw [Nat.zero_add];have HO:=hid hown;have c1:w2.cell? ⟨g2,j,none⟩=some (.bool L[j]):=(by rw [hown.cellAt j (by simpa using hlt),List.getElem?_map,List.getElem?_eq_getElem hlt];rfl);have f1:w2.frozen? ⟨g2,j,none⟩=false:=(by obtain ⟨-,h2⟩:=hown;rcases h2 with ⟨e,-⟩ | ⟨g3,cap3,cur,e,-,hh,-⟩;exact absurd e (by simp);obtain ⟨rfl,-⟩:g2=g3/\cap2=cap3:=(by simpa using e);exact ai hh _);have HG:=hid hgr;have HAt:=hid hat;clear hown hgr hat)
    go_returns;have hw2:wr.heap.size<=g2:=by rcases HAt.out with e | e;cases e;omega
    refine .inr ⟨j,hlt,g2,cap2,hb,fun i hi=>HT.out i (by omega) hi,rfl,hw2,fun i hi => ?_,?_⟩
    ·have hi':i<L.length:=by simpa using hi
     by_cases e:i=j
     ·subst e;rw [List.getElem_set_self];exact World.cell?_setCell_same' w2 _ _ (by rw [c1];rfl)
     ·rw [List.getElem_set_ne (fun h=>e h.symm),World.cell?_setCell_other _ _ _ _ (fun h=>e (by cases h;rfl)),HO.out.cellAt i (by simpa using hi'),List.getElem?_map,List.getElem?_eq_getElem hi'];rfl
    ·exact Below.setCell ⟨HG.out.os,HG.out.tape,HG.out.output,HG.out.size,fun k hk=>HG.out.block k hk (by simp [Value.ownBlock])⟩ (show wr.heap.size<=Addr.block ⟨g2,j,none⟩ from hw2) _
  ·obtain rfl:j=L.length:=by omega
   have hge:¬((L.length:Int)<(L.length:Int)):=by omega
   go_wp2;go_returns;exact .inl ⟨fun j hj=>HT.out j hj hj,rfl,rfl⟩
end
section
open Go.RowKit
theorem pO (g cap:Nat) (L:List Bool) (n:Int) (least:Nat) (hn:¬((least:Int)<=n/\n<L.length)) (w:World) :
  Calls Tryz.prog 206 #[.slice (some ⟨g,0,none⟩) L.length cap,.int .i64 n,.int .i64 least] w fun e w'=>e = .returned (.tuple #[.slice (some ⟨g,0,none⟩) L.length cap,.int .i64 2])/\w'=w:=by
 by_cases h1:n<(least:Int)
 ·clear hn;go_enter Tryz.func206,Tryz.ntmps206;go_wp2;go_returns;exact ⟨rfl,rfl⟩
 ·have h2:(L.length:Int)<=n:=by omega
  clear hn;go_enter Tryz.func206,Tryz.ntmps206;go_wp2;go_returns;exact ⟨rfl,rfl⟩
theorem rB (g cap:Nat) (L:List Bool) (n least:Nat) (hl:least<=n) (hn:n<L.length) (hb:L[n]=false) (w:World) (h:gy w g L) :
  Calls Tryz.prog 206 #[.slice (some ⟨g,0,none⟩) L.length cap,.int .i64 n,.int .i64 least] w fun e w'=>e = .returned (.tuple #[.slice (some ⟨g,0,none⟩) L.length cap,.int .i64 4])/\w'=w:=by
 have c0:=h n hn;rw [hb] at c0;have h1:¬((n:Int)<(least:Int)):=by omega
 have h2:(n:Int)<(L.length:Int):=by omega
 have h3:(0:Int)<=(n:Int):=by omega
 clear h hl hb;go_enter Tryz.func206,Tryz.ntmps206;go_wp2;go_returns;exact ⟨rfl,rfl⟩
theorem vj (g cap:Nat) (L:List Bool) (hL:L.length<=4096) (n least:Nat) (hl:least<=n) (hn:n<L.length) (hb:L[n]=true) (w:World) (h:gy w g L) :
  Calls Tryz.prog 206 #[.slice (some ⟨g,0,none⟩) L.length cap,.int .i64 n,.int .i64 least] w fun e w'=>∃g' cap',e = .returned (.tuple #[.slice (some ⟨g',0,none⟩) L.length cap',.int .i64 0])/\w.heap.size<=g'/\gy w' g' (L.set n false)/\Below w.heap.size w w':=by
 have c0:=h n hn;rw [hb] at c0;obtain ⟨i0,hi0,hz0,hz1,hz2⟩:=info_parts sY;have HI:=hid hi0;have HX:Hid (∀j u,(L.map Value.bool)[j]? = some u->w.cell? ((⟨g,0,none⟩:Addr).add j)=some u):=fun j u hu=>by
  have hj:j<L.length:=by simpa using (List.getElem?_eq_some_iff.1 hu).1
  rw [Addr.add_mid,Nat.zero_add,h j hj];rw [List.getElem?_map,List.getElem?_eq_getElem hj] at hu;exact hu
 have h1:¬((n:Int)<(least:Int)):=by omega
 have h2:(n:Int)<(L.length:Int):=by omega
 have h3:(0:Int)<=(n:Int):=by omega
 have hpos:0<L.length:=by omega
 clear h hl hb hi0;go_enter Tryz.func206,Tryz.ntmps206
 go_wp2_with (refine wpList_append_lies _ rfl (.tmp 25) (.tmp 26) 132 rfl w.heap.size 4 i0 (.bool false) 1 1 Tryz.underlying132 HI.out hz0 hz1 hz2 rfl (by omega) (.slice none 0 0) 0 [] rfl (World.ownsRow_nil _ _ _ _) ⟨g,0,none⟩ L.length cap (L.map Value.bool) rfl (by simp) HX.out (by intro u hu;obtain ⟨x,_,rfl⟩:=List.mem_map.1 hu;rfl) hpos (by unfold maxLen;omega) (by omega) (Nat.le_refl _) w.heap.size rfl ?_;intro g2 cap2 w2 hown hgr hat hlt2;rw [Nat.zero_add,List.nil_append] at hown;rw [Nat.zero_add];have HO:=hid hown;have c1:w2.cell? ⟨g2,n,none⟩=some (.bool L[n]):=(by rw [hown.cellAt n (by simpa using hn),List.getElem?_map,List.getElem?_eq_getElem hn];rfl);have f1:w2.frozen? ⟨g2,n,none⟩=false:=(by obtain ⟨-,h2⟩:=hown;rcases h2 with ⟨e,-⟩ | ⟨g3,cap3,cur,e,-,hh,-⟩;exact absurd e (by simp);obtain ⟨rfl,-⟩:g2=g3/\cap2=cap3:=(by simpa using e);exact ai hh _);have HG:=hid hgr;have HAt:=hid hat;clear hown hgr hat)
 go_returns;have hw2:w.heap.size<=g2:=by rcases HAt.out with e | e;cases e;omega
 refine ⟨g2,⟨cap2,rfl⟩,hw2,fun i hi => ?_,?_⟩
 ·have hi':i<L.length:=by simpa using hi
  by_cases e:i=n
  ·subst e;rw [List.getElem_set_self];exact World.cell?_setCell_same' w2 _ _ (by rw [c1];rfl)
  ·rw [List.getElem_set_ne (fun h=>e h.symm),World.cell?_setCell_other _ _ _ _ (fun h=>e (by cases h;rfl)),HO.out.cellAt i (by simpa using hi'),List.getElem?_map,List.getElem?_eq_getElem hi'];rfl
 ·exact Below.setCell ⟨HG.out.os,HG.out.tape,HG.out.output,HG.out.size,fun k hk=>HG.out.block k hk (by simp [Value.ownBlock])⟩ (show w.heap.size<=Addr.block ⟨g2,n,none⟩ from hw2) _
end
section
open Go.RowKit
section
variable {L:List UInt8} {a:Nat} {B:List Bool}
def cC (a N:Nat):List Bool:=(List.range N).map (fun n=>decide (n<a))
theorem aM (a N:Nat):(cC a N).length=N:=by simp [cC]
theorem eh (a N n:Nat) (h:n<(cC a N).length):(cC a N)[n]=decide (n<a):=by simp [cC]
theorem yX {B:List Bool} {n:Nat} (hn:n<B.length):B.getD n false=B[n]:=by
 rw [List.getD_eq_getElem?_getD,List.getElem?_eq_getElem hn];rfl
def usedB (B:List Bool) (n:Int):Bool:=decide (0<=n/\n<(B.length:Int))&&B.getD n.toNat false
end
end
section
open Go.RowKit
structure cF (w:World) (r g cp gi ci:Nat) (Lp Li:List Bool):Prop where
 heap:w.heap[r]? = some (.cells #[.int .i64 Lp.length,.int .i64 Li.length,.slice (some ⟨g,0,none⟩) Lp.length cp,.slice (some ⟨gi,0,none⟩) Li.length ci] 134 (0,0))
 rp:gy w g Lp
 ri:gy w gi Li
 np:g≠r
 ni:gi≠r
 lp:Lp.length<=4096
 li:Li.length<=512
 gp:g<w.heap.size
 gl:gi<w.heap.size
section
variable {w w' w1:World} {r g cp gi ci:Nat} {Lp Li:List Bool}
theorem cF.keep {F:Nat->Prop} (h:cF w r g cp gi ci Lp Li) (k:ac F w w') (hr:¬F r) (hg:¬F g) (hi:¬F gi):cF w' r g cp gi ci Lp Li :=
 ⟨k.heap h.heap hr,h.rp.keep k hg,h.ri.keep k hi,h.np,h.ni,h.lp,h.li,Nat.lt_of_lt_of_le h.gp k.size,Nat.lt_of_lt_of_le h.gl k.size⟩
theorem cF.below (h:cF w r g cp gi ci Lp Li) (hb:Below w.heap.size w w'):cF w' r g cp gi ci Lp Li :=
 h.keep (F:=fun _=>False) (ac.of_below hb) (fun h=>h) (fun h=>h) (fun h=>h)
theorem cF.lt (h:cF w r g cp gi ci Lp Li):r<w.heap.size:=ae h.heap
theorem gy.set {b:Nat} {L:List Bool} (h:gy w b L) (hb:b≠r) (j:Nat) (v:Value):gy (w.setCell ⟨r,j,none⟩ v) b L:=fun i hi=>by
 rw [World.cell?_setCell_other _ _ _ _ (fun e=>hb (by cases e;rfl))];exact h i hi
theorem cF.setP (h:cF w r g cp gi ci Lp Li) (hb:Below w.heap.size w w1) (g' cp':Nat) (Lp':List Bool) (hl:Lp'.length=Lp.length) (hr:gy w1 g' Lp') (hg:g'≠r) (hs:g'<w1.heap.size) :
  cF (w1.setCell ⟨r,2,none⟩ (.slice (some ⟨g',0,none⟩) Lp.length cp')) r g' cp' gi ci Lp' Li/\ac (fun i=>i=r) w (w1.setCell ⟨r,2,none⟩ (.slice (some ⟨g',0,none⟩) Lp.length cp')):=by
 have h1:=h.below hb;have hh:=ap h1.heap 2 (.slice (some ⟨g',0,none⟩) Lp.length cp');have k:ac (fun i=>i=r) w w1:=ac.of_below hb;refine ⟨⟨?_,hr.set hg 2 _,h1.ri.set h.ni 2 _,hg,h.ni,by rw [hl];exact h.lp,h.li,by simpa using hs,by simpa using h1.gl⟩,?_⟩
 ·rw [hh,hl];rfl
 ·exact k.grown (ak (ar _ _) _ _) (fun i e => .inl (Option.some.inj e).symm)
theorem cF.setI (h:cF w r g cp gi ci Lp Li) (hb:Below w.heap.size w w1) (g' cp':Nat) (Li':List Bool) (hl:Li'.length=Li.length) (hr:gy w1 g' Li') (hg:g'≠r) (hs:g'<w1.heap.size) :
  cF (w1.setCell ⟨r,3,none⟩ (.slice (some ⟨g',0,none⟩) Li.length cp')) r g cp g' cp' Lp Li'/\ac (fun i=>i=r) w (w1.setCell ⟨r,3,none⟩ (.slice (some ⟨g',0,none⟩) Li.length cp')):=by
 have h1:=h.below hb;have hh:=ap h1.heap 3 (.slice (some ⟨g',0,none⟩) Li.length cp');have k:ac (fun i=>i=r) w w1:=ac.of_below hb;refine ⟨⟨?_,h1.rp.set h.np 3 _,hr.set hg 3 _,h.np,hg,h.lp,by rw [hl];exact h.li,by simpa using h1.gp,by simpa using hs⟩,?_⟩
 ·rw [hh,hl];rfl
 ·exact k.grown (ak (ar _ _) _ _) (fun i e => .inl (Option.some.inj e).symm)
theorem cF.cells (h:cF w r g cp gi ci Lp Li):w.cell? ⟨r,0,none⟩=some (.int .i64 Lp.length)/\w.cell? ⟨r,1,none⟩=some (.int .i64 Li.length)/\w.cell? ⟨r,2,none⟩=some (.slice (some ⟨g,0,none⟩) Lp.length cp)/\w.cell? ⟨r,3,none⟩=some (.slice (some ⟨gi,0,none⟩) Li.length ci) :=
 ⟨aa h.heap 0,aa h.heap 1,aa h.heap 2,aa h.heap 3⟩
theorem iM (h:cF w r g cp gi ci Lp Li):Calls Tryz.prog 62 #[.pointer (some ⟨r,0,none⟩)] w fun e w'=>e = .returned (.int .i64 (3+Li.length / 8:Nat))/\w'=w:=by
 obtain ⟨c0,c1,c2,c3⟩:=h.cells;have hl:=h.li;obtain ⟨k,hk⟩:∃k,k=Li.length:=⟨_,rfl⟩;rw [<- hk] at c1 hl ⊢;have e1:IntKind.i64.wrap (3+(k:Int) / 8)=((3+k / 8:Nat):Int):=by rw [IntWalk.i64_in _ (by omega)];omega
 clear h c0 c2 c3 hk;go_enter Tryz.func62,Tryz.ntmps62;go_wp2;go_ret;refine ⟨?_,rfl⟩
 congr 2
theorem kj (h:cF w r g cp gi ci Lp Li):Calls Tryz.prog 63 #[.pointer (some ⟨r,0,none⟩)] w fun e w'=>e = .returned (.int .i64 Li.length)/\w'=w:=by
 obtain ⟨c0,c1,c2,c3⟩:=h.cells;clear h c0 c2 c3;go_enter Tryz.func63,Tryz.ntmps63;go_wp2;go_ret;exact ⟨rfl,rfl⟩
end
end
section
open Go.RowKit
section
variable {w:World} {r g cp gi ci:Nat} {Lp Li:List Bool}
def zw (w:World) (r:Nat) (L:List Bool) (X:World->List Bool->Nat->Nat->Prop) (g cp:Nat) (e:Ending) (w':World):Prop :=
 ac (fun i=>i=r) w w'/\(((∀j (hj:j<L.length),L[j]=true)/\e = .returned (.tuple #[.int .i64 0,.int .i64 7])/\X w' L g cp) \/
  ∃(n:Nat) (hn:n<L.length) (g' cp':Nat),L[n]=false/\(∀j (hj:j<n),L[j]=true)/\e = .returned (.tuple #[.int .i64 n,.int .i64 0])/\w.heap.size<=g'/\X w' (L.set n true) g' cp')
theorem gy.lt {b:Nat} {L:List Bool} (h:gy w b L) (n:Nat) (hn:n<L.length):b<w.heap.size:=World.block_lt_of_cell? w _ (h n hn)
theorem sr (h:cF w r g cp gi ci Lp Li):Calls Tryz.prog 154 #[.pointer (some ⟨r,0,none⟩)] w (zw w r Lp (fun W L g cp=>cF W r g cp gi ci L Li) g cp):=by
 obtain ⟨c0,c1,c2,c3⟩:=h.cells;have HT:=hid (nJ g cp Lp h.lp w h.rp);have H:=hid h;clear h c0 c1 c3;go_enter Tryz.func154,Tryz.ntmps154
 go_wp2_with fail
 refine HT.out.mono ?_;clear HT;rintro e w1 (⟨hall,rfl,h1⟩ | ⟨n,hn,g',cp',hb,hlow,rfl,hg',hrow,hbel⟩)
 ·obtain rfl:=h1.symm;have f2:w.frozen? ⟨r,2,none⟩=false:=ai H.out.heap 2;have HA:=hid hall;have HX:=hid (H.out.setP (Below.refl _ w) g cp Lp rfl H.out.rp H.out.np H.out.gp);clear h1 hall H;go_wp2;go_returns;exact ⟨HX.out.2,.inl ⟨HA.out,rfl,HX.out.1⟩⟩
 ·have h1:=(H.out.below hbel).heap;have d2:w1.cell? ⟨r,2,none⟩=some (.slice (some ⟨g,0,none⟩) Lp.length cp):=aa h1 2;have f2:w1.frozen? ⟨r,2,none⟩=false:=ai h1 2;have hne:g'≠r:=by have:=H.out.lt;omega
  have HX:=hid (H.out.setP hbel g' cp' (Lp.set n true) List.length_set hrow hne (hrow.lt n (by simpa using hn)));have HA:=hid hlow;have HG:=hid hg';have HB:=hid hb;clear h1 hlow hrow hbel H hne hg' hb;go_wp2;go_returns;exact ⟨HX.out.2,.inr ⟨n,hn,g',cp',HB.out,HA.out,rfl,HG.out,HX.out.1⟩⟩
theorem qp (h:cF w r g cp gi ci Lp Li):Calls Tryz.prog 68 #[.pointer (some ⟨r,0,none⟩)] w (zw w r Li (fun W L g' cp'=>cF W r g cp g' cp' Lp L) gi ci):=by
 obtain ⟨c0,c1,c2,c3⟩:=h.cells;have HT:=hid (nJ gi ci Li (by have:=h.li;omega) w h.ri);have H:=hid h;clear h c0 c1 c2;go_enter Tryz.func68,Tryz.ntmps68
 go_wp2_with fail
 refine HT.out.mono ?_;clear HT;rintro e w1 (⟨hall,rfl,h1⟩ | ⟨n,hn,g',cp',hb,hlow,rfl,hg',hrow,hbel⟩)
 ·obtain rfl:=h1.symm;have f2:w.frozen? ⟨r,3,none⟩=false:=ai H.out.heap 3;have HA:=hid hall;have HX:=hid (H.out.setI (Below.refl _ w) gi ci Li rfl H.out.ri H.out.ni H.out.gl);clear h1 hall H;go_wp2;go_returns;exact ⟨HX.out.2,.inl ⟨HA.out,rfl,HX.out.1⟩⟩
 ·have h1:=(H.out.below hbel).heap;have d2:w1.cell? ⟨r,3,none⟩=some (.slice (some ⟨gi,0,none⟩) Li.length ci):=aa h1 3;have f2:w1.frozen? ⟨r,3,none⟩=false:=ai h1 3;have hne:g'≠r:=by have:=H.out.lt;omega
  have HX:=hid (H.out.setI hbel g' cp' (Li.set n true) List.length_set hrow hne (hrow.lt n (by simpa using hn)));have HA:=hid hlow;have HG:=hid hg';have HB:=hid hb;clear h1 hlow hrow hbel H hne hg' hb;go_wp2;go_returns;exact ⟨HX.out.2,.inr ⟨n,hn,g',cp',HB.out,HA.out,rfl,HG.out,HX.out.1⟩⟩
def zW (w:World) (r:Nat) (L:List Bool) (least:Nat) (n:Int) (X:World->List Bool->Nat->Nat->Prop) (g cp:Nat) (e:Ending) (w':World):Prop :=
 ac (fun i=>i=r) w w'/\((¬((least:Int)<=n/\n<L.length)/\e = .returned (.int .i64 2)/\X w' L g cp) \/
  ∃(k:Nat) (hk:k<L.length),n=(k:Int)/\least<=k/\((L[k]=false/\e = .returned (.int .i64 4)/\X w' L g cp)\/∃g' cp',L[k]=true/\e = .returned (.int .i64 0)/\w.heap.size<=g'/\X w' (L.set k false) g' cp'))
def zG (w:World) (g cap:Nat) (L:List Bool) (n:Int) (least:Nat) (e:Ending) (w':World):Prop :=
 (¬((least:Int)<=n/\n<L.length)/\e = .returned (.tuple #[.slice (some ⟨g,0,none⟩) L.length cap,.int .i64 2])/\w'=w) \/
  ∃(k:Nat) (hk:k<L.length),n=(k:Int)/\least<=k/\((L[k]=false/\e = .returned (.tuple #[.slice (some ⟨g,0,none⟩) L.length cap,.int .i64 4])/\w'=w) \/
   ∃g' cap',L[k]=true/\e = .returned (.tuple #[.slice (some ⟨g',0,none⟩) L.length cap',.int .i64 0])/\w.heap.size<=g'/\gy w' g' (L.set k false)/\Below w.heap.size w w')
theorem sL (g cap:Nat) (L:List Bool) (hL:L.length<=4096) (n:Int) (least:Nat) (w:World) (h:gy w g L) :
  Calls Tryz.prog 206 #[.slice (some ⟨g,0,none⟩) L.length cap,.int .i64 n,.int .i64 least] w (zG w g cap L n least):=by
 by_cases hn:(least:Int)<=n/\n<L.length
 ·obtain ⟨k,rfl⟩:∃k:Nat,n=(k:Int):=⟨n.toNat,by omega⟩;have hk:k<L.length:=by omega
  have hl:least<=k:=by omega
  cases hb:L[k] with
  | false =>
   refine (rB g cap L k least hl hk hb w h).mono ?_;rintro e w' ⟨rfl,rfl⟩;exact .inr ⟨k,hk,rfl,hl,.inl ⟨hb,rfl,rfl⟩⟩
  | true =>
   refine (vj g cap L hL k least hl hk hb w h).mono ?_;rintro e w' ⟨g',cap',rfl,h1,h2,h3⟩;exact .inr ⟨k,hk,rfl,hl,.inr ⟨g',cap',hb,rfl,h1,h2,h3⟩⟩
 ·refine (pO g cap L n least hn w).mono ?_;rintro e w' ⟨rfl,rfl⟩;exact .inl ⟨hn,rfl,rfl⟩
theorem mL (h:cF w r g cp gi ci Lp Li) (n:Int):Calls Tryz.prog 155 #[.pointer (some ⟨r,0,none⟩),.int .i64 n] w (zW w r Lp (3+Li.length / 8) n (fun W L g cp=>cF W r g cp gi ci L Li) g cp):=by
 have hb0:Below w.heap.size w w.drew:=(Below.refl _ w).drew;have hd0:=h.below hb0;obtain ⟨-,-,c2,-⟩:=h.cells;have HF:=hid (iM hd0);have HT:=hid (sL g cp Lp h.lp n (3+Li.length / 8) w.drew hd0.rp);have H:=hid hd0;have HB0:=hid hb0;obtain ⟨-,-,d2,-⟩:=hd0.cells;obtain ⟨f,hf⟩:∃f,f=3+Li.length / 8:=⟨_,rfl⟩;rw [<- hf] at HF HT ⊢;clear h hf hd0 hb0;go_enter Tryz.func155,Tryz.ntmps155;go_wp2;refine wp_region_noPanic ?_;refine wp_region_held_drew (S:=fun W=>W.cell? ⟨r,2,none⟩=some (.slice (some ⟨g,0,none⟩) Lp.length cp)) (by kernel_rfl) c2 (fun hHeld => ?_);generalize w.drew=wd at *;refine tq 0 _ ?_
 try simp only [tS]
 refine tq 1 _ ?_
 try simp only [tS]
 refine tq 2 _ ?_
 try simp only [tS]
 refine tq 3 _ ?_
 try simp only [tS]
 refine tq 4 _ ?_
 try simp only [tS]
 refine tq 5 _ ?_
 try simp only [tS]
 refine tr 6 (fun K hK => ?_);go_simp;refine HF.out.mono ?_;clear HF;rintro e w0 ⟨rfl,h0⟩;obtain rfl:=h0.symm;clear h0
 go_wp2_with fail
 refine hK.out _ _ d2 (fun hHeld => ?_);clear hK K
 try simp only [tS]
 refine tr 7 (fun K hK => ?_);go_simp;refine HT.out.mono ?_;clear HT;rintro e w1 (⟨hno,rfl,h1⟩ | ⟨k,hk,hnk,hlk,⟨hb,rfl,h1⟩ | ⟨g',cp',hb,rfl,hg',hrow,hbel⟩⟩)
 ·obtain rfl:=h1.symm;have f2:wd.frozen? ⟨r,2,none⟩=false:=ai H.out.heap 2;have HA:=hid hno;have HX:=hid (H.out.setP (Below.refl _ wd) g cp Lp rfl H.out.rp H.out.np H.out.gp);clear h1 hno H
  go_wp2_with fail
  refine hK.out _ _ d2 (fun hHeld => ?_);clear hK K
  try simp only [tS]
  refine tq 8 _ ?_
  try simp only [tS]
  refine tq 9 _ ?_
  try simp only [tS]
  refine tq 10 _ ?_
  try simp only [tS]
  refine tq 11 _ ?_
  try simp only [tS]
  refine tq 12 _ ?_
  try simp only [tS]
  refine wpAnyH_done (by kernel_rfl) ?_ _;refine NoPanic.normal ?_;clear hHeld;go_wp2;go_ret;exact ⟨(ac.of_below HB0.out).trans HX.out.2 (fun i e => .inl e),.inl ⟨HA.out,rfl,HX.out.1⟩⟩
 ·obtain rfl:=h1.symm;have f2:wd.frozen? ⟨r,2,none⟩=false:=ai H.out.heap 2;have HA:=hid hnk;have HB:=hid hb;have HX:=hid (H.out.setP (Below.refl _ wd) g cp Lp rfl H.out.rp H.out.np H.out.gp);clear h1 hnk hb H
  go_wp2_with fail
  refine hK.out _ _ d2 (fun hHeld => ?_);clear hK K
  try simp only [tS]
  refine tq 8 _ ?_
  try simp only [tS]
  refine tq 9 _ ?_
  try simp only [tS]
  refine tq 10 _ ?_
  try simp only [tS]
  refine tq 11 _ ?_
  try simp only [tS]
  refine tq 12 _ ?_
  try simp only [tS]
  refine wpAnyH_done (by kernel_rfl) ?_ _;refine NoPanic.normal ?_;clear hHeld;go_wp2;go_ret;exact ⟨(ac.of_below HB0.out).trans HX.out.2 (fun i e => .inl e),.inr ⟨k,hk,HA.out,hlk,.inl ⟨HB.out,rfl,HX.out.1⟩⟩⟩
 ·have h1:=(H.out.below hbel).heap;have hne:g'≠r:=by have:=H.out.lt;omega
  have HX:=hid (H.out.setP hbel g' cp' (Lp.set k false) List.length_set hrow hne (hrow.lt k (by simpa using hk)));have HA:=hid hnk;have HG:Hid (w.heap.size<=g'):=Nat.le_trans HB0.out.size hg';have HB:=hid hb;clear d2;have d2:w1.cell? ⟨r,2,none⟩=some (.slice (some ⟨g,0,none⟩) Lp.length cp):=aa h1 2;have f2:w1.frozen? ⟨r,2,none⟩=false:=ai h1 2;clear h1 hnk hrow hbel H hne hg' hb
  go_wp2_with fail
  refine hK.out _ _ d2 (fun hHeld => ?_);clear hK K
  try simp only [tS]
  refine tq 8 _ ?_
  try simp only [tS]
  refine tq 9 _ ?_
  try simp only [tS]
  refine tq 10 _ ?_
  try simp only [tS]
  refine tq 11 _ ?_
  try simp only [tS]
  refine tq 12 _ ?_
  try simp only [tS]
  refine wpAnyH_done (by kernel_rfl) ?_ _;refine NoPanic.normal ?_;clear hHeld;go_wp2;go_ret;exact ⟨(ac.of_below HB0.out).trans HX.out.2 (fun i e => .inl e),.inr ⟨k,hk,HA.out,hlk,.inr ⟨g',cp',HB.out,rfl,HG.out,HX.out.1⟩⟩⟩
end
end
section
open Go.RowKit
section
variable {w:World} {r g cp gi ci:Nat} {Lp Li:List Bool}
theorem l5 (h:cF w r g cp gi ci Lp Li) (n:Int):Calls Tryz.prog 152 #[.pointer (some ⟨r,0,none⟩),.int .i64 n] w fun e w'=>e = .returned (.bool (usedB Li n))/\w'=w:=by
 obtain ⟨c0,c1,c2,c3⟩:=h.cells;have HR:=hid h.ri;clear h c0 c1 c2;by_cases h0:n<0
 ·have e:usedB Li n=false:=by unfold usedB;rw [decide_eq_false (fun h=>by omega)];rfl
  rw [e];clear e;go_enter Tryz.func152,Tryz.ntmps152;go_wp2;go_ret;exact ⟨rfl,rfl⟩
 ·have h00:0<=n:=by omega
  by_cases h1:n<(Li.length:Int)
  ·obtain ⟨k,rfl⟩:∃k:Nat,n=(k:Int):=⟨n.toNat,by omega⟩;have hk:k<Li.length:=by omega
   have ck:=HR.out k hk;have e:usedB Li (k:Int)=Li[k]:=by unfold usedB;rw [decide_eq_true (by omega),Int.toNat_natCast,yX hk,Bool.true_and]
   rw [e];clear e HR;generalize Li[k]=b at *;go_enter Tryz.func152,Tryz.ntmps152;go_wp2;go_ret;exact ⟨rfl,rfl⟩
  ·have e:usedB Li n=false:=by unfold usedB;rw [decide_eq_false (fun h=>by omega)];rfl
   rw [e];clear e;go_enter Tryz.func152,Tryz.ntmps152;go_wp2;go_ret;exact ⟨rfl,rfl⟩
end
end
section
open Go.RowKit
theorem rx (N:Nat):cC 0 N=List.replicate N false:=by
 refine List.ext_getElem (by rw [aM,List.length_replicate]) (fun i h1 h2 => ?_);rw [eh,List.getElem_replicate];exact decide_eq_false (by omega)
theorem mQ (a N:Nat):(cC a N).set a true=cC (a+1) N:=by
 refine List.ext_getElem (by rw [List.length_set,aM,aM]) (fun i h1 h2 => ?_);rw [eh,List.getElem_set]
 split
 ·rename_i e;subst e;exact (decide_eq_true (by omega)).symm
 ·rw [eh];apply decide_eq_decide.2;omega
theorem dG.below {w w':World} {b:Nat} {L:List Bool} (h:dG w b L) (k:Below w.heap.size w w'):dG w' b L:=ah k h (ae h)
theorem dG.row {w:World} {b:Nat} {L:List Bool} (h:dG w b L):gy w b L:=fun j hj=>h.cell j hj
theorem dG.other {w:World} {b b':Nat} {L:List Bool} (h:dG w b L) (hb:b'≠b) (j:Nat) (v:Value):dG (w.setCell ⟨b',j,none⟩ v) b L:=by
 have k:ac (fun i=>i=b') w (w.setCell ⟨b',j,none⟩ v):=(ac.refl _ w).grown (ak (ar _ _) _ _) (fun i e => .inl (Option.some.inj e).symm);exact k.heap h (fun e=>hb e.symm)
theorem fQ {w:World} {o:Oper} {a:Act} {K:Act->World->Prop} {Q:Exit->Act->World->Prop} (l c:Operand) (hop:o.op=Op.makeSlice 132 l c)
  (n:Nat) (hl:a.eval l = .int .i64 n) (hc:a.eval c = .int .i64 n) (hm:n<=4096)
  (h:∀w1:World,Below w.heap.size w w1->dG w1 w.heap.size (cC 0 n)->w1.heap.size=w.heap.size+1->K (a.put o.dst (.slice (some ⟨w.heap.size,0,none⟩) n n)) w1):o.wp Tryz.prog a w K Q:=by
 obtain ⟨i,hi,hz,hs,hb⟩:=info_parts sY;have hrun:=run_make (P:=Tryz.prog) w 132 4 i (.bool false) Tryz.underlying132 hi hz .i64 .i64 n n (by omega) (by omega) (by rw [hb];omega) (by omega);unfold Oper.wp;have hown:dG (w.alloc (.cells (List.replicate n (Value.bool false)).toArray 4)) w.heap.size (cC 0 n):=by
  rw [rx];unfold dG;rw [List.map_replicate];exact af _ _
 simp only [Int.toNat_natCast,hs,zQ] at hrun;generalize (List.replicate n (Value.bool false)).toArray=Z at *;simp [execOp,hop,hl,hc,hrun,Result.andThen];exact h _ ((Below.refl _ _).alloc (Nat.le_refl _) _) hown (by simp)
structure nH (w wr:World) (r g gi N k j:Nat):Prop where
 heap:wr.heap[r]? = some (.cells #[.int .i64 N,.int .i64 k,.slice (some ⟨g,0,none⟩) N N,.slice (some ⟨gi,0,none⟩) k k] 134 (0,0))
 p:dG wr g (cC j N)
 i:dG wr gi (cC 0 k)
 out:Below w.heap.size w wr
 r0:w.heap.size<=r
 g0:w.heap.size<=g
 i0:w.heap.size<=gi
 ne:g≠r/\gi≠r/\g≠gi
theorem nH.r5 {w wr:World} {r g gi N k j:Nat} (h:nH w wr r g gi N k j) (hN:N<=4096) (hk:k<=512):cF wr r g N gi k (cC j N) (cC 0 k):=by
 refine ⟨?_,h.p.row,h.i.row,h.ne.1,h.ne.2.1,by rw [aM];exact hN,by rw [aM];exact hk,ae h.p,ae h.i⟩;rw [aM,aM];exact h.heap
theorem nH.next {w wr:World} {r g gi N k j:Nat} (h:nH w wr r g gi N k j):nH w (wr.setCell ⟨g,j,none⟩ (.bool true)) r g gi N k (j+1):=by
 have kk:ac (fun i=>i=g) wr (wr.setCell ⟨g,j,none⟩ (.bool true)):=(ac.refl _ wr).grown (ak (ar _ _) _ _) (fun i e => .inl (Option.some.inj e).symm);refine ⟨kk.heap h.heap (fun e=>h.ne.1 e.symm),?_,h.i.other h.ne.2.2 _ _,h.out.setCell (show w.heap.size<=Addr.block ⟨g,j,none⟩ from h.g0) _,h.r0,h.g0,h.i0,h.ne⟩;have h1:=h.p.set j true;rw [mQ] at h1;exact h1
theorem nH.last {w wr:World} {r g gi N k j:Nat} (h:nH w wr r g gi N k j) (hN:N<=4096) (hk:k<=512) :
  Below w.heap.size w (wr.setCell ⟨gi,0,none⟩ (.bool true))/\w.heap.size<=r/\w.heap.size<=g/\w.heap.size<=gi/\cF (wr.setCell ⟨gi,0,none⟩ (.bool true)) r g N gi k (cC j N) (cC 1 k):=by
 have kk:ac (fun i=>i=gi) wr (wr.setCell ⟨gi,0,none⟩ (.bool true)):=(ac.refl _ wr).grown (ak (ar _ _) _ _) (fun i e => .inl (Option.some.inj e).symm);have h1:=h.i.set 0 true;rw [mQ] at h1;have hp:=h.p.other (fun e=>h.ne.2.2 e.symm) 0 (.bool true);refine ⟨h.out.setCell (show w.heap.size<=Addr.block ⟨gi,0,none⟩ from h.i0) _,h.r0,h.g0,h.i0,?_,hp.row,h1.row,h.ne.1,h.ne.2.1,by rw [aM];exact hN,by rw [aM];exact hk,ae hp,ae h1⟩;rw [aM,aM];exact kk.heap h.heap (fun e=>h.ne.2.1 e.symm)
def z6 (w:World) (N:Nat) (ino:Int) (e:Ending) (w':World):Prop :=
 Below w.heap.size w w'/\((¬jg N ino/\e = .returned (.tuple #[.pointer none,.int .i64 2])) \/
  ∃(k r g gi:Nat),ino=(k:Int)/\jg N ino/\e = .returned (.tuple #[.pointer (some ⟨r,0,none⟩),.int .i64 0])/\w.heap.size<=r/\w.heap.size<=g/\w.heap.size<=gi/\cF w' r g N gi k (cC (3+k / 8) N) (cC 1 k))
theorem ta (N:Nat) (ino:Int) (hN:N<=4096) (w:World):Calls Tryz.prog 22 #[.int .i64 N,.int .i64 ino] w (z6 w N ino):=by
 by_cases h1:ino<8
 ·go_enter Tryz.func22,Tryz.ntmps22;go_wp2;go_returns;exact ⟨Below.refl _ w,.inl ⟨fun h=>by unfold jg at h;omega,rfl⟩⟩
 ·by_cases h2:512<ino
  ·go_enter Tryz.func22,Tryz.ntmps22;go_wp2;go_returns;exact ⟨Below.refl _ w,.inl ⟨fun h=>by unfold jg at h;omega,rfl⟩⟩
  ·obtain ⟨k,rfl⟩:∃k:Nat,ino=(k:Int):=⟨ino.toNat,by omega⟩;have h4:(N:Int)<=4096:=by omega
   have hk5:k<=512:=by omega
   by_cases h3:(k:Int)%8=0
   ·by_cases h5:(N:Int)<=3+(k:Int) / 8
    ·go_enter Tryz.func22,Tryz.ntmps22;go_wp2;go_returns;exact ⟨Below.refl _ w,.inl ⟨fun h=>by unfold jg at h;omega,rfl⟩⟩
    ·have HMy:Hid (jg N (k:Int)):=⟨by omega,by omega,h3,by omega,hN⟩;have hf3:3+k / 8<N:=by omega
     go_enter Tryz.func22,Tryz.ntmps22;go_wp2;have hb0:Below w.heap.size w w.drew:=(Below.refl _ w).drew;refine wp_region_noPanic ?_;refine wp_region_held_drew (S:=fun _=>True) (by kernel_rfl) trivial (fun hHeld => ?_);generalize w.drew=wd at *;refine tq 0 _ ?_
     try simp only [tS]
     refine tq 1 _ ?_
     try simp only [tS]
     refine tq 2 _ ?_
     try simp only [tS]
     refine tq 4 _ ?_
     try simp only [tS]
     refine wpAnyH_ready (rs:=[3,5]) (by kernel_rfl) (by simp) (AllReadyH.cons rfl (fun K hK => ?_) (AllReadyH.cons rfl (fun K hK => ?_) AllReadyH.nil))
     ·rw [if_pos (by rfl)];refine fQ (.tmp 32) (.tmp 32) rfl N rfl rfl hN ?_;intro w4 hb4 ho4 hz4;refine hK.out _ _ trivial (fun hHeld => ?_);clear hK K
      try simp only [tS]
      refine tr 5 (fun K hK => ?_);refine fQ (.tmp 34) (.tmp 34) rfl k rfl rfl (by omega) ?_;intro w5 hb5 ho5 hz5;refine hK.out _ _ trivial (fun hHeld => ?_);clear hK K
      try simp only [tS]
      obtain ⟨g,hg⟩:∃g,g=wd.heap.size:=⟨_,rfl⟩;obtain ⟨gi,hgi⟩:∃gi,gi=w4.heap.size:=⟨_,rfl⟩;rw [<- hg] at ho4 ⊢;rw [<- hgi] at ho5 ⊢;have HG:=hid (ho4.below hb5);have HI:=hid ho5;have hs0:=hb0.size;have HB5:Hid (Below w.heap.size w w5):=(hb0.trans (hb4.mono hs0)).trans (hb5.mono (by omega));have HS:Hid (w.heap.size<=g/\w.heap.size<=gi/\g≠gi):=⟨by omega,by omega,by omega⟩;clear ho4 ho5 hb4 hb5 hz4 hz5 hg hgi hb0 hs0;refine tq 6 _ ?_
      try simp only [tS]
      refine tr 7 (fun K hK => ?_);unfold Oper.wp;go_simp;have hal:Below w5.heap.size w5 (w5.alloc (.cells #[.int .i64 N,.int .i64 k,.slice (some ⟨g,0,none⟩) N N,.slice (some ⟨gi,0,none⟩) k k] 134)):=(Below.refl _ w5).alloc (Nat.le_refl _) _;have HM0:Hid (nH w (w5.alloc (.cells #[.int .i64 N,.int .i64 k,.slice (some ⟨g,0,none⟩) N N,.slice (some ⟨gi,0,none⟩) k k] 134)) w5.heap.size g gi N k 0) :=
       ⟨af w5 _,HG.out.below hal,HI.out.below hal,HB5.out.trans (hal.mono HB5.out.size),HB5.out.size,HS.out.1,HS.out.2.1,⟨by have:=ae HG.out;omega,by have:=ae HI.out;omega,HS.out.2.2⟩⟩
      clear hal HG HI HB5 HS;generalize w5.alloc (.cells #[.int .i64 N,.int .i64 k,.slice (some ⟨g,0,none⟩) N N,.slice (some ⟨gi,0,none⟩) k k] 134)=w6 at *;generalize w5.heap.size=r at *;refine hK.out _ _ trivial (fun hHeld => ?_);clear hK K
      try simp only [tS]
      refine tq 8 _ ?_
      try simp only [tS]
      refine wpAnyH_done (by kernel_rfl) ?_ _;refine NoPanic.normal ?_;clear hHeld;go_wp2
      go_loopw [7] (fun nv wr=>∃j:Nat,j<=3+k / 8/\nv = .int .i64 j/\Hid (nH w wr r g gi N k j)) (fun nv _=>3+k / 8-(intOf nv).toNat)
      case atStart=>exact ⟨0,by omega,rfl,HM0⟩
      case round =>
       obtain ⟨j,hj,rfl,HMj⟩:=hrel;clear HM0;have hFi:=iM (HMj.out.r5 hN hk5);rw [aM] at hFi;obtain ⟨f,hf⟩:∃f,f=3+k / 8:=⟨_,rfl⟩;rw [<- hf] at hFi hj hf3 ⊢;have HFi:=hid hFi;have HFe:=hid hf;clear hFi hf;by_cases hlt:j<f
       ·have hlt':(j:Int)<(f:Int):=by omega
        have hj0:(0:Int)<=(j:Int):=by omega
        have hjN:(j:Int)<(N:Int):=by omega
        have c2:wr.cell? ⟨r,2,none⟩=some (.slice (some ⟨g,0,none⟩) N N):=aa HMj.out.heap 2;have c3:wr.cell? ⟨g,j,none⟩=some (.bool false):=by
         rw [HMj.out.p.cell j (by rw [aM];omega),eh]
         congr 2;exact decide_eq_false (by omega)
        have f3:wr.frozen? ⟨g,j,none⟩=false:=ai HMj.out.p _
        go_wp2_with fail
        refine HFi.out.mono ?_;clear HFi;rintro e w7 ⟨rfl,h7⟩;obtain rfl:=h7.symm;clear h7;have HM2:=hid HMj.out.next;clear HMj;go_wp2;exact ⟨⟨j+1,by omega,by go_num,HM2⟩,by simp [intOf];omega⟩
       ·obtain rfl:j=f:=by omega
        have hge:¬((j:Int)<(j:Int)):=by omega
        have c2:wr.cell? ⟨r,3,none⟩=some (.slice (some ⟨gi,0,none⟩) k k):=aa HMj.out.heap 3;have c3:wr.cell? ⟨gi,0,none⟩=some (.bool false):=by
         rw [HMj.out.i.cell 0 (by rw [aM];omega),eh]
         congr 2
        have f3:wr.frozen? ⟨gi,0,none⟩=false:=ai HMj.out.i _;have hk0:(0:Int)<(k:Int):=by omega
        go_wp2_with fail
        refine HFi.out.mono ?_;clear HFi;rintro e w7 ⟨rfl,h7⟩;obtain rfl:=h7.symm;clear h7;have HLs:=hid HMj.out.last;clear HMj;go_wp2;go_returns;have h8:=HLs.out hN hk5;rw [HFe.out] at h8;exact ⟨h8.1,.inr ⟨k,r,g,gi,rfl,HMy.out,rfl,h8.2.1,h8.2.2.1,h8.2.2.2.1,h8.2.2.2.2⟩⟩
     ·rw [if_pos (by rfl)];refine fQ (.tmp 34) (.tmp 34) rfl k rfl rfl (by omega) ?_;intro w4 hb4 ho4 hz4;refine hK.out _ _ trivial (fun hHeld => ?_);clear hK K
      try simp only [tS]
      refine tr 3 (fun K hK => ?_);refine fQ (.tmp 32) (.tmp 32) rfl N rfl rfl hN ?_;intro w5 hb5 ho5 hz5;refine hK.out _ _ trivial (fun hHeld => ?_);clear hK K
      try simp only [tS]
      obtain ⟨gi,hgi⟩:∃gi,gi=wd.heap.size:=⟨_,rfl⟩;obtain ⟨g,hg⟩:∃g,g=w4.heap.size:=⟨_,rfl⟩;rw [<- hgi] at ho4 ⊢;rw [<- hg] at ho5 ⊢;have HI:=hid (ho4.below hb5);have HG:=hid ho5;have hs0:=hb0.size;have HB5:Hid (Below w.heap.size w w5):=(hb0.trans (hb4.mono hs0)).trans (hb5.mono (by omega));have HS:Hid (w.heap.size<=g/\w.heap.size<=gi/\g≠gi):=⟨by omega,by omega,by omega⟩;clear ho4 ho5 hb4 hb5 hz4 hz5 hg hgi hb0 hs0;refine tq 6 _ ?_
      try simp only [tS]
      refine tr 7 (fun K hK => ?_);unfold Oper.wp;go_simp;have hal:Below w5.heap.size w5 (w5.alloc (.cells #[.int .i64 N,.int .i64 k,.slice (some ⟨g,0,none⟩) N N,.slice (some ⟨gi,0,none⟩) k k] 134)):=(Below.refl _ w5).alloc (Nat.le_refl _) _;have HM0:Hid (nH w (w5.alloc (.cells #[.int .i64 N,.int .i64 k,.slice (some ⟨g,0,none⟩) N N,.slice (some ⟨gi,0,none⟩) k k] 134)) w5.heap.size g gi N k 0) :=
       ⟨af w5 _,HG.out.below hal,HI.out.below hal,HB5.out.trans (hal.mono HB5.out.size),HB5.out.size,HS.out.1,HS.out.2.1,⟨by have:=ae HG.out;omega,by have:=ae HI.out;omega,HS.out.2.2⟩⟩
      clear hal HG HI HB5 HS;generalize w5.alloc (.cells #[.int .i64 N,.int .i64 k,.slice (some ⟨g,0,none⟩) N N,.slice (some ⟨gi,0,none⟩) k k] 134)=w6 at *;generalize w5.heap.size=r at *;refine hK.out _ _ trivial (fun hHeld => ?_);clear hK K
      try simp only [tS]
      refine tq 8 _ ?_
      try simp only [tS]
      refine wpAnyH_done (by kernel_rfl) ?_ _;refine NoPanic.normal ?_;clear hHeld;go_wp2
      go_loopw [7] (fun nv wr=>∃j:Nat,j<=3+k / 8/\nv = .int .i64 j/\Hid (nH w wr r g gi N k j)) (fun nv _=>3+k / 8-(intOf nv).toNat)
      case atStart=>exact ⟨0,by omega,rfl,HM0⟩
      case round =>
       obtain ⟨j,hj,rfl,HMj⟩:=hrel;clear HM0;have hFi:=iM (HMj.out.r5 hN hk5);rw [aM] at hFi;obtain ⟨f,hf⟩:∃f,f=3+k / 8:=⟨_,rfl⟩;rw [<- hf] at hFi hj hf3 ⊢;have HFi:=hid hFi;have HFe:=hid hf;clear hFi hf;by_cases hlt:j<f
       ·have hlt':(j:Int)<(f:Int):=by omega
        have hj0:(0:Int)<=(j:Int):=by omega
        have hjN:(j:Int)<(N:Int):=by omega
        have c2:wr.cell? ⟨r,2,none⟩=some (.slice (some ⟨g,0,none⟩) N N):=aa HMj.out.heap 2;have c3:wr.cell? ⟨g,j,none⟩=some (.bool false):=by
         rw [HMj.out.p.cell j (by rw [aM];omega),eh]
         congr 2;exact decide_eq_false (by omega)
        have f3:wr.frozen? ⟨g,j,none⟩=false:=ai HMj.out.p _
        go_wp2_with fail
        refine HFi.out.mono ?_;clear HFi;rintro e w7 ⟨rfl,h7⟩;obtain rfl:=h7.symm;clear h7;have HM2:=hid HMj.out.next;clear HMj;go_wp2;exact ⟨⟨j+1,by omega,by go_num,HM2⟩,by simp [intOf];omega⟩
       ·obtain rfl:j=f:=by omega
        have hge:¬((j:Int)<(j:Int)):=by omega
        have c2:wr.cell? ⟨r,3,none⟩=some (.slice (some ⟨gi,0,none⟩) k k):=aa HMj.out.heap 3;have c3:wr.cell? ⟨gi,0,none⟩=some (.bool false):=by
         rw [HMj.out.i.cell 0 (by rw [aM];omega),eh]
         congr 2
        have f3:wr.frozen? ⟨gi,0,none⟩=false:=ai HMj.out.i _;have hk0:(0:Int)<(k:Int):=by omega
        go_wp2_with fail
        refine HFi.out.mono ?_;clear HFi;rintro e w7 ⟨rfl,h7⟩;obtain rfl:=h7.symm;clear h7;have HLs:=hid HMj.out.last;clear HMj;go_wp2;go_returns;have h8:=HLs.out hN hk5;rw [HFe.out] at h8;exact ⟨h8.1,.inr ⟨k,r,g,gi,rfl,HMy.out,rfl,h8.2.1,h8.2.2.1,h8.2.2.2.1,h8.2.2.2.2⟩⟩
   ·go_enter Tryz.func22,Tryz.ntmps22;go_wp2;go_returns;exact ⟨Below.refl _ w,.inl ⟨fun h=>by unfold jg at h;omega,rfl⟩⟩
end
section
open Go.RowKit
end
section
open Go.RowKit
end
section
open Go.RowKit
end
section
open Go.RowKit
end
section
set_option maxRecDepth 100000
set_option maxHeartbeats 1000000
open Go.RowKit
theorem nN {w:World} {r g cp gi ci:Nat} {Lp Li:List Bool} (h:cF w r g cp gi ci Lp Li):Calls Tryz.prog 71 #[.pointer (some ⟨r,0,none⟩)] w fun e w'=>∃q,e = .returned (.pointer (some ⟨q,0,none⟩))/\w.heap.size<=q/\Below w.heap.size w w'/\cF w' q g cp gi ci Lp Li:=by
 obtain ⟨c0,c1,c2,c3⟩:=h.cells;have HR:=hid h;clear h;go_enter Tryz.func71,Tryz.ntmps71;go_wp2;go_ret;have hb:=(Below.refl w.heap.size w).alloc (Nat.le_refl _) (.cells #[.int .i64 Lp.length,.int .i64 Li.length,.slice (some ⟨g,0,none⟩) Lp.length cp,.slice (some ⟨gi,0,none⟩) Li.length ci] 134);have h1:=HR.out.below hb;have hgp:=HR.out.gp;have hgl:=HR.out.gl;exact ⟨w.heap.size,rfl,Nat.le_refl _,hb,⟨af w _,h1.rp,h1.ri,by omega,by omega,h1.lp,h1.li,h1.gp,h1.gl⟩⟩
theorem qO:(Tryz.prog.info? 146).map (fun i=>(i.zero,i.size,i.bytes))=some (some (.agg #[.int .i64 0,.int .i64 0,.int .i64 0,.slice none 0 0,.slice none 0 0,.int .i64 0]),6,80):=by kernel_rfl
def iY:Array Value:=madeCells (Value.agg #[.int .i64 0,.int .i64 0,.int .i64 0,.slice none 0 0,.slice none 0 0,.int .i64 0]).cells (Int.toNat 16*6)
theorem yg (w:World):(Instr.makeSlice 135 (.int .i64 16) (.int .i64 16)).run Tryz.prog w = .ok (.slice (some ⟨w.heap.size,0,none⟩) 16 16) (w.alloc (.cells iY 146)):=by
 obtain ⟨i,hi,hz,hs,hb⟩:=info_parts qO;have hrun:=run_make (P:=Tryz.prog) w 135 146 i _ Tryz.underlying135 hi hz .i64 .i64 16 16 (by omega) (by omega) (by rw [hb];omega) (by omega);simp only [hs] at hrun;exact hrun
theorem kI {w:World} {q r g cp gi ci:Nat} {Lp Li:List Bool} {la:Option Addr} {ln lc:Nat} {p2 l2:Value} (hq:w.heap[q]? = some (.cells #[.pointer (some ⟨r,0,none⟩),.slice la ln lc,p2,l2] 137 (0,0))) (h:cF w r g cp gi ci Lp Li) (hqg:q≠g/\q≠gi) :
  Calls Tryz.prog 26 #[.pointer (some ⟨q,0,none⟩)] w fun e w'=>e = .returned (.tuple #[])/\ac (fun i=>i=q) w w'/\∃x,w.heap.size<=x/\cF w' x g cp gi ci Lp Li/\w'.heap[q]? = some (.cells #[.pointer (some ⟨r,0,none⟩),.slice la ln lc,.pointer (some ⟨x,0,none⟩),.slice la ln lc] 137 (0,0)):=by
 have c0:w.cell? ⟨q,0,none⟩=some (.pointer (some ⟨r,0,none⟩)):=aa hq 0;have c1:w.cell? ⟨q,1,none⟩=some (.slice la ln lc):=aa hq 1;have HFk:=hid (fun W (hW:Below w.heap.size w W)=>nN (h.below hW));have HQ:=hid hq;clear h hq;go_enter Tryz.func26,Tryz.ntmps26
 go_wp2_with fail
 have hbd:Below w.heap.size w w.drew:=(Below.refl _ w).drew;have hqd:=ah hbd HQ.out (ae HQ.out);have d0:w.drew.cell? ⟨q,0,none⟩=some (.pointer (some ⟨r,0,none⟩)):=aa hqd 0;have d1:w.drew.cell? ⟨q,1,none⟩=some (.slice la ln lc):=aa hqd 1;have HQd:=hid hqd;have HBd:=hid hbd;have HFk2:=hid (HFk.out w.drew hbd);clear hqd hbd HFk c0 c1;refine wp_region_noPanic ?_;refine wp_region_held_drew (S:=fun W=>W.cell? ⟨q,0,none⟩=some (.pointer (some ⟨r,0,none⟩))/\W.cell? ⟨q,1,none⟩=some (.slice la ln lc)) (by kernel_rfl) ⟨d0,d1⟩ (fun hHeld => ?_);generalize w.drew=wd at *;refine tq 0 _ ?_
 try simp only [tS]
 refine tq 1 _ ?_
 try simp only [tS]
 refine tq 2 _ ?_
 try simp only [tS]
 refine tq 3 _ ?_
 try simp only [tS]
 refine tq 4 _ ?_
 try simp only [tS]
 refine tq 5 _ ?_
 try simp only [tS]
 refine tq 7 _ ?_
 try simp only [tS]
 refine tq 8 _ ?_
 try simp only [tS]
 refine tq 9 _ ?_
 try simp only [tS]
 refine tq 10 _ ?_
 try simp only [tS]
 refine tr 6 (fun K hK => ?_);go_simp;refine HFk2.out.mono ?_;clear HFk2;rintro e w1 ⟨x,rfl,hx,hb1,hr1⟩;have HX:=hid hx;have HR1:=hid hr1;clear hr1;have hq1:=ah hb1 HQd.out (ae HQd.out);have e0:w1.cell? ⟨q,0,none⟩=some (.pointer (some ⟨r,0,none⟩)):=aa hq1 0;have e1:w1.cell? ⟨q,1,none⟩=some (.slice la ln lc):=aa hq1 1;have e2:w1.cell? ⟨q,2,none⟩=some p2:=aa hq1 2;have e3:w1.cell? ⟨q,3,none⟩=some l2:=aa hq1 3;have f2:w1.frozen? ⟨q,2,none⟩=false:=ai hq1 2;have f3:w1.frozen? ⟨q,3,none⟩=false:=ai hq1 3;have HQ1:=hid hq1;have HB1:=hid (HBd.out.trans (hb1.mono HBd.out.size));clear hq1 hb1 d0 d1
 go_wp2_with fail
 refine hK.out _ _ ⟨e0,e1⟩ (fun hHeld => ?_);clear hK K
 try simp only [tS]
 refine tq 11 _ ?_
 try simp only [tS]
 refine tq 12 _ ?_
 try simp only [tS]
 refine tr 13 (fun K hK => ?_);go_simp;have k2:ac (fun i=>i=q) w1 (w1.setCell ⟨q,2,none⟩ (.pointer (some ⟨x,0,none⟩))):=(ac.refl _ w1).grown (ak (ar _ _) _ _) (fun i e => .inl (Option.some.inj e).symm);have hq2:=ap HQ1.out 2 (.pointer (some ⟨x,0,none⟩));generalize w1.setCell ⟨q,2,none⟩ (.pointer (some ⟨x,0,none⟩))=w2 at *;have g0:w2.cell? ⟨q,0,none⟩=some (.pointer (some ⟨r,0,none⟩)):=aa hq2 0;have g1:w2.cell? ⟨q,1,none⟩=some (.slice la ln lc):=aa hq2 1;have g3:w2.cell? ⟨q,3,none⟩=some l2:=aa hq2 3;have h3:w2.frozen? ⟨q,3,none⟩=false:=ai hq2 3;have HK2:=hid k2;have HQ2:=hid hq2;clear hq2 k2 e0 e1 e2 e3 f2 f3;refine hK.out _ _ ⟨g0,g1⟩ (fun hHeld => ?_);clear hK K
 try simp only [tS]
 refine tq 14 _ ?_
 try simp only [tS]
 refine tq 15 _ ?_
 try simp only [tS]
 refine tr 16 (fun K hK => ?_);go_simp;have k3:ac (fun i=>i=q) w2 (w2.setCell ⟨q,3,none⟩ (.slice la ln lc)):=(ac.refl _ w2).grown (ak (ar _ _) _ _) (fun i e => .inl (Option.some.inj e).symm);have hq3:=ap HQ2.out 3 (.slice la ln lc);have i0:(w2.setCell ⟨q,3,none⟩ (.slice la ln lc)).cell? ⟨q,0,none⟩=some (.pointer (some ⟨r,0,none⟩)):=aa hq3 0;have i1:(w2.setCell ⟨q,3,none⟩ (.slice la ln lc)).cell? ⟨q,1,none⟩=some (.slice la ln lc):=aa hq3 1;refine hK.out _ _ ⟨i0,i1⟩ (fun hHeld => ?_);clear hK K;refine wpAnyH_done (by kernel_rfl) ?_ _;refine NoPanic.normal ?_;have HK3:=hid k3;have HQ3:=hid hq3;clear k3 hHeld i0 i1 g0 g1 g3 h3 hq3;generalize w2.setCell ⟨q,3,none⟩ (.slice la ln lc)=w3 at *
 go_wp2_with fail
 have k13:=HK2.out.trans HK3.out (fun i e => .inl e);have hws:=HBd.out.size;have hxl:=HX.out;have hql:=ae HQ.out;refine ⟨rfl,_,results_none rfl _ _ _,rfl,(ac.of_below HB1.out:ac (fun i=>i=q) w w1).trans k13 (fun i e => .inl e),x,by omega,HR1.out.keep k13 (fun e=>by have e':x=q:=e;omega) (fun e=>hqg.1 e.symm) (fun e=>hqg.2 e.symm),?_⟩;exact HQ3.out
theorem qk {w:World} {q r g cp gi ci:Nat} {Lp Li:List Bool} {la:Option Addr} {ln lc:Nat} {p2 l2:Value} (hq:w.heap[q]? = some (.cells #[p2,l2,.pointer (some ⟨r,0,none⟩),.slice la ln lc] 137 (0,0))) (h:cF w r g cp gi ci Lp Li) (hqg:q≠g/\q≠gi) :
  Calls Tryz.prog 135 #[.pointer (some ⟨q,0,none⟩)] w fun e w'=>e = .returned (.tuple #[])/\ac (fun i=>i=q) w w'/\∃x,w.heap.size<=x/\cF w' x g cp gi ci Lp Li/\w'.heap[q]? = some (.cells #[.pointer (some ⟨x,0,none⟩),.slice la ln lc,.pointer (some ⟨r,0,none⟩),.slice la ln lc] 137 (0,0)):=by
 have c0:w.cell? ⟨q,2,none⟩=some (.pointer (some ⟨r,0,none⟩)):=aa hq 2;have c1:w.cell? ⟨q,3,none⟩=some (.slice la ln lc):=aa hq 3;have HFk:=hid (fun W (hW:Below w.heap.size w W)=>nN (h.below hW));have HQ:=hid hq;clear h hq;go_enter Tryz.func135,Tryz.ntmps135
 go_wp2_with fail
 have hbd:Below w.heap.size w w.drew:=(Below.refl _ w).drew;have hqd:=ah hbd HQ.out (ae HQ.out);have d0:w.drew.cell? ⟨q,2,none⟩=some (.pointer (some ⟨r,0,none⟩)):=aa hqd 2;have d1:w.drew.cell? ⟨q,3,none⟩=some (.slice la ln lc):=aa hqd 3;have HQd:=hid hqd;have HBd:=hid hbd;have HFk2:=hid (HFk.out w.drew hbd);clear hqd hbd HFk c0 c1;refine wp_region_noPanic ?_;refine wp_region_held_drew (S:=fun W=>W.cell? ⟨q,2,none⟩=some (.pointer (some ⟨r,0,none⟩))/\W.cell? ⟨q,3,none⟩=some (.slice la ln lc)) (by kernel_rfl) ⟨d0,d1⟩ (fun hHeld => ?_);generalize w.drew=wd at *;refine tq 0 _ ?_
 try simp only [tS]
 refine tq 1 _ ?_
 try simp only [tS]
 refine tq 2 _ ?_
 try simp only [tS]
 refine tq 3 _ ?_
 try simp only [tS]
 refine tq 4 _ ?_
 try simp only [tS]
 refine tq 5 _ ?_
 try simp only [tS]
 refine tq 7 _ ?_
 try simp only [tS]
 refine tq 8 _ ?_
 try simp only [tS]
 refine tq 9 _ ?_
 try simp only [tS]
 refine tq 10 _ ?_
 try simp only [tS]
 refine tr 6 (fun K hK => ?_);go_simp;refine HFk2.out.mono ?_;clear HFk2;rintro e w1 ⟨x,rfl,hx,hb1,hr1⟩;have HX:=hid hx;have HR1:=hid hr1;clear hr1;have hq1:=ah hb1 HQd.out (ae HQd.out);have e0:w1.cell? ⟨q,2,none⟩=some (.pointer (some ⟨r,0,none⟩)):=aa hq1 2;have e1:w1.cell? ⟨q,3,none⟩=some (.slice la ln lc):=aa hq1 3;have e2:w1.cell? ⟨q,0,none⟩=some p2:=aa hq1 0;have e3:w1.cell? ⟨q,1,none⟩=some l2:=aa hq1 1;have f2:w1.frozen? ⟨q,0,none⟩=false:=ai hq1 0;have f3:w1.frozen? ⟨q,1,none⟩=false:=ai hq1 1;have HQ1:=hid hq1;have HB1:=hid (HBd.out.trans (hb1.mono HBd.out.size));clear hq1 hb1 d0 d1
 go_wp2_with fail
 refine hK.out _ _ ⟨e0,e1⟩ (fun hHeld => ?_);clear hK K
 try simp only [tS]
 refine tq 11 _ ?_
 try simp only [tS]
 refine tq 12 _ ?_
 try simp only [tS]
 refine tr 13 (fun K hK => ?_);go_simp;have k2:ac (fun i=>i=q) w1 (w1.setCell ⟨q,0,none⟩ (.pointer (some ⟨x,0,none⟩))):=(ac.refl _ w1).grown (ak (ar _ _) _ _) (fun i e => .inl (Option.some.inj e).symm);have hq2:=ap HQ1.out 0 (.pointer (some ⟨x,0,none⟩));generalize w1.setCell ⟨q,0,none⟩ (.pointer (some ⟨x,0,none⟩))=w2 at *;have g0:w2.cell? ⟨q,2,none⟩=some (.pointer (some ⟨r,0,none⟩)):=aa hq2 2;have g1:w2.cell? ⟨q,3,none⟩=some (.slice la ln lc):=aa hq2 3;have g3:w2.cell? ⟨q,1,none⟩=some l2:=aa hq2 1;have h3:w2.frozen? ⟨q,1,none⟩=false:=ai hq2 1;have HK2:=hid k2;have HQ2:=hid hq2;clear hq2 k2 e0 e1 e2 e3 f2 f3;refine hK.out _ _ ⟨g0,g1⟩ (fun hHeld => ?_);clear hK K
 try simp only [tS]
 refine tq 14 _ ?_
 try simp only [tS]
 refine tq 15 _ ?_
 try simp only [tS]
 refine tr 16 (fun K hK => ?_);go_simp;have k3:ac (fun i=>i=q) w2 (w2.setCell ⟨q,1,none⟩ (.slice la ln lc)):=(ac.refl _ w2).grown (ak (ar _ _) _ _) (fun i e => .inl (Option.some.inj e).symm);have hq3:=ap HQ2.out 1 (.slice la ln lc);have i0:(w2.setCell ⟨q,1,none⟩ (.slice la ln lc)).cell? ⟨q,2,none⟩=some (.pointer (some ⟨r,0,none⟩)):=aa hq3 2;have i1:(w2.setCell ⟨q,1,none⟩ (.slice la ln lc)).cell? ⟨q,3,none⟩=some (.slice la ln lc):=aa hq3 3;refine hK.out _ _ ⟨i0,i1⟩ (fun hHeld => ?_);clear hK K;refine wpAnyH_done (by kernel_rfl) ?_ _;refine NoPanic.normal ?_;have HK3:=hid k3;have HQ3:=hid hq3;clear k3 hHeld i0 i1 g0 g1 g3 h3 hq3;generalize w2.setCell ⟨q,1,none⟩ (.slice la ln lc)=w3 at *
 go_wp2_with fail
 have k13:=HK2.out.trans HK3.out (fun i e => .inl e);have hws:=HBd.out.size;have hxl:=HX.out;have hql:=ae HQ.out;refine ⟨rfl,_,results_none rfl _ _ _,rfl,(ac.of_below HB1.out:ac (fun i=>i=q) w w1).trans k13 (fun i e => .inl e),x,by omega,HR1.out.keep k13 (fun e=>by have e':x=q:=e;omega) (fun e=>hqg.1 e.symm) (fun e=>hqg.2 e.symm),?_⟩;exact HQ3.out
end
section
open Go.RowKit
theorem uy:(Tryz.prog.info? 5).map (·.size)=some 1:=by kernel_rfl
theorem qS {w1:World} {g off:Nat} {L xs:List UInt8}
  (h:w1.heap[g]? = some (.cells (((L.map U8).toArray.toList).take off ++ ((xs.map U8) ++ ((L.map U8).toArray.toList).drop (off+(xs.map U8).length))).toArray 5 (0,0))):aV w1 g (L.take off ++ xs ++ L.drop (off+xs.length)):=by
 unfold aV;rw [h,List.map_append,List.map_append,List.map_take,List.map_drop,List.length_map,List.append_assoc]
section
variable {w:World} {ops:Array Oper} {rest:List Oper} {o:Oper} {a:Act} {Q:Exit->Act->World->Prop}
theorem gj (hgd:o.guard=none) (d s:Operand) (ho:o.op = .call { callee := .builtin .copy,args:=#[d,s],argTypes:=#[76,76] })
  (g off dLen dCap:Nat) (ad:Addr) (sLen sCap:Nat) (hd:a.eval d = .slice (some ⟨g,off,none⟩) dLen dCap) (hs:a.eval s = .slice (some ad) sLen sCap)
  (L xs:List UInt8) (hg:aV w g L) (hx:az w ad xs) (hn:xs.length=Nat.min sLen dLen) (hfit:off+xs.length<=L.length)
  (h:∀w1:World,ac (fun i=>i=g) w w1->aV w1 g (L.take off ++ xs ++ L.drop (off+xs.length))->w1.heap.size=w.heap.size->wpList Tryz.prog ops Q rest (a.put o.dst (goInt xs.length)) w1):wpList Tryz.prog ops Q (o :: rest) a w:=by
 refine fG hgd d s _ _ ho 5 Tryz.underlying76 uy g off dLen dCap ad sLen sCap hd hs _ _ hg (xs.map U8) (by rw [List.length_map];exact hn) (fun j v hv => ?_) (by simpa using hfit) (by intro v hv;obtain ⟨x,_,rfl⟩:=List.mem_map.1 hv;rfl) ?_
 ·have hj:j<xs.length:=by simpa using (List.getElem?_eq_some_iff.1 hv).1
  rw [List.getElem?_map,List.getElem?_eq_getElem hj] at hv;rw [hx j hj];exact hv
 ·intro w1 hgr hb hz;have:=h w1 (ac.of_grown hgr (fun i e=>(Option.some.inj e).symm)) (qS hb) hz;rw [List.length_map];exact this
theorem jT {K:Act->World->Prop} (d s:Operand) (ho:o.op = .call { callee := .builtin .copy,args:=#[d,s],argTypes:=#[76,76] })
  (g off dLen dCap:Nat) (ad:Addr) (sLen sCap:Nat) (hd:a.eval d = .slice (some ⟨g,off,none⟩) dLen dCap) (hs:a.eval s = .slice (some ad) sLen sCap)
  (L xs:List UInt8) (hg:aV w g L) (hx:az w ad xs) (hn:xs.length=Nat.min sLen dLen) (hfit:off+xs.length<=L.length)
  (h:∀w1:World,ac (fun i=>i=g) w w1->aV w1 g (L.take off ++ xs ++ L.drop (off+xs.length))->w1.heap.size=w.heap.size->K (a.put o.dst (goInt xs.length)) w1):o.wp Tryz.prog a w K Q:=by
 refine ju d s _ _ ho 5 Tryz.underlying76 uy g off dLen dCap ad sLen sCap hd hs _ _ hg (xs.map U8) (by rw [List.length_map];exact hn) (fun j v hv => ?_) (by simpa using hfit) (by intro v hv;obtain ⟨x,_,rfl⟩:=List.mem_map.1 hv;rfl) ?_
 ·have hj:j<xs.length:=by simpa using (List.getElem?_eq_some_iff.1 hv).1
  rw [List.getElem?_map,List.getElem?_eq_getElem hj] at hv;rw [hx j hj];exact hv
 ·intro w1 hgr hb hz;have:=h w1 (ac.of_grown hgr (fun i e=>(Option.some.inj e).symm)) (qS hb) hz;rw [List.length_map];exact this
end
end
section
set_option maxRecDepth 100000
open Go.RowKit
def fillN (n:Nat):Nat:=(n+511) / 512
def au (n:Nat):Nat:=if 70656<n then 0 else if 5120<n then fillN n+1 else fillN n
theorem fO (n:Nat) (hn:n<=1000000) (w:World):Calls Tryz.prog 202 #[.int .i64 n] w fun e w'=>e = .returned (.int .i64 (fillN n:Nat))/\w'=w:=by
 unfold fillN;go_enter Tryz.func202,Tryz.ntmps202;go_wp2;go_ret;refine ⟨?_,rfl⟩;show Ending.returned (.int .i64 (((n:Int)+512-1) / 512))=_
 congr 2
 omega
theorem ez (n:Int) (w:World):Calls Tryz.prog 143 #[.int .i64 n] w fun e w'=>e = .returned (.bool (decide (5120<n)))/\w'=w:=by
 go_enter Tryz.func143,Tryz.ntmps143;go_wp2;go_ret;exact ⟨rfl,rfl⟩
theorem rC (n:Int) (w:World):Calls Tryz.prog 64 #[.int .i64 n] w fun e w'=>e = .returned (.bool (decide (0<=n/\n<=4095)))/\w'=w:=by
 by_cases h:0<=n
 ·by_cases h2:n<=4095
  ·rw [decide_eq_true ⟨h,h2⟩];go_enter Tryz.func64,Tryz.ntmps64;go_wp2;go_ret;exact ⟨rfl,rfl⟩
  ·rw [decide_eq_false (fun hh=>h2 hh.2)];go_enter Tryz.func64,Tryz.ntmps64;go_wp2;go_ret;exact ⟨rfl,rfl⟩
 ·rw [decide_eq_false (fun hh=>h hh.1)];go_enter Tryz.func64,Tryz.ntmps64;go_wp2;go_ret;exact ⟨rfl,rfl⟩
def needZ (n:Int):Nat:=if n<0 then 0 else au n.toNat
theorem gr (n:Int) (w:World):Calls Tryz.prog 196 #[.int .i64 n] w fun e w'=>e = .returned (.int .i64 (needZ n:Nat))/\w'=w:=by
 unfold needZ;by_cases h0:n<0
 ·rw [if_pos h0];go_enter Tryz.func196,Tryz.ntmps196;go_wp2;go_ret;exact ⟨rfl,rfl⟩
 ·rw [if_neg h0];unfold au;by_cases h1:70656<n
  ·rw [if_pos (by omega)];go_enter Tryz.func196,Tryz.ntmps196;go_wp2;go_ret;exact ⟨rfl,rfl⟩
  ·rw [if_neg (by omega)];obtain ⟨k,rfl⟩:∃k:Nat,n=(k:Int):=⟨n.toNat,by omega⟩;have HH:=hid (ez (k:Int) w);have HF:=hid (fO k (by omega) w);have hb:fillN k<=200:=by unfold fillN;omega
   rw [Int.toNat_natCast];generalize fillN k=f at *;by_cases h2:5120<k
   ·rw [if_pos h2];have h3:(5120:Int)<(k:Int):=by omega
    rw [decide_eq_true h3] at HH;go_enter Tryz.func196,Tryz.ntmps196
    go_wp2_with fail
    refine HH.out.mono ?_;rintro e w1 ⟨rfl,h1⟩;obtain rfl:=h1.symm;clear h1 HH
    go_wp2_with fail
    refine HF.out.mono ?_;rintro e w1 ⟨rfl,h1⟩;obtain rfl:=h1.symm;clear h1 HF;go_wp2;go_ret;refine ⟨?_,rfl⟩
    congr 2
   ·rw [if_neg h2];have h3:¬((5120:Int)<(k:Int)):=by omega
    rw [decide_eq_false h3] at HH;go_enter Tryz.func196,Tryz.ntmps196
    go_wp2_with fail
    refine HH.out.mono ?_;rintro e w1 ⟨rfl,h1⟩;obtain rfl:=h1.symm;clear h1 HH
    go_wp2_with fail
    refine HF.out.mono ?_;rintro e w1 ⟨rfl,h1⟩;obtain rfl:=h1.symm;clear h1 HF;go_wp2;go_ret;exact ⟨rfl,rfl⟩
end
section
open Go.RowKit
structure bu where
 kind:Nat
 mode:Nat
 links:Nat
 size:Nat
 pages:List Nat
structure bu.ok (n:bu):Prop where
 kind:n.kind<256
 mode:n.mode<65536
 links:n.links<65536
 size:n.size<4294967296
 pages:n.pages.length=11
 each:∀p∈n.pages,p<4294967296
def dX (l:List Nat):List UInt8:=l.flatMap (beS 4)
theorem cR (l:List Nat):(dX l).length=4*l.length:=by
 induction l with
 | nil=>rfl
 | cons x l ih=>simp only [dX,List.flatMap_cons,List.length_append,aA,List.length_cons] at ih ⊢;omega
theorem mJ (l:List Nat) (x:Nat):dX (l ++ [x])=dX l ++ beS 4 x:=by simp [dX]
theorem mE:∀(l:List Nat) (k:Nat) (hk:k<l.length),((dX l).drop (4*k)).take 4=beS 4 l[k]
 | x :: l,0,_=>by
  show ((beS 4 x ++ dX l).drop 0).take 4=beS 4 x;rw [List.drop_zero,List.take_left' (aA 4 x)]
 | x :: l,k+1,hk=>by
  have hk':k<l.length:=by simpa using hk
  have ih:=mE l k hk';show ((beS 4 x ++ dX l).drop (4*(k+1))).take 4=beS 4 l[k];rw [List.drop_append,List.drop_of_length_le (by rw [aA];omega),aA,show 4*(k+1)-4=4*k by omega,List.nil_append];exact ih
def mZ (n:bu):List UInt8:=[UInt8.ofNat n.kind] ++ beS 2 n.mode ++ beS 2 n.links ++ beS 4 n.size
theorem gN (n:bu):(mZ n).length=9:=by simp [mZ,aA]
def dY (n:bu) (k:Nat):List UInt8:=mZ n ++ dX (n.pages.take k) ++ zN (55-4*k)
def dr (n:bu):List UInt8:=dY n 11
theorem dO (n:bu) (k:Nat) (hk:k<=11) (hp:n.pages.length=11):(dY n k).length=64:=by
 simp only [dY,List.length_append,gN,cR,List.length_take,aO];omega
theorem sA (n:bu) (k:Nat) (hk:k<n.pages.length) (h11:k<11):(dY n k).take (9+4*k) ++ beS 4 n.pages[k] ++ (dY n k).drop (9+4*k+4)=dY n (k+1):=by
 have hl:(mZ n ++ dX (n.pages.take k)).length=9+4*k:=by
  rw [List.length_append,gN,cR,List.length_take];omega
 unfold dY;rw [List.take_left' hl,List.drop_append,List.drop_of_length_le (by rw [hl];omega),hl,List.nil_append,fM,show 9+4*k+4-(9+4*k)=4 by omega,show 55-4*k-4=55-4*(k+1) by omega,List.take_add_one,List.getElem?_eq_getElem hk,Option.toList_some,mJ];simp only [List.append_assoc]
def j2 (l:List UInt8) (k:Nat):List Nat:=(List.range k).map (fun j=>numS ((l.drop (9+4*j)).take 4))
def jm (l:List UInt8):bu:=⟨(l.getD 0 0).toNat,numS ((l.drop 1).take 2),numS ((l.drop 3).take 2),numS ((l.drop 5).take 4),j2 l 11⟩
theorem vu (l:List UInt8) (k:Nat):j2 l (k+1)=j2 l k ++ [numS ((l.drop (9+4*k)).take 4)]:=by simp [j2,List.range_succ]
theorem dC (l:List UInt8) (k:Nat):(j2 l k).length=k:=by simp [j2]
theorem mB {A B C:List UInt8} {a b:Nat} (ha:A.length=a) (hb:B.length=b):((A ++ B ++ C).drop a).take b=B:=by
 rw [List.append_assoc,List.drop_left' ha,List.take_left' hb]
theorem oJ (n:bu) (h:n.ok):jm (dr n)=n:=by
 obtain ⟨kind,mode,links,size,pages⟩:=n;have hk:kind<256:=h.kind;have hm:mode<65536:=h.mode;have hls:links<65536:=h.links;have hs:size<4294967296:=h.size;have hp:pages.length=11:=h.pages;have he:∀p∈pages,p<4294967296:=h.each;have htk:pages.take 11=pages:=List.take_of_length_le (by omega);have e1:((dr ⟨kind,mode,links,size,pages⟩).drop 1).take 2=beS 2 mode:=by
  unfold dr dY mZ;have:([UInt8.ofNat kind] ++ beS 2 mode ++ beS 2 links ++ beS 4 size ++ dX (pages.take 11) ++ zN (55-4*11))=[UInt8.ofNat kind] ++ beS 2 mode ++ (beS 2 links ++ beS 4 size ++ dX (pages.take 11) ++ zN (55-4*11)):=by simp only [List.append_assoc]
  rw [this];exact mB rfl (aA 2 mode)
 have e2:((dr ⟨kind,mode,links,size,pages⟩).drop 3).take 2=beS 2 links:=by
  unfold dr dY mZ;have:([UInt8.ofNat kind] ++ beS 2 mode ++ beS 2 links ++ beS 4 size ++ dX (pages.take 11) ++ zN (55-4*11))=([UInt8.ofNat kind] ++ beS 2 mode) ++ beS 2 links ++ (beS 4 size ++ dX (pages.take 11) ++ zN (55-4*11)):=by simp only [List.append_assoc]
  rw [this];exact mB (by simp [aA]) (aA 2 links)
 have e3:((dr ⟨kind,mode,links,size,pages⟩).drop 5).take 4=beS 4 size:=by
  unfold dr dY mZ;have:([UInt8.ofNat kind] ++ beS 2 mode ++ beS 2 links ++ beS 4 size ++ dX (pages.take 11) ++ zN (55-4*11))=([UInt8.ofNat kind] ++ beS 2 mode ++ beS 2 links) ++ beS 4 size ++ (dX (pages.take 11) ++ zN (55-4*11)):=by simp only [List.append_assoc]
  rw [this];exact mB (by simp [aA]) (aA 4 size)
 have e4:∀j,j<11->((dr ⟨kind,mode,links,size,pages⟩).drop (9+4*j)).take 4=beS 4 (pages.getD j 0):=fun j hj=>by
  have hjl:j<pages.length:=by omega
  have h1:=mE pages j hjl;unfold dr dY;rw [htk,List.append_assoc, <- List.drop_drop,List.drop_left' (gN _),List.drop_append_of_le_length (by rw [cR];omega),List.take_append_of_le_length (by rw [List.length_drop,cR];omega),h1,List.getD_eq_getElem?_getD,List.getElem?_eq_getElem hjl]
  rfl
 have e0:((dr ⟨kind,mode,links,size,pages⟩).getD 0 0).toNat=kind:=by
  show (UInt8.ofNat kind).toNat=kind;rw [UInt8.toNat_ofNat'];omega
 have eP:j2 (dr ⟨kind,mode,links,size,pages⟩) 11=pages:=by
  refine List.ext_getElem (by rw [dC,hp]) (fun j h1 h2 => ?_);have hj:j<11:=by omega
  have hx:pages[j]<4294967296:=he _ (List.getElem_mem h2);have hd:(j2 (dr ⟨kind,mode,links,size,pages⟩) 11)[j]=numS (((dr ⟨kind,mode,links,size,pages⟩).drop (9+4*j)).take 4):=by simp [j2]
  have hg:pages.getD j 0=pages[j]:=by rw [List.getD_eq_getElem?_getD,List.getElem?_eq_getElem h2];rfl
  refine hd.trans ?_;rw [e4 j hj,gL,hg];exact Nat.mod_eq_of_lt hx
 unfold jm;rw [e0,e1,e2,e3,eP,gL,gL,gL,Nat.mod_eq_of_lt (show mode<256^2 by omega),Nat.mod_eq_of_lt (show links<256^2 by omega),Nat.mod_eq_of_lt (show size<256^4 by omega)]
end
end Go.Proofs.YtpiieilffkickaaGreatDoor
