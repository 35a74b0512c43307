/- Several of my texts in one: InPage, InEnc, InDec, InTab, InStore, InFile, InOpen, InOpen2, InRise, InParts, InTook, InClear, InOff, InHold, InSave, InEqN, InSave2, InWP. -/
import Derived.Test.YtpiieilffkickaaGreatDoorJoined3
import Derived.Test.YtpiieilffkickaaGreatDoorJoined2
import Derived.RangeFuncNested
import Derived.RangeFuncBound
import Derived.RangeFuncCalls
import Derived.RangeFuncLeaves
import Derived.Shelf.Abstract
import Derived.Shelf.RegionOpen
import Derived.WalkKit
import Derived.OwnWalkIn
import Derived.TacticsInMore
import Derived.LoopNIn
import Derived.LoopIn
import Derived.Scope
import Derived.BigRegionIn
import Derived.ChangeKeysEq
set_option maxRecDepth 100000
namespace Go.Proofs.YtpiieilffkickaaGreatDoor
section
open Go.RowKit
def gV (m:Nat):Value := .agg #[.pointer (some ⟨m,0,none⟩)]
section
variable {w:World} {m c ino:Nat} {F:Nat->Prop} {size N:Nat} {Pg Cm:Nat->List UInt8} {D:Int->Bool} {o u:Nat}
theorem eS {w0:World} (h:aT w m c ino) (n:Nat) (hn:n<N) (hu:u<1000000) (hp:Pc w0 c F size N Pg Cm D o u) (hw:Below w0.heap.size w0 w) :
  Calls Tryz.prog 131 #[gV m,.int .i64 n] w fun e w'=>∃g,e = .returned (.slice (some ⟨g,0,none⟩) 512 512)/\w.heap.size<=g/\aV w' g (Pg n)/\ac F w w'/\∀W,ac (fun i=>w0.heap.size<=i) w' W->Pc W c F size N Pg Cm D o (u+1):=by
 unfold gV;have HLen:=hid (hp.len n hn);have HFl:Hid (∀i,F i->i<w.heap.size):=fun i hi=>Nat.lt_of_lt_of_le (hp.lt i hi) hw.size;have HW0:=hid hw;have hw0:=hw.size;have hal:Below w.heap.size w (w.alloc (.cells #[.pointer (some ⟨m,0,none⟩)] 96)):=(Below.refl _ w).alloc (Nat.le_refl _) _;have HAl:Hid ((w.alloc (.cells #[.pointer (some ⟨m,0,none⟩)] 96)).heap[w.heap.size]? = some (.cells #[.pointer (some ⟨m,0,none⟩)] 96 (0,0))):=af w _;have HBa:=hid hal;have HP:=hid hp;have HM:=hid h;clear h hp hal hw;go_enter Tryz.func131,Tryz.ntmps131
 go_wp2_with (refine bF rfl (.const (.int .i64 512)) (.const (.int .i64 512)) rfl 512 512 rfl rfl rfl (by omega) ?_;intro w1 hb1 hr1 hz1;have hB1:=HBa.out.trans (hb1.mono HBa.out.size);have HB1:=hid hB1;have c0:w1.cell? ⟨w.heap.size,0,none⟩=some (.pointer (some ⟨m,0,none⟩)):=(aa (ah hb1 HAl.out (ae HAl.out)) 0);have HO1:Hid (aV w1 (w.heap.size+1) (zN 512)):=(by unfold Hid aV;rw [<- eX];simpa using hr1);have HCa:=hid (cN (HM.out.below hB1));have HRd:=hid (HP.out.read (HW0.out.trans (hB1.mono HW0.out.size)) n hn hu);clear hb1 hr1 hz1 hB1 HAl HBa HM HP)
 refine HCa.out.mono ?_;clear HCa;rintro e w2 ⟨rfl,h2⟩;obtain rfl:=h2.symm;clear h2
 go_wp2_with fail
 refine HRd.out.mono ?_;clear HRd;rintro e w3 ⟨g,cap,rfl,hcap,hg,hrow,hk,hW⟩;have HO3:=hid (HO1.out.keep hk (fun hf=>by have:=HFl.out _ hf;omega));have HRow:=hid hrow;have HK:Hid (ac F w w3):=(ac.of_below HB1.out:ac F w w1).trans hk (fun i e => .inl e);have HW:=hid hW;have HSz:Hid (w.heap.size+1<w3.heap.size):=ae HO3.out;clear hrow hk hW hg HO1 c0
 go_wp2_with (refine gj rfl (.tmp 17) (.tmp 18) rfl (w.heap.size+1) 0 512 512 ⟨g,0,none⟩ 512 cap rfl rfl (zN 512) (Pg n) HO3.out HRow.out.1 (by rw [HLen.out];rfl) (by rw [HLen.out,aO];omega) ?_;intro w4 hk4 ho4 hz4;have HO4:=hid ho4;have HK4:=hid hk4;clear hk4 ho4 hz4)
 go_ret;have ho:=HO4.out;rw [List.take_zero,List.nil_append,Nat.zero_add,HLen.out,fM,show zN (512-512)=[] from rfl,List.append_nil] at ho;have k34:ac (fun i=>w0.heap.size<=i) w3 w4:=HK4.out.mono (fun i e=>by have e':i=w.heap.size+1:=e;show w0.heap.size<=i;omega);have k35:ac (fun i=>w.heap.size<=i) w3 w4:=HK4.out.mono (fun i e=>by have e':i=w.heap.size+1:=e;show w.heap.size<=i;omega);exact ⟨w.heap.size+1,rfl,by omega,ho,HK.out.trans k35 (fun i e => .inr e),fun W hW=>HW.out W (k34.trans hW (fun i e => .inl e))⟩
end
end
section
set_option maxRecDepth 100000
open Go.RowKit
theorem cL (b o n c k:Nat) (w:World) (hk:4*k+4<=n) (hc:n<=c) (hc2:c<=4096) :
  Calls Tryz.prog 144 #[.slice (some ⟨b,o,none⟩) n c,.int .i64 k] w fun e w'=>e = .returned (.slice (some ⟨b,o+4*k,none⟩) 4 (c-4*k))/\w'=w:=by
 have h0:(0:Int)<=(k:Int):=by omega
 have h1:4*(k:Int)+4<=(n:Int):=by omega
 have h2:(n:Int)<=(c:Int):=by omega
 go_enter Tryz.func144,Tryz.ntmps144;go_wp2;go_ret;exact ⟨rfl,rfl⟩
def nodeC (n:bu):List Value:=[.int .i64 n.kind,.int .i64 n.mode,.int .i64 n.links,.int .i64 n.size] ++ n.pages.map (fun p:Nat=>Value.int .i64 p)
def ct (n:bu):Value := .agg (nodeC n).toArray
theorem tG:∀ {l:List Nat},l.length=11->∃a b c d e f g i j k m,l=[a,b,c,d,e,f,g,i,j,k,m]
 | [a,b,c,d,e,f,g,i,j,k,m],_=>⟨a,b,c,d,e,f,g,i,j,k,m,rfl⟩
theorem j6 (A:List UInt8) (o n k:Nat) (hA:A.length=o) (B:List UInt8) (_:k<=n):(A ++ zN n).take o ++ B ++ (A ++ zN n).drop (o+k)=A ++ B ++ zN (n-k):=by
 rw [List.take_left' hA,List.drop_append,List.drop_of_length_le (by omega),hA,List.nil_append,fM,show o+k-o=k by omega]
theorem wY (n:bu) (h:n.ok) (w:World):Calls Tryz.prog 132 #[ct n] w fun e w'=>∃b,e = .returned (.slice (some ⟨b,0,none⟩) 64 64)/\w.heap.size<=b/\aV w' b (dr n)/\Below w.heap.size w w':=by
 obtain ⟨kd,md,lk,sz,pages⟩:=n;have HOk:=hid h;have hp:pages.length=11:=h.pages;have hkd:kd<256:=h.kind;have hmd:md<65536:=h.mode;have hlk:lk<65536:=h.links;have hsz:sz<4294967296:=h.size;obtain ⟨p0,p1,p2,p3,p4,p5,p6,p7,p8,p9,p10,rfl⟩:=tG hp;show Calls Tryz.prog 132 #[.agg #[.int .i64 kd,.int .i64 md,.int .i64 lk,.int .i64 sz,.int .i64 p0,.int .i64 p1,.int .i64 p2,.int .i64 p3,.int .i64 p4,.int .i64 p5,.int .i64 p6,.int .i64 p7,.int .i64 p8,.int .i64 p9,.int .i64 p10]] w _;have HC:Hid (∀W:World,W.heap[w.heap.size]? = some (.cells #[.int .i64 kd,.int .i64 md,.int .i64 lk,.int .i64 sz,.int .i64 p0,.int .i64 p1,.int .i64 p2,.int .i64 p3,.int .i64 p4,.int .i64 p5,.int .i64 p6,.int .i64 p7,.int .i64 p8,.int .i64 p9,.int .i64 p10] 142 (0,0))->W.cell? ⟨w.heap.size,0,none⟩=some (.int .i64 kd)/\W.cell? ⟨w.heap.size,1,none⟩=some (.int .i64 md)/\W.cell? ⟨w.heap.size,2,none⟩=some (.int .i64 lk)/\W.cell? ⟨w.heap.size,3,none⟩=some (.int .i64 sz)/\W.cell? ⟨w.heap.size,4,none⟩=some (.int .i64 p0)/\W.cell? ⟨w.heap.size,5,none⟩=some (.int .i64 p1)/\W.cell? ⟨w.heap.size,6,none⟩=some (.int .i64 p2)/\W.cell? ⟨w.heap.size,7,none⟩=some (.int .i64 p3)/\W.cell? ⟨w.heap.size,8,none⟩=some (.int .i64 p4)/\W.cell? ⟨w.heap.size,9,none⟩=some (.int .i64 p5)/\W.cell? ⟨w.heap.size,10,none⟩=some (.int .i64 p6)/\W.cell? ⟨w.heap.size,11,none⟩=some (.int .i64 p7)/\W.cell? ⟨w.heap.size,12,none⟩=some (.int .i64 p8)/\W.cell? ⟨w.heap.size,13,none⟩=some (.int .i64 p9)/\W.cell? ⟨w.heap.size,14,none⟩=some (.int .i64 p10)):=fun W hW=>⟨aa hW 0,aa hW 1,aa hW 2,aa hW 3,aa hW 4,aa hW 5,aa hW 6,aa hW 7,aa hW 8,aa hW 9,aa hW 10,aa hW 11,aa hW 12,aa hW 13,aa hW 14⟩;have hal:(w.alloc (.cells #[.int .i64 kd,.int .i64 md,.int .i64 lk,.int .i64 sz,.int .i64 p0,.int .i64 p1,.int .i64 p2,.int .i64 p3,.int .i64 p4,.int .i64 p5,.int .i64 p6,.int .i64 p7,.int .i64 p8,.int .i64 p9,.int .i64 p10] 142)).heap[w.heap.size]? = some (.cells #[.int .i64 kd,.int .i64 md,.int .i64 lk,.int .i64 sz,.int .i64 p0,.int .i64 p1,.int .i64 p2,.int .i64 p3,.int .i64 p4,.int .i64 p5,.int .i64 p6,.int .i64 p7,.int .i64 p8,.int .i64 p9,.int .i64 p10] 142 (0,0)):=af w _;have hbal:Below w.heap.size w (w.alloc (.cells #[.int .i64 kd,.int .i64 md,.int .i64 lk,.int .i64 sz,.int .i64 p0,.int .i64 p1,.int .i64 p2,.int .i64 p3,.int .i64 p4,.int .i64 p5,.int .i64 p6,.int .i64 p7,.int .i64 p8,.int .i64 p9,.int .i64 p10] 142)):=(Below.refl _ w).alloc (Nat.le_refl _) _;have HAl:=hid hal;have HBa:=hid hbal;clear h hp hal hbal;go_enter Tryz.func132,Tryz.ntmps132
 go_wp2_with (first
  | (refine bF rfl (.const (.int .i64 64)) (.const (.int .i64 64)) rfl 64 64 rfl rfl rfl (by omega) ?_;intro w1 hb1 hr1 hz1;have HX1:=hid (ah hb1 HAl.out (ae HAl.out));obtain ⟨c0,c1,c2,c3,c4,c5,c6,c7,c8,c9,c10,c11,c12,c13,c14⟩:=HC.out w1 HX1.out;have HB1:=hid (HBa.out.trans (hb1.mono HBa.out.size));have HO1:Hid (aV w1 (w.heap.size+1) (zN 64)):=(by unfold Hid aV;rw [<- eX];simpa using hr1);have k0:=HO1.out.cell 0 (by rw [aO];omega);have k1:=HO1.out.frozen 0;clear hb1 hr1 hz1 HAl HBa))
 -- PUTS
 have e0:((UInt8.ofNat kd).toNat:Int)=(kd:Int):=by rw [UInt8.toNat_ofNat'];omega
 have ho2:=HO1.out.set 0 (UInt8.ofNat kd);rw [e0,show (zN 64).set 0 (UInt8.ofNat kd)=[UInt8.ofNat kd] ++ zN 63 from rfl] at ho2;have kk:ac (fun i=>i=w.heap.size+1) w1 (w1.setCell ⟨w.heap.size+1,0,none⟩ (.int .u8 (kd:Int))):=(ac.refl _ w1).grown (ak (ar _ _) _ _) (fun i e => .inl (Option.some.inj e).symm);have HO2:=hid ho2;have HX2:=hid (kk.heap HX1.out (fun e=>by have e':w.heap.size=w.heap.size+1:=e;omega));have HB2:=hid (HB1.out.trans (kk.below HB1.out.size (fun i e=>by have e':i=w.heap.size+1:=e;omega)));clear ho2 kk c0 c1 c2 c3 c4 c5 c6 c7 c8 c9 c10 c11 c12 c13 c14 k0 k1 HX1 HB1 HO1 e0;generalize w1.setCell ⟨w.heap.size+1,0,none⟩ (.int .u8 (kd:Int))=w2 at *;have hdr:Below w2.heap.size w2 w2.drew:=(Below.refl _ w2).drew;have hln:([UInt8.ofNat kd] ++ zN 63).length=64:=by rw [List.length_append,aO];rfl
 have hpt:=ep (w.heap.size+1) 1 2 (64-1) md ([UInt8.ofNat kd] ++ zN 63) w2.drew (HO2.out.below hdr) (by rw [hln];omega) (by rw [hln];omega) (by omega);rw [j6 [UInt8.ofNat kd] 1 63 2 (by rfl) _ (by omega)] at hpt;have HPt:=hid hpt;have hXd:=ah hdr HX2.out (ae HX2.out);have HXd:=hid hXd;have HBd:=hid (HB2.out.trans (hdr.mono HB2.out.size));have d1:w2.cell? ⟨w.heap.size,1,none⟩=some (.int .i64 md):=aa HX2.out 1;clear hpt hln hdr hXd HO2 HB2;refine wp_region_noPanic ?_;refine wp_region_held_drew (S:=fun W=>W.cell? ⟨w.heap.size,1,none⟩=some (.int .i64 md)) (by kernel_rfl) d1 (fun hHeld => ?_);refine tq 0 _ ?_
 try simp only [tS]
 refine tq 1 _ ?_
 try simp only [tS]
 refine tq 2 _ ?_
 try simp only [tS]
 refine tq 3 _ ?_
 try simp only [tS]
 refine tr 4 (fun K hK => ?_);go_simp;refine HPt.out.mono ?_;clear HPt;rintro e w3 ⟨rfl,ho3,hk3⟩;have HO3:=hid ho3;have HX3:=hid (hk3.heap HXd.out (fun e=>by have e':w.heap.size=w.heap.size+1:=e;omega));have HB3:=hid (HBd.out.trans (hk3.below HBd.out.size (fun i e=>by have e':i=w.heap.size+1:=e;omega)));have d2:w3.cell? ⟨w.heap.size,1,none⟩=some (.int .i64 md):=aa HX3.out 1;clear ho3 hk3 HXd HBd HX2
 go_wp2_with fail
 refine hK.out _ _ d2 (fun hHeld => ?_);clear hK K
 try simp only [tS]
 refine wpAnyH_done (by kernel_rfl) ?_ _;refine NoPanic.normal ?_;clear hHeld d1 d2;go_wp2;have hdr:Below w3.heap.size w3 w3.drew:=(Below.refl _ w3).drew;have hln:(([UInt8.ofNat kd] ++ beS 2 md) ++ zN 61).length=64:=by rw [List.length_append,aO];simp [aA]
 have hpt:=ep (w.heap.size+1) 3 2 (64-3) lk (([UInt8.ofNat kd] ++ beS 2 md) ++ zN 61) w3.drew (HO3.out.below hdr) (by rw [hln];omega) (by rw [hln];omega) (by omega);rw [j6 ([UInt8.ofNat kd] ++ beS 2 md) 3 61 2 (by simp [aA]) _ (by omega)] at hpt;have HPt:=hid hpt;have hXd:=ah hdr HX3.out (ae HX3.out);have HXd:=hid hXd;have HBd:=hid (HB3.out.trans (hdr.mono HB3.out.size));have d1:w3.cell? ⟨w.heap.size,2,none⟩=some (.int .i64 lk):=aa HX3.out 2;clear hpt hln hdr hXd HO3 HB3;refine wp_region_noPanic ?_;refine wp_region_held_drew (S:=fun W=>W.cell? ⟨w.heap.size,2,none⟩=some (.int .i64 lk)) (by kernel_rfl) d1 (fun hHeld => ?_);refine tq 0 _ ?_
 try simp only [tS]
 refine tq 1 _ ?_
 try simp only [tS]
 refine tq 2 _ ?_
 try simp only [tS]
 refine tq 3 _ ?_
 try simp only [tS]
 refine tr 4 (fun K hK => ?_);go_simp;refine HPt.out.mono ?_;clear HPt;rintro e w4 ⟨rfl,ho4,hk4⟩;have HO4:=hid ho4;have HX4:=hid (hk4.heap HXd.out (fun e=>by have e':w.heap.size=w.heap.size+1:=e;omega));have HB4:=hid (HBd.out.trans (hk4.below HBd.out.size (fun i e=>by have e':i=w.heap.size+1:=e;omega)));have d2:w4.cell? ⟨w.heap.size,2,none⟩=some (.int .i64 lk):=aa HX4.out 2;clear ho4 hk4 HXd HBd HX3
 go_wp2_with fail
 refine hK.out _ _ d2 (fun hHeld => ?_);clear hK K
 try simp only [tS]
 refine wpAnyH_done (by kernel_rfl) ?_ _;refine NoPanic.normal ?_;clear hHeld d1 d2;go_wp2;have hdr:Below w4.heap.size w4 w4.drew:=(Below.refl _ w4).drew;have hln:(([UInt8.ofNat kd] ++ beS 2 md ++ beS 2 lk) ++ zN 59).length=64:=by rw [List.length_append,aO];simp [aA]
 have hpt:=ep (w.heap.size+1) 5 4 (64-5) sz (([UInt8.ofNat kd] ++ beS 2 md ++ beS 2 lk) ++ zN 59) w4.drew (HO4.out.below hdr) (by rw [hln];omega) (by rw [hln];omega) (by omega);rw [j6 ([UInt8.ofNat kd] ++ beS 2 md ++ beS 2 lk) 5 59 4 (by simp [aA]) _ (by omega)] at hpt;have HPt:=hid hpt;have hXd:=ah hdr HX4.out (ae HX4.out);have HXd:=hid hXd;have HBd:=hid (HB4.out.trans (hdr.mono HB4.out.size));have d1:w4.cell? ⟨w.heap.size,3,none⟩=some (.int .i64 sz):=aa HX4.out 3;clear hpt hln hdr hXd HO4 HB4;refine wp_region_noPanic ?_;refine wp_region_held_drew (S:=fun W=>W.cell? ⟨w.heap.size,3,none⟩=some (.int .i64 sz)) (by kernel_rfl) d1 (fun hHeld => ?_);refine tq 0 _ ?_
 try simp only [tS]
 refine tq 1 _ ?_
 try simp only [tS]
 refine tq 2 _ ?_
 try simp only [tS]
 refine tq 3 _ ?_
 try simp only [tS]
 refine tr 4 (fun K hK => ?_);go_simp;refine HPt.out.mono ?_;clear HPt;rintro e w5 ⟨rfl,ho5,hk5⟩;have HO5:=hid ho5;have HX5:=hid (hk5.heap HXd.out (fun e=>by have e':w.heap.size=w.heap.size+1:=e;omega));have HB5:=hid (HBd.out.trans (hk5.below HBd.out.size (fun i e=>by have e':i=w.heap.size+1:=e;omega)));have d2:w5.cell? ⟨w.heap.size,3,none⟩=some (.int .i64 sz):=aa HX5.out 3;clear ho5 hk5 HXd HBd HX4
 go_wp2_with fail
 refine hK.out _ _ d2 (fun hHeld => ?_);clear hK K
 try simp only [tS]
 refine wpAnyH_done (by kernel_rfl) ?_ _;refine NoPanic.normal ?_;clear hHeld d1 d2;obtain ⟨c0,c1,c2,c3,c4,c5,c6,c7,c8,c9,c10,c11,c12,c13,c14⟩:=HC.out w5 HX5.out;obtain ⟨ps,hps⟩:∃ps:List Nat,ps=[p0,p1,p2,p3,p4,p5,p6,p7,p8,p9,p10]:=⟨_,rfl⟩;have hpl:ps.length=11:=by rw [hps];rfl
 have hag:(#[.int .i64 p0,.int .i64 p1,.int .i64 p2,.int .i64 p3,.int .i64 p4,.int .i64 p5,.int .i64 p6,.int .i64 p7,.int .i64 p8,.int .i64 p9,.int .i64 p10]:Array Value)=(ps.map (fun p:Nat=>Value.int .i64 p)).toArray:=by rw [hps];rfl
 have HAg:=hid hag;have HO0:Hid (aV w5 (w.heap.size+1) (dY ⟨kd,md,lk,sz,ps⟩ 0)):=HO5;have HOk2:Hid (bu.ok ⟨kd,md,lk,sz,ps⟩):=by rw [hps];exact HOk
 have HPs:=hid hps;have HPl:=hid hpl;clear HO5 HX5 HC hag HOk hpl;go_wp2;rw [HAg.out];clear c0 c1 c2 c3 c4 c5 c6 c7 c8 c9 c10 c11 c12 c13 c14 HAg hps
 go_loopw [29] (fun iv wr=>∃j:Nat,j<=11/\iv = .int .i64 j/\Hid (aV wr (w.heap.size+1) (dY ⟨kd,md,lk,sz,ps⟩ j))/\Hid (Below w.heap.size w wr)) (fun iv _=>11-(intOf iv).toNat)
 case atStart=>exact ⟨0,by omega,rfl,HO0,HB5⟩
 case round =>
  obtain ⟨j,hj,rfl,HO,HB⟩:=hrel;clear HO0 HB5;by_cases hlt:j<11
  ·have hj0:(0:Int)<=(j:Int):=by omega
   have hj1:(j:Int)<11:=by omega
   have hjl:j<ps.length:=by rw [HPl.out];exact hlt
   have hix:(Instr.index 140 (.agg (ps.map (fun p:Nat=>Value.int .i64 p)).toArray) (.int .i64 (j:Int))).run Tryz.prog wr = .ok (.int .i64 (ps[j]:Nat)) wr:=js Tryz.underlying140 (by kernel_rfl) Tryz.underlying3 hlt (by simp [hjl]);have HF:=hid (cL (w.heap.size+1) 9 55 55 j wr (by omega) (by omega) (by omega));have hx4:ps[j]<4294967296:=HOk2.out.each ps[j] (List.getElem_mem hjl);have hll:(dY ⟨kd,md,lk,sz,ps⟩ j).length=64:=dO _ j hj HPl.out;have hpt:=ep (w.heap.size+1) (9+4*j) 4 (55-4*j) ps[j] (dY ⟨kd,md,lk,sz,ps⟩ j) wr HO.out (by rw [hll];omega) (by rw [hll];omega) (by omega);rw [show (dY ⟨kd,md,lk,sz,ps⟩ j).take (9+4*j) ++ beS 4 ps[j] ++ (dY ⟨kd,md,lk,sz,ps⟩ j).drop (9+4*j+4)=dY ⟨kd,md,lk,sz,ps⟩ (j+1) from sA ⟨kd,md,lk,sz,ps⟩ j hjl hlt] at hpt;have HPt:=hid hpt;clear hpt hll hx4 HO;generalize ps[j]=x at *
   go_wp2_with fail
   refine HF.out.mono ?_;clear HF;rintro e w7 ⟨rfl,h7⟩;obtain rfl:=h7.symm;clear h7
   go_wp2_with fail
   refine HPt.out.mono ?_;clear HPt;rintro e w8 ⟨rfl,ho8,hk8⟩;have HO8:=hid ho8;have HB8:=hid (HB.out.trans (hk8.below HB.out.size (fun i e=>by have e':i=w.heap.size+1:=e;omega)));clear ho8 hk8 HB hix;go_wp2;exact ⟨⟨j+1,by omega,by go_num,HO8,HB8⟩,by simp [intOf];omega⟩
  ·obtain rfl:j=11:=by omega
   go_wp2;go_ret;refine ⟨w.heap.size+1,rfl,by omega,?_,HB.out⟩;rw [<- HPs.out];exact HO.out
end
section
set_option maxRecDepth 100000
set_option maxHeartbeats 2000000
open Go.RowKit
theorem cQ {op:Oper} {a:Act} {w:World} {K:Act->World->Prop} {Q:Exit->Act->World->Prop} (ty:TypeId) (x y:Operand) (ho:op.op = .store ty x y)
  (b:Nat) (cs:Array Value) (hx:a.eval x = .pointer (some ⟨b,0,none⟩)) (hy:a.eval y = .agg cs) (C:Array Value) (t:TypeId) (hb:w.heap[b]? = some (.cells C t (0,0))) (hs:cs.size=C.size)
  (hi:(Tryz.prog.info? ty).map (·.size)=some cs.size) (h1:cs.all (·.oneCell')=true)
  (h:∀w1:World,w.grownBy w1 (some b)->w1.heap[b]? = some (.cells cs t (0,0))->w1.heap.size=w.heap.size->K (a.put op.dst undef) w1):op.wp Tryz.prog a w K Q:=by
 obtain ⟨i1,i2,i3,i4,i5,i6⟩:=dK b cs.toList 0 w C t hb (by simp;omega);refine wp_store_mid ty x y ho b 0 cs hx hy (eY hb 0 _ (by omega)) hi h1 (h _ ⟨i3,i4,i5,by omega,fun k _ hk=>i2 k (by simpa using hk)⟩ ?_ i6);rw [i1];rw [List.drop_eq_nil_of_le (by simp;omega)];simp
def fH (w:World) (b:Nat) (n:bu):Prop:=w.heap[b]? = some (.cells (nodeC n).toArray 142 (0,0))
theorem fH.page {w:World} {b:Nat} {n:bu} (h:fH w b n) (j:Nat) (hj:j<n.pages.length):w.cell? ⟨b,4+j,none⟩=some (.int .i64 (n.pages[j]:Nat)):=by
 rw [aa h];unfold nodeC;rw [List.getElem?_toArray,List.getElem?_append_right (by simp),List.length_cons,List.length_cons,List.length_cons,List.length_cons,List.length_nil,show 4+j-(0+1+1+1+1)=j by omega,List.getElem?_map,List.getElem?_eq_getElem hj]
 rfl
theorem fH.setPage {w:World} {b:Nat} {n:bu} (h:fH w b n) (j x:Nat):fH (w.setCell ⟨b,4+j,none⟩ (.int .i64 x)) b { n with pages:=n.pages.set j x }:=by
 have h1:=ap h (4+j) (.int .i64 x);unfold fH;rw [h1,List.setIfInBounds_toArray];unfold nodeC;rw [List.set_append_right _ _ (by simp)];simp only [List.length_cons,List.length_nil,List.map_set];rw [show 4+j-(0+1+1+1+1)=j by omega]
def bI (l:List UInt8) (k:Nat):List Nat:=j2 l k ++ List.replicate (11-k) 0
theorem eC (l:List UInt8) (k:Nat) (hk:k<=11):(bI l k).length=11:=by unfold bI;rw [List.length_append,dC,List.length_replicate];omega
theorem kz (l:List UInt8) (k:Nat) (hk:k<11):(bI l k).set k (numS ((l.drop (9+4*k)).take 4))=bI l (k+1):=by
 unfold bI;rw [List.set_append_right _ _ (by rw [dC];omega),dC,Nat.sub_self,vu,show 11-k=(11-(k+1))+1 by omega,List.replicate_succ,List.set_cons_zero];simp
theorem aS (a b c d:Nat) (l:List UInt8):(nodeC ⟨a,b,c,d,bI l 11⟩).length=15:=by
 unfold nodeC;rw [List.length_append,List.length_map,eC l 11 (Nat.le_refl _)];rfl
theorem bE (n:bu):(nodeC n).toArray.all (·.oneCell')=true:=by
 rw [Array.all_eq_true_iff_forall_mem];intro v hv;have hv':v∈nodeC n:=by simpa using hv
 unfold nodeC at hv';simp only [List.cons_append,List.nil_append,List.mem_cons,List.mem_map] at hv';rcases hv' with rfl | rfl | rfl | rfl | ⟨p,_,rfl⟩ <;> rfl
theorem fD {w:World} {tmps:Array Value} {b:Nat} {cs:List Value} (h1:tmps.getD 2 undef = .pointer (some ⟨b,0,none⟩)) (r:w.heap[b]? = some (.cells cs.toArray 142 (0,0))) (hl:cs.length=15) :
  (results Tryz.f194 tmps).run Tryz.prog w = .ok (.agg cs.toArray) w:=by
 have h1':tmps[2]?.getD undef = .pointer (some ⟨b,0,none⟩):=by simpa using h1
 have hr:=run_loadVar_mid (P:=Tryz.prog) w b 0 142 cs _ (by have:=aL r;exact this) Tryz.underlying142 rfl (by rw [hl];kernel_rfl);simp only [results,Tryz.results194];simp [h1',asAddr,hr]
theorem ug {w:World} {b o:Nat} {l:List UInt8} (h:az w ⟨b,o,none⟩ l) (p n:Nat) (hp:p+n<=l.length):dN w (some ⟨b,o+p,none⟩) ((l.drop p).take n):=fun _ _=>⟨b,o+p,rfl,fun k hk=>by
 have hk':k<n:=by rw [List.length_take] at hk;omega
 have h1:=h (p+k) (by omega);rw [Addr.add_mid] at h1;rw [Nat.add_assoc,h1];simp [List.getElem_take,List.getElem_drop]⟩
theorem ke {l:List UInt8} {p n:Nat} (h:p+n<=l.length):((l.drop p).take n).length=n:=by rw [List.length_take,List.length_drop];omega
theorem wS (b o c:Nat) (l:List UInt8) (w:World) (h:az w ⟨b,o,none⟩ l) (hl:l.length=64) (hc:64<=c) (hc2:c<=4096):Calls Tryz.prog 194 #[.slice (some ⟨b,o,none⟩) 64 c] w fun e w'=>e = .returned (ct (jm l))/\Below w.heap.size w w':=by
 have hba:Below w.heap.size w (w.alloc (.cells #[.int .i64 0,.int .i64 0,.int .i64 0,.int .i64 0,.int .i64 0,.int .i64 0,.int .i64 0,.int .i64 0,.int .i64 0,.int .i64 0,.int .i64 0,.int .i64 0,.int .i64 0,.int .i64 0,.int .i64 0] 142)):=(Below.refl _ w).alloc (Nat.le_refl _) _;have hbd:Below (w.alloc (.cells #[.int .i64 0,.int .i64 0,.int .i64 0,.int .i64 0,.int .i64 0,.int .i64 0,.int .i64 0,.int .i64 0,.int .i64 0,.int .i64 0,.int .i64 0,.int .i64 0,.int .i64 0,.int .i64 0,.int .i64 0] 142)).heap.size (w.alloc (.cells #[.int .i64 0,.int .i64 0,.int .i64 0,.int .i64 0,.int .i64 0,.int .i64 0,.int .i64 0,.int .i64 0,.int .i64 0,.int .i64 0,.int .i64 0,.int .i64 0,.int .i64 0,.int .i64 0,.int .i64 0] 142)) (w.alloc (.cells #[.int .i64 0,.int .i64 0,.int .i64 0,.int .i64 0,.int .i64 0,.int .i64 0,.int .i64 0,.int .i64 0,.int .i64 0,.int .i64 0,.int .i64 0,.int .i64 0,.int .i64 0,.int .i64 0,.int .i64 0] 142)).drew:=(Below.refl _ _).drew;have hbw:Below w.heap.size w (w.alloc (.cells #[.int .i64 0,.int .i64 0,.int .i64 0,.int .i64 0,.int .i64 0,.int .i64 0,.int .i64 0,.int .i64 0,.int .i64 0,.int .i64 0,.int .i64 0,.int .i64 0,.int .i64 0,.int .i64 0,.int .i64 0] 142)).drew:=hba.trans (hbd.mono hba.size);have hr0:=ah hbd (af w (.cells #[.int .i64 0,.int .i64 0,.int .i64 0,.int .i64 0,.int .i64 0,.int .i64 0,.int .i64 0,.int .i64 0,.int .i64 0,.int .i64 0,.int .i64 0,.int .i64 0,.int .i64 0,.int .i64 0,.int .i64 0] 142)) (by simp);have hby:∀W,Below (w.alloc (.cells #[.int .i64 0,.int .i64 0,.int .i64 0,.int .i64 0,.int .i64 0,.int .i64 0,.int .i64 0,.int .i64 0,.int .i64 0,.int .i64 0,.int .i64 0,.int .i64 0,.int .i64 0,.int .i64 0,.int .i64 0] 142)).drew.heap.size (w.alloc (.cells #[.int .i64 0,.int .i64 0,.int .i64 0,.int .i64 0,.int .i64 0,.int .i64 0,.int .i64 0,.int .i64 0,.int .i64 0,.int .i64 0,.int .i64 0,.int .i64 0,.int .i64 0,.int .i64 0,.int .i64 0] 142)).drew W->az W ⟨b,o,none⟩ l:=fun W hW j hj=>by
  have h1:=h j hj;have hlt:=World.block_lt_of_cell? w _ h1;have h2:=(hbw.cell hlt).trans h1;exact (hW.cell (World.block_lt_of_cell? _ _ h2)).trans h2
 have hnum:∀W,Below (w.alloc (.cells #[.int .i64 0,.int .i64 0,.int .i64 0,.int .i64 0,.int .i64 0,.int .i64 0,.int .i64 0,.int .i64 0,.int .i64 0,.int .i64 0,.int .i64 0,.int .i64 0,.int .i64 0,.int .i64 0,.int .i64 0] 142)).drew.heap.size (w.alloc (.cells #[.int .i64 0,.int .i64 0,.int .i64 0,.int .i64 0,.int .i64 0,.int .i64 0,.int .i64 0,.int .i64 0,.int .i64 0,.int .i64 0,.int .i64 0,.int .i64 0,.int .i64 0,.int .i64 0,.int .i64 0] 142)).drew W->∀p n,p+n<=64->n<=7->Calls Tryz.prog 108 #[.slice (some ⟨b,o+p,none⟩) n (c-p)] W fun e w'=>e = .returned (.int .i64 (numS ((l.drop p).take n):Nat))/\w'=W:=fun W hW p n hp hn=>by
  have h1:=jP ((l.drop p).take n) (some ⟨b,o+p,none⟩) (c-p) W (ug (hby W hW) p n (by omega)) (by rw [ke (by omega)];exact hn);rw [ke (by omega)] at h1;exact h1
 have h00:=h 0 (by omega);rw [Addr.add_mid,Nat.add_zero] at h00;have cd0:=(hbw.cell (World.block_lt_of_cell? w _ h00)).trans h00;have ca0:=(hba.cell (World.block_lt_of_cell? w _ h00)).trans h00;obtain ⟨x0,hx0⟩:∃x0,x0=l[0]:=⟨_,rfl⟩;rw [<- hx0] at cd0 ca0;have HNum:=hid hnum;have HBy:=hid hby;have HBw:=hid hbw;have HR0:=hid hr0;have HX0:Hid (x0=l.getD 0 0):=by unfold Hid;rw [hx0,List.getD_eq_getElem?_getD,List.getElem?_eq_getElem (by omega)];rfl
 have HL:=hid hl;have hc':(64:Int)<=(c:Int):=by omega
 clear hba hbd hbw hr0 hby hnum h00 hx0 h
 replace hl:True:=trivial
 clear hl;go_enter Tryz.func194,Tryz.ntmps194;go_wp2;refine wp_region_noPanic ?_;refine wp_region_held_drew (S:=fun W=>W.cell? ⟨b,o,none⟩=some (.int .u8 (x0.toNat:Int))) (by kernel_rfl) ca0 (fun hHeld => ?_);have HSz:Hid ((w.alloc (.cells #[.int .i64 0,.int .i64 0,.int .i64 0,.int .i64 0,.int .i64 0,.int .i64 0,.int .i64 0,.int .i64 0,.int .i64 0,.int .i64 0,.int .i64 0,.int .i64 0,.int .i64 0,.int .i64 0,.int .i64 0] 142)).drew.heap.size=w.heap.size+1):=by unfold Hid;simp [World.drew]
 generalize (w.alloc (.cells #[.int .i64 0,.int .i64 0,.int .i64 0,.int .i64 0,.int .i64 0,.int .i64 0,.int .i64 0,.int .i64 0,.int .i64 0,.int .i64 0,.int .i64 0,.int .i64 0,.int .i64 0,.int .i64 0,.int .i64 0] 142)).drew=wd at *;have hn6:=fun W hW=>HNum.out W hW 1 2 (by omega) (by omega);have hn9:=fun W hW=>HNum.out W hW 3 2 (by omega) (by omega);have hn12:=fun W hW=>HNum.out W hW 5 4 (by omega) (by omega);obtain ⟨m1,hm1⟩:∃m1,m1=numS ((l.drop 1).take 2):=⟨_,rfl⟩;obtain ⟨m2,hm2⟩:∃m2,m2=numS ((l.drop 3).take 2):=⟨_,rfl⟩;obtain ⟨m3,hm3⟩:∃m3,m3=numS ((l.drop 5).take 4):=⟨_,rfl⟩;rw [<- hm1] at hn6;rw [<- hm2] at hn9;rw [<- hm3] at hn12;have HN6:=hid hn6;have HN9:=hid hn9;have HN12:=hid hn12;have HMs:=hid (And.intro hm1 (And.intro hm2 hm3));clear hn6 hn9 hn12 hm1 hm2 hm3;have hw0:IntKind.i64.wrap (x0.toNat:Int)=(x0.toNat:Int):=by rw [IntWalk.i64_in _ (by have:=x0.toNat_lt;omega)]
 have cd:=cd0;clear cd0 ca0;refine tq 0 _ ?_
 try simp only [tS]
 have hq3:(3:Int)<=(c:Int):=by omega
 have hq5:(5:Int)<=(c:Int):=by omega
 have hq9:(9:Int)<=(c:Int):=by omega
 have hn1:¬c=1:=by omega
 have hn3:¬c=3:=by omega
 have hn5:¬c=5:=by omega
 refine tq 1 _ ?_
 try simp only [tS]
 refine tq 2 _ ?_
 try simp only [tS]
 refine tq 3 (.int .i64 (x0.toNat:Int)) ?_
 try simp only [tS]
 refine tq 4 _ ?_
 try simp only [tS]
 refine tq 5 (.slice (some ⟨b,o+1,none⟩) 2 (c-1)) ?_
 try simp only [tS]
 refine tq 7 _ ?_
 try simp only [tS]
 refine tq 8 (.slice (some ⟨b,o+3,none⟩) 2 (c-3)) ?_
 try simp only [tS]
 refine tq 10 _ ?_
 try simp only [tS]
 refine tq 11 (.slice (some ⟨b,o+5,none⟩) 4 (c-5)) ?_
 try simp only [tS]
 refine wpAnyH_ready (rs:=[6,14]) (by kernel_rfl) (by simp) (AllReadyH.cons rfl (fun K hK => ?_) (AllReadyH.cons rfl (fun K hK => ?_) AllReadyH.nil))
 ·rw [if_pos (by rfl)];go_simp;refine (HN6.out wd (Below.refl _ _)).mono ?_;rintro e w9 ⟨rfl,h9⟩;obtain rfl:=h9.symm;clear h9
  go_wp2_with fail
  refine hK.out _ _ cd (fun hHeld => ?_);clear hK K
  try simp only [tS]
  refine wpAnyH_ready (rs:=[9,14]) (by kernel_rfl) (by simp) (AllReadyH.cons rfl (fun K hK => ?_) (AllReadyH.cons rfl (fun K hK => ?_) AllReadyH.nil))
  ·rw [if_pos (by rfl)];go_simp;refine (HN9.out wd (Below.refl _ _)).mono ?_;rintro e w9 ⟨rfl,h9⟩;obtain rfl:=h9.symm;clear h9
   go_wp2_with fail
   refine hK.out _ _ cd (fun hHeld => ?_);clear hK K
   try simp only [tS]
   refine wpAnyH_ready (rs:=[12,14]) (by kernel_rfl) (by simp) (AllReadyH.cons rfl (fun K hK => ?_) (AllReadyH.cons rfl (fun K hK => ?_) AllReadyH.nil))
   ·rw [if_pos (by rfl)];go_simp;refine (HN12.out wd (Below.refl _ _)).mono ?_;rintro e w9 ⟨rfl,h9⟩;obtain rfl:=h9.symm;clear h9
    go_wp2_with fail
    refine hK.out _ _ cd (fun hHeld => ?_);clear hK K
    try simp only [tS]
    refine tq 13 _ ?_
    try simp only [tS]
    refine tr 14 (fun K hK => ?_);unfold Oper.wp;go_simp;have HBz:Hid (Below wd.heap.size wd (wd.alloc (.cells #[.int .i64 0,.int .i64 0,.int .i64 0,.int .i64 0,.int .i64 0,.int .i64 0,.int .i64 0,.int .i64 0,.int .i64 0,.int .i64 0,.int .i64 0,.int .i64 0,.int .i64 0,.int .i64 0,.int .i64 0] 142))):=(Below.refl _ wd).alloc (Nat.le_refl _) _;have HNz:Hid ((wd.alloc (.cells #[.int .i64 0,.int .i64 0,.int .i64 0,.int .i64 0,.int .i64 0,.int .i64 0,.int .i64 0,.int .i64 0,.int .i64 0,.int .i64 0,.int .i64 0,.int .i64 0,.int .i64 0,.int .i64 0,.int .i64 0] 142)).heap[wd.heap.size]? = some (.cells #[.int .i64 0,.int .i64 0,.int .i64 0,.int .i64 0,.int .i64 0,.int .i64 0,.int .i64 0,.int .i64 0,.int .i64 0,.int .i64 0,.int .i64 0,.int .i64 0,.int .i64 0,.int .i64 0,.int .i64 0] 142 (0,0))):=af wd _;have cz:(wd.alloc (.cells #[.int .i64 0,.int .i64 0,.int .i64 0,.int .i64 0,.int .i64 0,.int .i64 0,.int .i64 0,.int .i64 0,.int .i64 0,.int .i64 0,.int .i64 0,.int .i64 0,.int .i64 0,.int .i64 0,.int .i64 0] 142)).cell? ⟨b,o,none⟩=some (.int .u8 (x0.toNat:Int)):=(HBz.out.cell (World.block_lt_of_cell? wd _ cd)).trans cd;generalize wd.alloc (.cells #[.int .i64 0,.int .i64 0,.int .i64 0,.int .i64 0,.int .i64 0,.int .i64 0,.int .i64 0,.int .i64 0,.int .i64 0,.int .i64 0,.int .i64 0,.int .i64 0,.int .i64 0,.int .i64 0,.int .i64 0] 142)=wz at *;refine hK.out _ _ cz (fun hHeld => ?_);clear hK K
    try simp only [tS]
    refine tr 15 (fun K hK => ?_);refine cQ 142 (.tmp 3) (.tmp 18) rfl wd.heap.size #[.int .i64 (x0.toNat:Int),.int .i64 m1,.int .i64 m2,.int .i64 m3,.int .i64 0,.int .i64 0,.int .i64 0,.int .i64 0,.int .i64 0,.int .i64 0,.int .i64 0,.int .i64 0,.int .i64 0,.int .i64 0,.int .i64 0] rfl rfl _ _ HNz.out rfl (by kernel_rfl) (by simp [Value.oneCell']) ?_;intro w5 hg5 hn5 hz5;have hbne:b<wd.heap.size:=World.block_lt_of_cell? wd _ cd;have kk:ac (fun i=>i=wd.heap.size) wz w5:=ac.of_grown hg5 (fun i e=>(Option.some.inj e).symm);have c5:w5.cell? ⟨b,o,none⟩=some (.int .u8 (x0.toNat:Int)):=kk.cell cz (fun e=>by have e':b=wd.heap.size:=e;omega);have HN5:=hid hn5;have HB5:Hid (Below wd.heap.size wd w5):=HBz.out.trans (kk.below HBz.out.size (fun i e=>by have e':i=wd.heap.size:=e;omega));clear hg5 hn5 hz5 kk HBz HNz;refine hK.out _ _ c5 (fun hHeld => ?_);clear hK K
    try simp only [List.getElem_toArray,List.getElem_cons_succ,List.getElem_cons_zero,Act.put]
    refine wpAnyH_done (by kernel_rfl) ?_ _;refine NoPanic.normal ?_;clear hHeld c5 cz cd HN6 HN9 HN12;have HN0:Hid (fH w5 wd.heap.size ⟨x0.toNat,m1,m2,m3,bI l 0⟩):=HN5;have hn9:¬c=9:=by omega
    clear HN5 hq3 hq5 hq9 hn1 hn3 hn5;obtain ⟨nb,hnb⟩:∃nb,nb=wd.heap.size:=⟨_,rfl⟩;rw [<- hnb] at HN0 ⊢;have HNb:=hid hnb;clear hnb;go_wp2
    go_loopw [19] (fun iv wr=>∃j:Nat,j<=11/\iv = .int .i64 j/\Hid (fH wr nb ⟨x0.toNat,m1,m2,m3,bI l j⟩)/\Hid (Below wd.heap.size wd wr)) (fun iv _=>11-(intOf iv).toNat)
    case atStart=>exact ⟨0,by omega,rfl,HN0,HB5⟩
    case round =>
     obtain ⟨j,hj,rfl,HN,HB⟩:=hrel;clear HN0 HB5;by_cases hlt:j<11
     ·have hj0:(0:Int)<=(j:Int):=by omega
      have hj1:(j:Int)<11:=by omega
      have HF:=hid (cL b (o+9) 55 (c-9) j wr (by omega) (by omega) (by omega));have hnu:=HNum.out wr HB.out (9+4*j) 4 (by omega) (by omega);rw [show o+(9+4*j)=o+9+4*j by omega,show c-(9+4*j)=c-9-4*j by omega] at hnu;have hdl:j<(bI l j).length:=by rw [eC l j hj];exact hlt
      have k1:=HN.out.page j hdl;have k2:wr.frozen? ⟨nb,4+j,none⟩=false:=ai HN.out _;have hst:=HN.out.setPage j (numS ((l.drop (9+4*j)).take 4));rw [show (bI l j).set j (numS ((l.drop (9+4*j)).take 4))=bI l (j+1) from kz l j hlt] at hst;have HSt:=hid hst;have HNu:=hid hnu;clear hnu hst HN;generalize numS ((l.drop (9+4*j)).take 4)=x at *;generalize hpj:(bI l j)[j]=pj at *;clear hpj hdl
      go_wp2_with fail
      refine HF.out.mono ?_;clear HF;rintro e w7 ⟨rfl,h7⟩;obtain rfl:=h7.symm;clear h7
      go_wp2_with fail
      refine HNu.out.mono ?_;clear HNu;rintro e w8 ⟨rfl,h8⟩;obtain rfl:=h8.symm;clear h8
      have HB8:Hid (Below wd.heap.size wd (wr.setCell ⟨nb,4+j,none⟩ (.int .i64 x))):=HB.out.setCell (show wd.heap.size<=nb from by have:=HNb.out;omega) _;clear HB;go_wp2;exact ⟨⟨j+1,by omega,by go_num,HSt,HB8⟩,by simp [intOf];omega⟩
     ·obtain rfl:j=11:=by omega
      have hr0:=ah HB.out HR0.out (by have:=HSz.out;omega);have HR1:=hid hr0;clear hr0
      go_wp2_with (first
       | (refine wpList_load_mid rfl 142 (.tmp 3) rfl nb 0 rfl (nodeC ⟨x0.toNat,m1,m2,m3,bI l 11⟩) _ (by have:=aL HN.out;exact this) Tryz.underlying142 rfl (by rw [aS];kernel_rfl) ?_)
       | (refine am rfl 142 (.tmp 2) (.tmp 31) rfl w.heap.size (nodeC ⟨x0.toNat,m1,m2,m3,bI l 11⟩).toArray rfl rfl _ _ HR1.out (by rw [List.size_toArray,aS];rfl) (by rw [List.size_toArray,aS];kernel_rfl) (bE _) ?_;intro w6 hg6 hb6 hz6))
      have hsz:=HSz.out;have hBw:=HBw.out.size;refine bodyPost_ret (fD rfl hb6 (aS _ _ _ _ _)) rfl ⟨?_,?_⟩
      ·unfold ct jm;rw [<- HX0.out, <- HMs.out.1, <- HMs.out.2.1, <- HMs.out.2.2];have e:bI l 11=j2 l 11:=by unfold bI;simp
       rw [e]
      ·have hbr:Below w.heap.size w wr:=HBw.out.trans (HB.out.mono (by omega));exact hbr.trans ((ac.of_grown hg6 (F:=fun i=>some w.heap.size=some i) (fun i e=>e)).below hbr.size (fun i e=>by cases e;exact Nat.le_refl _))
   ·rw [if_pos (by rfl)];unfold Oper.wp;go_simp;have HBz:Hid (Below wd.heap.size wd (wd.alloc (.cells #[.int .i64 0,.int .i64 0,.int .i64 0,.int .i64 0,.int .i64 0,.int .i64 0,.int .i64 0,.int .i64 0,.int .i64 0,.int .i64 0,.int .i64 0,.int .i64 0,.int .i64 0,.int .i64 0,.int .i64 0] 142))):=(Below.refl _ wd).alloc (Nat.le_refl _) _;have HNz:Hid ((wd.alloc (.cells #[.int .i64 0,.int .i64 0,.int .i64 0,.int .i64 0,.int .i64 0,.int .i64 0,.int .i64 0,.int .i64 0,.int .i64 0,.int .i64 0,.int .i64 0,.int .i64 0,.int .i64 0,.int .i64 0,.int .i64 0] 142)).heap[wd.heap.size]? = some (.cells #[.int .i64 0,.int .i64 0,.int .i64 0,.int .i64 0,.int .i64 0,.int .i64 0,.int .i64 0,.int .i64 0,.int .i64 0,.int .i64 0,.int .i64 0,.int .i64 0,.int .i64 0,.int .i64 0,.int .i64 0] 142 (0,0))):=af wd _;have cz:(wd.alloc (.cells #[.int .i64 0,.int .i64 0,.int .i64 0,.int .i64 0,.int .i64 0,.int .i64 0,.int .i64 0,.int .i64 0,.int .i64 0,.int .i64 0,.int .i64 0,.int .i64 0,.int .i64 0,.int .i64 0,.int .i64 0] 142)).cell? ⟨b,o,none⟩=some (.int .u8 (x0.toNat:Int)):=(HBz.out.cell (World.block_lt_of_cell? wd _ cd)).trans cd;generalize wd.alloc (.cells #[.int .i64 0,.int .i64 0,.int .i64 0,.int .i64 0,.int .i64 0,.int .i64 0,.int .i64 0,.int .i64 0,.int .i64 0,.int .i64 0,.int .i64 0,.int .i64 0,.int .i64 0,.int .i64 0,.int .i64 0] 142)=wz at *;refine hK.out _ _ cz (fun hHeld => ?_);clear hK K
    try simp only [tS]
    refine tr 12 (fun K hK => ?_);go_simp;refine (HN12.out wz HBz.out).mono ?_;rintro e w9 ⟨rfl,h9⟩;obtain rfl:=h9.symm;clear h9
    go_wp2_with fail
    refine hK.out _ _ cz (fun hHeld => ?_);clear hK K
    try simp only [tS]
    refine tq 13 _ ?_
    try simp only [tS]
    refine tr 15 (fun K hK => ?_);refine cQ 142 (.tmp 3) (.tmp 18) rfl wd.heap.size #[.int .i64 (x0.toNat:Int),.int .i64 m1,.int .i64 m2,.int .i64 m3,.int .i64 0,.int .i64 0,.int .i64 0,.int .i64 0,.int .i64 0,.int .i64 0,.int .i64 0,.int .i64 0,.int .i64 0,.int .i64 0,.int .i64 0] rfl rfl _ _ HNz.out rfl (by kernel_rfl) (by simp [Value.oneCell']) ?_;intro w5 hg5 hn5 hz5;have hbne:b<wd.heap.size:=World.block_lt_of_cell? wd _ cd;have kk:ac (fun i=>i=wd.heap.size) wz w5:=ac.of_grown hg5 (fun i e=>(Option.some.inj e).symm);have c5:w5.cell? ⟨b,o,none⟩=some (.int .u8 (x0.toNat:Int)):=kk.cell cz (fun e=>by have e':b=wd.heap.size:=e;omega);have HN5:=hid hn5;have HB5:Hid (Below wd.heap.size wd w5):=HBz.out.trans (kk.below HBz.out.size (fun i e=>by have e':i=wd.heap.size:=e;omega));clear hg5 hn5 hz5 kk HBz HNz;refine hK.out _ _ c5 (fun hHeld => ?_);clear hK K
    try simp only [List.getElem_toArray,List.getElem_cons_succ,List.getElem_cons_zero,Act.put]
    refine wpAnyH_done (by kernel_rfl) ?_ _;refine NoPanic.normal ?_;clear hHeld c5 cz cd HN6 HN9 HN12;have HN0:Hid (fH w5 wd.heap.size ⟨x0.toNat,m1,m2,m3,bI l 0⟩):=HN5;have hn9:¬c=9:=by omega
    clear HN5 hq3 hq5 hq9 hn1 hn3 hn5;obtain ⟨nb,hnb⟩:∃nb,nb=wd.heap.size:=⟨_,rfl⟩;rw [<- hnb] at HN0 ⊢;have HNb:=hid hnb;clear hnb;go_wp2
    go_loopw [19] (fun iv wr=>∃j:Nat,j<=11/\iv = .int .i64 j/\Hid (fH wr nb ⟨x0.toNat,m1,m2,m3,bI l j⟩)/\Hid (Below wd.heap.size wd wr)) (fun iv _=>11-(intOf iv).toNat)
    case atStart=>exact ⟨0,by omega,rfl,HN0,HB5⟩
    case round =>
     obtain ⟨j,hj,rfl,HN,HB⟩:=hrel;clear HN0 HB5;by_cases hlt:j<11
     ·have hj0:(0:Int)<=(j:Int):=by omega
      have hj1:(j:Int)<11:=by omega
      have HF:=hid (cL b (o+9) 55 (c-9) j wr (by omega) (by omega) (by omega));have hnu:=HNum.out wr HB.out (9+4*j) 4 (by omega) (by omega);rw [show o+(9+4*j)=o+9+4*j by omega,show c-(9+4*j)=c-9-4*j by omega] at hnu;have hdl:j<(bI l j).length:=by rw [eC l j hj];exact hlt
      have k1:=HN.out.page j hdl;have k2:wr.frozen? ⟨nb,4+j,none⟩=false:=ai HN.out _;have hst:=HN.out.setPage j (numS ((l.drop (9+4*j)).take 4));rw [show (bI l j).set j (numS ((l.drop (9+4*j)).take 4))=bI l (j+1) from kz l j hlt] at hst;have HSt:=hid hst;have HNu:=hid hnu;clear hnu hst HN;generalize numS ((l.drop (9+4*j)).take 4)=x at *;generalize hpj:(bI l j)[j]=pj at *;clear hpj hdl
      go_wp2_with fail
      refine HF.out.mono ?_;clear HF;rintro e w7 ⟨rfl,h7⟩;obtain rfl:=h7.symm;clear h7
      go_wp2_with fail
      refine HNu.out.mono ?_;clear HNu;rintro e w8 ⟨rfl,h8⟩;obtain rfl:=h8.symm;clear h8
      have HB8:Hid (Below wd.heap.size wd (wr.setCell ⟨nb,4+j,none⟩ (.int .i64 x))):=HB.out.setCell (show wd.heap.size<=nb from by have:=HNb.out;omega) _;clear HB;go_wp2;exact ⟨⟨j+1,by omega,by go_num,HSt,HB8⟩,by simp [intOf];omega⟩
     ·obtain rfl:j=11:=by omega
      have hr0:=ah HB.out HR0.out (by have:=HSz.out;omega);have HR1:=hid hr0;clear hr0
      go_wp2_with (first
       | (refine wpList_load_mid rfl 142 (.tmp 3) rfl nb 0 rfl (nodeC ⟨x0.toNat,m1,m2,m3,bI l 11⟩) _ (by have:=aL HN.out;exact this) Tryz.underlying142 rfl (by rw [aS];kernel_rfl) ?_)
       | (refine am rfl 142 (.tmp 2) (.tmp 31) rfl w.heap.size (nodeC ⟨x0.toNat,m1,m2,m3,bI l 11⟩).toArray rfl rfl _ _ HR1.out (by rw [List.size_toArray,aS];rfl) (by rw [List.size_toArray,aS];kernel_rfl) (bE _) ?_;intro w6 hg6 hb6 hz6))
      have hsz:=HSz.out;have hBw:=HBw.out.size;refine bodyPost_ret (fD rfl hb6 (aS _ _ _ _ _)) rfl ⟨?_,?_⟩
      ·unfold ct jm;rw [<- HX0.out, <- HMs.out.1, <- HMs.out.2.1, <- HMs.out.2.2];have e:bI l 11=j2 l 11:=by unfold bI;simp
       rw [e]
      ·have hbr:Below w.heap.size w wr:=HBw.out.trans (HB.out.mono (by omega));exact hbr.trans ((ac.of_grown hg6 (F:=fun i=>some w.heap.size=some i) (fun i e=>e)).below hbr.size (fun i e=>by cases e;exact Nat.le_refl _))
  ·rw [if_pos (by rfl)];unfold Oper.wp;go_simp;have HBz:Hid (Below wd.heap.size wd (wd.alloc (.cells #[.int .i64 0,.int .i64 0,.int .i64 0,.int .i64 0,.int .i64 0,.int .i64 0,.int .i64 0,.int .i64 0,.int .i64 0,.int .i64 0,.int .i64 0,.int .i64 0,.int .i64 0,.int .i64 0,.int .i64 0] 142))):=(Below.refl _ wd).alloc (Nat.le_refl _) _;have HNz:Hid ((wd.alloc (.cells #[.int .i64 0,.int .i64 0,.int .i64 0,.int .i64 0,.int .i64 0,.int .i64 0,.int .i64 0,.int .i64 0,.int .i64 0,.int .i64 0,.int .i64 0,.int .i64 0,.int .i64 0,.int .i64 0,.int .i64 0] 142)).heap[wd.heap.size]? = some (.cells #[.int .i64 0,.int .i64 0,.int .i64 0,.int .i64 0,.int .i64 0,.int .i64 0,.int .i64 0,.int .i64 0,.int .i64 0,.int .i64 0,.int .i64 0,.int .i64 0,.int .i64 0,.int .i64 0,.int .i64 0] 142 (0,0))):=af wd _;have cz:(wd.alloc (.cells #[.int .i64 0,.int .i64 0,.int .i64 0,.int .i64 0,.int .i64 0,.int .i64 0,.int .i64 0,.int .i64 0,.int .i64 0,.int .i64 0,.int .i64 0,.int .i64 0,.int .i64 0,.int .i64 0,.int .i64 0] 142)).cell? ⟨b,o,none⟩=some (.int .u8 (x0.toNat:Int)):=(HBz.out.cell (World.block_lt_of_cell? wd _ cd)).trans cd;generalize wd.alloc (.cells #[.int .i64 0,.int .i64 0,.int .i64 0,.int .i64 0,.int .i64 0,.int .i64 0,.int .i64 0,.int .i64 0,.int .i64 0,.int .i64 0,.int .i64 0,.int .i64 0,.int .i64 0,.int .i64 0,.int .i64 0] 142)=wz at *;refine hK.out _ _ cz (fun hHeld => ?_);clear hK K
   try simp only [tS]
   refine tr 9 (fun K hK => ?_);go_simp;refine (HN9.out wz HBz.out).mono ?_;rintro e w9 ⟨rfl,h9⟩;obtain rfl:=h9.symm;clear h9
   go_wp2_with fail
   refine hK.out _ _ cz (fun hHeld => ?_);clear hK K
   try simp only [tS]
   refine tr 12 (fun K hK => ?_);go_simp;refine (HN12.out wz HBz.out).mono ?_;rintro e w9 ⟨rfl,h9⟩;obtain rfl:=h9.symm;clear h9
   go_wp2_with fail
   refine hK.out _ _ cz (fun hHeld => ?_);clear hK K
   try simp only [tS]
   refine tq 13 _ ?_
   try simp only [tS]
   refine tr 15 (fun K hK => ?_);refine cQ 142 (.tmp 3) (.tmp 18) rfl wd.heap.size #[.int .i64 (x0.toNat:Int),.int .i64 m1,.int .i64 m2,.int .i64 m3,.int .i64 0,.int .i64 0,.int .i64 0,.int .i64 0,.int .i64 0,.int .i64 0,.int .i64 0,.int .i64 0,.int .i64 0,.int .i64 0,.int .i64 0] rfl rfl _ _ HNz.out rfl (by kernel_rfl) (by simp [Value.oneCell']) ?_;intro w5 hg5 hn5 hz5;have hbne:b<wd.heap.size:=World.block_lt_of_cell? wd _ cd;have kk:ac (fun i=>i=wd.heap.size) wz w5:=ac.of_grown hg5 (fun i e=>(Option.some.inj e).symm);have c5:w5.cell? ⟨b,o,none⟩=some (.int .u8 (x0.toNat:Int)):=kk.cell cz (fun e=>by have e':b=wd.heap.size:=e;omega);have HN5:=hid hn5;have HB5:Hid (Below wd.heap.size wd w5):=HBz.out.trans (kk.below HBz.out.size (fun i e=>by have e':i=wd.heap.size:=e;omega));clear hg5 hn5 hz5 kk HBz HNz;refine hK.out _ _ c5 (fun hHeld => ?_);clear hK K
   try simp only [List.getElem_toArray,List.getElem_cons_succ,List.getElem_cons_zero,Act.put]
   refine wpAnyH_done (by kernel_rfl) ?_ _;refine NoPanic.normal ?_;clear hHeld c5 cz cd HN6 HN9 HN12;have HN0:Hid (fH w5 wd.heap.size ⟨x0.toNat,m1,m2,m3,bI l 0⟩):=HN5;have hn9:¬c=9:=by omega
   clear HN5 hq3 hq5 hq9 hn1 hn3 hn5;obtain ⟨nb,hnb⟩:∃nb,nb=wd.heap.size:=⟨_,rfl⟩;rw [<- hnb] at HN0 ⊢;have HNb:=hid hnb;clear hnb;go_wp2
   go_loopw [19] (fun iv wr=>∃j:Nat,j<=11/\iv = .int .i64 j/\Hid (fH wr nb ⟨x0.toNat,m1,m2,m3,bI l j⟩)/\Hid (Below wd.heap.size wd wr)) (fun iv _=>11-(intOf iv).toNat)
   case atStart=>exact ⟨0,by omega,rfl,HN0,HB5⟩
   case round =>
    obtain ⟨j,hj,rfl,HN,HB⟩:=hrel;clear HN0 HB5;by_cases hlt:j<11
    ·have hj0:(0:Int)<=(j:Int):=by omega
     have hj1:(j:Int)<11:=by omega
     have HF:=hid (cL b (o+9) 55 (c-9) j wr (by omega) (by omega) (by omega));have hnu:=HNum.out wr HB.out (9+4*j) 4 (by omega) (by omega);rw [show o+(9+4*j)=o+9+4*j by omega,show c-(9+4*j)=c-9-4*j by omega] at hnu;have hdl:j<(bI l j).length:=by rw [eC l j hj];exact hlt
     have k1:=HN.out.page j hdl;have k2:wr.frozen? ⟨nb,4+j,none⟩=false:=ai HN.out _;have hst:=HN.out.setPage j (numS ((l.drop (9+4*j)).take 4));rw [show (bI l j).set j (numS ((l.drop (9+4*j)).take 4))=bI l (j+1) from kz l j hlt] at hst;have HSt:=hid hst;have HNu:=hid hnu;clear hnu hst HN;generalize numS ((l.drop (9+4*j)).take 4)=x at *;generalize hpj:(bI l j)[j]=pj at *;clear hpj hdl
     go_wp2_with fail
     refine HF.out.mono ?_;clear HF;rintro e w7 ⟨rfl,h7⟩;obtain rfl:=h7.symm;clear h7
     go_wp2_with fail
     refine HNu.out.mono ?_;clear HNu;rintro e w8 ⟨rfl,h8⟩;obtain rfl:=h8.symm;clear h8
     have HB8:Hid (Below wd.heap.size wd (wr.setCell ⟨nb,4+j,none⟩ (.int .i64 x))):=HB.out.setCell (show wd.heap.size<=nb from by have:=HNb.out;omega) _;clear HB;go_wp2;exact ⟨⟨j+1,by omega,by go_num,HSt,HB8⟩,by simp [intOf];omega⟩
    ·obtain rfl:j=11:=by omega
     have hr0:=ah HB.out HR0.out (by have:=HSz.out;omega);have HR1:=hid hr0;clear hr0
     go_wp2_with (first
      | (refine wpList_load_mid rfl 142 (.tmp 3) rfl nb 0 rfl (nodeC ⟨x0.toNat,m1,m2,m3,bI l 11⟩) _ (by have:=aL HN.out;exact this) Tryz.underlying142 rfl (by rw [aS];kernel_rfl) ?_)
      | (refine am rfl 142 (.tmp 2) (.tmp 31) rfl w.heap.size (nodeC ⟨x0.toNat,m1,m2,m3,bI l 11⟩).toArray rfl rfl _ _ HR1.out (by rw [List.size_toArray,aS];rfl) (by rw [List.size_toArray,aS];kernel_rfl) (bE _) ?_;intro w6 hg6 hb6 hz6))
     have hsz:=HSz.out;have hBw:=HBw.out.size;refine bodyPost_ret (fD rfl hb6 (aS _ _ _ _ _)) rfl ⟨?_,?_⟩
     ·unfold ct jm;rw [<- HX0.out, <- HMs.out.1, <- HMs.out.2.1, <- HMs.out.2.2];have e:bI l 11=j2 l 11:=by unfold bI;simp
      rw [e]
     ·have hbr:Below w.heap.size w wr:=HBw.out.trans (HB.out.mono (by omega));exact hbr.trans ((ac.of_grown hg6 (F:=fun i=>some w.heap.size=some i) (fun i e=>e)).below hbr.size (fun i e=>by cases e;exact Nat.le_refl _))
 ·rw [if_pos (by rfl)];unfold Oper.wp;go_simp;have HBz:Hid (Below wd.heap.size wd (wd.alloc (.cells #[.int .i64 0,.int .i64 0,.int .i64 0,.int .i64 0,.int .i64 0,.int .i64 0,.int .i64 0,.int .i64 0,.int .i64 0,.int .i64 0,.int .i64 0,.int .i64 0,.int .i64 0,.int .i64 0,.int .i64 0] 142))):=(Below.refl _ wd).alloc (Nat.le_refl _) _;have HNz:Hid ((wd.alloc (.cells #[.int .i64 0,.int .i64 0,.int .i64 0,.int .i64 0,.int .i64 0,.int .i64 0,.int .i64 0,.int .i64 0,.int .i64 0,.int .i64 0,.int .i64 0,.int .i64 0,.int .i64 0,.int .i64 0,.int .i64 0] 142)).heap[wd.heap.size]? = some (.cells #[.int .i64 0,.int .i64 0,.int .i64 0,.int .i64 0,.int .i64 0,.int .i64 0,.int .i64 0,.int .i64 0,.int .i64 0,.int .i64 0,.int .i64 0,.int .i64 0,.int .i64 0,.int .i64 0,.int .i64 0] 142 (0,0))):=af wd _;have cz:(wd.alloc (.cells #[.int .i64 0,.int .i64 0,.int .i64 0,.int .i64 0,.int .i64 0,.int .i64 0,.int .i64 0,.int .i64 0,.int .i64 0,.int .i64 0,.int .i64 0,.int .i64 0,.int .i64 0,.int .i64 0,.int .i64 0] 142)).cell? ⟨b,o,none⟩=some (.int .u8 (x0.toNat:Int)):=(HBz.out.cell (World.block_lt_of_cell? wd _ cd)).trans cd;generalize wd.alloc (.cells #[.int .i64 0,.int .i64 0,.int .i64 0,.int .i64 0,.int .i64 0,.int .i64 0,.int .i64 0,.int .i64 0,.int .i64 0,.int .i64 0,.int .i64 0,.int .i64 0,.int .i64 0,.int .i64 0,.int .i64 0] 142)=wz at *;refine hK.out _ _ cz (fun hHeld => ?_);clear hK K
  try simp only [tS]
  refine tr 6 (fun K hK => ?_);go_simp;refine (HN6.out wz HBz.out).mono ?_;rintro e w9 ⟨rfl,h9⟩;obtain rfl:=h9.symm;clear h9
  go_wp2_with fail
  refine hK.out _ _ cz (fun hHeld => ?_);clear hK K
  try simp only [tS]
  refine tr 9 (fun K hK => ?_);go_simp;refine (HN9.out wz HBz.out).mono ?_;rintro e w9 ⟨rfl,h9⟩;obtain rfl:=h9.symm;clear h9
  go_wp2_with fail
  refine hK.out _ _ cz (fun hHeld => ?_);clear hK K
  try simp only [tS]
  refine tr 12 (fun K hK => ?_);go_simp;refine (HN12.out wz HBz.out).mono ?_;rintro e w9 ⟨rfl,h9⟩;obtain rfl:=h9.symm;clear h9
  go_wp2_with fail
  refine hK.out _ _ cz (fun hHeld => ?_);clear hK K
  try simp only [tS]
  refine tq 13 _ ?_
  try simp only [tS]
  refine tr 15 (fun K hK => ?_);refine cQ 142 (.tmp 3) (.tmp 18) rfl wd.heap.size #[.int .i64 (x0.toNat:Int),.int .i64 m1,.int .i64 m2,.int .i64 m3,.int .i64 0,.int .i64 0,.int .i64 0,.int .i64 0,.int .i64 0,.int .i64 0,.int .i64 0,.int .i64 0,.int .i64 0,.int .i64 0,.int .i64 0] rfl rfl _ _ HNz.out rfl (by kernel_rfl) (by simp [Value.oneCell']) ?_;intro w5 hg5 hn5 hz5;have hbne:b<wd.heap.size:=World.block_lt_of_cell? wd _ cd;have kk:ac (fun i=>i=wd.heap.size) wz w5:=ac.of_grown hg5 (fun i e=>(Option.some.inj e).symm);have c5:w5.cell? ⟨b,o,none⟩=some (.int .u8 (x0.toNat:Int)):=kk.cell cz (fun e=>by have e':b=wd.heap.size:=e;omega);have HN5:=hid hn5;have HB5:Hid (Below wd.heap.size wd w5):=HBz.out.trans (kk.below HBz.out.size (fun i e=>by have e':i=wd.heap.size:=e;omega));clear hg5 hn5 hz5 kk HBz HNz;refine hK.out _ _ c5 (fun hHeld => ?_);clear hK K
  try simp only [List.getElem_toArray,List.getElem_cons_succ,List.getElem_cons_zero,Act.put]
  refine wpAnyH_done (by kernel_rfl) ?_ _;refine NoPanic.normal ?_;clear hHeld c5 cz cd HN6 HN9 HN12;have HN0:Hid (fH w5 wd.heap.size ⟨x0.toNat,m1,m2,m3,bI l 0⟩):=HN5;have hn9:¬c=9:=by omega
  clear HN5 hq3 hq5 hq9 hn1 hn3 hn5;obtain ⟨nb,hnb⟩:∃nb,nb=wd.heap.size:=⟨_,rfl⟩;rw [<- hnb] at HN0 ⊢;have HNb:=hid hnb;clear hnb;go_wp2
  go_loopw [19] (fun iv wr=>∃j:Nat,j<=11/\iv = .int .i64 j/\Hid (fH wr nb ⟨x0.toNat,m1,m2,m3,bI l j⟩)/\Hid (Below wd.heap.size wd wr)) (fun iv _=>11-(intOf iv).toNat)
  case atStart=>exact ⟨0,by omega,rfl,HN0,HB5⟩
  case round =>
   obtain ⟨j,hj,rfl,HN,HB⟩:=hrel;clear HN0 HB5;by_cases hlt:j<11
   ·have hj0:(0:Int)<=(j:Int):=by omega
    have hj1:(j:Int)<11:=by omega
    have HF:=hid (cL b (o+9) 55 (c-9) j wr (by omega) (by omega) (by omega));have hnu:=HNum.out wr HB.out (9+4*j) 4 (by omega) (by omega);rw [show o+(9+4*j)=o+9+4*j by omega,show c-(9+4*j)=c-9-4*j by omega] at hnu;have hdl:j<(bI l j).length:=by rw [eC l j hj];exact hlt
    have k1:=HN.out.page j hdl;have k2:wr.frozen? ⟨nb,4+j,none⟩=false:=ai HN.out _;have hst:=HN.out.setPage j (numS ((l.drop (9+4*j)).take 4));rw [show (bI l j).set j (numS ((l.drop (9+4*j)).take 4))=bI l (j+1) from kz l j hlt] at hst;have HSt:=hid hst;have HNu:=hid hnu;clear hnu hst HN;generalize numS ((l.drop (9+4*j)).take 4)=x at *;generalize hpj:(bI l j)[j]=pj at *;clear hpj hdl
    go_wp2_with fail
    refine HF.out.mono ?_;clear HF;rintro e w7 ⟨rfl,h7⟩;obtain rfl:=h7.symm;clear h7
    go_wp2_with fail
    refine HNu.out.mono ?_;clear HNu;rintro e w8 ⟨rfl,h8⟩;obtain rfl:=h8.symm;clear h8
    have HB8:Hid (Below wd.heap.size wd (wr.setCell ⟨nb,4+j,none⟩ (.int .i64 x))):=HB.out.setCell (show wd.heap.size<=nb from by have:=HNb.out;omega) _;clear HB;go_wp2;exact ⟨⟨j+1,by omega,by go_num,HSt,HB8⟩,by simp [intOf];omega⟩
   ·obtain rfl:j=11:=by omega
    have hr0:=ah HB.out HR0.out (by have:=HSz.out;omega);have HR1:=hid hr0;clear hr0
    go_wp2_with (first
     | (refine wpList_load_mid rfl 142 (.tmp 3) rfl nb 0 rfl (nodeC ⟨x0.toNat,m1,m2,m3,bI l 11⟩) _ (by have:=aL HN.out;exact this) Tryz.underlying142 rfl (by rw [aS];kernel_rfl) ?_)
     | (refine am rfl 142 (.tmp 2) (.tmp 31) rfl w.heap.size (nodeC ⟨x0.toNat,m1,m2,m3,bI l 11⟩).toArray rfl rfl _ _ HR1.out (by rw [List.size_toArray,aS];rfl) (by rw [List.size_toArray,aS];kernel_rfl) (bE _) ?_;intro w6 hg6 hb6 hz6))
    have hsz:=HSz.out;have hBw:=HBw.out.size;refine bodyPost_ret (fD rfl hb6 (aS _ _ _ _ _)) rfl ⟨?_,?_⟩
    ·unfold ct jm;rw [<- HX0.out, <- HMs.out.1, <- HMs.out.2.1, <- HMs.out.2.2];have e:bI l 11=j2 l 11:=by unfold bI;simp
     rw [e]
    ·have hbr:Below w.heap.size w wr:=HBw.out.trans (HB.out.mono (by omega));exact hbr.trans ((ac.of_grown hg6 (F:=fun i=>some w.heap.size=some i) (fun i e=>e)).below hbr.size (fun i e=>by cases e;exact Nat.le_refl _))
end
section
set_option maxRecDepth 100000
open Go.RowKit
def cT (L:List UInt8) (i:Nat):List UInt8:=(L.drop (i%8*64)).take 64
def jF (L:List UInt8) (i:Nat) (e:List UInt8):List UInt8:=L.take (i%8*64) ++ e ++ L.drop (i%8*64+64)
theorem lx {L:List UInt8} (h:L.length=512) (i:Nat):(cT L i).length=64:=by
 unfold cT;rw [List.length_take,List.length_drop];omega
theorem iy {L:List UInt8} (h:L.length=512) (i:Nat) {e:List UInt8} (he:e.length=64):(jF L i e).length=512:=by
 unfold jF;rw [List.length_append,List.length_append,List.length_take,List.length_drop];omega
theorem yF {L:List UInt8} (i j:Nat) (h:j<(cT L i).length) (h2:i%8*64+j<L.length):(cT L i)[j]=L[i%8*64+j]:=by
 simp [cT]
theorem kC (l:List UInt8):(nodeC (jm l)).length=15:=by
 unfold nodeC jm;rw [List.length_append,List.length_map,dC];rfl
theorem qK {w:World} {tmps:Array Value} {b:Nat} {cs:List Value} (h1:tmps.getD 4 undef = .pointer (some ⟨b,0,none⟩)) (r:w.heap[b]? = some (.cells cs.toArray 142 (0,0))) (hl:cs.length=15) :
  (results Tryz.f142 tmps).run Tryz.prog w = .ok (.agg cs.toArray) w:=by
 have h1':tmps[4]?.getD undef = .pointer (some ⟨b,0,none⟩):=by simpa using h1
 have hr:=run_loadVar_mid (P:=Tryz.prog) w b 0 142 cs _ (by have:=aL r;exact this) Tryz.underlying142 rfl (by rw [hl];kernel_rfl);simp only [results,Tryz.results142];simp [h1',asAddr,hr]
section
variable {w:World} {m c ino:Nat} {F:Nat->Prop} {size N:Nat} {Pg Cm:Nat->List UInt8} {D:Int->Bool} {o u:Nat}
theorem o4 (h:aT w m c ino) (hi:ino<=512) (i:Nat) (hin:i<ino):Calls Tryz.prog 130 #[.pointer (some ⟨m,0,none⟩),.int .i64 i] w fun e w'=>e = .returned (.tuple #[.int .i64 (3+i / 8:Nat),.int .i64 (i%8*64:Nat),.int .i64 0])/\w'=w:=by
 refine (mN h hi (i:Int)).mono ?_;rintro e w' ⟨rfl,rfl⟩;rw [if_pos ⟨by omega,by omega⟩];refine ⟨?_,rfl⟩;have e1:(3:Int)+(i:Int) / 8=((3+i / 8:Nat):Int):=by omega
 have e2:(i:Int)%8*64=((i%8*64:Nat):Int):=by omega
 rw [e1,e2]
theorem qP (h:aT w m c ino) (hi:ino<=512) (i:Nat) (hin:i<ino) (hN:3+i / 8<N) (hu:u<1000000) (hp:Pc w c F size N Pg Cm D o u) :
  Calls Tryz.prog 142 #[gV m,.int .i64 i] w fun e w'=>e = .returned (ct (jm (cT (Pg (3+i / 8)) i)))/\ac F w w'/\∀W,ac (fun i=>w.heap.size<=i) w' W->Pc W c F size N Pg Cm D o (u+1):=by
 have HLen:=hid (hp.len _ hN);have HT:=hid (fun W (hW:Below w.heap.size w W)=>o4 (h.below hW) hi i hin);have HPg:=hid (fun W (hW:Below w.heap.size w W)=>eS (h.below hW) (3+i / 8) hN hu hp hW);obtain ⟨a,ha⟩:∃a,a=i%8*64:=⟨_,rfl⟩;obtain ⟨p,hpp⟩:∃p,p=3+i / 8:=⟨_,rfl⟩;have HA:=hid ha;have ha4:a<=448:=by omega
 have ha5:(a:Int)<=448:=by omega
 have ha0:(0:Int)<=(a:Int):=by omega
 rw [<- ha, <- hpp] at HT;rw [<- hpp] at HPg HLen ⊢;have HFl:=hid hp.lt;clear h hp hpp ha;unfold gV at HPg ⊢;obtain ⟨wb,hwb⟩:∃wb,wb=(w.alloc (.cells #[.pointer (some ⟨m,0,none⟩)] 96)).alloc (.cells #[.int .i64 0,.int .i64 0,.int .i64 0,.int .i64 0,.int .i64 0,.int .i64 0,.int .i64 0,.int .i64 0,.int .i64 0,.int .i64 0,.int .i64 0,.int .i64 0,.int .i64 0,.int .i64 0,.int .i64 0] 142):=⟨_,rfl⟩;have hB:Below w.heap.size w wb:=by rw [hwb];exact ((Below.refl _ w).alloc (Nat.le_refl _) _).alloc (by simp) _
 have hb0:wb.heap[w.heap.size]? = some (.cells #[.pointer (some ⟨m,0,none⟩)] 96 (0,0)):=by rw [hwb];exact aj (af w _) _
 have hb1:wb.heap[w.heap.size+1]? = some (.cells #[.int .i64 0,.int .i64 0,.int .i64 0,.int .i64 0,.int .i64 0,.int .i64 0,.int .i64 0,.int .i64 0,.int .i64 0,.int .i64 0,.int .i64 0,.int .i64 0,.int .i64 0,.int .i64 0,.int .i64 0] 142 (0,0)):=by
  have h1:=af (w.alloc (.cells #[.pointer (some ⟨m,0,none⟩)] 96)) (.cells #[.int .i64 0,.int .i64 0,.int .i64 0,.int .i64 0,.int .i64 0,.int .i64 0,.int .i64 0,.int .i64 0,.int .i64 0,.int .i64 0,.int .i64 0,.int .i64 0,.int .i64 0,.int .i64 0,.int .i64 0] 142);rw [World.size_alloc] at h1;rw [hwb];exact h1
 have HB:=hid hB;have HB0:=hid hb0;have HB1:=hid hb1;have c0:((w.alloc (.cells #[.pointer (some ⟨m,0,none⟩)] 96)).alloc (.cells #[.int .i64 0,.int .i64 0,.int .i64 0,.int .i64 0,.int .i64 0,.int .i64 0,.int .i64 0,.int .i64 0,.int .i64 0,.int .i64 0,.int .i64 0,.int .i64 0,.int .i64 0,.int .i64 0,.int .i64 0] 142)).cell? ⟨w.heap.size,0,none⟩=some (.pointer (some ⟨m,0,none⟩)):=by rw [<- hwb];exact aa hb0 0
 clear hB hb0 hb1;go_enter Tryz.func142,Tryz.ntmps142
 go_wp2_with fail
 rw [<- hwb] at c0 ⊢;clear hwb;refine (HT.out wb HB.out).mono ?_;clear HT;rintro e w1 ⟨rfl,h1⟩;obtain rfl:=h1.symm;clear h1
 go_wp2_with fail
 refine (HPg.out wb HB.out).mono ?_;clear HPg;rintro e w3 ⟨g,rfl,hg,ho3,hk3,hW3⟩;have hn5:¬(512=a):=by omega
 have hby:az w3 ⟨g,a,none⟩ (cT (Pg p) i):=fun j hj=>by
  have hj6:j<64:=by rw [lx HLen.out] at hj;exact hj
  have h1:=ho3.cell (a+j) (by rw [HLen.out];omega);rw [Addr.add_mid,h1,yF i j hj (by rw [HLen.out, <- HA.out];omega)];simp only [HA.out]
 have HD:=hid (wS g a (512-a) (cT (Pg p) i) w3 hby (lx HLen.out i) (by omega) (by omega));have HK3:=hid hk3;have HW3:=hid hW3;clear hby ho3 hk3 hW3
 go_wp2_with fail
 refine HD.out.mono ?_;clear HD;rintro e w5 ⟨rfl,hb5⟩;have hs3:=HB.out.size;have hk5:ac F wb w5:=HK3.out.trans (ac.of_below hb5:ac (fun _=>False) w3 w5) (fun i e=>e.elim);have HR5:=hid (hk5.heap HB1.out (fun hf=>by have:=HFl.out _ hf;omega));have HK5:=hid hk5;have HB5:=hid hb5;clear hb5 hk5 HK3;unfold ct;generalize hdl:jm (cT (Pg p) i)=nd at *;have hnl:(nodeC nd).length=15:=by rw [<- hdl];exact kC _
 have HNl:=hid hnl;have HDl:=hid hdl;clear hdl hnl
 go_wp2_with (refine am rfl 142 (.tmp 4) (.tmp 22) rfl (w.heap.size+1) (nodeC nd).toArray rfl rfl _ _ HR5.out (by rw [List.size_toArray,HNl.out];rfl) (by rw [List.size_toArray,HNl.out];kernel_rfl) (bE _) ?_;intro w6 hg6 hb6 hz6)
 have k56:ac (fun i=>w.heap.size<=i) w5 w6:=ac.of_grown hg6 (fun i e=>by cases e;show w.heap.size<=w.heap.size+1;omega);refine bodyPost_ret (qK rfl hb6 HNl.out) rfl ⟨by rw [HDl.out];rfl,?_,fun W hW=>HW3.out W ((ac.of_below HB5.out).trans (k56.trans hW (fun i e => .inl e)) (fun i e => .inl e))⟩;exact (((ac.of_below HB.out:ac F w wb).trans HK5.out (fun i e => .inl e)).trans k56 (fun i e => .inr e))
theorem rH (h:aT w m c ino) (hmF0:¬F m) (hi:ino<=512) (i:Nat) (hin:i<ino) (n:bu) (hn:n.ok) (hN:3+i / 8<N) (hu:u<1000000) (hr:D ((3+i / 8:Nat):Int)=true\/(dkD N D).length<min size 100) (hp:Pc w c F size N Pg Cm D o u) :
  Calls Tryz.prog 66 #[gV m,.int .i64 i,ct n] w fun e w'=>e = .returned (.int .i64 0)/\ac F w w'/\Pc w' c F size N (bf Pg (3+i / 8) (jF (Pg (3+i / 8)) i (dr n))) Cm (br D ((3+i / 8:Nat):Int)) o (u+1):=by
 have HLen:=hid (hp.len _ hN);have HMb:=hid h;have HT:=hid (fun W (hW:Below w.heap.size w W)=>o4 (h.below hW) hi i hin);have HPg:=hid (fun W (hW:Below w.heap.size w W)=>eS (h.below hW) (3+i / 8) hN hu hp hW);have HEn:=hid (fun W=>wY n hn W);obtain ⟨a,ha⟩:∃a,a=i%8*64:=⟨_,rfl⟩;have HPu:Hid (∀L e,jF L i e=L.take a ++ e ++ L.drop (a+64)):=fun L e=>by unfold jF;rw [ha]
 obtain ⟨p,hpp⟩:∃p,p=3+i / 8:=⟨_,rfl⟩;have ha4:a<=448:=by omega
 have ha5:(a:Int)<=448:=by omega
 have ha0:(0:Int)<=(a:Int):=by omega
 rw [<- ha, <- hpp] at HT;rw [<- hpp] at HPg HLen hr ⊢;have HPN:Hid (p<N):=by rw [hpp];exact hN
 have HFl:=hid hp.lt;have HRo:=hid hr;have hel:(dr n).length=64:=dO n 11 (Nat.le_refl _) hn.pages;have HEl:=hid hel;have hpl:=hn.pages;clear h hp hpp ha hr hn hel hN;unfold gV at HPg ⊢;unfold ct at HEn ⊢;have hncs:(nodeC n).length=15:=by unfold nodeC;rw [List.length_append,List.length_map,hpl];rfl
 generalize nodeC n=nc at *;have HNs:=hid hncs;clear hncs hpl;obtain ⟨wb,hwb⟩:∃wb,wb=(w.alloc (.cells #[.pointer (some ⟨m,0,none⟩)] 96)).alloc (.cells nc.toArray 142):=⟨_,rfl⟩;have hB:Below w.heap.size w wb:=by rw [hwb];exact ((Below.refl _ w).alloc (Nat.le_refl _) _).alloc (by simp) _
 have hb0:wb.heap[w.heap.size]? = some (.cells #[.pointer (some ⟨m,0,none⟩)] 96 (0,0)):=by rw [hwb];exact aj (af w _) _
 have hb1:wb.heap[w.heap.size+1]? = some (.cells nc.toArray 142 (0,0)):=by
  have h1:=af (w.alloc (.cells #[.pointer (some ⟨m,0,none⟩)] 96)) (.cells nc.toArray 142);rw [World.size_alloc] at h1;rw [hwb];exact h1
 have hsb:wb.heap.size=w.heap.size+2:=by rw [hwb];simp
 have HSb:=hid hsb;clear hsb;have HB:=hid hB;have HB0:=hid hb0;have HB1:=hid hb1;have c0:((w.alloc (.cells #[.pointer (some ⟨m,0,none⟩)] 96)).alloc (.cells nc.toArray 142)).cell? ⟨w.heap.size,0,none⟩=some (.pointer (some ⟨m,0,none⟩)):=by rw [<- hwb];exact aa hb0 0
 clear hB hb0 hb1;go_enter Tryz.func66,Tryz.ntmps66
 go_wp2_with fail
 rw [<- hwb] at c0 ⊢;clear hwb;refine (HT.out wb HB.out).mono ?_;clear HT;rintro e w1 ⟨rfl,h1⟩;obtain rfl:=h1.symm;clear h1
 go_wp2_with fail
 refine (HPg.out wb HB.out).mono ?_;clear HPg;rintro e w3 ⟨g,rfl,hg,ho3,hk3,hW3⟩;have hn5:¬(512=a):=by omega
 have hs3:=HB.out.size;have HR0:=hid (hk3.heap HB0.out (fun hf=>by have:=HFl.out _ hf;omega));have HR1:=hid (hk3.heap HB1.out (fun hf=>by have:=HFl.out _ hf;omega));have HO3:=hid ho3;have HG:=hid hg;have HK3:=hid hk3;have HW3:=hid hW3;clear ho3 hk3 hW3 hg HB0 HB1 c0
 go_wp2_with fail
 have hbd:Below w3.heap.size w3 w3.drew:=(Below.refl _ w3).drew;have HBd:=hid hbd;have HR1d:=hid (ah hbd HR1.out (ae HR1.out));clear hbd;refine wp_region_noPanic ?_;refine wp_region_held_drew (S:=fun W=>W.heap[w.heap.size+1]? = some (.cells nc.toArray 142 (0,0))) (by kernel_rfl) HR1.out (fun hHeld => ?_);generalize w3.drew=wd at *;refine tq 0 _ ?_
 try simp only [tS]
 refine tq 1 _ ?_
 try simp only [tS]
 have hq5:(a:Int)<=512:=by omega
 refine tq 2 (.slice (some ⟨g,a,none⟩) (512-a) (512-a)) ?_
 try simp only [tS]
 refine wpAnyH_take (i:=3) (v := .agg nc.toArray) rfl (by kernel_rfl) (by kernel_rfl) (by kernel_rfl) (fun _ _ _ h=>h) (yieldsIf_load_mid (by rfl) 142 (.tmp 5) rfl (w.heap.size+1) 0 rfl nc _ (fun W hW=>by have:=aL hW;exact this) Tryz.underlying142 rfl (by rw [HNs.out];kernel_rfl)) (by assumption) ?_
 try simp only [tS]
 refine tr 4 (fun K hK => ?_);go_simp;refine (HEn.out wd).mono ?_;clear HEn;rintro e w5 ⟨b5,rfl,hb5,ho5,hB5⟩;have HR5:=hid (ah hB5 HR1d.out (ae HR1d.out));have HO5:=hid ho5;have HB5:=hid hB5;have hd3:=HBd.out.size;have HOg:=hid (((HO3.out.below HBd.out).below hB5));have hgb:g<w3.heap.size:=HO3.out.lt;clear hB5 ho5
 go_wp2_with fail
 refine hK.out _ _ HR5.out (fun hHeld => ?_);clear hK K
 try simp only [tS]
 refine tr 5 (fun K hK => ?_);refine jT (.tmp 24) (.tmp 26) rfl g a (512-a) (512-a) ⟨b5,0,none⟩ 64 64 rfl rfl (Pg p) (dr n) HOg.out HO5.out.at (by rw [HEl.out];show 64=min 64 (512-a);omega) (by rw [HEl.out,HLen.out];omega) ?_;intro w6 hk6 ho6 hz6;rw [HEl.out] at ho6;have hge:=HG.out;have hsb:=HSb.out;have k36:ac (fun i=>i=g) w3 w6:=(ac.of_below HBd.out:ac (fun i=>i=g) w3 wd).trans ((ac.of_below HB5.out:ac (fun i=>i=g) wd w5).trans hk6 (fun i e => .inl e)) (fun i e => .inl e);have HR6:=hid (k36.heap HR1.out (fun e=>by have e':w.heap.size+1=g:=e;omega));have c6:w6.cell? ⟨w.heap.size,0,none⟩=some (.pointer (some ⟨m,0,none⟩)):=aa (k36.heap HR0.out (fun e=>by have e':w.heap.size=g:=e;omega)) 0;have hpl:jF (Pg p) i (dr n)=(Pg p).take a ++ dr n ++ (Pg p).drop (a+64):=HPu.out _ _;rw [<- hpl] at ho6;have k36':ac (fun i=>w.heap.size<=i) w3 w6:=k36.mono (fun i e=>by have e':i=g:=e;show w.heap.size<=i;omega);have hp6:=HW3.out w6 k36';have hpln:(jF (Pg p) i (dr n)).length=512:=iy HLen.out i HEl.out;have HWr:=hid (hp6.write p HPN.out (jF (Pg p) i (dr n)) hpln ⟨g,0,none⟩ 512 ho6.at HRo.out);have kw6:ac F w w6:=((ac.of_below HB.out:ac F w wb).trans HK3.out (fun i e => .inl e)).trans k36' (fun i e => .inr e);have HKw:=hid kw6;have HCa:=hid (cN (HMb.out.keep kw6 hmF0));clear hk6 ho6 hz6 hge k36 k36' hp6 hpln hpl kw6;refine hK.out _ _ HR6.out (fun hHeld => ?_);clear hK K
 try simp only [tS]
 refine wpAnyH_done (by kernel_rfl) ?_ _;refine NoPanic.normal ?_;clear hHeld
 go_wp2_with fail
 refine HCa.out.mono ?_;clear HCa;rintro e w7 ⟨rfl,h7⟩;obtain rfl:=h7.symm;clear h7
 go_wp2_with fail
 refine HWr.out.mono ?_;clear HWr;rintro e w8 ⟨rfl,hk8,hp8⟩;have HK8:=hid hk8;have HP8:=hid hp8;clear hk8 hp8;go_wp2;go_ret;exact ⟨rfl,HKw.out.trans HK8.out (fun i e => .inl e),HP8.out⟩
end
end
section
set_option maxRecDepth 100000
open Go.RowKit
def bG (w:World) (s m:Nat):Prop:=w.heap[s]? = some (.cells #[.pointer (some ⟨m,0,none⟩)] 98 (0,0))
theorem bG.keep {w w':World} {s m:Nat} {F:Nat->Prop} (h:bG w s m) (k:ac F w w') (hF:¬F s):bG w' s m:=k.heap h hF
theorem bG.below {w w':World} {s m:Nat} (h:bG w s m) (k:Below w.heap.size w w'):bG w' s m:=ah k h (ae h)
theorem bG.cell {w:World} {s m:Nat} (h:bG w s m):w.cell? ⟨s,0,none⟩=some (.pointer (some ⟨m,0,none⟩)):=aa h 0
theorem yw (m:Nat) (w:World):Calls Tryz.prog 21 #[.pointer (some ⟨m,0,none⟩)] w fun e w'=>e = .returned (.tuple #[.pointer (some ⟨w.heap.size,0,none⟩),.int .i64 0])/\bG w' w.heap.size m/\Below w.heap.size w w':=by
 have hb:Below w.heap.size w (w.alloc (.cells #[.pointer (some ⟨m,0,none⟩)] 98)):=(Below.refl _ w).alloc (Nat.le_refl _) _;have hn:bG (w.alloc (.cells #[.pointer (some ⟨m,0,none⟩)] 98)) w.heap.size m:=af w _;have HB:=hid hb;have HN:=hid hn;clear hb hn;go_enter Tryz.func21,Tryz.ntmps21;go_wp2;go_returns;exact ⟨rfl,HN.out,HB.out⟩
theorem pR (s:Nat) (w:World):Calls Tryz.prog 67 #[.pointer (some ⟨s,0,none⟩),.int .i64 0] w fun e w'=>e = .returned (.int .i64 0)/\w'=w:=by
 go_enter Tryz.func67,Tryz.ntmps67;go_wp2;go_ret;exact ⟨rfl,rfl⟩
theorem wC {w:World} {s m:Nat} (h:bG w s m):Calls Tryz.prog 13 #[.pointer (some ⟨s,0,none⟩)] w fun e w'=>e = .returned (.pointer (some ⟨m,0,none⟩))/\w'=w:=by
 have c0:=h.cell;clear h;go_enter Tryz.func13,Tryz.ntmps13;go_wp2;go_ret;exact ⟨rfl,rfl⟩
theorem rW {w:World} {b:Nat} {cs:List Value} {fr:Nat×Nat} (h:w.heap[b]? = some (.cells cs.toArray 142 fr)) (hc:∀v∈cs,∃n,v = .int .i64 n):fW w b :=
 ⟨_,_,_,h,by decide,fun v hv => .inl (hc v (by simpa using hv))⟩
theorem wy:∀v∈(List.replicate 15 (Value.int .i64 0)),∃n,v = .int .i64 n:=fun _ hv=>⟨0,List.eq_of_mem_replicate hv⟩
theorem fP {w:World} {tmps:Array Value} {b:Nat} {cs:List Value} {t:Value} (h1:tmps.getD 4 undef = .pointer (some ⟨b,0,none⟩)) (h2:tmps.getD 5 undef=t) (r:w.heap[b]? = some (.cells cs.toArray 142 (0,0))) (hl:cs.length=15) :
  (results Tryz.f78 tmps).run Tryz.prog w = .ok (.tuple #[.agg cs.toArray,t]) w:=by
 have h1':tmps[4]?.getD undef = .pointer (some ⟨b,0,none⟩):=by simpa using h1
 have h2':tmps[5]?.getD undef=t:=by simpa using h2
 have hr:=run_loadVar_mid (P:=Tryz.prog) w b 0 142 cs _ (by have:=aL r;exact this) Tryz.underlying142 rfl (by rw [hl];kernel_rfl);simp only [results,Tryz.results78];simp [h1',h2',asAddr,hr]
section
variable {w:World} {s m c ino:Nat} {F:Nat->Prop} {size N:Nat} {Pg Cm:Nat->List UInt8} {D:Int->Bool} {o u:Nat}
theorem yA (h:aT w m c ino) (hmF:¬F m) (hs:bG w s m) (hsF:¬F s) (hi:ino<=512) (i:Nat) (hi0:0<i) (hin:i<ino) (hb:de (Pg 1) i=true) (hN:3+i / 8<N) (hu:u<999990) (hp:Pc w c F size N Pg Cm D o u) :
  Calls Tryz.prog 78 #[.pointer (some ⟨s,0,none⟩),.int .i64 i] w fun e w'=>e = .returned (.tuple #[ct (jm (cT (Pg (3+i / 8)) i)),.int .i64 0])/\ac F w w'/\Pc w' c F size N Pg Cm D o (u+2):=by
 have ht:takenP (Pg 1) 1 ino (i:Int)=true:=by
  unfold takenP;rw [if_pos ⟨by omega,by omega⟩,Int.toNat_natCast];exact hb
 obtain ⟨wb,hwb⟩:∃wb,wb=w.alloc (.cells #[.int .i64 0,.int .i64 0,.int .i64 0,.int .i64 0,.int .i64 0,.int .i64 0,.int .i64 0,.int .i64 0,.int .i64 0,.int .i64 0,.int .i64 0,.int .i64 0,.int .i64 0,.int .i64 0,.int .i64 0] 142):=⟨_,rfl⟩;have hB:Below w.heap.size w wb:=by rw [hwb];exact (Below.refl _ w).alloc (Nat.le_refl _) _
 have hr0:wb.heap[w.heap.size]? = some (.cells #[.int .i64 0,.int .i64 0,.int .i64 0,.int .i64 0,.int .i64 0,.int .i64 0,.int .i64 0,.int .i64 0,.int .i64 0,.int .i64 0,.int .i64 0,.int .i64 0,.int .i64 0,.int .i64 0,.int .i64 0] 142 (0,0)):=by rw [hwb];exact af w _
 have HIn:=hid (ki (h.below hB));have hus:=iq (h.below hB) hmF hi (i:Int) (by omega) (by omega) (hp.below hB);rw [ht] at hus;have HUs:=hid hus;have HGt:=hid (fun W (hk:ac F wb W) (hW:Pc W c F size N Pg Cm D o (u+1))=>qP ((h.below hB).keep hk hmF) hi i hin hN (by omega) hW);have c0:(w.alloc (.cells #[.int .i64 0,.int .i64 0,.int .i64 0,.int .i64 0,.int .i64 0,.int .i64 0,.int .i64 0,.int .i64 0,.int .i64 0,.int .i64 0,.int .i64 0,.int .i64 0,.int .i64 0,.int .i64 0,.int .i64 0] 142)).cell? ⟨s,0,none⟩=some (.pointer (some ⟨m,0,none⟩)):=by rw [<- hwb];exact (hs.below hB).cell
 have HSt:=hid (hs.below hB);have HB:=hid hB;have HR0:=hid hr0;have HFl:=hid hp.lt;have hi0':¬((i:Int)<=0):=by omega
 have hin':¬((ino:Int)<=(i:Int)):=by omega
 clear h hp hs hB hr0 hus ht hb;generalize hnd:jm (cT (Pg (3+i / 8)) i)=nd at *;have hnl:(nodeC nd).length=15:=by rw [<- hnd];exact kC _
 have HNl:=hid hnl;clear hnd hnl;unfold gV at HGt;go_enter Tryz.func78,Tryz.ntmps78
 go_wp2_with fail
 rw [<- hwb] at c0 ⊢;clear hwb;refine HIn.out.mono ?_;clear HIn;rintro e w1 ⟨rfl,h1⟩;obtain rfl:=h1.symm;clear h1
 go_wp2_with fail
 refine HUs.out.mono ?_;clear HUs;rintro e w2 ⟨rfl,hk2,hp2⟩;have HG2:=hid (HGt.out w2 hk2 hp2);have c2:=(HSt.out.keep hk2 hsF).cell;have HK2:=hid hk2;have HR2:=hid (hk2.heap HR0.out (fun hf=>by have:=HFl.out _ hf;omega));clear hk2 hp2 c0 HGt
 go_wp2_with fail
 refine HG2.out.mono ?_;clear HG2;rintro e w3 ⟨rfl,hk3,hW3⟩;have HR3:=hid (hk3.heap HR2.out (fun hf=>by have:=HFl.out _ hf;omega));have HK3:=hid hk3;have HW3:=hid hW3;clear hk3 hW3 c2;unfold ct
 go_wp2_with (refine am rfl 142 (.tmp 4) (.tmp 36) rfl w.heap.size (nodeC nd).toArray rfl rfl _ _ HR3.out (by rw [List.size_toArray,HNl.out];rfl) (by rw [List.size_toArray,HNl.out];kernel_rfl) (bE _) ?_;intro w6 hg6 hb6 hz6)
 have hp3:=HW3.out w3 (ac.refl _ _);have hoff:fW w3 w.heap.size:=rW (cs:=List.replicate 15 (Value.int .i64 0)) HR3.out wy;have k36:ac (fun i=>i=w.heap.size) w3 w6:=ac.of_grown hg6 (fun i e=>(Option.some.inj e).symm);have hp6:=hp3.keepY hoff (fun hf=>by have:=HFl.out _ hf;omega) k36;refine bodyPost_ret (fP rfl rfl hb6 HNl.out) rfl ⟨rfl,?_,hp6⟩;exact (((ac.of_below HB.out:ac F w wb).trans HK2.out (fun i e => .inl e)).trans HK3.out (fun i e => .inl e)).trans k36 (fun i e => .inr (by have e':i=w.heap.size:=e;omega))
def rr (k mode:Nat):bu:=⟨k,mode,1,0,List.replicate 11 0⟩
theorem ua (k mode:Nat) (hk:k<=3) (hm:mode<=4095):(rr k mode).ok:=⟨by show k<256;omega,by show mode<65536;omega,by show 1<65536;omega,by show 0<4294967296;omega,rfl,fun p hp=>by rw [List.eq_of_mem_replicate hp];omega⟩
theorem xN (Pg:Nat->List UInt8) (D:Int->Bool) (q:Nat):rT Pg D q<=2:=by
 unfold rT;have a1:(if D 1=true then 0 else 1)<=1:=by split <;> omega
 have a2:(if td Pg q=Pg (3+q / 8) then 0 else if D (3+q / 8:Nat) then 0 else 1)<=1:=by
  split
  ·omega
  ·split <;> omega
 omega
theorem qi (N:Nat) (Pg:Nat->List UInt8) (D:Int->Bool) (q:Nat):(dkD N (nR Pg D q)).length<=(dkD N D).length+2:=by
 have d1:(dkD N (br D 1)).length<=(dkD N D).length+1:=ka N D 1;unfold nR
 split
 ·omega
 ·have d2:=ka N (br D 1) (3+q / 8);omega
def pl (Pg:Nat->List UInt8) (q k mode:Nat):Nat->List UInt8:=bf (il Pg q) (3+q / 8) (jF (il Pg q (3+q / 8)) q (dr (rr k mode)))
theorem xR (h:aT w m c ino) (hmF:¬F m) (hs:bG w s m) (hsF:¬F s) (hi:ino<=512) (h8:ino%8=0) (hN:3+ino / 8<=N) (k mode q:Nat) (rest:List Nat) (hk1:1<=k) (hk3:k<=3) (hm:mode<=4095) (hf:ax (Pg 1) 1 ino 4096=q :: rest) (hr:(dkD N D).length+3<=min size 100) (hu:u<999990) (hp:Pc w c F size N Pg Cm D o u) :
  Calls Tryz.prog 24 #[.pointer (some ⟨s,0,none⟩),.int .i64 k,.int .i64 mode] w fun e w'=>e = .returned (.tuple #[.int .i64 q,.int .i64 0])/\ac F w w'/\Pc w' c F size N (pl Pg q k mode) Cm (br (nR Pg D q) ((3+q / 8:Nat):Int)) o (u+3):=by
 have hq:=bN hf;have hc2:=xN Pg D q;have hd2:=qi N Pg D q;have HIn:=hid (sX h hmF hi h8 hN (by omega) (by omega) hp);have HPt:=hid (fun W (hk:ac F w W) (hW:Pc W c F size N (il Pg q) Cm (nR Pg D q) o (u+2))=>rH (h.keep hk hmF) hmF hi q hq.2.1 (rr k mode) (ua k mode hk3 hm) (by omega) (by omega) (.inr (by omega)) hW);have c0:=hs.cell;have HS:=hid hs;have HMo:=hid (rC (mode:Int) w);rw [decide_eq_true ⟨by omega,by omega⟩] at HMo;have HF:=hid hf;have HR:=hid hr;have HC:=hid hc2;have hka:¬((k:Int)<1):=by omega
 have hkb:¬((3:Int)<(k:Int)):=by omega
 unfold gV ct at HPt;have hnc:nodeC (rr k mode)=[.int .i64 k,.int .i64 mode,.int .i64 1,.int .i64 0,.int .i64 0,.int .i64 0,.int .i64 0,.int .i64 0,.int .i64 0,.int .i64 0,.int .i64 0,.int .i64 0,.int .i64 0,.int .i64 0,.int .i64 0]:=rfl;rw [hnc] at HPt;clear h hp hs hf hr hc2 hd2 hnc;go_enter Tryz.func24,Tryz.ntmps24
 go_wp2_with fail
 refine HMo.out.mono ?_;clear HMo;rintro e w1 ⟨rfl,h1⟩;obtain rfl:=h1.symm;clear h1
 go_wp2_with fail
 refine HIn.out.mono ?_;clear HIn;rintro e w2 ⟨hk2,hx⟩;rcases hx with ⟨h0,-⟩ | ⟨q',rest',h0,hx⟩
 ·rw [HF.out] at h0;cases h0
 obtain rfl:q=q':=(List.cons.inj (HF.out.symm.trans h0)).1;rcases hx with ⟨hfl,-,-⟩ | ⟨-,rfl,hp2⟩
 ·have:=HR.out;have:=HC.out;omega
 have HP2:=hid (HPt.out w2 hk2 hp2);have HK2:=hid hk2;have c2:=(HS.out.keep hk2 hsF).cell;clear hk2 hp2 h0 c0 HPt
 go_wp2_with fail
 refine HP2.out.mono ?_;clear HP2;rintro e w3 ⟨rfl,hk3',hp3⟩;have HK3:=hid (HK2.out.trans hk3' (fun i e => .inl e));have HP3:=hid hp3;have HEn:=hid (pR s w3);clear hk3' hp3
 go_wp2_with fail
 refine HEn.out.mono ?_;clear HEn;rintro e w4 ⟨rfl,h4⟩;obtain rfl:=h4.symm;clear h4;go_wp2;go_returns;exact ⟨rfl,HK3.out,HP3.out⟩
end
end
section
set_option maxRecDepth 100000
open Go.RowKit
structure bD where
 num:Nat
 kind:Nat
 mode:Nat
 links:Nat
 size:Nat
 slots:List Nat
def bD.cells (m:Nat) (S:bD):List Value:=[.pointer (some ⟨m,0,none⟩),.int .i64 S.num,.int .i64 S.kind,.int .i64 S.mode,.int .i64 S.links,.int .i64 S.size] ++ S.slots.map (fun n:Nat=>Value.int .i64 n)
def aD (w:World) (f m:Nat) (S:bD):Prop:=w.heap[f]? = some (.cells (S.cells m).toArray 224 (0,0))
section
variable {w w':World} {f m:Nat} {S:bD}
theorem aD.lt (h:aD w f m S):f<w.heap.size:=ae h
theorem aD.keep {F:Nat->Prop} (h:aD w f m S) (k:ac F w w') (hF:¬F f):aD w' f m S:=k.heap h hF
theorem aD.below (h:aD w f m S) (k:Below w.heap.size w w'):aD w' f m S:=ah k h (ae h)
theorem aD.head (h:aD w f m S):w.cell? ⟨f,0,none⟩=some (.pointer (some ⟨m,0,none⟩))/\w.cell? ⟨f,1,none⟩=some (.int .i64 S.num)/\w.cell? ⟨f,2,none⟩=some (.int .i64 S.kind)/\w.cell? ⟨f,3,none⟩=some (.int .i64 S.mode)/\w.cell? ⟨f,4,none⟩=some (.int .i64 S.links)/\w.cell? ⟨f,5,none⟩=some (.int .i64 S.size):=by
 refine ⟨?_,?_,?_,?_,?_,?_⟩ <;> (rw [aa h];rfl)
theorem aD.slot (h:aD w f m S) (j:Nat) (hj:j<S.slots.length):w.cell? ⟨f,6+j,none⟩=some (.int .i64 (S.slots[j]:Nat)):=by
 rw [aa h];unfold bD.cells;rw [List.getElem?_toArray,List.getElem?_append_right (by simp),List.length_cons,List.length_cons,List.length_cons,List.length_cons,List.length_cons,List.length_cons,List.length_nil,show 6+j-(0+1+1+1+1+1+1)=j by omega,List.getElem?_map,List.getElem?_eq_getElem hj]
 rfl
theorem aD.frozen (h:aD w f m S) (j:Nat):w.frozen? ⟨f,j,none⟩=false:=ai h _
theorem aD.setSlot (h:aD w f m S) (j x:Nat):aD (w.setCell ⟨f,6+j,none⟩ (.int .i64 x)) f m { S with slots:=S.slots.set j x }:=by
 have h1:=ap h (6+j) (.int .i64 x);unfold aD;rw [h1,List.setIfInBounds_toArray];unfold bD.cells;rw [List.set_append_right _ _ (by simp)];simp only [List.length_cons,List.length_nil,List.map_set];rw [show 6+j-(0+1+1+1+1+1+1)=j by omega]
theorem aD.setSize (h:aD w f m S) (x:Nat):aD (w.setCell ⟨f,5,none⟩ (.int .i64 x)) f m { S with size:=x }:=by
 have h1:=ap h 5 (.int .i64 x);unfold aD;rw [h1,List.setIfInBounds_toArray]
 rfl
theorem lf (f j:Nat) (hj:j<139) (w:World):Calls Tryz.prog 203 #[.pointer (some ⟨f,0,none⟩),.int .i64 j] w fun e w'=>e = .returned (.pointer (some ⟨f,6+j,none⟩))/\w'=w:=by
 have h0:(0:Int)<=(j:Int):=by omega
 by_cases h1:j<=10
 ·have h2:(j:Int)<=10:=by omega
  go_enter Tryz.func203,Tryz.ntmps203;go_wp2;go_ret;exact ⟨rfl,rfl⟩
 ·obtain ⟨i,rfl⟩:∃i,j=i+11:=⟨j-11,by omega⟩;have h2:¬(((i+11:Nat):Int)<=10):=by omega
  have h3:((i+11:Nat):Int)-10-1=(i:Int):=by omega
  rw [show 6+(i+11)=17+i by omega];go_enter Tryz.func203,Tryz.ntmps203;go_wp2;go_ret;exact ⟨rfl,rfl⟩
end
end
section
set_option maxRecDepth 100000
set_option maxHeartbeats 2000000
open Go.RowKit
def qh (L:List UInt8) (k:Nat):List Nat:=(List.range k).map (fun j=>numS ((L.drop (4*j)).take 4))
theorem vw (L:List UInt8) (k:Nat):qh L (k+1)=qh L k ++ [numS ((L.drop (4*k)).take 4)]:=by simp [qh,List.range_succ]
theorem fE (L:List UInt8) (k:Nat):(qh L k).length=k:=by simp [qh]
theorem mR (m i kd md lk sz p0 p1 p2 p3 p4 p5 p6 p7 p8 p9 p10:Nat):(((((((((((((((((Tryz.zeroCells224.setIfInBounds 0 (.pointer (some ⟨m,0,none⟩))).setIfInBounds 1 (.int .i64 i)).setIfInBounds 2 (.int .i64 kd)).setIfInBounds 3 (.int .i64 md)).setIfInBounds 4 (.int .i64 lk)).setIfInBounds 5 (.int .i64 sz)).setIfInBounds 6 (.int .i64 p0)).setIfInBounds 7 (.int .i64 p1)).setIfInBounds 8 (.int .i64 p2)).setIfInBounds 9 (.int .i64 p3)).setIfInBounds 10 (.int .i64 p4)).setIfInBounds 11 (.int .i64 p5)).setIfInBounds 12 (.int .i64 p6)).setIfInBounds 13 (.int .i64 p7)).setIfInBounds 14 (.int .i64 p8)).setIfInBounds 15 (.int .i64 p9)).setIfInBounds 16 (.int .i64 p10))=(bD.cells m ⟨i,kd,md,lk,sz,[p0,p1,p2,p3,p4,p5,p6,p7,p8,p9,p10] ++ List.replicate 128 0⟩).toArray:=by
 kernel_rfl
section
variable {w:World} {m c ino:Nat} {F:Nat->Prop} {size N:Nat} {Pg Cm:Nat->List UInt8} {D:Int->Bool} {o u:Nat}
theorem tK (i:Nat) (n:bu) (hn:n.ok) (hs:n.size<=5120) (w:World):Calls Tryz.prog 79 #[gV m,.int .i64 i,ct n] w fun e w'=>∃f,e = .returned (.pointer (some ⟨f,0,none⟩))/\w.heap.size<=f/\aD w' f m ⟨i,n.kind,n.mode,n.links,n.size,n.pages ++ List.replicate 128 0⟩/\Below w.heap.size w w':=by
 obtain ⟨kd,md,lk,sz,pages⟩:=n;have hp:pages.length=11:=hn.pages;obtain ⟨p0,p1,p2,p3,p4,p5,p6,p7,p8,p9,p10,rfl⟩:=tG hp;have hs':¬((5120:Int)<(sz:Int)):=by have:sz<=5120:=hs;omega
 have HH:=hid (fun W=>ez (sz:Int) W);rw [decide_eq_false hs'] at HH;unfold gV;show Calls Tryz.prog 79 #[.agg #[.pointer (some ⟨m,0,none⟩)],.int .i64 i,.agg #[.int .i64 kd,.int .i64 md,.int .i64 lk,.int .i64 sz,.int .i64 p0,.int .i64 p1,.int .i64 p2,.int .i64 p3,.int .i64 p4,.int .i64 p5,.int .i64 p6,.int .i64 p7,.int .i64 p8,.int .i64 p9,.int .i64 p10]] w _;clear hn hp hs hs';obtain ⟨wb,hwb⟩:∃wb,wb=((w.alloc (.cells #[.pointer (some ⟨m,0,none⟩)] 96)).alloc (.cells #[.int .i64 kd,.int .i64 md,.int .i64 lk,.int .i64 sz,.int .i64 p0,.int .i64 p1,.int .i64 p2,.int .i64 p3,.int .i64 p4,.int .i64 p5,.int .i64 p6,.int .i64 p7,.int .i64 p8,.int .i64 p9,.int .i64 p10] 142)).alloc (.cells (((((((((((((((((Tryz.zeroCells224.setIfInBounds 0 (.pointer (some ⟨m,0,none⟩))).setIfInBounds 1 (.int .i64 i)).setIfInBounds 2 (.int .i64 kd)).setIfInBounds 3 (.int .i64 md)).setIfInBounds 4 (.int .i64 lk)).setIfInBounds 5 (.int .i64 sz)).setIfInBounds 6 (.int .i64 p0)).setIfInBounds 7 (.int .i64 p1)).setIfInBounds 8 (.int .i64 p2)).setIfInBounds 9 (.int .i64 p3)).setIfInBounds 10 (.int .i64 p4)).setIfInBounds 11 (.int .i64 p5)).setIfInBounds 12 (.int .i64 p6)).setIfInBounds 13 (.int .i64 p7)).setIfInBounds 14 (.int .i64 p8)).setIfInBounds 15 (.int .i64 p9)).setIfInBounds 16 (.int .i64 p10)) 224):=⟨_,rfl⟩;have hB:Below w.heap.size w wb:=by rw [hwb];exact (((Below.refl _ w).alloc (Nat.le_refl _) _).alloc (by simp) _).alloc (by simp;omega) _
 have hf:aD wb (w.heap.size+1+1) m ⟨i,kd,md,lk,sz,[p0,p1,p2,p3,p4,p5,p6,p7,p8,p9,p10] ++ List.replicate 128 0⟩:=by
  have h1:=af ((w.alloc (.cells #[.pointer (some ⟨m,0,none⟩)] 96)).alloc (.cells #[.int .i64 kd,.int .i64 md,.int .i64 lk,.int .i64 sz,.int .i64 p0,.int .i64 p1,.int .i64 p2,.int .i64 p3,.int .i64 p4,.int .i64 p5,.int .i64 p6,.int .i64 p7,.int .i64 p8,.int .i64 p9,.int .i64 p10] 142)) (.cells (((((((((((((((((Tryz.zeroCells224.setIfInBounds 0 (.pointer (some ⟨m,0,none⟩))).setIfInBounds 1 (.int .i64 i)).setIfInBounds 2 (.int .i64 kd)).setIfInBounds 3 (.int .i64 md)).setIfInBounds 4 (.int .i64 lk)).setIfInBounds 5 (.int .i64 sz)).setIfInBounds 6 (.int .i64 p0)).setIfInBounds 7 (.int .i64 p1)).setIfInBounds 8 (.int .i64 p2)).setIfInBounds 9 (.int .i64 p3)).setIfInBounds 10 (.int .i64 p4)).setIfInBounds 11 (.int .i64 p5)).setIfInBounds 12 (.int .i64 p6)).setIfInBounds 13 (.int .i64 p7)).setIfInBounds 14 (.int .i64 p8)).setIfInBounds 15 (.int .i64 p9)).setIfInBounds 16 (.int .i64 p10)) 224);rw [World.size_alloc,World.size_alloc] at h1;unfold aD;rw [hwb,h1,mR]
 have HB:=hid hB;have HF:=hid hf;clear hB hf;go_enter Tryz.func79,Tryz.ntmps79
 go_wp2_with fail
 rw [<- hwb];clear hwb;refine (HH.out wb).mono ?_;clear HH;rintro e w1 ⟨rfl,h1⟩;obtain rfl:=h1.symm;clear h1;go_wp2;go_ret;exact ⟨w.heap.size+1+1,rfl,by omega,HF.out,HB.out⟩
end
end
section
set_option maxRecDepth 100000
set_option maxHeartbeats 2000000
open Go.RowKit
def b8 (ps:List Nat) (L:List UInt8) (k:Nat):List Nat:=ps ++ (qh L k ++ List.replicate (128-k) 0)
theorem mH {ps:List Nat} (h:ps.length=11) (L:List UInt8) (k:Nat) (hk:k<=128):(b8 ps L k).length=139:=by
 unfold b8;rw [List.length_append,List.length_append,fE,List.length_replicate];omega
theorem qB {ps:List Nat} (h:ps.length=11) (L:List UInt8) (k:Nat) (hk:k<128):(b8 ps L k).set (11+k) (numS ((L.drop (4*k)).take 4))=b8 ps L (k+1):=by
 unfold b8;rw [List.set_append_right _ _ (by omega),h,show 11+k-11=k by omega,List.set_append_right _ _ (by rw [fE];omega),fE,Nat.sub_self,vw,show 128-k=(128-(k+1))+1 by omega,List.replicate_succ,List.set_cons_zero];simp
section
variable {w:World} {m c ino:Nat} {F:Nat->Prop} {size N:Nat} {Pg Cm:Nat->List UInt8} {D:Int->Bool} {o u:Nat}
theorem vf (h:aT w m c ino) (hp:Pc w c F size N Pg Cm D o u) (hu:u<1000000) (i:Nat) (n:bu) (hn:n.ok) (hs:5120<n.size) (hN:n.pages.getD 10 0<N):Calls Tryz.prog 79 #[gV m,.int .i64 i,ct n] w fun e w'=>∃f,e = .returned (.pointer (some ⟨f,0,none⟩))/\w.heap.size<=f/\aD w' f m ⟨i,n.kind,n.mode,n.links,n.size,b8 n.pages (Pg (n.pages.getD 10 0)) 128⟩/\ac F w w'/\Pc w' c F size N Pg Cm D o (u+1):=by
 obtain ⟨kd,md,lk,sz,pages⟩:=n;have hpl:pages.length=11:=hn.pages;obtain ⟨p0,p1,p2,p3,p4,p5,p6,p7,p8,p9,p10,rfl⟩:=tG hpl;have hs':(5120:Int)<(sz:Int):=by have:5120<sz:=hs;omega
 have HH:=hid (fun W=>ez (sz:Int) W);rw [decide_eq_true hs'] at HH;have hN':p10<N:=hN;have HPg:=hid (fun W (hW:Below w.heap.size w W)=>eS (h.below hW) p10 hN' hu hp hW);have HLen:=hid (hp.len p10 hN');have HFl:=hid hp.lt;unfold gV at HPg ⊢;show Calls Tryz.prog 79 #[.agg #[.pointer (some ⟨m,0,none⟩)],.int .i64 i,.agg #[.int .i64 kd,.int .i64 md,.int .i64 lk,.int .i64 sz,.int .i64 p0,.int .i64 p1,.int .i64 p2,.int .i64 p3,.int .i64 p4,.int .i64 p5,.int .i64 p6,.int .i64 p7,.int .i64 p8,.int .i64 p9,.int .i64 p10]] w (fun e w'=>∃f,e = .returned (.pointer (some ⟨f,0,none⟩))/\w.heap.size<=f/\aD w' f m ⟨i,kd,md,lk,sz,b8 [p0,p1,p2,p3,p4,p5,p6,p7,p8,p9,p10] (Pg p10) 128⟩/\ac F w w'/\Pc w' c F size N Pg Cm D o (u+1));clear hn hpl hs hs' hN hN' h hp;obtain ⟨wb,hwb⟩:∃wb,wb=((w.alloc (.cells #[.pointer (some ⟨m,0,none⟩)] 96)).alloc (.cells #[.int .i64 kd,.int .i64 md,.int .i64 lk,.int .i64 sz,.int .i64 p0,.int .i64 p1,.int .i64 p2,.int .i64 p3,.int .i64 p4,.int .i64 p5,.int .i64 p6,.int .i64 p7,.int .i64 p8,.int .i64 p9,.int .i64 p10] 142)).alloc (.cells (((((((((((((((((Tryz.zeroCells224.setIfInBounds 0 (.pointer (some ⟨m,0,none⟩))).setIfInBounds 1 (.int .i64 i)).setIfInBounds 2 (.int .i64 kd)).setIfInBounds 3 (.int .i64 md)).setIfInBounds 4 (.int .i64 lk)).setIfInBounds 5 (.int .i64 sz)).setIfInBounds 6 (.int .i64 p0)).setIfInBounds 7 (.int .i64 p1)).setIfInBounds 8 (.int .i64 p2)).setIfInBounds 9 (.int .i64 p3)).setIfInBounds 10 (.int .i64 p4)).setIfInBounds 11 (.int .i64 p5)).setIfInBounds 12 (.int .i64 p6)).setIfInBounds 13 (.int .i64 p7)).setIfInBounds 14 (.int .i64 p8)).setIfInBounds 15 (.int .i64 p9)).setIfInBounds 16 (.int .i64 p10)) 224):=⟨_,rfl⟩;have hB:Below w.heap.size w wb:=by rw [hwb];exact (((Below.refl _ w).alloc (Nat.le_refl _) _).alloc (by simp) _).alloc (by simp;omega) _
 have hf:aD wb (w.heap.size+1+1) m ⟨i,kd,md,lk,sz,[p0,p1,p2,p3,p4,p5,p6,p7,p8,p9,p10] ++ List.replicate 128 0⟩:=by
  have h1:=af ((w.alloc (.cells #[.pointer (some ⟨m,0,none⟩)] 96)).alloc (.cells #[.int .i64 kd,.int .i64 md,.int .i64 lk,.int .i64 sz,.int .i64 p0,.int .i64 p1,.int .i64 p2,.int .i64 p3,.int .i64 p4,.int .i64 p5,.int .i64 p6,.int .i64 p7,.int .i64 p8,.int .i64 p9,.int .i64 p10] 142)) (.cells (((((((((((((((((Tryz.zeroCells224.setIfInBounds 0 (.pointer (some ⟨m,0,none⟩))).setIfInBounds 1 (.int .i64 i)).setIfInBounds 2 (.int .i64 kd)).setIfInBounds 3 (.int .i64 md)).setIfInBounds 4 (.int .i64 lk)).setIfInBounds 5 (.int .i64 sz)).setIfInBounds 6 (.int .i64 p0)).setIfInBounds 7 (.int .i64 p1)).setIfInBounds 8 (.int .i64 p2)).setIfInBounds 9 (.int .i64 p3)).setIfInBounds 10 (.int .i64 p4)).setIfInBounds 11 (.int .i64 p5)).setIfInBounds 12 (.int .i64 p6)).setIfInBounds 13 (.int .i64 p7)).setIfInBounds 14 (.int .i64 p8)).setIfInBounds 15 (.int .i64 p9)).setIfInBounds 16 (.int .i64 p10)) 224);rw [World.size_alloc,World.size_alloc] at h1;unfold aD;rw [hwb,h1,mR]
 have hg0:wb.heap[w.heap.size]? = some (.cells #[.pointer (some ⟨m,0,none⟩)] 96 (0,0)):=by rw [hwb];exact aj (aj (af w _) _) _
 have hg1:wb.heap[w.heap.size+1]? = some (.cells #[.int .i64 kd,.int .i64 md,.int .i64 lk,.int .i64 sz,.int .i64 p0,.int .i64 p1,.int .i64 p2,.int .i64 p3,.int .i64 p4,.int .i64 p5,.int .i64 p6,.int .i64 p7,.int .i64 p8,.int .i64 p9,.int .i64 p10] 142 (0,0)):=by
  have h1:=af (w.alloc (.cells #[.pointer (some ⟨m,0,none⟩)] 96)) (.cells #[.int .i64 kd,.int .i64 md,.int .i64 lk,.int .i64 sz,.int .i64 p0,.int .i64 p1,.int .i64 p2,.int .i64 p3,.int .i64 p4,.int .i64 p5,.int .i64 p6,.int .i64 p7,.int .i64 p8,.int .i64 p9,.int .i64 p10] 142);rw [World.size_alloc] at h1;rw [hwb];exact aj h1 _
 have hsb:wb.heap.size=w.heap.size+3:=by rw [hwb];simp
 have HB:=hid hB;have HF:=hid hf;have HSb:=hid hsb;have d0:wb.cell? ⟨w.heap.size,0,none⟩=some (.pointer (some ⟨m,0,none⟩)):=aa hg0 0;have d1:wb.cell? ⟨w.heap.size+1,14,none⟩=some (.int .i64 p10):=aa hg1 14;clear hB hf hg0 hg1 hsb;go_enter Tryz.func79,Tryz.ntmps79
 go_wp2_with fail
 rw [<- hwb];clear hwb;generalize Value.agg (((((((((((((((((Tryz.zeroCells224.setIfInBounds 0 (.pointer (some ⟨m,0,none⟩))).setIfInBounds 1 (.int .i64 i)).setIfInBounds 2 (.int .i64 kd)).setIfInBounds 3 (.int .i64 md)).setIfInBounds 4 (.int .i64 lk)).setIfInBounds 5 (.int .i64 sz)).setIfInBounds 6 (.int .i64 p0)).setIfInBounds 7 (.int .i64 p1)).setIfInBounds 8 (.int .i64 p2)).setIfInBounds 9 (.int .i64 p3)).setIfInBounds 10 (.int .i64 p4)).setIfInBounds 11 (.int .i64 p5)).setIfInBounds 12 (.int .i64 p6)).setIfInBounds 13 (.int .i64 p7)).setIfInBounds 14 (.int .i64 p8)).setIfInBounds 15 (.int .i64 p9)).setIfInBounds 16 (.int .i64 p10))=bv;refine (HH.out wb).mono ?_;clear HH;rintro e w1 ⟨rfl,h1⟩;obtain rfl:=h1.symm;clear h1
 go_wp2_with fail
 refine (HPg.out wb HB.out).mono ?_;clear HPg;rintro e w3 ⟨g,rfl,hg,ho3,hk3,hW3⟩;obtain ⟨f,hff⟩:∃f,f=w.heap.size+1+1:=⟨_,rfl⟩;rw [<- hff] at HF ⊢;have hsb:=HSb.out;have HF3:Hid (aD w3 f m ⟨i,kd,md,lk,sz,b8 [p0,p1,p2,p3,p4,p5,p6,p7,p8,p9,p10] (Pg p10) 0⟩):=HF.out.keep hk3 (fun hf=>by have:=HFl.out _ hf;omega);have HO3:=hid ho3;have HK3:=hid hk3;have HW3:=hid hW3;have HG:Hid (f<g/\w.heap.size<=f):=⟨by omega,by omega⟩;clear ho3 hk3 hW3 hg HF d0 d1 hff hsb;obtain ⟨ps,hps⟩:∃ps,ps=[p0,p1,p2,p3,p4,p5,p6,p7,p8,p9,p10]:=⟨_,rfl⟩;have hpl:ps.length=11:=by rw [hps];rfl
 rw [<- hps] at HF3;have HPs:=hid hps;have HPl:=hid hpl;clear hps hpl;go_wp2
 go_loopw [23] (fun iv wr=>∃j:Nat,j<=128/\iv = .int .i64 j/\Hid (aD wr f m ⟨i,kd,md,lk,sz,b8 ps (Pg p10) j⟩)/\Hid (aV wr g (Pg p10))/\Hid (ac (fun i=>i=f) w3 wr)) (fun iv _=>128-(intOf iv).toNat)
 case atStart=>exact ⟨0,by omega,rfl,HF3,HO3,ac.refl _ _⟩
 case round =>
  obtain ⟨j,hj,rfl,HFj,HOj,HKj⟩:=hrel;clear HF3 HO3;by_cases hlt:j<128
  ·have hj0:(0:Int)<=(j:Int):=by omega
   have hj1:(j:Int)<128:=by omega
   have hbd:Below wr.heap.size wr wr.drew:=(Below.refl _ wr).drew;have hFd:=HFj.out.below hbd;have hOd:=HOj.out.below hbd;have HKd:Hid (ac (fun i=>i=f) w3 wr.drew):=HKj.out.trans (ac.of_below hbd:ac (fun i=>i=f) wr wr.drew) (fun i e => .inl e);have hfo:=cL g 0 512 512 j wr.drew (by omega) (by omega) (by omega);rw [Nat.zero_add] at hfo;have HFo:=hid hfo;clear hfo;have hlp:4*j+4<=(Pg p10).length:=by rw [HLen.out];omega
   have hnu:=jP (((Pg p10).drop (4*j)).take 4) (some ⟨g,0+4*j,none⟩) (512-4*j) wr.drew (ug hOd.at (4*j) 4 hlp) (by rw [ke hlp];omega);rw [ke hlp,Nat.zero_add] at hnu;have hsl:11+j<(b8 ps (Pg p10) j).length:=by rw [mH HPl.out _ j hj];omega
   obtain ⟨pj,k1⟩:∃pj:Nat,wr.drew.cell? ⟨f,17+j,none⟩=some (.int .i64 pj):=by
    have k1:=hFd.slot (11+j) hsl;rw [show 6+(11+j)=17+j by omega] at k1;exact ⟨_,k1⟩
   have k2:=hFd.frozen (17+j);have hst:=hFd.setSlot (11+j) (numS (((Pg p10).drop (4*j)).take 4));rw [show 6+(11+j)=17+j by omega,show (b8 ps (Pg p10) j).set (11+j) (numS (((Pg p10).drop (4*j)).take 4))=b8 ps (Pg p10) (j+1) from qB HPl.out _ j hlt] at hst;have HNu:=hid hnu;have HSt:=hid hst;have HOd:=hid hOd;clear hnu hst hOd hFd hbd HFj HOj HKj hlp;generalize numS (((Pg p10).drop (4*j)).take 4)=x at *;clear hsl;go_wp2;refine wp_region_noPanic ?_;refine wp_region_held_drew (S:=fun _=>True) (by kernel_rfl) trivial (fun hHeld => ?_);generalize wr.drew=wd at *;refine tq 0 _ ?_
   try simp only [tS]
   refine tq 1 _ ?_
   try simp only [tS]
   refine tq 2 _ ?_
   try simp only [tS]
   refine tq 3 _ ?_
   try simp only [tS]
   refine tq 6 _ ?_
   try simp only [tS]
   refine tq 7 _ ?_
   try simp only [tS]
   refine tr 4 (fun K hK => ?_);go_simp;refine HFo.out.mono ?_;clear HFo;rintro e w7 ⟨rfl,h7⟩;obtain rfl:=h7.symm;clear h7
   go_wp2_with fail
   refine hK.out _ _ trivial (fun hHeld => ?_);clear hK K
   try simp only [tS]
   refine tr 5 (fun K hK => ?_);go_simp;refine HNu.out.mono ?_;clear HNu;rintro e w8 ⟨rfl,h8⟩;obtain rfl:=h8.symm;clear h8
   go_wp2_with fail
   refine hK.out _ _ trivial (fun hHeld => ?_);clear hK K
   try simp only [tS]
   refine tq 8 (.pointer (some ⟨f,17+j,none⟩)) ?_
   try simp only [tS]
   refine tr 9 (fun K hK => ?_);unfold Oper.wp;go_simp;have kk:ac (fun i=>i=f) wd (wd.setCell ⟨f,17+j,none⟩ (.int .i64 x)):=(ac.refl _ wd).grown (ak (ar _ _) _ _) (fun i e => .inl (Option.some.inj e).symm);have HK9:=hid (HKd.out.trans kk (fun i e => .inl e));have HO9:=hid (HOd.out.keep kk (fun e=>by have e':g=f:=e;have:=HG.out;omega));clear kk HKd HOd k1 k2;generalize wd.setCell ⟨f,17+j,none⟩ (.int .i64 x)=w9 at *;refine hK.out _ _ trivial (fun hHeld => ?_);clear hK K
   try simp only [List.getElem_toArray,List.getElem_cons_succ,List.getElem_cons_zero,Act.put]
   refine wpAnyH_done (by kernel_rfl) ?_ _;refine NoPanic.normal ?_;clear hHeld;go_wp2;exact ⟨⟨j+1,by omega,by go_num,HSt,HO9,HK9⟩,by simp [intOf];omega⟩
  ·obtain rfl:j=128:=by omega
   go_wp2;go_ret;have hsf:=HG.out.2;have kw:ac (fun i=>w.heap.size<=i) w3 wr:=HKj.out.mono (fun i e=>by have e':i=f:=e;show w.heap.size<=i;omega);refine ⟨f,rfl,hsf,?_,?_,HW3.out wr kw⟩
   ·have:=HFj.out;rw [HPs.out] at this;exact this
   ·exact (((ac.of_below HB.out:ac F w wb).trans HK3.out (fun i e => .inl e)).trans kw (fun i e => .inr e))
end
end
section
set_option maxRecDepth 100000
set_option maxHeartbeats 4000000
open Go.RowKit Go.Shelf
attribute [local go_sem] Oper.semAt_some
def bC (a z:Nat):List Nat:=(List.range (z-a)).map (fun j=>a+j)
theorem dy (a:Nat):bC a a=[]:=by simp [bC]
theorem cW {a z:Nat} (h:a<=z):bC a (z+1)=bC a z ++ [z]:=by
 unfold bC;rw [show z+1-a=(z-a)+1 by omega,List.range_succ,List.map_append];simp;omega
theorem cJ (a z:Nat):(bC a z).length=z-a:=by simp [bC]
theorem lB (f a z:Nat) (w:World):Calls Tryz.prog 197 #[.pointer (some ⟨f,0,none⟩),.int .i64 a,.int .i64 z] w fun e w'=>e = .returned (.func (.func 233) #[] #[.pointer (some ⟨w.heap.size+1,0,none⟩),.pointer (some ⟨w.heap.size+1+1,0,none⟩),.pointer (some ⟨w.heap.size,0,none⟩)])/\w'=((w.alloc (.cells #[.pointer (some ⟨f,0,none⟩)] 157)).alloc (.cells #[.int .i64 a] 3)).alloc (.cells #[.int .i64 z] 3):=by
 go_enter Tryz.func197,Tryz.ntmps197;go_wp2;go_ret;exact ⟨by simp,rfl⟩
theorem rO (n:Nat) (hn:2<=n) (l fb ab zb f a z:Nat) (G:Nat->Prop) (hz:z<=139) (hfn:¬G fb) (hzn:¬G zb) (J Jx:List Nat->World->Prop)
  (hY:∀pre (x:Nat) W,x<139->J pre W->pre.length<z-a->YieldAt Fence.wide (n-1) Tryz.prog l #[.pointer (some ⟨f,6+x,none⟩)] W fun e W' =>
   (e = .returned (.bool true)/\J (pre ++ [x]) W'/\ac G W W')\/(e = .returned (.bool false)/\Jx (pre ++ [x]) W'))
  (W:World) (hfb:W.cell? ⟨fb,0,none⟩=some (.pointer (some ⟨f,0,none⟩))) (hab:W.cell? ⟨ab,0,none⟩=some (.int .i64 a)) (hzb:W.cell? ⟨zb,0,none⟩=some (.int .i64 z)) (h0:J [] W) :
  CallsIn Fence.wide n Tryz.prog 233 #[.func (.yield l) #[] #[],.pointer (some ⟨ab,0,none⟩),.pointer (some ⟨zb,0,none⟩),.pointer (some ⟨fb,0,none⟩)] W fun e W'=>(∃v,e = .returned v) /\
   ((∃ys,ys=bC a z/\J ys W')\/(∃pre,(∃q,a<=q/\q<z/\pre=bC a q ++ [q])/\Jx pre W')):=by
 have HY:=hid hY;have HC:Hid (∀wr,ac G W wr->wr.cell? ⟨fb,0,none⟩=some (.pointer (some ⟨f,0,none⟩))/\wr.cell? ⟨zb,0,none⟩=some (.int .i64 z)):=fun wr hb=>⟨hb.cell hfb hfn,hb.cell hzb hzn⟩;have HS:Hid (∀wr q,q<139->CallsIn (Fence.wide) (n-1) Tryz.prog 203 #[.pointer (some ⟨f,0,none⟩),.int .i64 (q:Nat)] wr fun e w'=>e = .returned (.pointer (some ⟨f,6+q,none⟩))/\w'=wr):=fun wr q hq=>callsIn_wide.2 (lf f q hq wr);have HJ0:=hid h0;clear hY h0;have hf9:Fence.wide.fn 203:=trivial;have h1n:1<=n:=by omega
 refine callsIn_of_wp Tryz.func233 rfl trivial ?_ rfl;simp only [Tryz.ntmps233,List.size_toArray,List.length_cons,List.length_nil,Nat.reduceAdd,Nat.reduceSub,Array.replicate_succ,Array.replicate_zero,List.push_toArray,List.append_toArray,List.nil_append,List.cons_append]
 gi_wp2
 clear hab
 gi_loopw [5] (fun i wr=>∃q:Nat,a<=q/\(q<=z\/q=a)/\i = .int .i64 q/\Hid (J (bC a q) wr)/\Hid (ac G W wr)) (fun i _=>z-(intOf i).toNat)
 case atStart=>exact ⟨a,Nat.le_refl _,.inr rfl,rfl,by rw [dy];exact HJ0,ac.refl _ _⟩
 case round =>
  obtain ⟨q,hq1,hq2,rfl,HJ,HB⟩:=hrel;clear HJ0;obtain ⟨cf,cz⟩:=HC.out wr HB.out;by_cases hlt:q<z
  ·have hlt':(q:Int)<(z:Int):=by omega
   have HSq:=hid (HS.out wr q (by omega));obtain ⟨fn,tmps,assign,body,hy,hR⟩:=HY.out _ q wr (by omega) HJ.out (by rw [cJ];omega);have HR:=hid hR;clear hR
   gi_wp2_with (gi_at_call 203;refine HSq.out.mono ?_;rintro e w9 ⟨rfl,h9⟩;obtain rfl:=h9.symm;clear h9)
   refine HR.out.mono ?_;rintro e W3 (⟨rfl,hJ3,hk3⟩ | ⟨rfl,hJx3⟩)
   ·have HJ3:Hid (J (bC a (q+1)) W3):=by rw [cW hq1];exact hJ3
    have HB3:=hid (HB.out.trans hk3 (fun i e => .inl e));clear hJ3 hk3
    gi_wp2
    go_roundw
    case rel=>exact ⟨q+1,by omega,by omega,by go_num,HJ3,HB3⟩
    case measure=>simp [intOf];omega
   ·have HX:=hid hJx3;clear hJx3
    gi_wp2
    refine bodyPost_ret (results_none rfl _ _ _) rfl ?_;exact ⟨⟨_,rfl⟩,.inr ⟨_,⟨q,hq1,hlt,rfl⟩,HX.out⟩⟩
  ·have hge:¬((q:Int)<(z:Int)):=by omega
   have hup:bC a q=bC a z:=by
    rcases hq2 with h | h
    ·rw [show q=z by omega]
    ·rw [h,dy];unfold bC;rw [show z-a=0 by omega];rfl
   rw [hup] at HJ
   gi_wp2
   go_end0
   exact ⟨⟨_,rfl⟩,.inl HJ.out⟩
def dnL (z k:Nat):List Nat:=(List.range k).map (fun j=>z-1-j)
theorem fu (z k:Nat):dnL z (k+1)=dnL z k ++ [z-1-k]:=by simp [dnL,List.range_succ]
theorem nj (z k:Nat):(dnL z k).length=k:=by simp [dnL]
theorem jX (f z a:Nat) (w:World):Calls Tryz.prog 199 #[.pointer (some ⟨f,0,none⟩),.int .i64 z,.int .i64 a] w fun e w'=>e = .returned (.func (.func 234) #[] #[.pointer (some ⟨w.heap.size+1,0,none⟩),.pointer (some ⟨w.heap.size+1+1,0,none⟩),.pointer (some ⟨w.heap.size,0,none⟩)])/\w'=((w.alloc (.cells #[.pointer (some ⟨f,0,none⟩)] 157)).alloc (.cells #[.int .i64 z] 3)).alloc (.cells #[.int .i64 a] 3):=by
 go_enter Tryz.func199,Tryz.ntmps199;go_wp2;go_ret;exact ⟨by simp,rfl⟩
theorem qd (n:Nat) (hn:2<=n) (l fb zb ab f z a:Nat) (G:Nat->Prop) (hz:z<=139) (ha:a<=139) (hfn:¬G fb) (han:¬G ab) (J Jx:List Nat->World->Prop)
  (hY:∀pre (x:Nat) W,x<139->J pre W->pre.length<z-a->YieldAt Fence.wide (n-1) Tryz.prog l #[.pointer (some ⟨f,6+x,none⟩)] W fun e W' =>
   (e = .returned (.bool true)/\J (pre ++ [x]) W'/\ac G W W')\/(e = .returned (.bool false)/\Jx (pre ++ [x]) W'))
  (W:World) (hfb:W.cell? ⟨fb,0,none⟩=some (.pointer (some ⟨f,0,none⟩))) (hzb:W.cell? ⟨zb,0,none⟩=some (.int .i64 z)) (hab:W.cell? ⟨ab,0,none⟩=some (.int .i64 a)) (h0:J [] W) :
  CallsIn Fence.wide n Tryz.prog 234 #[.func (.yield l) #[] #[],.pointer (some ⟨zb,0,none⟩),.pointer (some ⟨ab,0,none⟩),.pointer (some ⟨fb,0,none⟩)] W fun e W'=>(∃v,e = .returned v) /\
   ((∃ys,ys=dnL z (z-a)/\J ys W')\/(∃pre,(∃k,k<z-a/\pre=dnL z (k+1))/\Jx pre W')):=by
 have HY:=hid hY;have HC:Hid (∀wr,ac G W wr->wr.cell? ⟨fb,0,none⟩=some (.pointer (some ⟨f,0,none⟩))/\wr.cell? ⟨ab,0,none⟩=some (.int .i64 a)):=fun wr hb=>⟨hb.cell hfb hfn,hb.cell hab han⟩;have HS:Hid (∀wr q,q<139->CallsIn (Fence.wide) (n-1) Tryz.prog 203 #[.pointer (some ⟨f,0,none⟩),.int .i64 (q:Nat)] wr fun e w'=>e = .returned (.pointer (some ⟨f,6+q,none⟩))/\w'=wr):=fun wr q hq=>callsIn_wide.2 (lf f q hq wr);have HJ0:=hid h0;clear hY h0;have hf9:Fence.wide.fn 203:=trivial;have h1n:1<=n:=by omega
 refine callsIn_of_wp Tryz.func234 rfl trivial ?_ rfl;simp only [Tryz.ntmps234,List.size_toArray,List.length_cons,List.length_nil,Nat.reduceAdd,Nat.reduceSub,Array.replicate_succ,Array.replicate_zero,List.push_toArray,List.append_toArray,List.nil_append,List.cons_append]
 gi_wp2
 clear hzb
 gi_loopw [5] (fun i wr=>∃k:Nat,k<=z-a/\i = .int .i64 ((z:Int)-1-k)/\Hid (J (dnL z k) wr)/\Hid (ac G W wr)) (fun i _=>(intOf i+1).toNat)
 case atStart=>exact ⟨0,by omega,by simp,HJ0,ac.refl _ _⟩
 case round =>
  obtain ⟨k,hk,rfl,HJ,HB⟩:=hrel;clear HJ0;obtain ⟨cf,ca⟩:=HC.out wr HB.out;by_cases hlt:k<z-a
  ·obtain ⟨q,hq⟩:∃q,q=z-1-k:=⟨_,rfl⟩;have hq':(z:Int)-1-(k:Int)=(q:Int):=by omega
   have hlt':(a:Int)<=(q:Int):=by omega
   rw [hq'];have HSq:=hid (HS.out wr q (by omega));obtain ⟨fn,tmps,assign,body,hy,hR⟩:=HY.out _ q wr (by omega) HJ.out (by rw [nj];omega);have HR:=hid hR;have HQ:=hid hq;clear hR hq
   gi_wp2_with (gi_at_call 203;refine HSq.out.mono ?_;rintro e w9 ⟨rfl,h9⟩;obtain rfl:=h9.symm;clear h9)
   refine HR.out.mono ?_;rintro e W3 (⟨rfl,hJ3,hk3⟩ | ⟨rfl,hJx3⟩)
   ·have HJ3:Hid (J (dnL z (k+1)) W3):=by rw [fu, <- HQ.out];exact hJ3
    have HB3:=hid (HB.out.trans hk3 (fun i e => .inl e));clear hJ3 hk3
    gi_wp2
    go_roundw
    case rel=>exact ⟨k+1,by omega,by congr 1;omega,HJ3,HB3⟩
    case measure=>simp [intOf]
   ·have HX:Hid (Jx (dnL z (k+1)) W3):=by rw [fu, <- HQ.out];exact hJx3
    clear hJx3
    gi_wp2
    refine bodyPost_ret (results_none rfl _ _ _) rfl ?_;exact ⟨⟨_,rfl⟩,.inr ⟨_,⟨k,hlt,rfl⟩,HX.out⟩⟩
  ·have hke:k=z-a:=by omega
   have hge:¬((a:Int)<=(z:Int)-1-(k:Int)):=by omega
   rw [hke] at HJ
   gi_wp2
   go_end0
   exact ⟨⟨_,rfl⟩,.inl HJ.out⟩
theorem jw (n:Nat) (hn:2<=n) (fb ab zb f a z:Nat) (G:Nat->Prop) (hz:z<=139) (w:World) (hfn:¬G fb) (hzn:¬G zb)
  (hfb:w.cell? ⟨fb,0,none⟩=some (.pointer (some ⟨f,0,none⟩))) (hab:w.cell? ⟨ab,0,none⟩=some (.int .i64 a)) (hzb:w.cell? ⟨zb,0,none⟩=some (.int .i64 z)) :
  SeqStopsK Fence.wide n Tryz.prog 233 #[.pointer (some ⟨ab,0,none⟩),.pointer (some ⟨zb,0,none⟩),.pointer (some ⟨fb,0,none⟩)] (fun x:Fin 139=>#[Value.pointer (some ⟨f,6+x.val,none⟩)]) (ac G) (fun ys=>ys.map Fin.val=bC a z) (fun pre=>∃q,a<=q/\q<z/\pre.map Fin.val=bC a q ++ [q]) (z-a) w:=fun l J Jx W hW _ _ hY h0=>by
 have hb:ac (fun _=>False) w W:=ac.of_below hW;refine (rO n hn l fb ab zb f a z G hz hfn hzn (fun pre W=>∃p,p.map Fin.val=pre/\J p W) (fun pre W=>∃p,p.map Fin.val=pre/\Jx p W) (fun pre x W1 hx hJ hl => ?_) W (hb.cell hfb (fun h=>h)) (hb.cell hab (fun h=>h)) (hb.cell hzb (fun h=>h)) ⟨[],rfl,h0⟩).mono ?_
 ·obtain ⟨p,rfl,hJ⟩:=hJ;obtain ⟨fn,tmps,assign,body,hy,hR⟩:=hY p ⟨x,hx⟩ W1 hJ (by rwa [List.length_map] at hl);refine ⟨fn,tmps,assign,body,hy,hR.mono ?_⟩;rintro e W' (⟨rfl,h1,h2⟩ | ⟨rfl,h1⟩)
  ·exact .inl ⟨rfl,⟨_,by rw [List.map_append];rfl,h1⟩,h2⟩
  ·exact .inr ⟨rfl,⟨_,by rw [List.map_append];rfl,h1⟩⟩
 ·rintro e W' ⟨he,⟨ys,rfl,p,hp,hj⟩ | ⟨pre,⟨q,hq1,hq2,rfl⟩,p,hp,hj⟩⟩
  ·exact ⟨he,.inl ⟨p,hp,hj⟩⟩
  ·exact ⟨he,.inr ⟨p,⟨q,hq1,hq2,hp⟩,hj⟩⟩
theorem iC (n:Nat) (hn:2<=n) (fb zb ab f z a:Nat) (G:Nat->Prop) (hz:z<=139) (ha:a<=139) (w:World) (hfn:¬G fb) (han:¬G ab)
  (hfb:w.cell? ⟨fb,0,none⟩=some (.pointer (some ⟨f,0,none⟩))) (hzb:w.cell? ⟨zb,0,none⟩=some (.int .i64 z)) (hab:w.cell? ⟨ab,0,none⟩=some (.int .i64 a)) :
  SeqStopsK Fence.wide n Tryz.prog 234 #[.pointer (some ⟨zb,0,none⟩),.pointer (some ⟨ab,0,none⟩),.pointer (some ⟨fb,0,none⟩)] (fun x:Fin 139=>#[Value.pointer (some ⟨f,6+x.val,none⟩)]) (ac G) (fun ys=>ys.map Fin.val=dnL z (z-a)) (fun pre=>∃k,k<z-a/\pre.map Fin.val=dnL z (k+1)) (z-a) w:=fun l J Jx W hW _ _ hY h0=>by
 have hb:ac (fun _=>False) w W:=ac.of_below hW;refine (qd n hn l fb zb ab f z a G hz ha hfn han (fun pre W=>∃p,p.map Fin.val=pre/\J p W) (fun pre W=>∃p,p.map Fin.val=pre/\Jx p W) (fun pre x W1 hx hJ hl => ?_) W (hb.cell hfb (fun h=>h)) (hb.cell hzb (fun h=>h)) (hb.cell hab (fun h=>h)) ⟨[],rfl,h0⟩).mono ?_
 ·obtain ⟨p,rfl,hJ⟩:=hJ;obtain ⟨fn,tmps,assign,body,hy,hR⟩:=hY p ⟨x,hx⟩ W1 hJ (by rwa [List.length_map] at hl);refine ⟨fn,tmps,assign,body,hy,hR.mono ?_⟩;rintro e W' (⟨rfl,h1,h2⟩ | ⟨rfl,h1⟩)
  ·exact .inl ⟨rfl,⟨_,by rw [List.map_append];rfl,h1⟩,h2⟩
  ·exact .inr ⟨rfl,⟨_,by rw [List.map_append];rfl,h1⟩⟩
 ·rintro e W' ⟨he,⟨ys,rfl,p,hp,hj⟩ | ⟨pre,⟨k,hk,rfl⟩,p,hp,hj⟩⟩
  ·exact ⟨he,.inl ⟨p,hp,hj⟩⟩
  ·exact ⟨he,.inr ⟨p,⟨k,hk,hp⟩,hj⟩⟩
end
section
set_option maxRecDepth 100000
set_option maxHeartbeats 4000000
open Go.RowKit Go.Shelf
attribute [local go_sem] Oper.semAt_some
def aC (k:Nat):Nat:=if k<10 then k else k+1
theorem su (k:Nat) (hk:k<138):needZ (((k*512+1:Nat)):Int)=aC k+1:=by
 unfold needZ au fillN aC;rw [if_neg (by omega),Int.toNat_natCast,if_neg (by omega)];by_cases h:k<10
 ·rw [if_neg (by omega),if_pos h];omega
 ·rw [if_pos (by omega),if_neg h];omega
theorem qA (k:Nat) (hk:k<138):aC k<139:=by unfold aC;split <;> omega
def lA (sl:List Nat) (a z k:Nat):Array Value:=#[.int .i64 (sl.getD (aC k) 0:Nat),.agg #[.int .i64 (a-k*512:Nat),.int .i64 (min (z-k*512) 512:Nat)]]
theorem gM (f a z:Nat) (w:World):Calls Tryz.prog 146 #[.pointer (some ⟨f,0,none⟩),.int .i64 a,.int .i64 z] w fun e w'=>e = .returned (.func (.func 201) #[] #[.pointer (some ⟨w.heap.size+1,0,none⟩),.pointer (some ⟨w.heap.size+1+1,0,none⟩),.pointer (some ⟨w.heap.size,0,none⟩)])/\w'=((w.alloc (.cells #[.pointer (some ⟨f,0,none⟩)] 157)).alloc (.cells #[.int .i64 a] 3)).alloc (.cells #[.int .i64 z] 3):=by
 go_enter Tryz.func146,Tryz.ntmps146;go_wp2;go_ret;exact ⟨by simp,rfl⟩
theorem sb (n:Nat) (hn:2<=n) (l fb ab zb f m a z:Nat) (S:bD) (hS:S.slots.length=139) (G:Nat->Prop) (hz:z<=70656) (haz:a<=70656) (hfn:¬G fb) (han:¬G ab) (hzn:¬G zb) (hfG:¬G f) (J Jx:List Nat->World->Prop)
  (hJa:∀pre W W',J pre W->Below W.heap.size W W'->J pre W')
  (hY:∀pre (x:Nat) W,a / 512<=x->x<fillN z->J pre W->pre.length<fillN z-a / 512->YieldAt Fence.wide (n-1) Tryz.prog l (lA S.slots a z x) W fun e W' =>
   (e = .returned (.bool true)/\J (pre ++ [x]) W'/\ac G W W')\/(e = .returned (.bool false)/\Jx (pre ++ [x]) W'))
  (W:World) (hf:aD W f m S) (hfb:W.cell? ⟨fb,0,none⟩=some (.pointer (some ⟨f,0,none⟩))) (hab:W.cell? ⟨ab,0,none⟩=some (.int .i64 a)) (hzb:W.cell? ⟨zb,0,none⟩=some (.int .i64 z)) (h0:J [] W) :
  CallsIn Fence.wide n Tryz.prog 201 #[.func (.yield l) #[] #[],.pointer (some ⟨ab,0,none⟩),.pointer (some ⟨zb,0,none⟩),.pointer (some ⟨fb,0,none⟩)] W fun e W'=>(∃v,e = .returned v) /\
   ((∃ys,ys=bC (a / 512) (fillN z)/\J ys W')\/(∃pre,(∃q,a / 512<=q/\q<fillN z/\pre=bC (a / 512) q ++ [q])/\Jx pre W')):=by
 have HY:=hid hY;have HJa:=hid hJa;have HC:Hid (∀wr,ac G W wr->wr.cell? ⟨fb,0,none⟩=some (.pointer (some ⟨f,0,none⟩))/\wr.cell? ⟨ab,0,none⟩=some (.int .i64 a)/\wr.cell? ⟨zb,0,none⟩=some (.int .i64 z)/\aD wr f m S):=fun wr hb=>⟨hb.cell hfb hfn,hb.cell hab han,hb.cell hzb hzn,hf.keep hb hfG⟩;have HSl:Hid (∀wr q,q<139->CallsIn (Fence.wide) (n-1) Tryz.prog 203 #[.pointer (some ⟨f,0,none⟩),.int .i64 (q:Nat)] wr fun e w'=>e = .returned (.pointer (some ⟨f,6+q,none⟩))/\w'=wr):=fun wr q hq=>callsIn_wide.2 (lf f q hq wr);have HFi:Hid (∀wr,CallsIn (Fence.wide) (n-1) Tryz.prog 202 #[.int .i64 z] wr fun e w'=>e = .returned (.int .i64 (fillN z:Nat))/\w'=wr):=fun wr=>callsIn_wide.2 (fO z (by omega) wr);have HNe:Hid (∀wr (q:Nat),q<138->CallsIn (Fence.wide) (n-1) Tryz.prog 196 #[.int .i64 ((q*512+1:Nat):Int)] wr fun e w'=>e = .returned (.int .i64 ((aC q+1:Nat):Int))/\w'=wr):=fun wr q hq=>by
  have:=gr (((q*512+1:Nat)):Int) wr;rw [su q hq] at this;exact callsIn_wide.2 this
 have HJ0:=hid h0;have hfz:fillN z<=138:=by unfold fillN;omega
 have HS:=hid hS;clear hY h0 hJa hS;have hf9:Fence.wide.fn 203:=trivial;have hf8:Fence.wide.fn 202:=trivial;have hf7:Fence.wide.fn 196:=trivial;have h1n:1<=n:=by omega
 have hmz:(z:Int)<=70656:=by omega
 refine callsIn_of_wp Tryz.func201 rfl trivial ?_ rfl;simp only [Tryz.ntmps201,List.size_toArray,List.length_cons,List.length_nil,Nat.reduceAdd,Nat.reduceSub,Array.replicate_succ,Array.replicate_zero,List.push_toArray,List.append_toArray,List.nil_append,List.cons_append];have EA:Hid ((a:Int) / 512=((a / 512:Nat):Int)):=by unfold Hid;omega
 gi_wp2
 rw [EA.out];clear EA;obtain ⟨a5,ha5⟩:∃a5,a5=a / 512:=⟨_,rfl⟩;rw [<- ha5];have HA5:=hid ha5;clear ha5
 gi_loopw [5] (fun i wr=>∃q:Nat,a5<=q/\(q<=fillN z\/q=a5)/\i = .int .i64 q/\Hid (J (bC a5 q) wr)/\Hid (ac G W wr)) (fun i _=>fillN z-(intOf i).toNat)
 case atStart=>exact ⟨a5,Nat.le_refl _,.inr rfl,rfl,by rw [dy];exact HJ0,ac.refl _ _⟩
 case round =>
  obtain ⟨q,hq1,hq2,rfl,HJ,HB⟩:=hrel;clear HJ0;obtain ⟨cf,ca,cz,hfl⟩:=HC.out wr HB.out;have HFl:=hid hfl;clear hfl;have HFq:=hid (HFi.out wr);generalize hfz':fillN z=fz at *;by_cases hlt:q<fz
  ·have hlt':(q:Int)<(fz:Int):=by omega
   have hNq:=HNe.out wr q (by omega);obtain ⟨ds,hds⟩:∃ds,ds=aC q:=⟨_,rfl⟩;rw [<- hds] at hNq;have HNq:=hid hNq;have EQ1:Hid ((q:Int)*512+1=((q*512+1:Nat):Int)):=by unfold Hid;omega
   have HMin:Hid (min (z:Int) 70656=(z:Int)):=by unfold Hid;omega
   have HSq:=hid (fun W=>HSl.out W ds (by rw [hds];exact qA q (by omega)));have hd138:(ds:Int)<=138:=by have:=qA q (by omega);omega
   have hd0:(0:Int)<=(ds:Int):=by omega
   have HDs:=hid hds;clear hNq hds;have HV:Hid (max ((a:Int)-(q:Int)*512) 0=((a-q*512:Nat):Int)/\min ((z:Int)-(q:Int)*512) 512=((min (z-q*512) 512:Nat):Int)):=by
    have hzq:q*512<z:=by rw [<- hfz'] at hlt;unfold fillN at hlt;omega
    exact ⟨by omega,by omega⟩
   gi_wp2_with (first
    | (gi_at_call 202;rw [HMin.out];refine HFq.out.mono ?_;rintro e w9 ⟨rfl,h9⟩;obtain rfl:=h9.symm;clear h9)
    | (gi_at_call 196;rw [EQ1.out];refine HNq.out.mono ?_;rintro e w9 ⟨rfl,h9⟩;obtain rfl:=h9.symm;clear h9))
   rw [HV.out.1,HV.out.2];obtain ⟨pa,hpa⟩:∃pa,pa=a-q*512:=⟨_,rfl⟩;obtain ⟨pz,hpz⟩:∃pz,pz=min (z-q*512) 512:=⟨_,rfl⟩;rw [<- hpa, <- hpz];have HPA:=hid hpa;have HPZ:=hid hpz;have hbp:Below wr.heap.size wr (wr.alloc (.cells #[.int .i64 pa,.int .i64 pz] 229)).drew:=((Below.refl _ wr).alloc (Nat.le_refl _) _).drew;have e0:(wr.alloc (.cells #[.int .i64 pa,.int .i64 pz] 229)).drew.cell? ⟨wr.heap.size,0,none⟩=some (.int .i64 pa):=aa (af wr (.cells #[.int .i64 pa,.int .i64 pz] 229)) 0;have e1:(wr.alloc (.cells #[.int .i64 pa,.int .i64 pz] 229)).drew.cell? ⟨wr.heap.size,1,none⟩=some (.int .i64 pz):=aa (af wr (.cells #[.int .i64 pa,.int .i64 pz] 229)) 1;have hfw:=HFl.out.below hbp;have hsl:ds<S.slots.length:=by rw [HS.out];omega
   have e2:=hfw.slot ds hsl;have e3:(wr.alloc (.cells #[.int .i64 pa,.int .i64 pz] 229)).drew.cell? ⟨fb,0,none⟩=some (.pointer (some ⟨f,0,none⟩)):=(hbp.cell (World.block_lt_of_cell? wr _ cf)).trans cf;have HJp:=hid (HJa.out _ _ _ HJ.out hbp);have HBp:=hid hbp;have hpv:lA S.slots a z q=#[.int .i64 (S.slots[ds]:Nat),.agg #[.int .i64 pa,.int .i64 pz]]:=by
    unfold lA;rw [<- HDs.out, <- hpa, <- hpz,List.getD_eq_getElem?_getD,List.getElem?_eq_getElem hsl];rfl
   obtain ⟨fn,tmps,assign,body,hy,hR⟩:=HY.out _ q _ (by rw [<- HA5.out];exact hq1) hlt HJp.out (by rw [cJ, <- HA5.out];omega);rw [hpv] at hy;have HR:=hid hR;clear hbp hfw hpa hpz cf ca cz hR hpv;refine wpIn_region_any (by kernel_rfl) ?_;show wpAnyIn _ _ _ _ _ _ _ _ _ (wr.alloc (.cells #[.int .i64 pa,.int .i64 pz] 229)).drew;generalize (wr.alloc (.cells #[.int .i64 pa,.int .i64 pz] 229)).drew=wp at *;generalize hsd:S.slots[ds]=sd at *;refine wpAnyIn_take (i:=0) (v := .func (.yield l) #[] #[]) rfl rfl (by kernel_rfl) (by kernel_rfl) (by kernel_rfl) (fun _ _ _ h=>h) ⟨Or.inl ⟨by rfl,fun W=>rfl⟩,fun W=>rfl⟩ ?_
   try simp only [tS]
   refine wpAnyIn_take (i:=2) (v := .int .i64 ds) rfl rfl (by kernel_rfl) (by kernel_rfl) (by kernel_rfl) (fun _ _ _ h=>h) ⟨Or.inl ⟨by rfl,fun W=>rfl⟩,fun W=>rfl⟩ ?_
   try simp only [tS]
   -- ORDERS
   refine wpAnyIn_ready (rs:=[1,6]) (by kernel_rfl) (by simp) (BigFrame.allReadyIn_want rfl rfl (fun K hK => ?_) (BigFrame.allReadyIn_want rfl rfl (fun K hK => ?_) AllReadyIn.nil))
   ·try simp only [List.getElem_toArray,List.getElem_cons_succ,List.getElem_cons_zero]
    gi_big_op
    refine hK _ _ ?_;clear hK K;refine wpAnyIn_ready (rs:=[3,6]) (by kernel_rfl) (by simp) (BigFrame.allReadyIn_want rfl rfl (fun K hK => ?_) (BigFrame.allReadyIn_want rfl rfl (fun K hK => ?_) AllReadyIn.nil))
    ·try simp only [List.getElem_toArray,List.getElem_cons_succ,List.getElem_cons_zero]
     refine ⟨fun _ _=>trivial,?_⟩;go_simp;refine (HSq.out wp).mono ?_;rintro e w9 ⟨rfl,h9⟩;obtain rfl:=h9.symm;clear h9;refine hK _ _ ?_;clear hK K;refine wpAnyIn_take (i:=4) (v := .pointer (some ⟨f,6+ds,none⟩)) rfl rfl (by kernel_rfl) (by kernel_rfl) (by kernel_rfl) (fun _ _ _ h=>h) ⟨Or.inl ⟨by rfl,fun W=>rfl⟩,fun W=>rfl⟩ ?_
     try simp only [tS]
     refine wpAnyIn_ready (rs:=[5,6]) (by kernel_rfl) (by simp) (BigFrame.allReadyIn_want rfl rfl (fun K hK => ?_) (BigFrame.allReadyIn_want rfl rfl (fun K hK => ?_) AllReadyIn.nil))
     ·try simp only [List.getElem_toArray,List.getElem_cons_succ,List.getElem_cons_zero]
      gi_big_op
      refine hK _ _ ?_;clear hK K;refine wpAnyIn_ready (rs:=[6]) (by kernel_rfl) (by simp) (BigFrame.allReadyIn_want rfl rfl (fun K hK => ?_) AllReadyIn.nil)
      try simp only [List.getElem_toArray,List.getElem_cons_succ,List.getElem_cons_zero]
      gi_big_op
      refine hK _ _ ?_;clear hK K;refine wpAnyIn_ready (rs:=[7]) (by kernel_rfl) (by simp) (BigFrame.allReadyIn_want rfl rfl (fun K hK => ?_) AllReadyIn.nil)
      try simp only [List.getElem_toArray,List.getElem_cons_succ,List.getElem_cons_zero]
      refine ⟨fun _ _=>trivial,?_⟩;go_simp;refine HR.out.mono ?_;clear HR;rintro e W3 (⟨rfl,hJ3,hk3⟩ | ⟨rfl,hJx3⟩)
      ·have HJ3:Hid (J (bC a5 (q+1)) W3):=by rw [cW hq1];exact hJ3
       have HB3:Hid (ac G W W3):=(HB.out.trans (ac.of_below HBp.out:ac G wr wp) (fun i e => .inl e)).trans hk3 (fun i e => .inl e);clear hJ3 hk3;refine hK _ _ ?_;clear hK K;refine wpAnyIn_take (i:=8) (v := .bool false) rfl rfl (by kernel_rfl) (by kernel_rfl) (by kernel_rfl) (fun _ _ _ h=>h) ⟨Or.inl ⟨by rfl,fun W=>rfl⟩,fun W=>rfl⟩ ?_
       try simp only [tS]
       refine wpAnyIn_done (by kernel_rfl) ?_ _
       gi_wp2
       go_roundw
       case rel=>exact ⟨q+1,by omega,.inl (by omega),by go_num,HJ3,HB3⟩
       case measure=>simp [intOf];omega
      ·have HX:=hid hJx3;clear hJx3;refine hK _ _ ?_;clear hK K;refine wpAnyIn_take (i:=8) (v := .bool true) rfl rfl (by kernel_rfl) (by kernel_rfl) (by kernel_rfl) (fun _ _ _ h=>h) ⟨Or.inl ⟨by rfl,fun W=>rfl⟩,fun W=>rfl⟩ ?_
       try simp only [tS]
       refine wpAnyIn_done (by kernel_rfl) ?_ _
       gi_wp2
       refine bodyPost_ret (results_none rfl _ _ _) rfl ?_;exact ⟨⟨_,rfl⟩,.inr ⟨_,⟨q,by rw [<- HA5.out];exact hq1,by rw [hfz'];exact hlt,by rw [<- HA5.out]⟩,HX.out⟩⟩
     ·try simp only [List.getElem_toArray,List.getElem_cons_succ,List.getElem_cons_zero]
      gi_big_op
      refine hK _ _ ?_;clear hK K;refine wpAnyIn_ready (rs:=[5]) (by kernel_rfl) (by simp) (BigFrame.allReadyIn_want rfl rfl (fun K hK => ?_) AllReadyIn.nil)
      try simp only [List.getElem_toArray,List.getElem_cons_succ,List.getElem_cons_zero]
      gi_big_op
      refine hK _ _ ?_;clear hK K;refine wpAnyIn_ready (rs:=[7]) (by kernel_rfl) (by simp) (BigFrame.allReadyIn_want rfl rfl (fun K hK => ?_) AllReadyIn.nil)
      try simp only [List.getElem_toArray,List.getElem_cons_succ,List.getElem_cons_zero]
      refine ⟨fun _ _=>trivial,?_⟩;go_simp;refine HR.out.mono ?_;clear HR;rintro e W3 (⟨rfl,hJ3,hk3⟩ | ⟨rfl,hJx3⟩)
      ·have HJ3:Hid (J (bC a5 (q+1)) W3):=by rw [cW hq1];exact hJ3
       have HB3:Hid (ac G W W3):=(HB.out.trans (ac.of_below HBp.out:ac G wr wp) (fun i e => .inl e)).trans hk3 (fun i e => .inl e);clear hJ3 hk3;refine hK _ _ ?_;clear hK K;refine wpAnyIn_take (i:=8) (v := .bool false) rfl rfl (by kernel_rfl) (by kernel_rfl) (by kernel_rfl) (fun _ _ _ h=>h) ⟨Or.inl ⟨by rfl,fun W=>rfl⟩,fun W=>rfl⟩ ?_
       try simp only [tS]
       refine wpAnyIn_done (by kernel_rfl) ?_ _
       gi_wp2
       go_roundw
       case rel=>exact ⟨q+1,by omega,.inl (by omega),by go_num,HJ3,HB3⟩
       case measure=>simp [intOf];omega
      ·have HX:=hid hJx3;clear hJx3;refine hK _ _ ?_;clear hK K;refine wpAnyIn_take (i:=8) (v := .bool true) rfl rfl (by kernel_rfl) (by kernel_rfl) (by kernel_rfl) (fun _ _ _ h=>h) ⟨Or.inl ⟨by rfl,fun W=>rfl⟩,fun W=>rfl⟩ ?_
       try simp only [tS]
       refine wpAnyIn_done (by kernel_rfl) ?_ _
       gi_wp2
       refine bodyPost_ret (results_none rfl _ _ _) rfl ?_;exact ⟨⟨_,rfl⟩,.inr ⟨_,⟨q,by rw [<- HA5.out];exact hq1,by rw [hfz'];exact hlt,by rw [<- HA5.out]⟩,HX.out⟩⟩
    ·try simp only [List.getElem_toArray,List.getElem_cons_succ,List.getElem_cons_zero]
     gi_big_op
     refine hK _ _ ?_;clear hK K;refine wpAnyIn_ready (rs:=[3]) (by kernel_rfl) (by simp) (BigFrame.allReadyIn_want rfl rfl (fun K hK => ?_) AllReadyIn.nil)
     try simp only [List.getElem_toArray,List.getElem_cons_succ,List.getElem_cons_zero]
     refine ⟨fun _ _=>trivial,?_⟩;go_simp;refine (HSq.out wp).mono ?_;rintro e w9 ⟨rfl,h9⟩;obtain rfl:=h9.symm;clear h9;refine hK _ _ ?_;clear hK K;refine wpAnyIn_take (i:=4) (v := .pointer (some ⟨f,6+ds,none⟩)) rfl rfl (by kernel_rfl) (by kernel_rfl) (by kernel_rfl) (fun _ _ _ h=>h) ⟨Or.inl ⟨by rfl,fun W=>rfl⟩,fun W=>rfl⟩ ?_
     try simp only [tS]
     refine wpAnyIn_ready (rs:=[5]) (by kernel_rfl) (by simp) (BigFrame.allReadyIn_want rfl rfl (fun K hK => ?_) AllReadyIn.nil)
     try simp only [List.getElem_toArray,List.getElem_cons_succ,List.getElem_cons_zero]
     gi_big_op
     refine hK _ _ ?_;clear hK K;refine wpAnyIn_ready (rs:=[7]) (by kernel_rfl) (by simp) (BigFrame.allReadyIn_want rfl rfl (fun K hK => ?_) AllReadyIn.nil)
     try simp only [List.getElem_toArray,List.getElem_cons_succ,List.getElem_cons_zero]
     refine ⟨fun _ _=>trivial,?_⟩;go_simp;refine HR.out.mono ?_;clear HR;rintro e W3 (⟨rfl,hJ3,hk3⟩ | ⟨rfl,hJx3⟩)
     ·have HJ3:Hid (J (bC a5 (q+1)) W3):=by rw [cW hq1];exact hJ3
      have HB3:Hid (ac G W W3):=(HB.out.trans (ac.of_below HBp.out:ac G wr wp) (fun i e => .inl e)).trans hk3 (fun i e => .inl e);clear hJ3 hk3;refine hK _ _ ?_;clear hK K;refine wpAnyIn_take (i:=8) (v := .bool false) rfl rfl (by kernel_rfl) (by kernel_rfl) (by kernel_rfl) (fun _ _ _ h=>h) ⟨Or.inl ⟨by rfl,fun W=>rfl⟩,fun W=>rfl⟩ ?_
      try simp only [tS]
      refine wpAnyIn_done (by kernel_rfl) ?_ _
      gi_wp2
      go_roundw
      case rel=>exact ⟨q+1,by omega,.inl (by omega),by go_num,HJ3,HB3⟩
      case measure=>simp [intOf];omega
     ·have HX:=hid hJx3;clear hJx3;refine hK _ _ ?_;clear hK K;refine wpAnyIn_take (i:=8) (v := .bool true) rfl rfl (by kernel_rfl) (by kernel_rfl) (by kernel_rfl) (fun _ _ _ h=>h) ⟨Or.inl ⟨by rfl,fun W=>rfl⟩,fun W=>rfl⟩ ?_
      try simp only [tS]
      refine wpAnyIn_done (by kernel_rfl) ?_ _
      gi_wp2
      refine bodyPost_ret (results_none rfl _ _ _) rfl ?_;exact ⟨⟨_,rfl⟩,.inr ⟨_,⟨q,by rw [<- HA5.out];exact hq1,by rw [hfz'];exact hlt,by rw [<- HA5.out]⟩,HX.out⟩⟩
   ·try simp only [List.getElem_toArray,List.getElem_cons_succ,List.getElem_cons_zero]
    gi_big_op
    refine hK _ _ ?_;clear hK K;refine wpAnyIn_ready (rs:=[1]) (by kernel_rfl) (by simp) (BigFrame.allReadyIn_want rfl rfl (fun K hK => ?_) AllReadyIn.nil)
    try simp only [List.getElem_toArray,List.getElem_cons_succ,List.getElem_cons_zero]
    gi_big_op
    refine hK _ _ ?_;clear hK K;refine wpAnyIn_ready (rs:=[3]) (by kernel_rfl) (by simp) (BigFrame.allReadyIn_want rfl rfl (fun K hK => ?_) AllReadyIn.nil)
    try simp only [List.getElem_toArray,List.getElem_cons_succ,List.getElem_cons_zero]
    refine ⟨fun _ _=>trivial,?_⟩;go_simp;refine (HSq.out wp).mono ?_;rintro e w9 ⟨rfl,h9⟩;obtain rfl:=h9.symm;clear h9;refine hK _ _ ?_;clear hK K;refine wpAnyIn_take (i:=4) (v := .pointer (some ⟨f,6+ds,none⟩)) rfl rfl (by kernel_rfl) (by kernel_rfl) (by kernel_rfl) (fun _ _ _ h=>h) ⟨Or.inl ⟨by rfl,fun W=>rfl⟩,fun W=>rfl⟩ ?_
    try simp only [tS]
    refine wpAnyIn_ready (rs:=[5]) (by kernel_rfl) (by simp) (BigFrame.allReadyIn_want rfl rfl (fun K hK => ?_) AllReadyIn.nil)
    try simp only [List.getElem_toArray,List.getElem_cons_succ,List.getElem_cons_zero]
    gi_big_op
    refine hK _ _ ?_;clear hK K;refine wpAnyIn_ready (rs:=[7]) (by kernel_rfl) (by simp) (BigFrame.allReadyIn_want rfl rfl (fun K hK => ?_) AllReadyIn.nil)
    try simp only [List.getElem_toArray,List.getElem_cons_succ,List.getElem_cons_zero]
    refine ⟨fun _ _=>trivial,?_⟩;go_simp;refine HR.out.mono ?_;clear HR;rintro e W3 (⟨rfl,hJ3,hk3⟩ | ⟨rfl,hJx3⟩)
    ·have HJ3:Hid (J (bC a5 (q+1)) W3):=by rw [cW hq1];exact hJ3
     have HB3:Hid (ac G W W3):=(HB.out.trans (ac.of_below HBp.out:ac G wr wp) (fun i e => .inl e)).trans hk3 (fun i e => .inl e);clear hJ3 hk3;refine hK _ _ ?_;clear hK K;refine wpAnyIn_take (i:=8) (v := .bool false) rfl rfl (by kernel_rfl) (by kernel_rfl) (by kernel_rfl) (fun _ _ _ h=>h) ⟨Or.inl ⟨by rfl,fun W=>rfl⟩,fun W=>rfl⟩ ?_
     try simp only [tS]
     refine wpAnyIn_done (by kernel_rfl) ?_ _
     gi_wp2
     go_roundw
     case rel=>exact ⟨q+1,by omega,.inl (by omega),by go_num,HJ3,HB3⟩
     case measure=>simp [intOf];omega
    ·have HX:=hid hJx3;clear hJx3;refine hK _ _ ?_;clear hK K;refine wpAnyIn_take (i:=8) (v := .bool true) rfl rfl (by kernel_rfl) (by kernel_rfl) (by kernel_rfl) (fun _ _ _ h=>h) ⟨Or.inl ⟨by rfl,fun W=>rfl⟩,fun W=>rfl⟩ ?_
     try simp only [tS]
     refine wpAnyIn_done (by kernel_rfl) ?_ _
     gi_wp2
     refine bodyPost_ret (results_none rfl _ _ _) rfl ?_;exact ⟨⟨_,rfl⟩,.inr ⟨_,⟨q,by rw [<- HA5.out];exact hq1,by rw [hfz'];exact hlt,by rw [<- HA5.out]⟩,HX.out⟩⟩
  ·have hge:¬((q:Int)<(fz:Int)):=by omega
   have hup:bC a5 q=bC (a / 512) fz:=by
    rw [<- HA5.out];rcases hq2 with h | h
    ·rw [show q=fz by omega]
    ·rw [h,dy];unfold bC;rw [show fz-a5=0 by omega];rfl
   have HMin:Hid (min (z:Int) 70656=(z:Int)):=by unfold Hid;omega
   rw [hup] at HJ
   gi_wp2_with (gi_at_call 202;rw [HMin.out];refine HFq.out.mono ?_;rintro e w9 ⟨rfl,h9⟩;obtain rfl:=h9.symm;clear h9)
   go_end0
   rw [<- hfz'] at HJ;exact ⟨⟨_,rfl⟩,.inl ⟨_,rfl,HJ.out⟩⟩
end
section
open Go.RowKit
theorem qR {L:List UInt8} {a z q:Nat} {rest:List Nat} (hL:L.length=512) (hz:z<=4096) (h:ax L a z 4096=q :: rest):ax (flipL L q) a z 4096=rest:=by
 have hq:=bN h;have e1:∀n,bw (flipL L q) a z n=(bw L a z n&&decide (n≠q)):=fun n=>by
  unfold bw;rw [fj L q n (by omega)];by_cases e:n=q
  ·subst e;rw [if_pos rfl,hq.2.2];simp
  ·rw [if_neg e];simp [e]
 have e2:ax (flipL L q) a z 4096=(ax L a z 4096).filter (fun n=>decide (n≠q)):=by
  unfold ax;rw [List.filter_filter];exact List.filter_congr (fun n _=>by rw [e1,Bool.and_comm])
 have hnd:(ax L a z 4096).Nodup:=List.Pairwise.filter _ List.nodup_range;rw [h] at hnd;rw [e2,h,List.filter_cons_of_neg (by simp)];rw [List.filter_eq_self];intro x hx;have hne:x≠q:=fun e=>(List.nodup_cons.1 hnd).1 (e ▸ hx);exact decide_eq_true hne
def tkP (Pg:Nat->List UInt8) (q:Nat):Nat->List UInt8:=bf (bf Pg 2 (flipL (Pg 2) q)) q (zN 512)
def tkD (D:Int->Bool) (q:Nat):Int->Bool:=br (br D 2) q
def jh (Pg:Nat->List UInt8) (ks:List Nat):Nat->List UInt8:=ks.foldl tkP Pg
def pr (D:Int->Bool) (ks:List Nat):Int->Bool:=ks.foldl tkD D
theorem lh (Pg:Nat->List UInt8) (ks:List Nat) (q:Nat):jh Pg (ks ++ [q])=tkP (jh Pg ks) q:=by simp [jh]
theorem vM (D:Int->Bool) (ks:List Nat) (q:Nat):pr D (ks ++ [q])=tkD (pr D ks) q:=by simp [pr]
def Rm (N size:Nat) (D:Int->Bool) (n:Nat):Prop:=(dkD N D).length+n<=min size 100\/N<=min size 100
theorem Rm.le {N size:Nat} {D:Int->Bool} {n n':Nat} (h:Rm N size D n) (hn:n'<=n):Rm N size D n':=by
 rcases h with h | h
 ·left;omega
 ·exact .inr h
theorem kR (N:Nat) (D:Int->Bool):(dkD N D).length<=N:=by
 have h:(dkD N D).length<=((List.range N).map (fun k:Nat=>(k:Int))).length:=List.length_filter_le _ _;simpa using h
theorem Rm.put {N size:Nat} {D:Int->Bool} {n:Nat} (h:Rm N size D (n+1)) (q:Nat):Rm N size (br D q) n:=by
 rcases h with h | h
 ·have:=ka N D q;left;omega
 ·exact .inr h
theorem Rm.use {N size:Nat} {D:Int->Bool} {n:Nat} (h:Rm N size D (n+1)) (q:Nat) (hq:q<N):D q=true\/(dkD N D).length<min size 100:=by
 rcases h with h | h
 ·right;omega
 ·cases hd:D q with
  | true=>exact .inl rfl
  | false=>have h1:=ix N D q hq hd;have h2:=kR N (br D q);right;omega
theorem Rm.two {N size:Nat} {D:Int->Bool} {n:Nat} (h:Rm N size D (n+2)) (p q:Nat) (hp:p<N) (hq:q<N) (hpq:p≠q):(dkD N D).length+((if D p then 0 else 1)+(if D q then 0 else 1))<=min size 100:=by
 have e2:(if D p=true then 0 else 1)<=1:=by split <;> omega
 have e3:(if D q=true then 0 else 1)<=1:=by split <;> omega
 rcases h with h | h
 ·omega
 ·have h3:=kR N (br (br D p) q);have h4:=kR N (br D q);have h5:=kR N (br D p);have h6:=kR N D;cases hd:D p with
  | true =>
   cases hd2:D q with
   | true=>simp;omega
   | false=>have h1:=ix N D q hq hd2;simp;omega
  | false =>
   have h1:=ix N D p hp hd;cases hd2:D q with
   | true=>simp;omega
   | false =>
    have h2:=ix N (br D p) q hq (by unfold br;rw [if_neg (by omega)];exact hd2);simp;omega
theorem Rm.tks {N size:Nat}:∀ {ks:List Nat} {D:Int->Bool} {n:Nat},Rm N size D (n+2*ks.length)->Rm N size (pr D ks) n
 | [],_,_,h=>h
 | q :: ks,D,n,h=>by
  have h1:Rm N size D (n+2*ks.length+1+1):=by simpa [Nat.mul_add,Nat.add_assoc] using h
  exact Rm.tks (ks:=ks) (D:=tkD D q) ((h1.put 2).put q)
def Pe (w:World) (c:Nat) (F:Nat->Prop) (size N:Nat) (Pg Cm:Nat->List UInt8) (o u k:Nat):Prop:=∃D,Rm N size D k/\Pc w c F size N Pg Cm D o u
theorem kD {Pg:Nat->List UInt8} {a z:Nat} (ha:3<=a) (hz:z<=4096) (hL:(Pg 2).length=512):∀(k:Nat),k<=(ax (Pg 2) a z 4096).length->ax (jh Pg ((ax (Pg 2) a z 4096).take k) 2) a z 4096=(ax (Pg 2) a z 4096).drop k/\(jh Pg ((ax (Pg 2) a z 4096).take k) 2).length=512
 | 0,_=>⟨rfl,hL⟩
 | k+1,hk=>by
  obtain ⟨ih1,ih2⟩:=kD ha hz hL k (by omega);have hlt:k<(ax (Pg 2) a z 4096).length:=by omega
  rw [List.drop_eq_getElem_cons hlt] at ih1;have hq:=bN ih1;rw [List.take_add_one,List.getElem?_eq_getElem hlt,Option.toList_some,lh];have e2:tkP (jh Pg ((ax (Pg 2) a z 4096).take k)) (ax (Pg 2) a z 4096)[k] 2=flipL (jh Pg ((ax (Pg 2) a z 4096).take k) 2) (ax (Pg 2) a z 4096)[k]:=by
   unfold tkP bf;rw [if_neg (by omega),if_pos rfl]
  rw [e2];exact ⟨qR ih2 hz ih1,by rw [bO];exact ih2⟩
section
variable {w:World} {m c ino:Nat} {F:Nat->Prop} {size N:Nat} {Pg Cm:Nat->List UInt8} {D:Int->Bool} {o u:Nat}
theorem vE (h:aT w m c ino) (hmF:¬F m) (hi:ino<=512) (hN:3<=N) (k:Nat) (hk:k<(ax (Pg 2) (3+ino / 8) N 4096).length) (hL:(Pg 2).length=512) (hr:Rm N size D (2*k+2)) (hu:u<1000000)
  (hp:Pc w c F size N (jh Pg ((ax (Pg 2) (3+ino / 8) N 4096).take k)) Cm (pr D ((ax (Pg 2) (3+ino / 8) N 4096).take k)) o u) :
  Calls Tryz.prog 198 #[.pointer (some ⟨m,0,none⟩)] w fun e w'=>e = .returned (.tuple #[.int .i64 ((ax (Pg 2) (3+ino / 8) N 4096)[k]:Nat),.int .i64 0])/\ac F w w'/\Pc w' c F size N (jh Pg ((ax (Pg 2) (3+ino / 8) N 4096).take (k+1))) Cm (pr D ((ax (Pg 2) (3+ino / 8) N 4096).take (k+1))) o (u+1):=by
 obtain ⟨h1,-⟩:=kD (Pg:=Pg) (a:=3+ino / 8) (z:=N) (by omega) hp.four hL k (by omega);rw [List.drop_eq_getElem_cons hk] at h1;have hd:Rm N size (pr D ((ax (Pg 2) (3+ino / 8) N 4096).take k)) 2:=Rm.tks (by rw [List.length_take,Nat.min_eq_left (by omega)];exact hr.le (by omega));refine (oW h hmF hi hN hu hp).mono ?_;rintro e w' ⟨hk',hx⟩;rcases hx with ⟨h0,-⟩ | ⟨q,rest,h0,hx⟩
 ·rw [h1] at h0;cases h0
 obtain rfl:(ax (Pg 2) (3+ino / 8) N 4096)[k]=q:=(List.cons.inj (h1.symm.trans h0)).1;rcases hx with ⟨hf,-,-⟩ | ⟨-,rfl,hp'⟩
 ·have hq:=bN h1;have hd2:=hd.two 2 _ (by omega) (by omega:(ax (Pg 2) (3+ino / 8) N 4096)[k]<N) (by omega);exact absurd hd2 (by have e:((2:Nat):Int)=2:=rfl;rw [e];omega)
 ·refine ⟨rfl,hk',?_⟩;rw [List.take_add_one,List.getElem?_eq_getElem hk,Option.toList_some,lh,vM];exact hp'
end
end
section
set_option maxRecDepth 100000
set_option maxHeartbeats 4000000
open Go.RowKit Go.Shelf
attribute [local go_sem] Oper.semAt_some
theorem eK (n:Nat) (hn:2<=n) (fb ab zb f m a z:Nat) (S:bD) (hS:S.slots.length=139) (G:Nat->Prop) (hz:z<=70656) (ha:a<=70656) (w:World) (hfn:¬G fb) (han:¬G ab) (hzn:¬G zb) (hfG:¬G f) (hf:aD w f m S)
  (hfb:w.cell? ⟨fb,0,none⟩=some (.pointer (some ⟨f,0,none⟩))) (hab:w.cell? ⟨ab,0,none⟩=some (.int .i64 a)) (hzb:w.cell? ⟨zb,0,none⟩=some (.int .i64 z)) (M:Nat) (hM:M=fillN z-a / 512) :
  SeqStopsK Fence.wide n Tryz.prog 201 #[.pointer (some ⟨ab,0,none⟩),.pointer (some ⟨zb,0,none⟩),.pointer (some ⟨fb,0,none⟩)] (fun x:Fin M=>lA S.slots a z (a / 512+x.val)) (ac G) (fun ys=>ys.map (fun x=>a / 512+x.val)=bC (a / 512) (fillN z)) (fun pre=>∃q,a / 512<=q/\q<fillN z/\pre.map (fun x=>a / 512+x.val)=bC (a / 512) q ++ [q]) M w:=fun l J Jx W hW hAb _ hY h0=>by
 have hb:ac (fun _=>False) w W:=ac.of_below hW;refine (sb n hn l fb ab zb f m a z S hS G hz ha hfn han hzn hfG (fun pre W=>∃p:List (Fin M),p.map (fun x=>a / 512+x.val)=pre/\J p W) (fun pre W=>∃p:List (Fin M),p.map (fun x=>a / 512+x.val)=pre/\Jx p W)
  (fun pre W1 W2 hJ hb2=>by obtain ⟨p,hp,hJ⟩:=hJ;exact ⟨p,hp,hAb p W1 W2 none hJ (mX hb2 none) (fun r e=>by cases e)⟩)
  (fun pre x W1 hx1 hx2 hJ hl => ?_) W (hf.keep hb (fun h=>h)) (hb.cell hfb (fun h=>h)) (hb.cell hab (fun h=>h)) (hb.cell hzb (fun h=>h)) ⟨[],rfl,h0⟩).mono ?_
 ·obtain ⟨p,rfl,hJ⟩:=hJ;obtain ⟨k,rfl⟩:∃k,x=a / 512+k:=⟨x-a / 512,by omega⟩;obtain ⟨fn,tmps,assign,body,hy,hR⟩:=hY p ⟨k,by omega⟩ W1 hJ (by rw [List.length_map] at hl;omega);refine ⟨fn,tmps,assign,body,hy,hR.mono ?_⟩;rintro e W' (⟨rfl,h1,h2⟩ | ⟨rfl,h1⟩)
  ·exact .inl ⟨rfl,⟨_,by rw [List.map_append];rfl,h1⟩,h2⟩
  ·exact .inr ⟨rfl,⟨_,by rw [List.map_append];rfl,h1⟩⟩
 ·rintro e W' ⟨he,⟨ys,rfl,p,hp,hj⟩ | ⟨pre,⟨q,hq1,hq2,rfl⟩,p,hp,hj⟩⟩
  ·exact ⟨he,.inl ⟨p,hp,hj⟩⟩
  ·exact ⟨he,.inr ⟨p,⟨q,hq1,hq2,hp⟩,hj⟩⟩
theorem iI {w:World} {tmps:Array Value} {b:Nat} {x:Value} (h1:tmps.getD 2 undef = .pointer (some ⟨b,0,none⟩)) (r:w.heap[b]? = some (.cells #[x] 31 (0,0))) :
  (results Tryz.f195 tmps).run Tryz.prog w = .ok x w:=by
 have c1:w.cell? ⟨b,0,none⟩=some x:=aa r 0;have h1':tmps[2]?.getD undef = .pointer (some ⟨b,0,none⟩):=by simpa using h1
 simp only [results,Tryz.results195];simp [go_sem,h1',asAddr,c1]
theorem rY {w:World} {f m:Nat} {S:bD} (hf:aD w f m S) (hS:S.slots.length=139) (hs:S.size<=70656) (h5:S.size%512=0):Calls Tryz.prog 195 #[.pointer (some ⟨f,0,none⟩)] w fun e w'=>e = .returned (.int .i64 0)/\Below w.heap.size w w':=by
 refine (callsIn_wide (n:=8)).1 ?_;obtain ⟨wA,hA⟩:∃wA,wA=(w.alloc (.cells #[.pointer (some ⟨f,0,none⟩)] 157)).alloc (.cells #[.int .i64 0] 31):=⟨_,rfl⟩;have hAB:Below w.heap.size w wA:=by rw [hA];exact ((Below.refl _ w).alloc (Nat.le_refl _) _).alloc (by simp) _
 have hA0:wA.heap[w.heap.size]? = some (.cells #[.pointer (some ⟨f,0,none⟩)] 157 (0,0)):=by rw [hA];exact aj (af w _) _
 have hA1:wA.heap[w.heap.size+1]? = some (.cells #[.int .i64 0] 31 (0,0)):=by
  have h1:=af (w.alloc (.cells #[.pointer (some ⟨f,0,none⟩)] 157)) (.cells #[.int .i64 0] 31);rw [World.size_alloc] at h1;rw [hA];exact h1
 have hAs:wA.heap.size=w.heap.size+2:=by rw [hA];simp
 have hfA:=hf.below hAB;obtain ⟨-,-,-,-,-,c5⟩:=hfA.head;have c0:wA.cell? ⟨w.heap.size,0,none⟩=some (.pointer (some ⟨f,0,none⟩)):=aa hA0 0;have HF:=hid hfA;have HFi:=hid (fun W=>fO S.size (by omega) W);have HFe:Hid (((fillN S.size:Nat):Int)*512=(S.size:Int)):=by unfold Hid fillN;omega
 have HFu:Hid (fillN S.size=S.size / 512):=by unfold Hid fillN;omega
 have hfb:((fillN S.size:Nat):Int)<=200:=by unfold fillN;omega
 have HA1:=hid hA1;have HA0:=hid hA0;have HAB:=hid hAB;have HAs:=hid hAs;have HS:=hid hS;have hfl:f<w.heap.size:=hf.lt;rw [hA] at c5 c0;clear hf hfA hA0 hA1 hAB hAs hS;refine callsIn_of_wp_marks Tryz.func195 rfl trivial ?_ rfl;simp only [Tryz.ntmps195,List.size_toArray,List.length_cons,List.length_nil,Nat.reduceAdd,Nat.reduceSub,Array.replicate_succ,Array.replicate_zero,List.push_toArray,List.append_toArray,List.nil_append,List.cons_append];have hf1:Fence.wide.fn 202:=trivial;have hf2:Fence.wide.fn 146:=trivial;obtain ⟨z,hz⟩:∃z,z=S.size:=⟨_,rfl⟩;obtain ⟨fz,hfz⟩:∃fz,fz=fillN S.size:=⟨_,rfl⟩;rw [<- hz] at c5;have HZ:=hid hz;have HFz:=hid hfz;rw [<- hfz, <- hz] at HFe;rw [<- hfz] at hfb;clear hz hfz
 gi_wp2
 rw [<- hA] at c0 c5 ⊢;clear hA;have hbd:Below wA.heap.size wA wA.drew:=(Below.refl _ wA).drew;have d0:=(hbd.cell (World.block_lt_of_cell? wA _ c0)).trans c0;have HBd:=hid hbd;have hfi:=HFi.out wA.drew;rw [<- HFz.out, <- HZ.out] at hfi;have HFi2:=hid hfi;have HPa:=hid (gM f z z wA.drew);have hmul:IntKind.i64.wrap ((fz:Int)*512)=(z:Int):=by rw [IntWalk.i64_in _ (by omega)];exact HFe.out
 clear HFi hfi hbd c5;refine wpIn_wide.2 ?_;refine wp_region_noPanic ?_;refine wp_region_held_drew (S:=fun W=>W.cell? ⟨w.heap.size,0,none⟩=some (.pointer (some ⟨f,0,none⟩))) (by kernel_rfl) c0 (fun hHeld => ?_);generalize wA.drew=wd at *;refine tq 0 _ ?_
 try simp only [tS]
 refine tq 1 _ ?_
 try simp only [tS]
 refine tq 2 _ ?_
 try simp only [tS]
 refine tr 3 (fun K hK => ?_);go_simp;refine HFi2.out.mono ?_;clear HFi2;rintro e w1 ⟨rfl,h1⟩;obtain rfl:=h1.symm;clear h1
 go_wp2_with fail
 refine hK.out _ _ d0 (fun hHeld => ?_);clear hK K
 try simp only [tS]
 refine tq 4 (.int .i64 (z:Int)) ?_
 try simp only [tS]
 refine tr 5 (fun K hK => ?_);go_simp;refine HPa.out.mono ?_;clear HPa;rintro e wD ⟨rfl,hD⟩;have hDB:Below wd.heap.size wd wD:=by rw [hD];exact (((Below.refl _ wd).alloc (Nat.le_refl _) _).alloc (by simp) _).alloc (by simp;omega) _
 have hsD:wD.heap.size=wd.heap.size+3:=by rw [hD];simp
 have x0:wD.cell? ⟨wd.heap.size,0,none⟩=some (.pointer (some ⟨f,0,none⟩)):=by rw [hD];exact aa (aj (aj (af wd _) _) _) 0
 have x1:wD.cell? ⟨wd.heap.size+1,0,none⟩=some (.int .i64 z):=by
  have h1:=af (wd.alloc (.cells #[.pointer (some ⟨f,0,none⟩)] 157)) (.cells #[.int .i64 z] 3);rw [World.size_alloc] at h1;rw [hD];exact aa (aj h1 _) 0
 have x2:wD.cell? ⟨wd.heap.size+1+1,0,none⟩=some (.int .i64 z):=by
  have h1:=af ((wd.alloc (.cells #[.pointer (some ⟨f,0,none⟩)] 157)).alloc (.cells #[.int .i64 z] 3)) (.cells #[.int .i64 z] 3);rw [World.size_alloc,World.size_alloc] at h1;rw [hD];exact aa h1 0
 have dD:wD.cell? ⟨w.heap.size,0,none⟩=some (.pointer (some ⟨f,0,none⟩)):=(hDB.cell (World.block_lt_of_cell? wd _ d0)).trans d0;have hBD:=HBd.out.trans (hDB.mono HBd.out.size);have HBD:=hid hBD;have HFD:=hid (HF.out.below hBD);have HRD:=hid (ah hBD HA1.out (ae HA1.out));have HX0:=hid x0;have HX1:=hid x1;have HX2:=hid x2;have HsD:=hid hsD;have hsd:=HBd.out.size;clear hD hDB hsD x0 x1 x2 hBD HF HA1
 go_wp2_with fail
 refine hK.out _ _ dD (fun hHeld => ?_);clear hK K
 try simp only [tS]
 refine wpAnyH_done (by kernel_rfl) ?_ _;refine NoPanic.normal ?_;clear hHeld dD d0 c0
 gi_wp2
 have hs9:=HsD.out;have HSt:=hid (eK 7 (by omega) wd.heap.size (wd.heap.size+1) (wd.heap.size+1+1) f m z z S HS.out (fun i=>wD.heap.size<=i) (by rw [HZ.out];exact hs) (by rw [HZ.out];exact hs) wD (by omega) (by omega) (by omega) (by have:=HAs.out;omega) HFD.out HX0.out HX1.out HX2.out (fillN z-z / 512) rfl);have hN0:fillN z-z / 512=0:=by rw [HZ.out,HFu.out];omega
 have HN0:=hid hN0;clear hN0;refine wpIn_rangeFunc_ownH rfl (by omega) (gf:=201) (lb:=#[.pointer (some ⟨wd.heap.size+1,0,none⟩),.pointer (some ⟨wd.heap.size+1+1,0,none⟩),.pointer (some ⟨wd.heap.size,0,none⟩)]) rfl trivial (enters_of Tryz.func201 (by kernel_rfl) rfl)
  HSt.out (fun h k=>dF h k) (dI (fun i h=>h)) (Below.refl _ _) (fun _=>rfl)
  (fun pre W=>pre=[]/\Hid (Below wD.heap.size wD W))
  (fun _ _ _=>False)
  (fun s A B row hs hgr hr=>⟨hs.1,hs.2.out.grown hgr hs.2.out.size (fun k e=>(hr k e).1)⟩)
  (fun cd s A B row hs hgr hr=>hs)
  ⟨rfl,Below.refl _ _⟩
  (fun _ _ _=>True) (fun _ _ _ _ _ _ hs _ _=>hs) ?assign ?body ?done ?stop
 case assign =>
  rintro l pre x W K ⟨rfl,hB⟩ hK;have HK:=hid hK;have HB:=hid hB;clear hK hB;unfold lA;obtain ⟨a1,ha1⟩:∃a1:Int,a1=((S.slots.getD (aC (z / 512+x.val)) 0:Nat):Int):=⟨_,rfl⟩;obtain ⟨a2,ha2⟩:∃a2:Int,a2=((z-(z / 512+x.val)*512:Nat):Int):=⟨_,rfl⟩;obtain ⟨a3,ha3⟩:∃a3:Int,a3=((min (z-(z / 512+x.val)*512) 512:Nat):Int):=⟨_,rfl⟩;rw [<- ha1, <- ha2, <- ha3];clear ha1 ha2 ha3
  gi_wp2
  refine HK.out _ _ ⟨by simp,fun i ob hi ho _=>aj ho _⟩ (ac.of_below ((Below.refl _ W).alloc (Nat.le_refl _) _)) ⟨trivial,HB.out.out.alloc HB.out.out.size _⟩ trivial
 case body =>
  intro l pre x a' W h1 h2 h3 h4 hlt;exact absurd hlt (by have:=HN0.out;omega)
 case done =>
  rintro D ys W hD hys ⟨rfl,hB⟩ hK;have v1:=ah hB.out HRD.out (ae HRD.out);have e1:W.cell? ⟨w.heap.size+1,0,none⟩=some (.int .i64 0):=aa v1 0;have f1:W.frozen? ⟨w.heap.size+1,0,none⟩=false:=ai v1 0;have HV1:=hid v1;have HKD:=hid hK;have HB:=hid hB;clear hys v1 hK hB
  gi_wp2
  have hwl:=HAs.out;have hwd:=HBD.out.size;have hBW:Below w.heap.size w W:=(HAB.out.trans (HBD.out.mono HAB.out.size)).trans (HB.out.out.mono (by omega));have hK9:(W.setCell ⟨w.heap.size+1,0,none⟩ (.int .i64 0)).heap[D]? = some (.deferred (some [])):=(al _ _ (by omega)).trans HKD.out;have hg9:=grownBy_putObj' (W.setCell ⟨w.heap.size+1,0,none⟩ (.int .i64 0)) D (.deferred none);have hB2:=hBW.setCell (show w.heap.size<=Addr.block ⟨w.heap.size+1,0,none⟩ from Nat.le_succ _) (.int .i64 0);refine ⟨by simp,.inl ⟨_,_,rfl,run_takeDeferred hK9,?_⟩⟩;refine ⟨_,iI rfl (aw hg9 (ap HV1.out 0 _) (fun e=>by cases e;omega)),?_⟩;exact ⟨rfl,hB2.trans ((ac.of_grown hg9 (F:=fun i=>some D=some i) (fun i e=>e)).below hB2.size (fun i e=>by cases e;omega))⟩
 case stop =>
  intro D c pre W hD hpre hx;exact hx.elim
end
section
open Go.RowKit Go.Maps
def q9 (w:World) (b:Nat):Prop:=∃o:Obj,w.heap[b]? = some o/\o.isCells=false
theorem q9.cells {w:World} {b:Nat} {cs:Array Value} {t:TypeId} {fr:Nat×Nat} (h:q9 w b):w.heap[b]? ≠ some (.cells cs t fr):=fun hm=>by
 obtain ⟨o,h1,h2⟩:=h;rw [hm] at h1;obtain rfl:=Option.some.inj h1;cases h2
theorem q9.not {w:World} {b:Nat} {ad:Addr} {v:Value} (h:q9 w b) (hc:w.cell? ad=some v):ad.block≠b:=fun e=>by
 obtain ⟨o,h1,h2⟩:=h;have hp:=ef hc;rw [hp,e] at hc;cases o with
 | cells cs t fr=>cases h2
 | _=>simp [World.cell?,h1] at hc
theorem bq.keepO {w w':World} {d:DL} {S:aq} {F:Nat->Prop} {b:Nat} (h:bq w d S F) (hb:q9 w b) (hF:¬F b) (k:ac (fun i=>i=b) w w'):bq w' d S F:=by
 rcases h with ⟨h,hf⟩ | ⟨h,hf⟩
 ·refine .inl ⟨?_,hf⟩;have hne:∀i,d.cutFoot S.waits i->¬i=b:=fun i hi e=>hF (e ▸ hf i hi);obtain ⟨h1,⟨a,e1,e2,e3⟩,⟨ad,c,e4,e5,e6⟩,h4⟩:=h;refine ⟨h1.keep k (hne _ (.inl rfl)) (fun i hi=>hne i (.inr hi)),⟨a,e1,e2,fun q hq=>⟨fun j u hu => ?_,Nat.lt_of_lt_of_le (e3 q hq).2 k.size⟩⟩,⟨ad,c,e4,fun j s hj => ?_,e6⟩,h4⟩
  ·exact k.cell ((e3 q hq).1 j u hu) (hb.not ((e3 q hq).1 j u hu))
  ·exact k.cell (e5 j s hj) (hb.not (e5 j s hj))
 ·refine .inr ⟨?_,hf⟩;have hne:∀i,d.foot S.waits i->¬i=b:=fun i hi e=>hF (e ▸ hf i hi);refine h.keep k hne (fun i hi e => ?_);obtain ⟨ad,c,e4,e5,e6⟩:=h.first;have hpos:0<S.first.length:=by rw [h.flen];exact h.plates.pos
  have hc:=e5 0 S.first[0] (List.getElem?_eq_getElem hpos);have h1:=hb.not hc;rw [aJ] at h1;rw [e4] at hi;exact h1 ((Option.some.inj hi).trans e)
theorem bH.keepO {w w':World} {p:Nat} {d:DL} {S:aq} {size rec:Nat} {F:Nat->Prop} {b:Nat} (h:bH w p d S size rec F) (hb:q9 w b) (hF:¬F b) (k:ac (fun i=>i=b) w w'):bH w' p d S size rec F:=by
 refine ⟨k.heap h.heap (fun e => ?_),h.disk.keepO hb hF k,h.off⟩;have e2:p=b:=e;exact hb.cells (e2 ▸ h.heap)
theorem av.keepO {w w':World} {c:Nat} {L:bM} {C:CS} (h:av w c L C) {b:Nat} (hg:q9 w b) (hFt:¬L.foot c b) (k:ac (fun i=>i=b) w w'):av w' c L C:=by
 have hF:¬L.F b:=fun hf=>hFt (.inl hf);exact {
  heap:=k.heap h.heap (fun e=>by
   have e1:c=b:=e;exact hg.cells (e1 ▸ h.heap))
  log:=h.log.keepO hg hF k
  lt:=fun i hi=>Nat.lt_of_lt_of_le (h.lt i hi) k.size
  dirty:=h.dirty.keep k (fun e=>hFt (.inr (.inr (.inl e.symm))))
  bytes:=fun n v hv=>by
   obtain ⟨g',cap,bs,h1,h2,h3,h4,h5⟩:=h.bytes n v hv;subst h2;refine ⟨g',cap,bs,h1,rfl,fun j hj=>k.cell (h3 j hj) (hg.not (h3 j hj)),h4,h5⟩
  clean:=h.clean
  used:=h.used.keep k (fun e=>hFt (.inr (.inr (.inr e.symm))))
  offc:=h.offc
  offd:=h.offd
  offu:=h.offu
  ne:=h.ne
  pages:=h.pages
  fits:=h.fits
  few:=h.few
  ub:=h.ub }
section
variable {w w':World} {c:Nat} {F:Nat->Prop} {size N:Nat} {Pg Cm:Nat->List UInt8} {D:Int->Bool} {o u:Nat}
theorem Pc.keepO (h:Pc w c F size N Pg Cm D o u) {b:Nat} (hg:q9 w b) (hF:¬F b) (k:ac (fun i=>i=b) w w'):Pc w' c F size N Pg Cm D o u:=by
 obtain ⟨L,C,h⟩:=h;exact ⟨L,C,h.at_.keepO hg (fun hf=>hF (h.foot _ hf)) k,h.sz,h.nn,h.made,h.ops,h.uses,h.pg,h.cm,h.dirty,h.room,h.foot,fun i hi=>Nat.lt_of_lt_of_le (h.lt i hi) k.size,Nat.lt_of_lt_of_le h.p0 k.size,h.sep.mono k.size,h.quiet⟩
end
end
section
set_option maxRecDepth 100000
set_option maxHeartbeats 4000000
open Go.RowKit Go.Shelf
attribute [local go_sem] Oper.semAt_some
def ol (sl ps ks:List Nat):List Nat:=(ps.zip ks).foldl (fun s x=>s.set x.1 x.2) sl
theorem ow (sl ps ks:List Nat) (p k:Nat) (h:ps.length=ks.length):ol sl (ps ++ [p]) (ks ++ [k])=(ol sl ps ks).set p k:=by
 unfold ol;rw [List.zip_append h];simp
theorem iL:∀(l:List (Nat×Nat)) (sl:List Nat),(l.foldl (fun s x=>s.set x.1 x.2) sl).length=sl.length
 | [],_=>rfl
 | x :: l,sl=>by
  show (l.foldl (fun s x=>s.set x.1 x.2) (sl.set x.1 x.2)).length=sl.length;rw [iL l,List.length_set]
theorem qD (sl ps ks:List Nat):(ol sl ps ks).length=sl.length:=iL _ _
theorem aD.off {w:World} {f m:Nat} {S:bD} (h:aD w f m S):fW w f:=by
 refine ⟨_,_,_,h,by decide,fun v hv => ?_⟩;have hv':v∈S.cells m:=by simpa using hv
 unfold bD.cells at hv';simp only [List.cons_append,List.nil_append,List.mem_cons,List.mem_map] at hv';rcases hv' with rfl | rfl | rfl | rfl | rfl | rfl | ⟨p,_,rfl⟩
 ·exact .inr (.inr (.inr (.inl ⟨_,rfl⟩)))
 all_goals exact .inl ⟨_,rfl⟩
theorem Pc.own {W W':World} {c:Nat} {F:Nat->Prop} {size N:Nat} {Pg Cm:Nat->List UInt8} {D:Int->Bool} {o u B:Nat} {row:Option Nat} (h:Pc W c F size N Pg Cm D o u) (hF:∀i,F i->i<B) (hgr:W.grownBy W' row) (hr:∀r,row=some r->B<=r/\∃o:Obj,W.heap[r]? = some o/\o.isCells=false):Pc W' c F size N Pg Cm D o u:=by
 cases row with
 | none=>exact h.below ⟨hgr.os,hgr.tape,hgr.output,hgr.size,fun k hk=>hgr.block k hk (by simp)⟩
 | some r =>
  obtain ⟨hB,ob,h1,h2⟩:=hr r rfl;exact h.keepO ⟨ob,h1,h2⟩ (fun hf=>by have:=hF r hf;omega) (ac.of_grown hgr (fun i e=>(Option.some.inj e).symm))
theorem bS {a b:Nat} (h:a<=b) (hb:b<=70656):au a<=au b:=by
 unfold au fillN;have h1:¬70656<a:=by omega
 have h2:¬70656<b:=by omega
 simp only [h1,h2,if_false]
 split <;> split <;> omega
theorem oV (a:Nat):needZ (a:Int)=au a:=by
 unfold needZ;rw [if_neg (by omega),Int.toNat_natCast]
theorem kh (a:Nat):au a<=139:=by
 unfold au fillN
 split
 ·omega
 ·split <;> omega
theorem fU {w:World} {tmps:Array Value} {b:Nat} {x:Value} (h1:tmps.getD 4 undef = .pointer (some ⟨b,0,none⟩)) (r:w.heap[b]? = some (.cells #[x] 31 (0,0))) :
  (results Tryz.f145 tmps).run Tryz.prog w = .ok x w:=by
 have c1:w.cell? ⟨b,0,none⟩=some x:=aa r 0;have h1':tmps[4]?.getD undef = .pointer (some ⟨b,0,none⟩):=by simpa using h1
 simp only [results,Tryz.results145];simp [go_sem,h1',asAddr,c1]
theorem eW {w:World} {b:Nat} {n:Int} {fr:Nat×Nat} (h:w.heap[b]? = some (.cells #[.int .i64 n] 31 fr)):fW w b :=
 ⟨_,_,_,h,by decide,fun v hv => .inl ⟨n,by simpa using hv⟩⟩
section
variable {w:World} {m c ino:Nat} {F:Nat->Prop} {size N:Nat} {Pg Cm:Nat->List UInt8} {D:Int->Bool} {o u:Nat}
theorem uV (h:aT w m c ino) (hmF:¬F m) (hi:ino<=512) (hN:3<=N) (hL:(Pg 2).length=512) (hu:u<1000000)
  (hp:Pc w c F size N (jh Pg ((ax (Pg 2) (3+ino / 8) N 4096).take (ax (Pg 2) (3+ino / 8) N 4096).length)) Cm D o u) :
  Calls Tryz.prog 198 #[.pointer (some ⟨m,0,none⟩)] w fun e w'=>e = .returned (.tuple #[.int .i64 0,.int .i64 7])/\ac F w w'/\∃Pg' D',Pc w' c F size N Pg' Cm D' o (u+1):=by
 obtain ⟨h1,-⟩:=kD (Pg:=Pg) (a:=3+ino / 8) (z:=N) (by omega) hp.four hL _ (Nat.le_refl _);rw [List.drop_length] at h1;refine (oW h hmF hi hN hu hp).mono ?_;rintro e w' ⟨hk',hx⟩;rcases hx with ⟨-,rfl,hp'⟩ | ⟨q,rest,h0,-⟩
 ·exact ⟨rfl,hk',_,_,hp'⟩
 ·rw [h1] at h0;cases h0
end
structure uw (w wD:World) (c:Nat) (F:Nat->Prop) (size N:Nat) (Cm:Nat->List UInt8) (o u f:Nat) (W:World):Prop where
 r1:W.heap[w.heap.size+1]? = some (.cells #[.int .i64 7] 31 (0,0))
 pc:∃Pg' D',Pc W c F size N Pg' Cm D' o u
 keep:ac (fun i=>F i\/i=f\/i=w.heap.size+1) wD W
theorem uw.own {w wD A B:World} {c:Nat} {F:Nat->Prop} {size N:Nat} {Cm:Nat->List UInt8} {o u f:Nat} {row:Option Nat} (h:uw w wD c F size N Cm o u f A) (hF:∀i,F i->i<wD.heap.size) (h1:w.heap.size+1<wD.heap.size) (hgr:A.grownBy B row) (hr:∀r,row=some r->wD.heap.size<=r/\∃o:Obj,A.heap[r]? = some o/\o.isCells=false):uw w wD c F size N Cm o u f B:=by
 obtain ⟨Pg',D',hp⟩:=h.pc;exact ⟨aw hgr h.r1 (fun e=>by have:=(hr _ e).1;omega),⟨Pg',D',hp.own hF hgr hr⟩,h.keep.trans (ac.of_grown hgr (F:=fun i=>row=some i) (fun i e=>e)) (fun i e => .inr (hr i e).1)⟩
theorem xF {w:World} {f m c ino:Nat} {F:Nat->Prop} {size N:Nat} {Pg Cm:Nat->List UInt8} {o u k:Nat} {S:bD} (h:aT w m c ino) (hmF:¬F m) (hi:ino<=512) (hN:3<=N) (hf:aD w f m S) (hfF:¬F f) (hS:S.slots.length=139) (hFl:∀i,F i->i<w.heap.size) (s:Nat) (hs:s<=70656) (hss:S.size<s) (hL:(Pg 2).length=512) (hu:u<900000)
  (hcl:∀W,Below w.heap.size w W->Calls Tryz.prog 195 #[.pointer (some ⟨f,0,none⟩)] W fun e w'=>e = .returned (.int .i64 0)/\ac F W w'/\Pe w' c F size N Pg Cm o u (k+2*(au s-au S.size))) :
  Calls Tryz.prog 145 #[.pointer (some ⟨f,0,none⟩),.int .i64 s] w fun e w'=>ac (fun i=>F i\/i=f) w w' /\
   ((au s-au S.size<=(ax (Pg 2) (3+ino / 8) N 4096).length/\e = .returned (.int .i64 0)/\aD w' f m ⟨S.num,S.kind,S.mode,S.links,s,ol S.slots (bC (au S.size) (au s)) ((ax (Pg 2) (3+ino / 8) N 4096).take (au s-au S.size))⟩ /\
    Pe w' c F size N (jh Pg ((ax (Pg 2) (3+ino / 8) N 4096).take (au s-au S.size))) Cm o (u+(au s-au S.size)) k) \/
   ((ax (Pg 2) (3+ino / 8) N 4096).length<au s-au S.size/\e = .returned (.int .i64 7)/\∃Pg' D',Pc w' c F size N Pg' Cm D' o (u+(au s-au S.size)))):=by
 refine (callsIn_wide (n:=8)).1 ?_;obtain ⟨wA,hA⟩:∃wA,wA=(w.alloc (.cells #[.pointer (some ⟨f,0,none⟩)] 157)).alloc (.cells #[.int .i64 0] 31):=⟨_,rfl⟩;have hAB:Below w.heap.size w wA:=by rw [hA];exact ((Below.refl _ w).alloc (Nat.le_refl _) _).alloc (by simp) _
 have hA0:wA.heap[w.heap.size]? = some (.cells #[.pointer (some ⟨f,0,none⟩)] 157 (0,0)):=by rw [hA];exact aj (af w _) _
 have hA1:wA.heap[w.heap.size+1]? = some (.cells #[.int .i64 0] 31 (0,0)):=by
  have h1:=af (w.alloc (.cells #[.pointer (some ⟨f,0,none⟩)] 157)) (.cells #[.int .i64 0] 31);rw [World.size_alloc] at h1;rw [hA];exact h1
 have hAs:wA.heap.size=w.heap.size+2:=by rw [hA];simp
 have hfA:=hf.below hAB;obtain ⟨-,-,-,-,-,c5⟩:=hfA.head;have c0:wA.cell? ⟨w.heap.size,0,none⟩=some (.pointer (some ⟨f,0,none⟩)):=aa hA0 0;have HCl:=hid (hcl wA hAB);have HF:=hid hfA;have HMp:=hid (h.below hAB);have HL:=hid hL;have HFl:=hid hFl;have HA1:=hid hA1;have HA0:=hid hA0;have HAB:=hid hAB;have HAs:=hid hAs;have HS:=hid hS;have hfl:f<w.heap.size:=hf.lt;rw [hA] at c5 c0;obtain ⟨z,hz⟩:∃z,z=S.size:=⟨_,rfl⟩;rw [<- hz] at c5 hss;have HZ:=hid hz;have hss':(z:Int)<(s:Int):=by omega
 clear hf hfA hA0 hA1 hAB hAs hS h hcl hL hFl hz;refine callsIn_of_wp_marks Tryz.func145 rfl trivial ?_ rfl;simp only [Tryz.ntmps145,List.size_toArray,List.length_cons,List.length_nil,Nat.reduceAdd,Nat.reduceSub,Array.replicate_succ,Array.replicate_zero,List.push_toArray,List.append_toArray,List.nil_append,List.cons_append];have hf1:Fence.wide.fn 195:=trivial;have hf2:Fence.wide.fn 197:=trivial;have hf3:Fence.wide.fn 199:=trivial;have hf4:Fence.wide.fn 196:=trivial;have hf5:Fence.wide.fn 198:=trivial
 gi_wp2
 rw [<- hA] at c0 c5 ⊢;clear hA;refine (callsIn_wide.2 HCl.out).mono ?_;clear HCl;rintro e w1 ⟨rfl,hk1,D,hr,hp1⟩;have d0:=hk1.cell c0 (fun hh=>Nat.lt_irrefl _ (HFl.out _ hh));have d5:=hk1.cell c5 hfF;have HK1:=hid hk1;have HP1:=hid hp1;have HRm:=hid hr;clear hk1 hp1 hr c0 c5
 gi_wp2
 have hn1:=gr (z:Int) w1;have hn2:=gr (s:Int) w1;rw [oV] at hn1 hn2;have hmo:au z<=au s:=bS (by omega) hs;have h139:=kh s;have hr:=HRm.out;rw [<- HZ.out] at hr;clear HRm;obtain ⟨hv,hhv⟩:∃hv,hv=au z:=⟨_,rfl⟩;obtain ⟨nd,hnd⟩:∃nd,nd=au s:=⟨_,rfl⟩;rw [<- hhv] at hn1 hmo hr;rw [<- hnd] at hn2 hmo h139 hr;have HHv:=hid hhv;have HNd:=hid hnd;have HN1:=hid hn1;have HN2:=hid hn2;clear hn1 hn2 hhv hnd;refine (callsIn_wide.2 HN1.out).mono ?_;clear HN1;rintro e w2 ⟨rfl,h2⟩;obtain rfl:=h2.symm;clear h2
 gi_wp2
 refine (callsIn_wide.2 HN2.out).mono ?_;clear HN2;rintro e w2 ⟨rfl,h2⟩;obtain rfl:=h2.symm;clear h2
 gi_wp2
 refine (callsIn_wide.2 (lB f hv nd w1)).mono ?_;rintro e wD ⟨rfl,hD⟩;have hDB:Below w1.heap.size w1 wD:=by rw [hD];exact (((Below.refl _ w1).alloc (Nat.le_refl _) _).alloc (by simp) _).alloc (by simp;omega) _
 have hsD:wD.heap.size=w1.heap.size+3:=by rw [hD];simp
 have x0:wD.cell? ⟨w1.heap.size,0,none⟩=some (.pointer (some ⟨f,0,none⟩)):=by rw [hD];exact aa (aj (aj (af w1 _) _) _) 0
 have x1:wD.cell? ⟨w1.heap.size+1,0,none⟩=some (.int .i64 hv):=by
  have h1:=af (w1.alloc (.cells #[.pointer (some ⟨f,0,none⟩)] 157)) (.cells #[.int .i64 hv] 3);rw [World.size_alloc] at h1;rw [hD];exact aa (aj h1 _) 0
 have x2:wD.cell? ⟨w1.heap.size+1+1,0,none⟩=some (.int .i64 nd):=by
  have h1:=af ((w1.alloc (.cells #[.pointer (some ⟨f,0,none⟩)] 157)).alloc (.cells #[.int .i64 hv] 3)) (.cells #[.int .i64 nd] 3);rw [World.size_alloc,World.size_alloc] at h1;rw [hD];exact aa h1 0
 have hw1:=HK1.out.size;have hwA:=HAs.out;have hnw:∀i,w.heap.size<=i->¬F i:=fun i hi hh=>by have:=HFl.out i hh;omega
 have HBD:Hid (ac (fun i=>F i\/i=f) wA wD):=(HK1.out.mono (fun i e => .inl e)).trans (ac.of_below hDB:ac (fun _=>False) w1 wD) (fun i e=>e.elim);have HFD:=hid ((HF.out.keep HK1.out hfF).below hDB);have HMD:=hid ((HMp.out.keep HK1.out hmF).below hDB);have HPD:=hid (HP1.out.below hDB);have v1:=HK1.out.heap HA1.out (hnw _ (by omega));have v0:=HK1.out.heap HA0.out (hnw _ (Nat.le_refl _));have HR1:=hid (ah hDB v1 (ae v1));have HR0:=hid (ah hDB v0 (ae v0));have HsD:=hid hsD;have HSt:=hid (jw 7 (by omega) w1.heap.size (w1.heap.size+1) (w1.heap.size+1+1) f hv nd (fun i=>F i\/i=f\/wD.heap.size<=i) h139 wD (fun hh=>by rcases hh with hh | hh | hh;(have:=HFl.out _ hh;omega);omega;omega) (fun hh=>by rcases hh with hh | hh | hh;(have:=HFl.out _ hh;omega);omega;omega) x0 x1 x2);clear hD hDB hsD x0 x1 x2 HF HMp HP1 HA1 HA0 d0 d5 v0 v1 hnw
 gi_wp2
 generalize hfr:ax (Pg 2) (3+ino / 8) N 4096=fr at *;have HFr:=hid hfr;have hsd:=HsD.out;refine wpIn_rangeFunc_ownG rfl (by omega) (gf:=233) (lb:=#[.pointer (some ⟨w1.heap.size+1,0,none⟩),.pointer (some ⟨w1.heap.size+1+1,0,none⟩),.pointer (some ⟨w1.heap.size,0,none⟩)]) rfl trivial (enters_of Tryz.func233 (by kernel_rfl) rfl)
  HSt.out dF (dI (fun i h => .inr (.inr h))) (Below.refl _ _) (fun _=>rfl)
  (fun pre W=>Hid (pre.length<=fr.length)/\Hid (aD W f m ⟨S.num,S.kind,S.mode,S.links,S.size,ol S.slots (pre.map Fin.val) (fr.take pre.length)⟩)/\Hid (Pc W c F size N (jh Pg (fr.take pre.length)) Cm (pr D (fr.take pre.length)) o (u+pre.length))/\Hid (ac (fun i=>F i\/i=f) wD W))
  (fun cd pre W=>cd = .ret/\Hid (uw w wD c F size N Cm o (u+(nd-hv)) f W)/\fr.length<nd-hv)
  (fun s A B row hs hgr hr=>⟨hs.1,aw hgr hs.2.1.out (fun e=>by have:=(hr _ e).1;omega),hs.2.2.1.out.own (B:=wD.heap.size) (fun i hi=>by have:=HFl.out i hi;omega) hgr hr,hs.2.2.2.out.trans (ac.of_grown hgr (F:=fun i=>row=some i) (fun i e=>e)) (fun i e => .inr (by have:=(hr i e).1;exact this))⟩)
  (fun cd s A B row hs hgr hr=>⟨hs.1,hs.2.1.out.own (fun i hi=>by have:=HFl.out i hi;omega) (by omega) hgr hr,hs.2.2⟩)
  ⟨Nat.zero_le _,HFD,HPD,ac.refl _ _⟩
  (fun x:Fin 139=>{ tmps:=#[.pointer (some ⟨f,0,none⟩),.int .i64 s,.pointer (some ⟨w.heap.size,0,none⟩),undef,.pointer (some ⟨w.heap.size+1,0,none⟩),.int .i64 0,.int .i64 hv,.int .i64 nd,.pointer (some ⟨f,6+x.val,none⟩),undef,undef,undef,undef,.int .i64 s,.pointer (some ⟨f,0,none⟩),.pointer (some ⟨f,0,none⟩),.pointer (some ⟨f,2,none⟩),.pointer (some ⟨f,5,none⟩),.int .i64 z,.bool true,.pointer (some ⟨f,0,none⟩),.int .i64 0,.int .i64 0,.bool false,undef,.pointer (some ⟨f,0,none⟩),.pointer (some ⟨f,0,none⟩),.pointer (some ⟨f,2,none⟩),.pointer (some ⟨f,5,none⟩),.int .i64 z,.int .i64 hv,.int .i64 s,.int .i64 nd,.pointer (some ⟨f,0,none⟩),.int .i64 hv,.int .i64 nd,.func (.func 233) #[] #[.pointer (some ⟨w1.heap.size+1,0,none⟩),.pointer (some ⟨w1.heap.size+1+1,0,none⟩),.pointer (some ⟨w1.heap.size,0,none⟩)],.pointer (some ⟨f,6+x.val,none⟩),undef,undef,undef,undef,undef,undef,undef,undef,undef,undef,undef,undef,undef,undef,undef,undef,undef,undef,undef,undef,undef,undef,undef,undef,undef,undef,undef,undef,undef,undef,undef,undef,undef,undef,undef,undef,undef,undef,undef],defers:=[] }) ?assign ?body ?done ?stop
 case assign =>
  intro l q W K hK
  gi_wp2
  exact hK
 case body =>
  rintro l pre x W ⟨hpl,HFw,HPw,HKw⟩ hlt;have hb0:∀i,w.heap.size<=i->¬(F i\/i=f):=fun i hi hh=>by
   rcases hh with hh | hh
   ·have:=HFl.out i hh;omega
   ·omega
  have hmf:m≠f:=d7 HMD.out HFD.out (fun e=>by simp at e);have hmW:=HMD.out.keep HKw.out (fun hh=>hh.elim hmF hmf);obtain ⟨c0,-⟩:=HFw.out.head;have cb:W.cell? ⟨w.heap.size,0,none⟩=some (.pointer (some ⟨f,0,none⟩)):=aa (HKw.out.heap HR0.out (hb0 _ (Nat.le_refl _))) 0;by_cases hkl:fr.length<=pre.length
  ·have hple:pre.length=fr.length:=Nat.le_antisymm hpl.out hkl;have hpo:=uV (w:=W) (m:=m) (c:=c) (ino:=ino) (F:=F) (size:=size) (N:=N) (Pg:=Pg) (Cm:=Cm) (o:=o) (u:=u+(ax (Pg 2) (3+ino / 8) N 4096).length) hmW hmF hi hN HL.out (by rw [HFr.out];omega) (by rw [hple, <- HFr.out] at HPw;exact HPw.out);have HPo:=hid hpo;have vR:=HKw.out.heap HR1.out (hb0 _ (Nat.le_succ _));clear hpo hpl
   gi_wp2
   refine (CallsIn.inRound l (callsIn_wide.2 HPo.out)).mono ?_;clear HPo;rintro e W2 ⟨rfl,hk2,Pg2,D2,hp2⟩;have vR2:=hk2.heap vR (fun hh=>hb0 _ (Nat.le_succ _) (.inl hh));have e1:W2.cell? ⟨w.heap.size+1,0,none⟩=some (.int .i64 0):=aa vR2 0;have f1:W2.frozen? ⟨w.heap.size+1,0,none⟩=false:=ai vR2 0;have HVR:=hid vR2;have HK2:=hid hk2;have HP2:=hid hp2;have HB0:=hid hb0;clear vR vR2 hk2 hp2 hb0 cb
   gi_wp2
   have kr:ac (fun i=>i=w.heap.size+1) W2 (W2.setCell ⟨w.heap.size+1,0,none⟩ (.int .i64 7)):=(ac.refl _ _).grown (ak (ar _ _) _ _) (fun i e => .inl (Option.some.inj e).symm);have hp3:=(HP2.out.keepY (eW HVR.out) (fun hh=>HB0.out _ (Nat.le_succ _) (.inl hh)) kr);have k3:ac (fun i=>F i\/i=f\/i=w.heap.size+1) wD (W2.setCell ⟨w.heap.size+1,0,none⟩ (.int .i64 7)):=((HKw.out.mono (fun i e=>e.elim .inl (fun e => .inr (.inl e)))).trans HK2.out (fun i e => .inl (.inl e))).trans kr (fun i e => .inl (.inr (.inr e)));refine ⟨⟨Nat.le_trans HK2.out.size kr.size,fun i ob hi ho _=>kr.heap (HK2.out.heap ho (fun hh=>HB0.out i (by omega) (.inl hh))) (fun e=>by have e':i=w.heap.size+1:=e;omega)⟩,rfl,⟨ap HVR.out 0 _,⟨_,_,hp3.more (Nat.le_refl _) (by rw [HFr.out];omega)⟩,k3⟩,by omega⟩
  have hkl:pre.length<fr.length:=by omega
  have hkl':pre.length<(ax (Pg 2) (3+ino / 8) N 4096).length:=by rw [HFr.out];exact hkl
  have hpg:=vE (w:=W) (m:=m) (c:=c) (ino:=ino) (F:=F) (size:=size) (N:=N) (Pg:=Pg) (Cm:=Cm) (D:=D) (o:=o) (u:=u+pre.length) hmW hmF hi hN pre.length hkl' HL.out (hr.le (by omega)) (by omega);simp only [HFr.out] at hpg;have HPg:=hid (hpg HPw.out);obtain ⟨q,hq⟩:∃q,q=fr[pre.length]:=⟨_,rfl⟩;rw [<- hq] at HPg;have HQ:Hid (fr.take (pre.length+1)=fr.take pre.length ++ [q]):=by unfold Hid;rw [hq,List.take_add_one,List.getElem?_eq_getElem hkl];rfl
  clear hpg hkl' hq
  gi_wp2
  refine (CallsIn.inRound l (callsIn_wide.2 HPg.out)).mono ?_;clear HPg;rintro e W2 ⟨rfl,hk2,hp2⟩;have hf2:=HFw.out.keep hk2 hfF;have hsl:x.val<(ol S.slots (pre.map Fin.val) (fr.take pre.length)).length:=by rw [qD,HS.out];exact x.isLt
  obtain ⟨pj,k1⟩:∃pj:Nat,W2.cell? ⟨f,6+x.val,none⟩=some (.int .i64 pj):=⟨_,hf2.slot x.val hsl⟩;have k2:=hf2.frozen (6+x.val);have kk:ac (fun i=>i=f) W2 (W2.setCell ⟨f,6+x.val,none⟩ (.int .i64 q)):=(ac.refl _ W2).grown (ak (ar _ _) _ _) (fun i e => .inl (Option.some.inj e).symm);have kWW:ac (fun i=>F i\/i=f) W (W2.setCell ⟨f,6+x.val,none⟩ (.int .i64 q)):=(hk2.mono (fun i e => .inl e)).trans (kk.mono (fun i e => .inr e)) (fun i e => .inl e);have hst:=hf2.setSlot x.val q;have hp3:=hp2.keepY hf2.off hfF kk;have HKW:=hid kWW;have HST:Hid (aD (W2.setCell ⟨f,6+x.val,none⟩ (.int .i64 q)) f m ⟨S.num,S.kind,S.mode,S.links,S.size,ol S.slots ((pre ++ [x]).map Fin.val) (fr.take (pre ++ [x]).length)⟩):=by
   unfold Hid;rw [List.length_append,List.length_singleton,HQ.out,List.map_append,List.map_singleton,ow _ _ _ _ _ (by rw [List.length_map,List.length_take];omega)];exact hst
  have HP3:Hid (Pc (W2.setCell ⟨f,6+x.val,none⟩ (.int .i64 q)) c F size N (jh Pg (fr.take (pre ++ [x]).length)) Cm (pr D (fr.take (pre ++ [x]).length)) o (u+(pre ++ [x]).length)):=by
   unfold Hid;rw [List.length_append,List.length_singleton];exact hp3
  have HK3:=hid (HKw.out.trans kWW (fun i e => .inl e));have HKF:Hid (KeepsFrom wD.heap.size W (W2.setCell ⟨f,6+x.val,none⟩ (.int .i64 q))):=⟨kWW.size,fun i ob hi ho _=>kWW.heap ho (hb0 i (by omega))⟩;have HKG:Hid (ac (fun i=>F i\/i=f\/wD.heap.size<=i) W (W2.setCell ⟨f,6+x.val,none⟩ (.int .i64 q))):=kWW.mono (fun i e=>e.elim .inl (fun e => .inr (.inl e)));clear hk2 hp2 hf2 kk kWW hst hp3 hb0 hmW cb hsl
  gi_wp2
  exact ⟨HKF.out,HKG.out,by unfold Hid;rw [List.length_append,List.length_singleton];exact hkl,HST,HP3,HK3⟩
 case done =>
  rintro D1 ys W hD1 hys ⟨hpl,HFw,HPw,HKw⟩ hK1;have hyl:ys.length=nd-hv:=by
   have:=congrArg List.length hys
   rwa [List.length_map,cJ] at this
  rw [hys,hyl] at HFw;rw [hyl] at HPw hpl;have HPl:=hid hpl.out;have hb0:∀i,w.heap.size<=i->¬(F i\/i=f):=fun i hi hh=>by
   rcases hh with hh | hh
   ·have:=HFl.out i hh;omega
   ·omega
  have HR0w:=hid (HKw.out.heap HR0.out (hb0 _ (Nat.le_refl _)));have HR1w:=hid (HKw.out.heap HR1.out (hb0 _ (Nat.le_succ _)));have cb:W.cell? ⟨w.heap.size,0,none⟩=some (.pointer (some ⟨f,0,none⟩)):=aa HR0w.out 0;have HKD1:=hid hK1;have hwW:=HKw.out.size;clear hys hyl hK1 HR0 HR1 HSt hpl
  gi_wp2
  refine (callsIn_wide.2 (jX f hv nd W)).mono ?_;rintro e wE ⟨rfl,hE⟩;have hEB:Below W.heap.size W wE:=by rw [hE];exact (((Below.refl _ W).alloc (Nat.le_refl _) _).alloc (by simp) _).alloc (by simp;omega) _
  have hsE:wE.heap.size=W.heap.size+3:=by rw [hE];simp
  have x0:wE.cell? ⟨W.heap.size,0,none⟩=some (.pointer (some ⟨f,0,none⟩)):=by rw [hE];exact aa (aj (aj (af W _) _) _) 0
  have x1:wE.cell? ⟨W.heap.size+1,0,none⟩=some (.int .i64 hv):=by
   have h1:=af (W.alloc (.cells #[.pointer (some ⟨f,0,none⟩)] 157)) (.cells #[.int .i64 hv] 3);rw [World.size_alloc] at h1;rw [hE];exact aa (aj h1 _) 0
  have x2:wE.cell? ⟨W.heap.size+1+1,0,none⟩=some (.int .i64 nd):=by
   have h1:=af ((W.alloc (.cells #[.pointer (some ⟨f,0,none⟩)] 157)).alloc (.cells #[.int .i64 hv] 3)) (.cells #[.int .i64 nd] 3);rw [World.size_alloc,World.size_alloc] at h1;rw [hE];exact aa h1 0
  have HSt2:=hid (iC 7 (by omega) W.heap.size (W.heap.size+1) (W.heap.size+1+1) f hv nd (fun i=>wE.heap.size<=i) (by omega) h139 wE (by omega) (by omega) x0 x1 x2);have HFE:=hid (HFw.out.below hEB);have HPE:=hid (HPw.out.below hEB);have HKE:Hid (ac (fun i=>F i\/i=f) wD wE):=HKw.out.trans (ac.of_below hEB:ac (fun i=>F i\/i=f) W wE) (fun i e => .inl e);have HR0E:=hid (ah hEB HR0w.out (ae HR0w.out));have HR1E:=hid (ah hEB HR1w.out (ae HR1w.out));have HKDE:=hid (ah hEB HKD1.out (ae HKD1.out));have hlD1:=ae HKD1.out;have hN0:hv-nd=0:=by omega
  have HN0:=hid hN0;clear hE hEB x0 x1 x2 cb HFw HPw HKw HR0w HR1w HKD1 hN0
  gi_wp2
  refine wpIn_rangeFunc_ownH rfl (by omega) (gf:=234) (lb:=#[.pointer (some ⟨W.heap.size+1,0,none⟩),.pointer (some ⟨W.heap.size+1+1,0,none⟩),.pointer (some ⟨W.heap.size,0,none⟩)]) rfl trivial (enters_of Tryz.func234 (by kernel_rfl) rfl)
   HSt2.out (fun h k=>dF h k) (dI (fun i h=>h)) (Below.refl _ _) (fun _=>rfl)
   (fun pre W=>pre=[]/\Hid (Below wE.heap.size wE W))
   (fun _ _ _=>False)
   (fun s A B row hs hgr hr=>⟨hs.1,hs.2.out.grown hgr hs.2.out.size (fun k e=>(hr k e).1)⟩)
   (fun cd s A B row hs hgr hr=>hs)
   ⟨rfl,Below.refl _ _⟩
   (fun _ _ _=>True) (fun _ _ _ _ _ _ hs _ _=>hs) ?assign2 ?body2 ?done2 ?stop2
  case assign2 =>
   rintro l pre x W K ⟨rfl,hB⟩ hK;have HK:=hid hK;have HB:=hid hB;clear hK hB
   gi_wp2
   exact HK.out _ _ (KeepsFrom.refl _ _) (ac.refl _ _) ⟨trivial,HB.out⟩ trivial
  case body2 =>
   intro l pre x a' W h1 h2 h3 h4 hlt;exact absurd hlt (by rw [HN0.out];omega)
  case done2 =>
   rintro D2 ys2 W3 hD2 hys2 ⟨rfl,hB3⟩ hK2;have hf3:=HFE.out.below hB3.out;obtain ⟨-,-,-,-,-,c5⟩:=hf3.head;have g5:=hf3.frozen 5;have v0:=ah hB3.out HR0E.out (ae HR0E.out);have v1:=ah hB3.out HR1E.out (ae HR1E.out);have cb:W3.cell? ⟨w.heap.size,0,none⟩=some (.pointer (some ⟨f,0,none⟩)):=aa v0 0;have e1:W3.cell? ⟨w.heap.size+1,0,none⟩=some (.int .i64 0):=aa v1 0;have f1:W3.frozen? ⟨w.heap.size+1,0,none⟩=false:=ai v1 0;have hne:¬f=w.heap.size+1:=by omega
   have hne':¬w.heap.size+1=f:=by omega
   have HV1:=hid v1;have HK2:=hid hK2;have HKD3:=hid (ah hB3.out HKDE.out (ae HKDE.out));have HB3:=hid hB3;have HF3:=hid hf3;clear v0 v1 hK2 hB3 hf3 hys2
   gi_wp2
   have hwE:=hsE;have hszW:=hwW;have hB3z:=HB3.out.out.size;have kf:ac (fun i=>i=f) W3 (W3.setCell ⟨f,5,none⟩ (.int .i64 s)):=(ac.refl _ W3).grown (ak (ar _ _) _ _) (fun i e => .inl (Option.some.inj e).symm);have hv1:=kf.heap HV1.out (fun e=>hne' e);have kr:ac (fun i=>i=w.heap.size+1) (W3.setCell ⟨f,5,none⟩ (.int .i64 s)) ((W3.setCell ⟨f,5,none⟩ (.int .i64 s)).setCell ⟨w.heap.size+1,0,none⟩ (.int .i64 0)):=(ac.refl _ _).grown (ak (ar _ _) _ _) (fun i e => .inl (Option.some.inj e).symm);have hv2:=ap hv1 0 (.int .i64 0);have hf4:=(HF3.out.setSize s).keep kr (fun e=>hne e);have hp4:=(((HPE.out.below HB3.out.out).keepY HF3.out.off hfF kf).keepY (eW hv1) (fun hf=>by have:=HFl.out _ hf;omega) kr);have h2D:=kr.heap (kf.heap HK2.out (fun e=>by have e':D2=f:=e;omega)) (fun e=>by have e':D2=w.heap.size+1:=e;omega);have h1D:=kr.heap (kf.heap HKD3.out (fun e=>by have e':D1=f:=e;omega)) (fun e=>by have e':D1=w.heap.size+1:=e;omega);have kw4:ac (fun i=>F i\/i=f) w ((W3.setCell ⟨f,5,none⟩ (.int .i64 s)).setCell ⟨w.heap.size+1,0,none⟩ (.int .i64 0)) :=
    (((((ac.of_below HAB.out:ac (fun i=>F i\/i=f) w wA).trans HBD.out (fun i e => .inl e)).trans HKE.out (fun i e => .inl e)).trans (ac.of_below HB3.out.out:ac (fun i=>F i\/i=f) wE W3) (fun i e => .inl e)).trans kf (fun i e => .inl (.inr e))).trans kr (fun i e => .inr (by have e':i=w.heap.size+1:=e;omega))
   generalize (W3.setCell ⟨f,5,none⟩ (.int .i64 s)).setCell ⟨w.heap.size+1,0,none⟩ (.int .i64 0)=W4 at *;have hg5:=grownBy_putObj' W4 D2 (.deferred none);have h1D5:=aw hg5 h1D (fun e=>by cases e;omega);have hg6:=grownBy_putObj' (W4.putObj D2 (.deferred none)) D1 (.deferred none);have hr5:∀r,some D2=some r->w.heap.size<=r/\∃o:Obj,W4.heap[r]? = some o/\o.isCells=false:=fun r e=>by cases e;exact ⟨by omega,_,h2D,rfl⟩
   have hr6:∀r,some D1=some r->w.heap.size<=r/\∃o:Obj,(W4.putObj D2 (.deferred none)).heap[r]? = some o/\o.isCells=false:=fun r e=>by cases e;exact ⟨by omega,_,h1D5,rfl⟩
   refine ⟨by simp,.inl ⟨_,_,rfl,run_takeDeferred h2D,?_⟩⟩;refine ⟨by simp,.inl ⟨_,_,rfl,run_takeDeferred h1D5,?_⟩⟩;refine ⟨_,fU rfl (aw hg6 (aw hg5 hv2 (fun e=>by cases e;omega)) (fun e=>by cases e;omega)),?_⟩;refine ⟨?_,.inl ⟨by rw [<- HZ.out, <- HHv.out, <- HNd.out];have:=HPl.out;omega,rfl,?_,?_⟩⟩
   ·exact (kw4.trans (ac.of_grown hg5 (F:=fun i=>some D2=some i) (fun i e=>e)) (fun i e => .inr (by cases e;omega))).trans (ac.of_grown hg6 (F:=fun i=>some D1=some i) (fun i e=>e)) (fun i e => .inr (by cases e;omega))
   ·have:=aw hg6 (aw hg5 hf4 (fun e=>by cases e;omega)) (fun e=>by cases e;omega);rw [<- HZ.out, <- HHv.out, <- HNd.out];exact this
   ·have:=(hp4.own HFl.out hg5 hr5).own HFl.out hg6 hr6;rw [<- HZ.out, <- HHv.out, <- HNd.out];exact ⟨_,Rm.tks (hr.le (by rw [List.length_take];omega)),this⟩
  case stop2 =>
   intro D c pre W hD hpre hx;exact hx.elim
 case stop =>
  rintro D1 cd pre W hD hpre ⟨rfl,hX,hlt⟩ hK;have HKD:=hid hK;clear hK hpre
  gi_wp2
  obtain ⟨hr1,⟨Pg2,D2,hp2⟩,hk2⟩:=hX.out;have hg5:=grownBy_putObj' W D1 (.deferred none);have hr5:∀r,some D1=some r->w.heap.size<=r/\∃o:Obj,W.heap[r]? = some o/\o.isCells=false:=fun r e=>by cases e;exact ⟨by omega,_,HKD.out,rfl⟩
  have kw:ac (fun i=>F i\/i=f) w W:=(((ac.of_below HAB.out:ac (fun i=>F i\/i=f) w wA).trans HBD.out (fun i e => .inl e))).trans hk2 (fun i e=>by rcases e with e | e | e;exact .inl (.inl e);exact .inl (.inr e);exact .inr (by omega));refine ⟨by simp,.inl ⟨_,_,rfl,run_takeDeferred HKD.out,?_⟩⟩;refine ⟨_,fU rfl (aw hg5 hr1 (fun e=>by cases e;omega)),?_⟩;refine ⟨kw.trans (ac.of_grown hg5 (F:=fun i=>some D1=some i) (fun i e=>e)) (fun i e => .inr (by cases e;omega)),.inr ⟨?_,rfl,Pg2,D2,?_⟩⟩
  ·rw [<- HZ.out, <- HHv.out, <- HNd.out,HFr.out];exact hlt
  ·rw [<- HZ.out, <- HHv.out, <- HNd.out];exact hp2.own HFl.out hg5 hr5
end
section
set_option maxRecDepth 100000
set_option maxHeartbeats 2000000
open Go.RowKit
theorem nU {w:World} {f m:Nat} {S:bD} (hf:aD w f m S) (hs:S.size<=5120):Calls Tryz.prog 204 #[.pointer (some ⟨f,0,none⟩)] w fun e w'=>e = .returned (.int .i64 0)/\w'=w:=by
 obtain ⟨-,-,-,-,-,c5⟩:=hf.head;have HH:=hid (ez (S.size:Int) w);rw [decide_eq_false (by omega)] at HH;clear hf;go_enter Tryz.func204,Tryz.ntmps204
 go_wp2_with fail
 refine HH.out.mono ?_;clear HH;rintro e w1 ⟨rfl,h1⟩;obtain rfl:=h1.symm;clear h1;go_wp2;go_ret;exact ⟨rfl,rfl⟩
def bg (fs:List Nat) (k:Nat):List UInt8:=dX (fs.take k) ++ zN (512-4*k)
theorem dM {fs:List Nat} (h:fs.length=128) (k:Nat) (hk:k<=128):(bg fs k).length=512:=by
 unfold bg;rw [List.length_append,cR,List.length_take,aO];omega
theorem px {fs:List Nat} (h:fs.length=128) (k:Nat) (hk:k<128) (hk':k<fs.length):(bg fs k).take (4*k) ++ beS 4 fs[k] ++ (bg fs k).drop (4*k+4)=bg fs (k+1):=by
 have hl:(dX (fs.take k)).length=4*k:=by rw [cR,List.length_take];omega
 unfold bg;rw [j6 _ (4*k) (512-4*k) 4 hl _ (by omega),List.take_add_one,List.getElem?_eq_getElem hk',Option.toList_some,mJ,show 512-4*k-4=512-4*(k+1) by omega]
theorem aD.range {w:World} {f m:Nat} {S:bD} (h:aD w f m S) (hS:S.slots.length=139):w.rangeAt f 17 ((S.slots.drop 11).map (fun n:Nat=>Value.int .i64 n)):=fun j v hv=>by
 have hj:j<(S.slots.drop 11).length:=by simpa using (List.getElem?_eq_some_iff.1 hv).1
 have hj2:11+j<S.slots.length:=by rw [List.length_drop] at hj;omega
 have h1:=h.slot (11+j) hj2;rw [show 6+(11+j)=17+j by omega] at h1;rw [List.getElem?_map,List.getElem?_eq_getElem hj,List.getElem_drop] at hv;rw [h1];exact hv
section
variable {w:World} {f m c ino:Nat} {F:Nat->Prop} {size N:Nat} {Pg Cm:Nat->List UInt8} {D:Int->Bool} {o u:Nat} {S:bD}
theorem pG (h:aT w m c ino) (hmF:¬F m) (hf:aD w f m S) (hfF:¬F f) (hS:S.slots.length=139) (hs:5120<S.size) (hN:S.slots.getD 10 0<N) (hea:∀p∈S.slots,p<4294967296) (hr:D ((S.slots.getD 10 0:Nat):Int)=true\/(dkD N D).length<min size 100) (hu:u<1000000) (hp:Pc w c F size N Pg Cm D o u) :
  Calls Tryz.prog 204 #[.pointer (some ⟨f,0,none⟩)] w fun e w'=>e = .returned (.int .i64 0)/\ac F w w'/\((bg (S.slots.drop 11) 128=Pg (S.slots.getD 10 0)/\Pc w' c F size N Pg Cm D o (u+1))\/(bg (S.slots.drop 11) 128≠Pg (S.slots.getD 10 0)/\Pc w' c F size N (bf Pg (S.slots.getD 10 0) (bg (S.slots.drop 11) 128)) Cm (br D ((S.slots.getD 10 0:Nat):Int)) o (u+1))):=by
 obtain ⟨-,-,-,-,-,c5⟩:=hf.head;have HH:=hid (ez (S.size:Int) w);rw [decide_eq_true (by omega)] at HH;have HF:=hid hf;have hfl:=hf.lt;obtain ⟨fs,hfs⟩:∃fs,fs=S.slots.drop 11:=⟨_,rfl⟩;have hfsl:fs.length=128:=by rw [hfs,List.length_drop];omega
 have HFs:=hid hfs;have HFl:=hid hfsl;have HRg:Hid (∀W,aD W f m S->W.rangeAt f 17 (fs.map (fun n:Nat=>Value.int .i64 n))):=fun W hW=>by rw [hfs];exact hW.range hS
 have HEa:Hid (∀j (hj:j<fs.length),fs[j]<4294967296):=fun j hj=>by
  have hm:fs[j]∈S.slots.drop 11:=by rw [<- hfs];exact List.getElem_mem hj
  exact hea _ (List.mem_of_mem_drop hm)
 obtain ⟨p,hpp⟩:∃p,p=S.slots.getD 10 0:=⟨_,rfl⟩;have HC16:Hid (∀W,aD W f m S->W.cell? ⟨f,16,none⟩=some (.int .i64 p)):=fun W hW=>by
  have h1:=hW.slot 10 (by omega);rw [h1,hpp,List.getD_eq_getElem?_getD,List.getElem?_eq_getElem (by omega)];rfl
 rw [<- hpp] at hN hr ⊢;rw [<- hfs];have HPg:=hid (fun W (hW:Below w.heap.size w W)=>eS (h.below hW) p hN hu hp hW);have HLp:=hid (hp.len p hN);have HFlt:=hid hp.lt;have HMb:=hid h;have HRo:=hid hr;have HPN:=hid hN;unfold gV at HPg;clear hf hfs hfsl hea hpp h hp hr hN;go_enter Tryz.func204,Tryz.ntmps204
 go_wp2_with fail
 refine HH.out.mono ?_;clear HH;rintro e w1 ⟨rfl,h1⟩;obtain rfl:=h1.symm;clear h1
 go_wp2_with (first
  | (refine bF rfl (.const (.int .i64 512)) (.const (.int .i64 512)) rfl 512 512 rfl rfl rfl (by omega) ?_;intro w2 hb2 hr2 hz2;have HB2:=hid hb2;have HF2:=hid (HF.out.below hb2);have HO2:Hid (aV w2 w.heap.size (zN 512)):=(by unfold Hid aV;rw [<- eX];exact hr2);clear hb2 hr2 hz2)
  | (refine wpList_load_mid rfl 222 (.tmp 17) rfl f 17 rfl (fs.map (fun n:Nat=>Value.int .i64 n)) _ (HRg.out w2 HF2.out) Tryz.underlying222 rfl (by rw [List.length_map,HFl.out];kernel_rfl) ?_))
 have HN0:Hid (aV w2 w.heap.size (bg fs 0)):=HO2;clear HO2 c5
 go_loopw [19] (fun iv wr=>∃j:Nat,j<=128/\iv = .int .i64 j/\Hid (aV wr w.heap.size (bg fs j))/\Hid (Below w.heap.size w wr)) (fun iv _=>128-(intOf iv).toNat)
 case atStart=>exact ⟨0,by omega,rfl,HN0,HB2⟩
 case round =>
  obtain ⟨j,hj,rfl,HO,HB⟩:=hrel;clear HN0 HB2 HF2;by_cases hlt:j<128
  ·have hj0:(0:Int)<=(j:Int):=by omega
   have hj1:(j:Int)<128:=by omega
   have hjl:j<fs.length:=by rw [HFl.out];exact hlt
   have hix:(Instr.index 222 (.agg (fs.map (fun p:Nat=>Value.int .i64 p)).toArray) (.int .i64 (j:Int))).run Tryz.prog wr = .ok (.int .i64 (fs[j]:Nat)) wr:=js Tryz.underlying222 (by kernel_rfl) Tryz.underlying3 hlt (by simp [hjl]);have hfo:=cL w.heap.size 0 512 512 j wr (by omega) (by omega) (by omega);rw [Nat.zero_add] at hfo;have HFo:=hid hfo;have hx4:=HEa.out j hjl;have hll:(bg fs j).length=512:=dM HFl.out j hj;have hpt:=ep w.heap.size (4*j) 4 (512-4*j) fs[j] (bg fs j) wr HO.out (by rw [hll];omega) (by rw [hll];omega) (by omega);rw [px HFl.out j hlt hjl] at hpt;have HPt:=hid hpt;clear hpt hll hx4 HO hfo;generalize fs[j]=x at *
   go_wp2_with fail
   refine HFo.out.mono ?_;clear HFo;rintro e w7 ⟨rfl,h7⟩;obtain rfl:=h7.symm;clear h7
   go_wp2_with fail
   refine HPt.out.mono ?_;clear HPt;rintro e w8 ⟨rfl,ho8,hk8⟩;have HO8:=hid ho8;have HB8:=hid (HB.out.trans (hk8.below HB.out.size (fun i e=>by have e':i=w.heap.size:=e;omega)));clear ho8 hk8 HB hix;go_wp2;exact ⟨⟨j+1,by omega,by go_num,HO8,HB8⟩,by simp [intOf];omega⟩
  ·obtain rfl:j=128:=by omega
   have hfw:=HF.out.below HB.out;have c16:=HC16.out wr hfw;obtain ⟨d0,-⟩:=hfw.head;clear hfw
   go_wp2_with fail
   refine (HPg.out wr HB.out).mono ?_;clear HPg;rintro e w9 ⟨g,rfl,hg,ho9,hk9,hW9⟩;have hO9:=HO.out.keep hk9 (fun hf=>by have:=HFlt.out _ hf;omega);have heq:=iZ (bg fs 128) (Pg p) ⟨w.heap.size,0,none⟩ ⟨g,0,none⟩ 512 512 w9 hO9.at ho9.at
   rw [dM HFl.out 128 (Nat.le_refl _),HLp.out] at heq;have hp9:=hW9 w9 (ac.refl _ _);have HWr:=hid (hp9.write p HPN.out (bg fs 128) (dM HFl.out 128 (Nat.le_refl _)) ⟨w.heap.size,0,none⟩ 512 hO9.at HRo.out);have HKw:Hid (ac F w w9):=(ac.of_below HB.out:ac F w wr).trans hk9 (fun i e => .inl e);have HCa:=hid (cN (HMb.out.keep HKw.out hmF));have c9:=((HF.out.keep HKw.out hfF).head).1;have HP9:=hid hp9;clear hO9 hk9 hW9 ho9 hg HO HB c16 d0 hp9;by_cases hee:bg fs 128=Pg p
   ·rw [decide_eq_true hee] at heq;have HEq:=hid heq;have HEe:=hid hee;clear heq hee HWr HCa
    go_wp2_with fail
    refine HEq.out.mono ?_;clear HEq;rintro e w10 ⟨rfl,h10⟩;obtain rfl:=h10.symm;clear h10;go_wp2;go_ret;exact ⟨rfl,HKw.out,.inl ⟨HEe.out,HP9.out⟩⟩
   ·rw [decide_eq_false hee] at heq;have HEq:=hid heq;have HEe:=hid hee;clear heq hee
    go_wp2_with fail
    refine HEq.out.mono ?_;clear HEq;rintro e w10 ⟨rfl,h10⟩;obtain rfl:=h10.symm;clear h10
    go_wp2_with fail
    refine HCa.out.mono ?_;clear HCa;rintro e w10 ⟨rfl,h10⟩;obtain rfl:=h10.symm;clear h10
    go_wp2_with fail
    refine HWr.out.mono ?_;clear HWr;rintro e w11 ⟨rfl,hk11,hp11⟩;have HK11:=hid hk11;have HP11:=hid hp11;clear hk11 hp11;go_wp2;go_ret;exact ⟨rfl,HKw.out.trans HK11.out (fun i e => .inl e),.inr ⟨HEe.out,HP11.out⟩⟩
end
end
section
open Go.RowKit
theorem kH {P:Program} {e:TypeId} (hp:P.underlying e=some (.int .i64)) (d:Nat) (xs ys:List Nat) (w:World):∀is:List Nat,(∀i∈is,i<xs.length/\i<ys.length) ->
  (Op.eqItems (d+1) e 1 (xs.map (fun p:Nat=>Value.int .i64 p)).toArray (ys.map (fun p:Nat=>Value.int .i64 p)).toArray is).run P w = .ok (is.all (fun i=>xs[i]? == ys[i]?)) w
 | [],_=>by simp [Op.eqItems]
 | i :: is,h=>by
  obtain ⟨h1,h2⟩:=h i (by simp);have hk:P.plainKey e=true:=by simp [Program.plainKey,hp]
  have p1:=run_part_plain (P:=P) w hk (xs:=(xs.map (fun p:Nat=>Value.int .i64 p)).toArray) (off:=i*1) (v := .int .i64 xs[i]) (by simp [h1]);have p2:=run_part_plain (P:=P) w hk (xs:=(ys.map (fun p:Nat=>Value.int .i64 p)).toArray) (off:=i*1) (v := .int .i64 ys[i]) (by simp [h2]);have ih:=kH hp d xs ys w is (fun j hj=>h j (by simp [hj]));simp only [Op.eqItems,Sem.run_bind,p1,p2,Result.andThen_ok,run_equalIn_int w d e .i64 .i64 _ _ hp,List.all_cons];rw [List.getElem?_eq_getElem h1,List.getElem?_eq_getElem h2];by_cases hx:xs[i]=ys[i]
  ·simp only [hx,beq_self_eq_true,Bool.not_true,Bool.false_eq_true,if_false,Bool.true_and];exact ih
  ·have hx':((xs[i]:Int)==(ys[i]:Int))=false:=by rw [beq_eq_false_iff_ne];omega
   have hx2:(some xs[i]==some ys[i])=false:=by simpa using hx
   simp [hx',hx2]
def eqN (a b:bu):Bool:=a.kind==b.kind&&(a.mode==b.mode&&(a.links==b.links&&(a.size==b.size&&a.pages==b.pages)))
theorem yD {a b:bu}:eqN a b=true ↔ a=b:=by
 obtain ⟨k1,m1,l1,s1,p1⟩:=a;obtain ⟨k2,m2,l2,s2,p2⟩:=b;simp [eqN]
theorem pP {xs ys:List Nat} (ha:xs.length=11) (hb:ys.length=11):(List.range 11).all (fun i=>xs[i]? == ys[i]?)=(xs==ys):=by
 rw [Bool.eq_iff_iff,List.all_eq_true,beq_iff_eq];constructor
 ·intro h;apply List.ext_getElem?;intro i;rcases Nat.lt_or_ge i 11 with hi | hi
  ·simpa using h i (by simpa using hi)
  ·rw [List.getElem?_eq_none (by omega),List.getElem?_eq_none (by omega)]
 ·rintro rfl i _;simp
theorem eJ {P:Program} {w:World} {d:Nat} {xs ys:Array Value} {f:Field} {fs:List Field} {a b:Nat} {r:Bool} (hn:f.name ≠ "_") (hp:P.underlying f.type=some (.int .i64)) (hx:xs[f.offset]? = some (.int .i64 a)) (hy:ys[f.offset]? = some (.int .i64 b))
  (ih:(Op.eqFields (d+1) xs ys fs).run P w = .ok r w):(Op.eqFields (d+1) xs ys (f :: fs)).run P w = .ok (a==b&&r) w:=by
 have hk:P.plainKey f.type=true:=by simp [Program.plainKey,hp]
 simp only [Op.eqFields,hn,ne_eq,not_false_eq_true,if_true,Sem.run_bind,run_part_plain (P:=P) w hk hx,run_part_plain (P:=P) w hk hy,Result.andThen_ok,run_equalIn_int w d f.type .i64 .i64 _ _ hp];by_cases h:a=b
 ·subst h;simpa using ih
 ·have h':((a:Int)==(b:Int))=false:=by rw [beq_eq_false_iff_ne];omega
  have h2:(a==b)=false:=by rw [beq_eq_false_iff_ne];exact h
  rw [h',h2];simp
theorem xO {a b:bu} (ha:a.pages.length=11) (hb:b.pages.length=11) (w:World):(binOp .eql 142 (.agg (nodeC a).toArray) (.agg (nodeC b).toArray)).run Tryz.prog w = .ok (.bool (eqN a b)) w:=by
 obtain ⟨k1,m1,l1,s1,p1⟩:=a;obtain ⟨k2,m2,l2,s2,p2⟩:=b;rw [run_eql_struct,run_equalIn_struct w 9999 142 _ _ (by kernel_rfl) (by kernel_rfl)];simp only [Program.fieldsOf,Tryz.underlying142];have ha':p1.length=11:=ha;have hb':p2.length=11:=hb;unfold nodeC;dsimp only;have pt:∀(k m l s:Nat) (p:List Nat),p.length=11->(part 140 ([Value.int .i64 k,.int .i64 m,.int .i64 l,.int .i64 s] ++ p.map (fun p:Nat=>Value.int .i64 p)).toArray 4).run Tryz.prog w = .ok (.agg (p.map (fun p:Nat=>Value.int .i64 p)).toArray) w:=fun k m l s p hp=>by
  obtain ⟨i,hi⟩:=info_of_underlying Tryz.underlying140;have hc:Tryz.prog.cellsOf 140=11:=by kernel_rfl
  simp only [part,isAgg,Sem.run_bind,run_underlying Tryz.underlying140,Result.andThen_ok,Sem.run_pure,if_true,run_sizeOf w hi,hc];have hx:([Value.int .i64 k,.int .i64 m,.int .i64 l,.int .i64 s] ++ p.map (fun p:Nat=>Value.int .i64 p)).toArray.extract 4 (4+11)=(p.map (fun p:Nat=>Value.int .i64 p)).toArray:=by
   apply Array.toList_inj.1;rw [Array.toList_extract];simp only [List.extract,List.cons_append,List.nil_append,List.drop_succ_cons,List.drop_zero];exact List.take_of_length_le (by rw [List.length_map,hp];decide)
  rw [hx]
 have h5:(Op.eqFields 9999 ([Value.int .i64 k1,.int .i64 m1,.int .i64 l1,.int .i64 s1] ++ p1.map (fun p:Nat=>Value.int .i64 p)).toArray ([Value.int .i64 k2,.int .i64 m2,.int .i64 l2,.int .i64 s2] ++ p2.map (fun p:Nat=>Value.int .i64 p)).toArray [⟨"Pages",140,4,false, "", "",32⟩]).run Tryz.prog w = .ok (p1==p2) w:=by
  obtain ⟨i,hi⟩:=info_of_underlying Tryz.underlying3;simp only [Op.eqFields,ne_eq,show ¬("Pages" = "_") by decide,not_false_eq_true,if_true,Sem.run_bind,pt _ _ _ _ _ ha',pt _ _ _ _ _ hb',Result.andThen_ok];rw [run_equalIn_array w 9998 _ _ Tryz.underlying140 hi,show Tryz.prog.cellsOf 3=1 by kernel_rfl,kH Tryz.underlying3 9997 p1 p2 w (List.range 11) (fun i hi=>by have:=List.mem_range.1 hi;omega),pP ha' hb'];cases (p1==p2) <;> rfl
 have h4:=eJ (f:=⟨"Size",3,3,false, "", "",24⟩) (a:=s1) (b:=s2) (by decide) Tryz.underlying3 (by simp) (by simp) h5;have h3:=eJ (f:=⟨"Links",3,2,false, "", "",16⟩) (a:=l1) (b:=l2) (by decide) Tryz.underlying3 (by simp) (by simp) h4;have h2:=eJ (f:=⟨"Mode",3,1,false, "", "",8⟩) (a:=m1) (b:=m2) (by decide) Tryz.underlying3 (by simp) (by simp) h3;have h1:=eJ (f:=⟨"Kind",63,0,false, "", "",0⟩) (a:=k1) (b:=k2) (by decide) Tryz.underlying63 (by simp) (by simp) h2;rw [h1]
 rfl
theorem jx {P:Program} {ops:Array Oper} {S:World->Prop} {op:Oper} {a:Act} (hw:Region.wanted op (yielded ops a.tmps)=true) (ty t2:TypeId) (x y:Operand) (ho:op.op = .binOp .eql ty x y t2) (xs ys:Array Value) (hx:a.eval x = .agg xs) (hy:a.eval y = .agg ys) (hg:P.eqGuardType P.depth ty=false) (v:Value)
  (hr:∀w,(binOp .eql ty (.agg xs) (.agg ys)).run P w = .ok v w):YieldsIf P ops S op v a :=
 .inl ⟨hw,fun w _=>by
  unfold execOp;simp only [ho,hx,hy,Sem.run_bind,Sem.run_pure,Result.andThen_ok,run_eqGuard_agg (P:=P) w .eql ty x y xs ys hg,hr w]⟩
end
section
set_option maxRecDepth 100000
set_option maxHeartbeats 2000000
open Go.RowKit
def bD.node (S:bD):bu:=⟨S.kind,S.mode,S.links,S.size,S.slots.take 11⟩
theorem aD.rangeN {w:World} {f m:Nat} {S:bD} (h:aD w f m S):w.rangeAt f 2 (nodeC S.node):=fun j v hv=>by
 rw [aa h];unfold bD.cells;unfold nodeC bD.node at hv;rw [List.getElem?_toArray];rcases Nat.lt_or_ge j 4 with hj | hj
 ·rw [List.getElem?_append_left (by simpa using hj)] at hv;rw [List.getElem?_append_left (by simp;omega)]
  match j,hj with
  | 0,_=>exact hv
  | 1,_=>exact hv
  | 2,_=>exact hv
  | 3,_=>exact hv
 ·rw [List.getElem?_append_right (by simpa using hj),List.map_take] at hv;rw [List.getElem?_append_right (by simp;omega)];simp only [List.length_cons,List.length_nil] at hv ⊢;rw [show 2+j-(0+1+1+1+1+1+1)=j-(0+1+1+1+1) by omega];have hlt:=(List.getElem?_eq_some_iff.1 hv).1;rw [List.length_take] at hlt;rw [List.getElem?_take_of_lt (by omega)] at hv;exact hv
def ij (Pg:Nat->List UInt8) (i:Nat) (n:bu):Nat->List UInt8:=bf Pg (3+i / 8) (jF (Pg (3+i / 8)) i (dr n))
def fJ (Pg:Nat->List UInt8) (i:Nat):Prop:=∃n:bu,n.ok/\cT (Pg (3+i / 8)) i=dr n
theorem u6 {L:List UInt8} (i:Nat):jF L i (cT L i)=L:=by
 unfold jF cT;rw [List.append_assoc, <- List.drop_drop,List.take_append_drop,List.take_append_drop]
theorem vW {Pg:Nat->List UInt8} {i:Nat} {n:bu} (h:cT (Pg (3+i / 8)) i=dr n):ij Pg i n=Pg:=by
 unfold ij bf;rw [<- h,u6]
 funext k
 split
 ·rename_i e;rw [e]
 ·rfl
theorem fJ.dec {Pg:Nat->List UInt8} {i:Nat} (h:fJ Pg i) {n:bu} (hn:jm (cT (Pg (3+i / 8)) i)=n):cT (Pg (3+i / 8)) i=dr n:=by
 obtain ⟨n',h1,h2⟩:=h;rw [h2,oJ n' h1] at hn;rw [h2,hn]
section
variable {w:World} {f m c ino:Nat} {F:Nat->Prop} {size N:Nat} {Pg Pg1 Cm:Nat->List UInt8} {D D1:Int->Bool} {o u u1 n1:Nat} {S:bD}
theorem vO (h:aT w m c ino) (hmF:¬F m) (hi:ino<=512) (hin:S.num<ino) (hN:3+S.num / 8<N) (hf:aD w f m S) (hfF:¬F f) (hok:S.node.ok) (hu:u1<999990) (htb:fJ Pg1 S.num)
  (hsf:Calls Tryz.prog 204 #[.pointer (some ⟨f,0,none⟩)] w fun e w'=>e = .returned (.int .i64 0)/\ac F w w'/\Pe w' c F size N Pg1 Cm o u1 (n1+1)) :
  Calls Tryz.prog 147 #[.pointer (some ⟨f,0,none⟩)] w fun e w'=>e = .returned (.int .i64 0)/\ac F w w'/\Pe w' c F size N (ij Pg1 S.num S.node) Cm o (u1+2) n1:=by
 have HSf:=hid hsf;have HF:=hid hf;have HNl:Hid ((nodeC S.node).length=15):=by unfold Hid nodeC;rw [List.length_append,List.length_map,hok.pages];rfl
 have HGt:=hid (fun W (D1:Int->Bool) (hk:ac F w W) (hW:Pc W c F size N Pg1 Cm D1 o u1)=>qP (h.keep hk hmF) hi S.num hin hN (by omega) hW);have HPt:=hid (fun W (D1:Int->Bool) (hr:Rm N size D1 (n1+1)) (hk:ac F w W) (hW:Pc W c F size N Pg1 Cm D1 o (u1+1))=>rH (h.keep hk hmF) hmF hi S.num hin S.node hok hN (by omega) (hr.use (3+S.num / 8) hN) hW);have HEq:=hid (fun W=>xO (a:=S.node) (b:=jm (cT (Pg1 (3+S.num / 8)) S.num)) hok.pages (dC _ 11) W);have HRg:Hid (∀W,aD W f m S->W.rangeAt f 2 (nodeC S.node)):=fun W hW=>hW.rangeN;unfold gV at HGt HPt;unfold ct at HGt HPt;obtain ⟨nd,hnd⟩:∃nd,nd=jm (cT (Pg1 (3+S.num / 8)) S.num):=⟨_,rfl⟩;rw [<- hnd] at HGt HEq;have HDl:Hid (nd=S.node->ij Pg1 S.num S.node=Pg1):=fun e=>vW (htb.dec (hnd.symm.trans e));clear hsf hf hnd htb hok h;generalize S.node=sn at *;go_enter Tryz.func147,Tryz.ntmps147
 go_wp2_with fail
 refine HSf.out.mono ?_;clear HSf;rintro e w1 ⟨rfl,hk1,D1,hr1,hp1⟩;have hbd:Below w1.heap.size w1 w1.drew:=(Below.refl _ w1).drew;have hf1:=HF.out.keep hk1 hfF;obtain ⟨c0,c1,-⟩:=hf1.head;have hf2:=hf1.below hbd;have hk2:ac F w w1.drew:=hk1.trans (ac.of_below hbd:ac F w1 w1.drew) (fun i e => .inl e);have HF1:=hid hf1;have HF2:=hid hf2;have HG1:=hid (HGt.out w1.drew D1 hk2 (hp1.below hbd));have HK2:=hid hk2;have HR1:=hid hr1;clear hf1 hk1 hp1 hr1 hk2 hf2 hbd HGt;go_wp2;refine wp_region_noPanic ?_;refine wp_region_held_drew (S:=fun W=>W.cell? ⟨f,0,none⟩=some (.pointer (some ⟨m,0,none⟩))/\W.cell? ⟨f,1,none⟩=some (.int .i64 S.num)/\W.rangeAt f 2 (nodeC sn)) (by kernel_rfl) ⟨c0,c1,HRg.out w1 HF1.out⟩ (fun hHeld => ?_);generalize w1.drew=wd at *;refine tq 0 _ ?_
 try simp only [tS]
 refine tq 1 _ ?_
 try simp only [tS]
 refine tq 2 _ ?_
 try simp only [tS]
 refine wpAnyH_take (i:=3) (v := .agg (nodeC sn).toArray) rfl (by kernel_rfl) (by kernel_rfl) (by kernel_rfl) (fun _ _ _ h=>h) (yieldsIf_load_mid (by rfl) 142 (.tmp 11) rfl f 2 rfl (nodeC sn) _ (fun W hW=>hW.2.2) Tryz.underlying142 rfl (by rw [HNl.out];kernel_rfl)) (by assumption) ?_
 try simp only [tS]
 refine tq 4 _ ?_
 try simp only [tS]
 refine tq 5 _ ?_
 try simp only [tS]
 refine tq 6 _ ?_
 try simp only [tS]
 refine tq 7 _ ?_
 try simp only [tS]
 refine tq 8 _ ?_
 try simp only [tS]
 refine tq 9 _ ?_
 try simp only [tS]
 refine tq 10 _ ?_
 try simp only [tS]
 refine tq 11 _ ?_
 try simp only [tS]
 refine tr 12 (fun K hK => ?_);go_simp;refine HG1.out.mono ?_;clear HG1;rintro e w3 ⟨rfl,hk3,hW3⟩;have hf3:=HF2.out.keep hk3 hfF;obtain ⟨d0,d1,-⟩:=hf3.head;have HF3:=hid hf3;have HK3:=hid (HK2.out.trans hk3 (fun i e => .inl e));have hp3:=hW3 w3 (ac.refl _ _);have HP3:=hid hp3;have hbd:Below w3.heap.size w3 w3.drew:=(Below.refl _ w3).drew;have hk4:ac F w w3.drew:=HK3.out.trans (ac.of_below hbd:ac F w3 w3.drew) (fun i e => .inl e);have HPt4:=hid (HPt.out w3.drew D1 HR1.out hk4 (hp3.below hbd));have HK4:=hid hk4;have HF4:=hid (hf3.below hbd);clear hk3 hW3 HPt hp3 hbd hk4 hf3
 go_wp2_with fail
 refine hK.out _ _ ⟨d0,d1,HRg.out w3 HF3.out⟩ (fun hHeld => ?_);clear hK K
 try simp only [tS]
 cases he:eqN sn nd with
 | true =>
  rw [he] at HEq;have hsn:=yD.1 he;have HSn:=hid hsn;clear he hsn;refine wpAnyH_take (i:=13) (v := .bool true) rfl (by kernel_rfl) (by kernel_rfl) (by kernel_rfl) (fun _ _ _ h=>h) (jx (by rfl) 142 _ (.tmp 12) (.tmp 21) rfl (nodeC sn).toArray (nodeC nd).toArray rfl rfl (by kernel_rfl) _ HEq.out) (by assumption) ?_
  try simp only [tS]
  refine wpAnyH_done (by kernel_rfl) ?_ _;refine NoPanic.normal ?_;clear hHeld
  go_wp2_with fail
  go_ret;refine ⟨rfl,HK3.out,D1,HR1.out.le (by omega),?_⟩;rw [HDl.out HSn.out.symm];exact HP3.out.more (Nat.le_refl _) (by omega)
 | false =>
  rw [he] at HEq;clear he;refine wpAnyH_take (i:=13) (v := .bool false) rfl (by kernel_rfl) (by kernel_rfl) (by kernel_rfl) (fun _ _ _ h=>h) (jx (by rfl) 142 _ (.tmp 12) (.tmp 21) rfl (nodeC sn).toArray (nodeC nd).toArray rfl rfl (by kernel_rfl) _ HEq.out) (by assumption) ?_
  try simp only [tS]
  refine wpAnyH_done (by kernel_rfl) ?_ _;refine NoPanic.normal ?_;clear hHeld
  go_wp2_with fail
  refine wp_region_noPanic ?_;refine wp_region_held_drew (S:=fun W=>W.cell? ⟨f,0,none⟩=some (.pointer (some ⟨m,0,none⟩))/\W.cell? ⟨f,1,none⟩=some (.int .i64 S.num)/\W.rangeAt f 2 (nodeC sn)) (by kernel_rfl) ⟨d0,d1,HRg.out w3 HF3.out⟩ (fun hHeld => ?_);generalize w3.drew=we at *;refine tq 0 _ ?_
  try simp only [tS]
  refine tq 1 _ ?_
  try simp only [tS]
  refine tq 2 _ ?_
  try simp only [tS]
  refine tq 3 _ ?_
  try simp only [tS]
  refine tq 4 _ ?_
  try simp only [tS]
  refine tq 5 _ ?_
  try simp only [tS]
  refine tq 6 _ ?_
  try simp only [tS]
  refine tq 7 _ ?_
  try simp only [tS]
  refine tq 8 _ ?_
  try simp only [tS]
  refine tq 9 _ ?_
  try simp only [tS]
  refine tq 10 _ ?_
  try simp only [tS]
  refine wpAnyH_take (i:=11) (v := .agg (nodeC sn).toArray) rfl (by kernel_rfl) (by kernel_rfl) (by kernel_rfl) (fun _ _ _ h=>h) (yieldsIf_load_mid (by rfl) 142 (.tmp 33) rfl f 2 rfl (nodeC sn) _ (fun W hW=>hW.2.2) Tryz.underlying142 rfl (by rw [HNl.out];kernel_rfl)) (by assumption) ?_
  try simp only [tS]
  refine tr 12 (fun K hK => ?_);go_simp;refine HPt4.out.mono ?_;clear HPt4;rintro e w5 ⟨rfl,hk5,hp5⟩;have hf5:=HF4.out.keep hk5 hfF;obtain ⟨e0,e1,-⟩:=hf5.head;have HF5:=hid hf5;have HK5:=hid (HK4.out.trans hk5 (fun i e => .inl e));have HP5:=hid hp5;clear hk5 hf5 hp5
  go_wp2_with fail
  refine hK.out _ _ ⟨e0,e1,HRg.out w5 HF5.out⟩ (fun hHeld => ?_);clear hK K
  try simp only [tS]
  refine tq 13 _ ?_
  try simp only [tS]
  refine wpAnyH_done (by kernel_rfl) ?_ _;refine NoPanic.normal ?_;go_wp2;go_ret;exact ⟨rfl,HK5.out,_,HR1.out.put _,HP5.out⟩
def ji (Pg:Nat->List UInt8) (S:bD):Nat->List UInt8:=if S.size<=5120 then Pg else bf Pg (S.slots.getD 10 0) (bg (S.slots.drop 11) 128)
theorem uX {Pg:Nat->List UInt8} {p:Nat} {l:List UInt8} (h:l=Pg p):bf Pg p l=Pg:=by
 funext k
 unfold bf
 split
 ·rename_i e;rw [e,h]
 ·rfl
theorem qE (h:aT w m c ino) (hmF:¬F m) (hf:aD w f m S) (hfF:¬F f) (hS:S.slots.length=139) (hfar:5120<S.size->S.slots.getD 10 0<N) (hea:∀p∈S.slots,p<4294967296) (hu:u<1000000) (hp:Pe w c F size N Pg Cm o u (n1+1)) :
  Calls Tryz.prog 204 #[.pointer (some ⟨f,0,none⟩)] w fun e w'=>e = .returned (.int .i64 0)/\ac F w w'/\Pe w' c F size N (ji Pg S) Cm o (u+1) n1:=by
 obtain ⟨D,hr,hp⟩:=hp;by_cases hs:S.size<=5120
 ·refine (nU hf hs).mono ?_;rintro e w' ⟨rfl,rfl⟩;refine ⟨rfl,ac.refl _ _,D,hr.le (by omega),?_⟩;unfold ji;rw [if_pos hs];exact hp.more (Nat.le_refl _) (by omega)
 ·refine (pG h hmF hf hfF hS (by omega) (hfar (by omega)) hea (hr.use _ (hfar (by omega))) hu hp).mono ?_;rintro e w' ⟨rfl,hk,hx⟩;refine ⟨rfl,hk,?_⟩;unfold ji;rw [if_neg hs];rcases hx with ⟨he,hx⟩ | ⟨-,hx⟩
  ·rw [uX he];exact ⟨D,hr.le (by omega),hx⟩
  ·exact ⟨_,hr.put _,hx⟩
theorem wU {S:bD} (i:Nat) (hf:5120<S.size->3+i / 8≠S.slots.getD 10 0):ji Pg S (3+i / 8)=Pg (3+i / 8):=by
 unfold ji
 split
 ·rfl
 ·unfold bf;rw [if_neg (hf (by omega))]
theorem xe (h:aT w m c ino) (hmF:¬F m) (hi:ino<=512) (hin:S.num<ino) (hN:3+S.num / 8<N) (hf:aD w f m S) (hfF:¬F f) (hS:S.slots.length=139) (hok:S.node.ok) (hfar:5120<S.size->S.slots.getD 10 0<N/\3+S.num / 8≠S.slots.getD 10 0) (hea:∀p∈S.slots,p<4294967296) (htb:fJ Pg S.num) (hu:u<999980)
  (hp:Pe w c F size N Pg Cm o u (n1+2)) :
  Calls Tryz.prog 147 #[.pointer (some ⟨f,0,none⟩)] w fun e w'=>e = .returned (.int .i64 0)/\ac F w w'/\Pe w' c F size N (ij (ji Pg S) S.num S.node) Cm o (u+3) n1:=by
 refine vO h hmF hi hin hN hf hfF hok (u1:=u+1) (by omega) ?_ (qE h hmF hf hfF hS (fun hs=>(hfar hs).1) hea (by omega) hp);unfold fJ;rw [wU S.num (fun hs=>(hfar hs).2)];exact htb
end
end
section
open Go.RowKit
def oU (sl:List Nat) (a z:Nat) (x:(Nat->List UInt8)×List UInt8) (k:Nat):(Nat->List UInt8)×List UInt8 :=
 (bf x.1 (sl.getD (aC k) 0) ((x.1 (sl.getD (aC k) 0)).take (a-k*512) ++ x.2.take (min (z-k*512) 512-(a-k*512)) ++ (x.1 (sl.getD (aC k) 0)).drop (a-k*512+(x.2.take (min (z-k*512) 512-(a-k*512))).length)),x.2.drop (min (z-k*512) 512-(a-k*512)))
def wPs (sl:List Nat) (a z:Nat) (Pg:Nat->List UInt8) (l:List UInt8) (ks:List Nat):(Nat->List UInt8)×List UInt8:=ks.foldl (oU sl a z) (Pg,l)
theorem nF (sl:List Nat) (a z:Nat) (Pg:Nat->List UInt8) (l:List UInt8) (ks:List Nat) (k:Nat):wPs sl a z Pg l (ks ++ [k])=oU sl a z (wPs sl a z Pg l ks) k:=by simp [wPs]
theorem rk (sl:List Nat) (a z:Nat) (Pg:Nat->List UInt8) (l:List UInt8) (hl:l.length=z-a) (haz:a<=z):∀d,a / 512+d<=fillN z->(wPs sl a z Pg l (bC (a / 512) (a / 512+d))).2=l.drop ((a / 512+d)*512-a)
 | 0,_=>by
  rw [Nat.add_zero,dy,show a / 512*512-a=0 by omega]
  rfl
 | d+1,hd=>by
  have ih:=rk sl a z Pg l hl haz d (by omega);rw [<- Nat.add_assoc,cW (by omega),nF];show ((wPs sl a z Pg l (bC (a / 512) (a / 512+d))).2.drop _)=_;rw [ih,List.drop_drop];unfold fillN at hd;by_cases h:512<=z-(a / 512+d)*512
  ·rw [Nat.min_eq_right h]
   congr 1
   omega
  ·rw [List.drop_of_length_le (by omega),List.drop_of_length_le (by omega)]
def nz (a z:Nat) (L l:List UInt8) (k:Nat):List UInt8:=L.take (a-k*512) ++ (l.drop (k*512-a)).take (min (z-k*512) 512-(a-k*512)) ++ L.drop (min (z-k*512) 512)
theorem i7 {a z k:Nat} {l:List UInt8} (hl:l.length=z-a) (h1:a / 512<=k) (h2:k<fillN z) (hz:a<z):((l.drop (k*512-a)).take (min (z-k*512) 512-(a-k*512))).length=min (z-k*512) 512-(a-k*512)/\a-k*512+(min (z-k*512) 512-(a-k*512))=min (z-k*512) 512:=by
 unfold fillN at h2;rw [List.length_take,List.length_drop];omega
theorem qg {a z k:Nat} {L l:List UInt8} (hL:L.length=512) (hl:l.length=z-a) (haz:a<z) (h1:a / 512<=k) (h2:k<fillN z):(nz a z L l k).length=512:=by
 have:=(i7 (k:=k) hl h1 h2 haz).1;have h3:=(i7 (k:=k) hl h1 h2 haz).2;unfold nz;rw [List.length_append,List.length_append,this,List.length_take,List.length_drop];omega
theorem pX (A B C:List UInt8) (j:Nat):(A ++ B ++ C).getD j 0=if j<A.length then A.getD j 0 else if j<A.length+B.length then B.getD (j-A.length) 0 else C.getD (j-A.length-B.length) 0:=by
 simp only [List.getD_eq_getElem?_getD];by_cases h1:j<A.length
 ·rw [if_pos h1,List.append_assoc,List.getElem?_append_left h1]
 ·rw [if_neg h1];by_cases h2:j<A.length+B.length
  ·rw [if_pos h2,List.getElem?_append_left (by rw [List.length_append];omega),List.getElem?_append_right (by omega)]
  ·rw [if_neg h2,List.getElem?_append_right (by rw [List.length_append];omega),List.length_append,Nat.sub_add_eq]
theorem jd (L:List UInt8) (n j:Nat) (h:j<n):(L.take n).getD j 0=L.getD j 0:=by
 simp only [List.getD_eq_getElem?_getD];rw [List.getElem?_take_of_lt h]
theorem kK (L:List UInt8) (n j:Nat):(L.drop n).getD j 0=L.getD (n+j) 0:=by
 simp only [List.getD_eq_getElem?_getD];rw [List.getElem?_drop]
theorem wN {a z k:Nat} {L l:List UInt8} (hL:L.length=512) (hl:l.length=z-a) (haz:a<z) (h1:a / 512<=k) (h2:k<fillN z) (j:Nat) (hj:j<512):(nz a z L l k).getD j 0=if a<=k*512+j/\k*512+j<z then l.getD (k*512+j-a) 0 else L.getD j 0:=by
 obtain ⟨h3,h4⟩:=i7 (k:=k) hl h1 h2 haz;unfold nz;rw [pX,h3,List.length_take];unfold fillN at h2;by_cases c1:j<a-k*512
 ·rw [if_pos (by omega),if_neg (by omega),jd _ _ _ c1]
 ·rw [if_neg (by omega)];by_cases c2:j<min (z-k*512) 512
  ·rw [if_pos (by omega),if_pos (by omega),jd _ _ _ (by omega),kK]
   congr 1
   omega
  ·rw [if_neg (by omega),if_neg (by omega),kK]
   congr 1
   omega
theorem xU (sl:List Nat) (a z:Nat) (Pg:Nat->List UInt8) (l:List UInt8) (hl:l.length=z-a) (haz:a<z) (hin:∀k k',a / 512<=k->k<fillN z->a / 512<=k'->k'<fillN z->sl.getD (aC k) 0=sl.getD (aC k') 0->k=k'):∀d,a / 512+d<=fillN z ->
  (∀k,a / 512<=k->k<a / 512+d->(wPs sl a z Pg l (bC (a / 512) (a / 512+d))).1 (sl.getD (aC k) 0)=nz a z (Pg (sl.getD (aC k) 0)) l k) /\
  (∀p,(∀k,a / 512<=k->k<a / 512+d->sl.getD (aC k) 0≠p)->(wPs sl a z Pg l (bC (a / 512) (a / 512+d))).1 p=Pg p)
 | 0,_=>⟨fun k h1 h2=>by omega,fun p _=>by rw [Nat.add_zero,dy];rfl⟩
 | d+1,hd=>by
  obtain ⟨ih1,ih2⟩:=xU sl a z Pg l hl haz hin d (by omega);have hr:=rk sl a z Pg l hl (by omega) d (by omega);rw [<- Nat.add_assoc,cW (by omega),nF];generalize hw:wPs sl a z Pg l (bC (a / 512) (a / 512+d))=x at *;obtain ⟨h3,h4⟩:=i7 (k:=a / 512+d) hl (by omega) (by omega) haz;have hnew:(oU sl a z x (a / 512+d)).1=bf x.1 (sl.getD (aC (a / 512+d)) 0) (nz a z (Pg (sl.getD (aC (a / 512+d)) 0)) l (a / 512+d)):=by
   have ho:=ih2 (sl.getD (aC (a / 512+d)) 0) (fun k k1 k2 e=>by have:=hin k _ k1 (by omega) (by omega) (by omega) e;omega);unfold oU nz;rw [hr,ho,h3,h4]
  refine ⟨fun k k1 k2 => ?_,fun p hp => ?_⟩
  ·rw [hnew];unfold bf;by_cases e:k=a / 512+d
   ·subst e;rw [if_pos rfl]
   ·rw [if_neg (fun e'=>e (hin _ _ k1 (by omega) (by omega) (by omega) e'))];exact ih1 k k1 (by omega)
  ·rw [hnew];unfold bf;rw [if_neg (fun e=>hp (a / 512+d) (by omega) (by omega) e.symm)];exact ih2 p (fun k k1 k2=>hp k k1 (by omega))
end
end Go.Proofs.YtpiieilffkickaaGreatDoor
