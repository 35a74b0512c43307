/- Several of my texts in one: InStZ, InStY, InStX, InErr, DOther, DRemP, DRem, DDrop, DCall, DList, DSplit, L7Open, InFree, DLive, DSt, DDo, DStep, R6Edit, R6Get, DBackW, DRefN, R7Look, R7Slot, R7Find, R7Byte, R6App. -/
import Derived.Test.YtpiieilffkickaaGreatDoorJoined5
import Derived.Test.YtpiieilffkickaaGreatDoorJoined6
import Derived.Sort.OwnSorted
import Derived.Test.YtpiieilffkickaaGreatDoorJoined4
import Derived.Test.YtpiieilffkickaaGreatDoorJoined2
set_option maxRecDepth 100000
namespace Go.Proofs.YtpiieilffkickaaGreatDoor
section
open Go.RowKit
section
variable {w w':World} {s m c ino:Nat} {F:Nat->Prop} {N:Nat} {Pg Cm:Nat->List UInt8} {fs:Nat->Option ao} {o u:Nat} {i:Nat} {f:ao}
theorem tz (h:St w s m c F N ino Pg Cm fs o u) (hf:fs i=some f) (hu:u<900000) (a:Nat) (ha7:a<=70656) (R Q:Int->World->Prop)
  (hw:∀W p D,ac F w W->Pc W c F 100 N Pg Cm D o (u+3)->aT W m c ino->aD W p m (f.S i f.data.length)->w.heap.size<=p ->
   Calls Tryz.prog 151 #[.pointer (some ⟨p,0,none⟩),.int .i64 a] W fun e w'=>∃r:Int,e = .returned (.int .i64 r)/\ac (fun i=>F i\/i=p) W w'/\R r w')
  (hen:∀W r,bG W s m->aT W m c ino->R r W->Calls Tryz.prog 67 #[.pointer (some ⟨s,0,none⟩),.int .i64 r] W fun e w'=>e = .returned (.int .i64 r)/\ac F W w'/\Q r w') :
  Calls Tryz.prog 83 #[.pointer (some ⟨s,0,none⟩),.int .i64 i,.int .i64 a] w fun e w'=>∃r:Int,e = .returned (.int .i64 r)/\ac F w w'/\Q r w':=by
 have HGt:=hid (gJ h hf (by omega));have HOp:=hid (fun W D (hm:aT W m c ino) (hp:Pc W c F 100 N Pg Cm D o (u+2))=>jB hm hp h.good hf (by omega));have HWr:=hid hw;have HEn0:=hid hen;have hok:=h.good.file i f hf;have hnf:=h.good.nf;have HNl:Hid ((nodeC f.node).length=15):=by unfold Hid nodeC;rw [List.length_append,List.length_map,(hok.node (by omega) h.good.n4).pages];rfl
 have ha0:¬((a:Int)<0):=by omega
 have ha1:¬((70656:Int)<(a:Int)):=by omega
 have HFl:=hid h.lt;have HSl:Hid (s<w.heap.size):=ae h.store;have HMl:Hid (m<w.heap.size):=ae h.map;unfold ct at HGt HOp;unfold gV at HOp;clear hw h hf hok hnf hen;have hnc1:=bE f.node;generalize nodeC f.node=nc at *;have HN1:=hid hnc1;clear hnc1;go_enter Tryz.func83,Tryz.ntmps83
 go_wp2_with fail
 refine HGt.out.mono ?_;clear HGt;rintro e w1 ⟨rfl,hk1,hs1⟩;have c1:=hs1.store.cell;have HS1:=hid hs1;have HK1:=hid hk1;clear hk1 hs1
 go_wp2_with (refine am rfl 142 (.tmp 7) (.tmp 13) rfl w1.heap.size nc.toArray rfl rfl _ _ (af w1 _) (by rw [List.size_toArray,HNl.out];rfl) (by rw [List.size_toArray,HNl.out];kernel_rfl) HN1.out ?_;intro w2 hg2 hb2 hz2)
 have hb12:Below w1.heap.size w1 w2:=((Below.refl _ w1).alloc (Nat.le_refl _) _).grown hg2 (by simp) (fun k e=>by cases e;exact Nat.le_refl _);have hs2:=HS1.out.below hb12;have HB12:=hid hb12;have HS2:=hid hs2;have HR2:=hid hb2;have hbd:Below w2.heap.size w2 w2.drew:=(Below.refl _ w2).drew;have hs3:=hs2.below hbd;have hr3:=ah hbd hb2 (ae hb2);have d0:=hs3.store.cell;have HBd:=hid hbd;have HS3:=hid hs3;have HR3:=hid hr3;obtain ⟨D,hp3⟩:=hs3.pc;have HO3:=hid (HOp.out w2.drew D hs3.map hp3);clear hg2 hz2 hbd hs2 hb12 hs3 hp3 HOp c1;refine wp_region_noPanic ?_;refine wp_region_held_drew (S:=fun W=>W.cell? ⟨s,0,none⟩=some (.pointer (some ⟨m,0,none⟩))/\W.heap[w1.heap.size]? = some (.cells nc.toArray 142 (0,0))) (by kernel_rfl) ⟨d0,hr3⟩ (fun hHeld => ?_);clear hb2 hr3;generalize w2.drew=wd at *;refine tq 0 _ ?_
 try simp only [tS]
 refine tq 1 _ ?_
 try simp only [tS]
 refine tq 2 _ ?_
 try simp only [tS]
 refine tq 3 _ ?_
 try simp only [tS]
 refine tq 4 _ ?_
 try simp only [tS]
 refine tq 5 _ ?_
 try simp only [tS]
 refine wpAnyH_take (i:=6) (v := .agg nc.toArray) rfl (by kernel_rfl) (by kernel_rfl) (by kernel_rfl) (fun _ _ _ h=>h) (yieldsIf_load_mid (by rfl) 142 (.tmp 7) rfl w1.heap.size 0 rfl nc _ (fun W hW=>by have:=aL hW.2;exact this) Tryz.underlying142 rfl (by rw [HNl.out];kernel_rfl)) (by assumption) ?_
 try simp only [tS]
 refine tq 8 _ ?_
 try simp only [tS]
 refine tr 7 (fun K hK => ?_);go_simp;refine HO3.out.mono ?_;clear HO3;rintro e w4 ⟨p,rfl,hp4,hf4,hk4,hq4⟩;have hwl:=HB12.out.size;have hwk:=HK1.out.size;have hwd:=HBd.out.size;have kw4:ac F w w4:=((HK1.out.trans (ac.of_below HB12.out:ac F w1 w2) (fun i e => .inl e)).trans (ac.of_below HBd.out:ac F w2 wd) (fun i e => .inl e)).trans hk4 (fun i e => .inl e);have hnF:∀j,w.heap.size<=j->¬F j:=fun j hj hh=>by have:=HFl.out j hh;omega
 have HW4:=hid (HWr.out w4 p D kw4 hq4 (HS3.out.map.keep hk4 HS3.out.mF) hf4 (by omega));have hst4:=HS3.out.store.keep hk4 HS3.out.sF;have e0:=hst4.cell;have r4:=hk4.heap HR3.out (hnF _ (by omega));have HST4:=hid hst4;have HMp4:=hid (HS3.out.map.keep hk4 HS3.out.mF);have HR4:=hid r4;have HK4:=hid kw4;have HNF:=hid hnF;have HP4:=hid hp4;clear hf4 hk4 hq4 kw4 hst4 hnF HWr HR3 d0
 go_wp2_with fail
 refine hK.out _ _ ⟨e0,r4⟩ (fun hHeld => ?_);clear hK K r4
 try simp only [tS]
 refine tr 9 (fun K hK => ?_);go_simp;refine HW4.out.mono ?_;clear HW4;rintro e w5 ⟨r,rfl,hk5,hR5⟩;have hp4:=HP4.out;have hsl:=HSl.out;have hbl:=ae HR2.out;have hst5:=HST4.out.keep hk5 (fun hh=>hh.elim HS3.out.sF (fun e=>by omega));have r5:=hk5.heap HR4.out (fun hh=>hh.elim (HNF.out _ (by omega)) (fun e=>by omega));have g0:=hst5.cell;have hm5:=HMp4.out.keep hk5 (fun hh=>hh.elim HS3.out.mF (fun e=>by have:=HMl.out;omega));have HEn:=hid (HEn0.out w5 r hst5 hm5 hR5);have HK5:Hid (ac F w w5):=HK4.out.trans hk5 (fun i e=>e.elim .inl (fun e => .inr (by omega)));have HST5:=hid hst5;have HR5:=hid r5;clear hk5 hR5 hst5 hp4 hsl hbl e0 hm5
 go_wp2_with fail
 refine hK.out _ _ ⟨g0,r5⟩ (fun hHeld => ?_);clear hK K
 try simp only [tS]
 refine tr 10 (fun K hK => ?_);go_simp;refine HEn.out.mono ?_;clear HEn;rintro e w6 ⟨rfl,hk6,hQ6⟩;have g6:=(HST5.out.keep hk6 HS3.out.sF).cell;have r6:=hk6.heap HR5.out (HNF.out _ (by have:=HB12.out.size;have:=HK1.out.size;omega));have HK6:=hid (HK5.out.trans hk6 (fun i e => .inl e));have HQ6:=hid hQ6;clear hk6 hQ6 g0 r5
 go_wp2_with fail
 refine hK.out _ _ ⟨g6,r6⟩ (fun hHeld => ?_);clear hK K
 try simp only [tS]
 refine tq 11 _ ?_
 try simp only [tS]
 refine wpAnyH_done (by kernel_rfl) ?_ _;refine NoPanic.normal ?_;clear hHeld
 go_wp2_with fail
 go_ret;exact ⟨r,rfl,HK6.out,HQ6.out⟩
end
end
section
set_option maxRecDepth 100000
open Go.RowKit
section
variable {w w':World} {m c ino p:Nat} {F:Nat->Prop} {size N:Nat} {Pg Cm:Nat->List UInt8} {fs:Nat->Option ao} {o u k kk:Nat} {i:Nat} {f:ao}
theorem nS (hm:aT w m c ino) (hmF:¬F m) (hp:Pe w c F size N Pg Cm o u (k+kk)) (hg:aF gq N ino Pg fs) (hf:fs i=some f) (hfi:aD w p m (f.S i f.data.length)) (hpF:¬F p) (hmp:m≠p) (hu:u<880000) (t:Nat) (ht:t<=70656)
  (hkk:1+2*(au t-f.cnt)+(f.cnt-au t)+2<=kk) :
  Calls Tryz.prog 151 #[.pointer (some ⟨p,0,none⟩),.int .i64 t] w fun e w'=>ac (fun i=>F i\/i=p) w w' /\
   ((au t-f.cnt<=(frL Pg N ino).length/\e = .returned (.int .i64 0)/\∃Pg' f',f'.kind=f.kind/\f'.mode=f.mode/\f'.links=f.links/\f'.data=rsz f.data t/\aF gq N ino Pg' (bj fs i (some f'))/\Pe w' c F size N Pg' Cm o (u+150) k) \/
   ((frL Pg N ino).length<au t-f.cnt/\e = .returned (.int .i64 7)/\∃Pg' D',Pc w' c F size N Pg' Cm D' o (u+150))):=by
 have HHo:=hid (mP (k:=k+2) (kk:=kk-2) hm hmF (by obtain ⟨D,h1,h2⟩:=hp;exact ⟨D,h1.le (by omega),h2⟩) hg hf hfi hpF (by omega) t ht (by omega));have HG:=hid hg;have HFs:=hid hf;have HMp:=hid hm;clear hp hg hf hfi hm hkk;go_enter Tryz.func151,Tryz.ntmps151
 go_wp2_with fail
 refine HHo.out.mono ?_;clear HHo;rintro e w1 ⟨hk1,⟨hy,rfl,hf1,hp1⟩ | ⟨hx,rfl,Pg',D',hp1⟩⟩
 ·obtain ⟨q1,q2,q3,q4,q5,q6⟩:=HG.out.hold HFs.out t ht hy;have HSv:=hid (mw (z:=t) hmF q6 (aK _ _ _) (by rw [q4,cM]) q5 hpF (by omega) hf1 (HMp.out.keep hk1 (fun hh=>hh.elim hmF hmp)) hp1);have HQ:=hid (And.intro q1 (And.intro q2 (And.intro q3 (And.intro q4 (And.intro q5 q6)))));have HK1:=hid hk1;clear hk1 hf1 hp1 q1 q2 q3 q4 q5 q6
  go_wp2_with fail
  refine HSv.out.mono ?_;clear HSv;rintro e w2 ⟨rfl,hk2,hp2⟩;have HK2:=hid hk2;have HP2:=hid hp2;clear hk2 hp2
  go_wp2_with fail
  go_ret;obtain ⟨q1,q2,q3,q4,q5,q6⟩:=HQ.out;refine ⟨HK1.out.trans HK2.out (fun i e => .inl (.inl e)),.inl ⟨hy,rfl,_,_,q1,q2,q3,q4,q6.save (aK _ _ _) (by rw [q4,cM];exact q5),?_⟩⟩;obtain ⟨D,h1,h2⟩:=HP2.out;exact ⟨D,h1,h2.more (Nat.le_refl _) (by omega)⟩
 ·have HK1:=hid hk1;have HP1:=hid hp1;clear hk1 hp1
  go_wp2_with fail
  go_ret;exact ⟨HK1.out,.inr ⟨hx,rfl,Pg',D',HP1.out.more (Nat.le_refl _) (by omega)⟩⟩
end
end
section
open Go.RowKit
section
variable {w w':World} {s m c ino:Nat} {F:Nat->Prop} {N:Nat} {Pg Cm:Nat->List UInt8} {fs cs:Nat->Option ao} {o u:Nat} {i:Nat} {f:ao}
def zV (w':World) (s m c:Nat) (F:Nat->Prop) (N ino:Nat) (Cm:Nat->List UInt8) (fs:Nat->Option ao) (o u i:Nat) (f:ao) (d:List UInt8):Prop :=
 ∃Pg' f',f'.kind=f.kind/\f'.mode=f.mode/\f'.links=f.links/\f'.data=d/\St w' s m c F N ino Pg' Cm (bj fs i (some f')) o u
theorem sP (h:St w s m c F N ino Pg Cm fs o u) (hf:fs i=some f) (hu:u<800000) (t:Nat) (ht:t<=70656) (hfr:au t-f.cnt<=(frL Pg N ino).length) :
  Calls Tryz.prog 83 #[.pointer (some ⟨s,0,none⟩),.int .i64 i,.int .i64 t] w fun e w'=>e = .returned (.int .i64 0)/\ac F w w'/\zV w' s m c F N ino Cm fs o (u+303) i f (rsz f.data t):=by
 refine (tz h hf (by omega) t ht
  (fun r W=>r=0/\∃Pg' f',f'.kind=f.kind/\f'.mode=f.mode/\f'.links=f.links/\f'.data=rsz f.data t/\aF gq N ino Pg' (bj fs i (some f'))/\∃D',Pc W c F 100 N Pg' Cm D' o (u+303))
  (fun r W=>r=0/\∃Pg' f',f'.kind=f.kind/\f'.mode=f.mode/\f'.links=f.links/\f'.data=rsz f.data t/\aF gq N ino Pg' (bj fs i (some f'))/\∃D',Pc W c F 100 N Pg' Cm D' o (u+303))
  (fun W p D hk hp hm hfi hpl => ?_) (fun W r hs hm hR => ?_)).mono ?_
 ·have hml:m<w.heap.size:=ae h.map;refine (nS (k:=0) (kk:=1+2*(au t-f.cnt)+(f.cnt-au t)+2) hm h.mF ⟨D,zo h.few _ _,hp⟩ h.good hf hfi (fun hh=>by have:=h.lt _ hh;omega) (by omega) (by omega) t ht (Nat.le_refl _)).mono ?_;rintro e w' ⟨hk',⟨hy,rfl,Pg',f',h1,h2,h3,h4,h5,D',-,h6⟩ | ⟨hx,-⟩⟩
  ·exact ⟨0,rfl,hk',rfl,Pg',f',h1,h2,h3,h4,h5,D',h6.more (Nat.le_refl _) (by omega)⟩
  ·exact absurd hfr (Nat.not_le.2 hx)
 ·obtain ⟨rfl,hR⟩:=hR;refine (pR s W).mono ?_;rintro e w' ⟨rfl,rfl⟩;exact ⟨rfl,ac.refl _ _,rfl,hR⟩
 ·rintro e w' ⟨r,rfl,hk,rfl,Pg',f',h1,h2,h3,h4,h5,h6⟩;exact ⟨rfl,hk,Pg',f',h1,h2,h3,h4,h.map.keep hk h.mF,h.store.keep hk h.sF,h.mF,h.sF,h.few,h6,h5⟩
end
end
section
set_option maxRecDepth 100000
set_option maxHeartbeats 1000000
open Go.RowKit
def qa:Value := .agg #[.int .i64 0,.int .i64 0,.int .i64 0,.int .i64 0,.int .i64 0,.int .i64 0,.int .i64 0,.int .i64 0,.int .i64 0,.int .i64 0,.int .i64 0,.int .i64 0,.int .i64 0,.int .i64 0,.int .i64 0]
def gErr (ino:Nat) (fs:Nat->Option ao) (n:Int):Int:=if 0<n/\n<(ino:Int) then (if (fs n.toNat).isSome then 0 else 4) else 2
section
variable {w w':World} {s m c ino:Nat} {F:Nat->Prop} {N:Nat} {Pg Cm:Nat->List UInt8} {fs:Nat->Option ao} {o u:Nat}
theorem xW (h:St w s m c F N ino Pg Cm fs o u) (n:Int) (hn:gErr ino fs n≠0) (hu:u<900000):Calls Tryz.prog 78 #[.pointer (some ⟨s,0,none⟩),.int .i64 n] w fun e w'=>e = .returned (.tuple #[qa,.int .i64 (gErr ino fs n)])/\ac F w w'/\St w' s m c F N ino Pg Cm fs o (u+1):=by
 unfold qa;obtain ⟨D,hp⟩:=h.pc;obtain ⟨wb,hwb⟩:∃wb,wb=w.alloc (.cells #[.int .i64 0,.int .i64 0,.int .i64 0,.int .i64 0,.int .i64 0,.int .i64 0,.int .i64 0,.int .i64 0,.int .i64 0,.int .i64 0,.int .i64 0,.int .i64 0,.int .i64 0,.int .i64 0,.int .i64 0] 142):=⟨_,rfl⟩;have hB:Below w.heap.size w wb:=by rw [hwb];exact (Below.refl _ w).alloc (Nat.le_refl _) _
 have hr0:wb.heap[w.heap.size]? = some (.cells #[.int .i64 0,.int .i64 0,.int .i64 0,.int .i64 0,.int .i64 0,.int .i64 0,.int .i64 0,.int .i64 0,.int .i64 0,.int .i64 0,.int .i64 0,.int .i64 0,.int .i64 0,.int .i64 0,.int .i64 0] 142 (0,0)):=by rw [hwb];exact af w _
 have hstb:=h.below hB;have HIn:=hid (ki hstb.map);have c0:wb.cell? ⟨s,0,none⟩=some (.pointer (some ⟨m,0,none⟩)):=hstb.store.cell;have HFl:=hid h.lt;have hnf:=h.good.nf;have HSb:=hid hstb;have HB:=hid hB;have HR0:=hid hr0;have HEnd:Hid (∀W w6:World,ac F wb W->St W s m c F N ino Pg Cm fs o (u+1)->W.heap[w.heap.size]? = some (.cells #[.int .i64 0,.int .i64 0,.int .i64 0,.int .i64 0,.int .i64 0,.int .i64 0,.int .i64 0,.int .i64 0,.int .i64 0,.int .i64 0,.int .i64 0,.int .i64 0,.int .i64 0,.int .i64 0,.int .i64 0] 142 (0,0))->W.grownBy w6 (some w.heap.size)->ac F w w6/\St w6 s m c F N ino Pg Cm fs o (u+1)):=fun W w6 hk hst hb hg=>by
  have k6:ac (fun i=>i=w.heap.size) W w6:=ac.of_grown hg (fun i e=>(Option.some.inj e).symm);have hoff:fW W w.heap.size:=rW (cs:=List.replicate 15 (Value.int .i64 0)) hb wy;have hne:¬F w.heap.size:=fun hh=>Nat.lt_irrefl _ (HFl.out _ hh);obtain ⟨D',hp'⟩:=hst.pc;have hml:m<w.heap.size:=ae h.map;have hsl:s<w.heap.size:=ae h.store;exact ⟨((ac.of_below HB.out:ac F w wb).trans hk (fun i e => .inl e)).trans k6 (fun i e => .inr (by have e':i=w.heap.size:=e;omega)),hst.map.keep k6 (fun e=>by have e':m=w.heap.size:=e;omega),hst.store.keep k6 (fun e=>by have e':s=w.heap.size:=e;omega),hst.mF,hst.sF,hst.few,⟨D',hp'.keepY hoff hne k6⟩,hst.good⟩
 have ht:(0<n/\n<(ino:Int))->takenP (Pg 1) 1 ino n=false/\gErr ino fs n=4:=fun hi=>by
  unfold gErr at hn ⊢;rw [if_pos hi] at hn ⊢;have hno:¬(fs n.toNat).isSome=true:=fun e=>hn (by rw [if_pos e]);rw [if_neg hno];refine ⟨?_,rfl⟩;unfold takenP;rw [if_pos ⟨by omega,by omega⟩];cases hb:de (Pg 1) n.toNat
  ·rfl
  ·rcases (h.good.ibit n.toNat (by omega)).1 hb with e | e
   ·omega
   ·exact absurd e hno
 have HUs:=hid (iq hstb.map h.mF h.good.i5 n (by omega) (show u<1000000 by omega) (hp.below hB));by_cases h1:n<=0
 ·have he:gErr ino fs n=2:=by unfold gErr;rw [if_neg (by omega)]
  rw [he];clear h hp hB hr0 hstb ht hn HUs HIn;rw [hwb] at c0;go_enter Tryz.func78,Tryz.ntmps78
  go_wp2_with (refine am rfl 142 (.tmp 4) (.tmp 21) rfl w.heap.size (List.replicate 15 (Value.int .i64 0)).toArray rfl rfl _ _ (af w _) (by kernel_rfl) (by kernel_rfl) (by kernel_rfl) ?_;intro w6 hg6 hb6 hz6)
  rw [<- hwb] at hg6;have:=HEnd.out wb w6 (ac.refl _ _) (HSb.out.more (by omega)) HR0.out hg6;exact bodyPost_ret (fP rfl rfl hb6 rfl) rfl ⟨rfl,this.1,this.2⟩
 ·by_cases h2:(ino:Int)<=n
  ·have he:gErr ino fs n=2:=by unfold gErr;rw [if_neg (by omega)]
   rw [he];clear h hp hB hr0 hstb ht hn HUs;rw [hwb] at c0;go_enter Tryz.func78,Tryz.ntmps78
   go_wp2_with fail
   rw [<- hwb] at c0 ⊢;clear hwb;refine HIn.out.mono ?_;clear HIn;rintro e w1 ⟨rfl,h3⟩;obtain rfl:=h3.symm;clear h3
   go_wp2_with (refine am rfl 142 (.tmp 4) (.tmp 21) rfl w.heap.size (List.replicate 15 (Value.int .i64 0)).toArray rfl rfl _ _ HR0.out (by kernel_rfl) (by kernel_rfl) (by kernel_rfl) ?_;intro w6 hg6 hb6 hz6)
   have:=HEnd.out _ w6 (ac.refl _ _) (HSb.out.more (by omega)) HR0.out hg6;exact bodyPost_ret (fP rfl rfl hb6 rfl) rfl ⟨rfl,this.1,this.2⟩
  ·obtain ⟨ht1,ht2⟩:=ht ⟨by omega,by omega⟩;rw [ht1] at HUs;rw [ht2];have HKp:=hid (And.intro h.mF h.sF);clear h hp hB hr0 hstb ht hn ht1 ht2;rw [hwb] at c0;go_enter Tryz.func78,Tryz.ntmps78
   go_wp2_with fail
   rw [<- hwb] at c0 ⊢;clear hwb;refine HIn.out.mono ?_;clear HIn;rintro e w1 ⟨rfl,h3⟩;obtain rfl:=h3.symm;clear h3
   go_wp2_with fail
   refine HUs.out.mono ?_;clear HUs;rintro e w2 ⟨rfl,hk2,hp2⟩;have hst2:St w2 s m c F N ino Pg Cm fs o (u+1):=⟨HSb.out.map.keep hk2 HKp.out.1,HSb.out.store.keep hk2 HKp.out.2,HKp.out.1,HKp.out.2,HSb.out.few,⟨D,hp2⟩,HSb.out.good⟩;have HR2:=hid (hk2.heap HR0.out (fun hf=>by have:=HFl.out _ hf;omega));have HK2:=hid hk2;have HS2:=hid hst2;clear hk2 hp2 hst2 c0
   go_wp2_with (refine am rfl 142 (.tmp 4) (.tmp 30) rfl w.heap.size (List.replicate 15 (Value.int .i64 0)).toArray rfl rfl _ _ HR2.out (by kernel_rfl) (by kernel_rfl) (by kernel_rfl) ?_;intro w6 hg6 hb6 hz6)
   have:=HEnd.out w2 w6 HK2.out HS2.out HR2.out hg6;exact bodyPost_ret (fP rfl rfl hb6 rfl) rfl ⟨rfl,this.1,this.2⟩
end
end
section
set_option maxRecDepth 100000
set_option maxHeartbeats 1000000
open Go.RowKit
section
variable {w w':World} {s m c ino:Nat} {F:Nat->Prop} {N:Nat} {Pg Cm:Nat->List UInt8} {fs:Nat->Option ao} {o u:Nat} {i:Nat} {f:ao}
theorem q7 (h:St w s m c F N ino Pg Cm fs o u) (n:Int) (hn:gErr ino fs n≠0) (hu:u<800000):Calls Tryz.prog 41 #[.pointer (some ⟨s,0,none⟩),.int .i64 n] w fun e w'=>e = .returned (.tuple #[io,.int .i64 (gErr ino fs n)])/\ac F w w'/\St w' s m c F N ino Pg Cm fs o (u+2):=by
 obtain ⟨wA,hA⟩:∃wA,wA=w.alloc (.cells #[.pointer none,.int .i64 0,.int .i64 0] 69):=⟨_,rfl⟩;have hba:Below w.heap.size w wA:=by rw [hA];exact (Below.refl _ w).alloc (Nat.le_refl _) _
 have hra:wA.heap[w.heap.size]? = some (.cells #[.pointer none,.int .i64 0,.int .i64 0] 69 (0,0)):=by rw [hA];exact af w _
 have HG:=hid (xW (h.below hba) n hn (by omega));unfold qa at HG;unfold io;have HFl:=hid h.lt;have HBA:=hid hba;have HRA:=hid hra;have hr0:(gErr ino fs n != 0)=true:=bne_iff_ne.2 hn;clear hba hra h hn;generalize gErr ino fs n=r at *;go_enter Tryz.func41,Tryz.ntmps41
 go_wp2_with fail
 rw [<- hA];clear hA;refine HG.out.mono ?_;clear HG;rintro e w1 ⟨rfl,hk1,hs1⟩;have hr1:=hk1.heap HRA.out (fun hh=>Nat.lt_irrefl _ (HFl.out _ hh));have hK1:ac F w w1:=(ac.of_below HBA.out:ac F w wA).trans hk1 (fun i e => .inl e);have hbn:=(Below.refl w1.heap.size w1).alloc (Nat.le_refl _) (.cells #[.int .i64 0,.int .i64 0,.int .i64 0,.int .i64 0,.int .i64 0,.int .i64 0,.int .i64 0,.int .i64 0,.int .i64 0,.int .i64 0,.int .i64 0,.int .i64 0,.int .i64 0,.int .i64 0,.int .i64 0] 142);have HR1:=hid (aj hr1 (.cells #[.int .i64 0,.int .i64 0,.int .i64 0,.int .i64 0,.int .i64 0,.int .i64 0,.int .i64 0,.int .i64 0,.int .i64 0,.int .i64 0,.int .i64 0,.int .i64 0,.int .i64 0,.int .i64 0,.int .i64 0] 142));have HK1:=hid (hK1.andBelow hbn);have HS1:=hid (hs1.below hbn);clear hr1 hK1 hbn hk1 hs1 HRA HBA
 go_wp2_with (refine am rfl 69 (.tmp 4) (.tmp 16) rfl w.heap.size #[.pointer none,.int .i64 0,.int .i64 0] rfl rfl _ _ HR1.out rfl (by kernel_rfl) (by simp [Value.oneCell']) ?_;intro w3 hg3 hb3 hz3;refine Hid.out ?_)
 have HB3:=hid hb3;have hk3:ac (fun j=>j=w.heap.size) _ w3:=ac.of_grown hg3 (fun i e=>(Option.some.inj e).symm);have HS3:Hid (∀W,W=w3->ac F w W/\St W s m c F N ino Pg Cm fs o (u+2)):=fun W e=>by
  subst e;exact ⟨HK1.out.trans hk3 (fun i e => .inr (by have e':i=w.heap.size:=e;omega)),(HS1.out.keepD HR1.out ja (fun hh=>Nat.lt_irrefl _ (HFl.out _ hh)) hk3).more (by omega)⟩
 clear hg3 hb3 hz3 hk3 HS1 HK1 HR1;refine hid ?_;go_wp2;exact bodyPost_ret (eG rfl rfl HB3.out rfl) rfl ⟨rfl,(HS3.out _ rfl).1,(HS3.out _ rfl).2⟩
theorem o7 (h:St w s m c F N ino Pg Cm fs o u) (hf:fs i=some f) (hk:f.kind≠2) (hu:u<900000):Calls Tryz.prog 41 #[.pointer (some ⟨s,0,none⟩),.int .i64 i] w fun e w'=>e = .returned (.tuple #[io,.int .i64 10])/\ac F w w'/\St w' s m c F N ino Pg Cm fs o (u+2):=by
 obtain ⟨wA,hA⟩:∃wA,wA=w.alloc (.cells #[.pointer none,.int .i64 0,.int .i64 0] 69):=⟨_,rfl⟩;have hba:Below w.heap.size w wA:=by rw [hA];exact (Below.refl _ w).alloc (Nat.le_refl _) _
 have hra:wA.heap[w.heap.size]? = some (.cells #[.pointer none,.int .i64 0,.int .i64 0] 69 (0,0)):=by rw [hA];exact af w _
 have HGt:=hid (gJ (h.below hba) hf (by omega));have hok:=h.good.file i f hf;have hnf:=h.good.nf;have HNl:Hid ((nodeC f.node).length=15):=by unfold Hid nodeC;rw [List.length_append,List.length_map,(hok.node (by omega) h.good.n4).pages];rfl
 obtain ⟨kd,hkd⟩:∃kd:Int,kd=((f.kind:Nat):Int):=⟨_,rfl⟩;have HN0:Hid ((nodeC f.node)[0]? = some (.int .i64 kd)):=by unfold Hid;rw [hkd];rfl
 have hk2:(kd != 2)=true:=bne_iff_ne.2 (by omega);have HFl:=hid h.lt;have HBA:=hid hba;have HRA:=hid hra;unfold ct at HGt;unfold io;clear h hf hok hnf hk hba hra hkd;have hnc1:=bE f.node;generalize nodeC f.node=nc at *;have HN1:=hid hnc1;clear hnc1;go_enter Tryz.func41,Tryz.ntmps41
 go_wp2_with fail
 rw [<- hA];clear hA;refine HGt.out.mono ?_;clear HGt;rintro e w1 ⟨rfl,hk1,hs1⟩;have HR1:=hid (hk1.heap HRA.out (fun hh=>Nat.lt_irrefl _ (HFl.out _ hh)));have HS1:=hid hs1;have HK1:Hid (ac F w w1):=(ac.of_below HBA.out:ac F w wA).trans hk1 (fun i e => .inl e);clear hk1 hs1
 go_wp2_with (refine am rfl 142 (.tmp 6) (.tmp 12) rfl w1.heap.size nc.toArray rfl rfl _ _ (af w1 _) (by rw [List.size_toArray,HNl.out];rfl) (by rw [List.size_toArray,HNl.out];kernel_rfl) HN1.out ?_;intro w2 hg2 hb2 hz2;refine Hid.out ?_)
 have hb12:Below w1.heap.size w1 w2:=((Below.refl _ w1).alloc (Nat.le_refl _) _).grown hg2 (by simp) (fun k e=>by cases e;exact Nat.le_refl _);have c0:w2.cell? ⟨w1.heap.size,0,none⟩=some (.int .i64 kd):=by rw [aa hb2,List.getElem?_toArray];exact HN0.out
 have hr2:=ah hb12 HR1.out (ae HR1.out);have HS2:=hid (HS1.out.below hb12);have HK2:Hid (ac F w w2):=HK1.out.trans (ac.of_below hb12:ac F w1 w2) (fun i e => .inl e);have HR2:=hid hr2;clear hg2 hb2 hz2 hb12 hr2;refine hid ?_
 go_wp2_with (refine am rfl 69 (.tmp 4) (.tmp 21) rfl w.heap.size #[.pointer none,.int .i64 0,.int .i64 0] rfl rfl _ _ HR2.out rfl (by kernel_rfl) (by simp [Value.oneCell']) ?_;intro w3 hg3 hb3 hz3;refine Hid.out ?_)
 have HB3:=hid hb3;have hk3:ac (fun j=>j=w.heap.size) w2 w3:=ac.of_grown hg3 (fun i e=>(Option.some.inj e).symm);have HS3:Hid (∀W,W=w3->ac F w W/\St W s m c F N ino Pg Cm fs o (u+2)):=fun W e=>by
  subst e;exact ⟨HK2.out.trans hk3 (fun i e => .inr (by have e':i=w.heap.size:=e;omega)),HS2.out.keepD HR2.out ja (fun hh=>Nat.lt_irrefl _ (HFl.out _ hh)) hk3⟩
 clear hg3 hb3 hz3 hk3 HS2 HK2 HR2 HS1 HK1 HR1 HRA HBA c0;refine hid ?_;go_wp2;exact bodyPost_ret (eG rfl rfl HB3.out rfl) rfl ⟨rfl,(HS3.out _ rfl).1,(HS3.out _ rfl).2⟩
theorem nw (n:Int) (nm:ByteArray) {r:Int} (hr:r≠0) (hFl:∀j,F j->j<w.heap.size)
  (hO:∀W,Below w.heap.size w W->Calls Tryz.prog 41 #[.pointer (some ⟨s,0,none⟩),.int .i64 n] W fun e w'=>e = .returned (.tuple #[io,.int .i64 r])/\ac F W w'/\St w' s m c F N ino Pg Cm fs o (u+2)) :
  Calls Tryz.prog 30 #[.pointer (some ⟨s,0,none⟩),.int .i64 n,.string nm] w fun e w'=>e = .returned (.tuple #[io,.int .i64 r])/\ac F w w'/\St w' s m c F N ino Pg Cm fs o (u+2):=by
 obtain ⟨wA,hA⟩:∃wA,wA=w.alloc (.cells #[.pointer none,.int .i64 0,.int .i64 0] 69):=⟨_,rfl⟩;have hba:Below w.heap.size w wA:=by rw [hA];exact (Below.refl _ w).alloc (Nat.le_refl _) _
 have hra:wA.heap[w.heap.size]? = some (.cells #[.pointer none,.int .i64 0,.int .i64 0] 69 (0,0)):=by rw [hA];exact af w _
 have HOp:=hid (hO wA hba);have HFl:=hid hFl;have HBA:=hid hba;have HRA:=hid hra;unfold io at HOp ⊢;have hr1:(r==0)=false:=beq_false_of_ne hr;clear hba hra hO hFl hr;go_enter Tryz.func30,Tryz.ntmps30
 go_wp2_with fail
 rw [<- hA];clear hA;refine HOp.out.mono ?_;clear HOp;rintro e w1 ⟨rfl,hk1,hs1⟩;have hr1':=hk1.heap HRA.out (fun hh=>Nat.lt_irrefl _ (HFl.out _ hh));have hK1:ac F w w1:=(ac.of_below HBA.out:ac F w wA).trans hk1 (fun i e => .inl e);have hbn:=(Below.refl w1.heap.size w1).alloc (Nat.le_refl _) (.cells #[.pointer none,.int .i64 0,.int .i64 0] 69);have hxn:=af w1 (.cells #[.pointer none,.int .i64 0,.int .i64 0] 69);have HR1:=hid (aj hr1' (.cells #[.pointer none,.int .i64 0,.int .i64 0] 69));have HK1:=hid (hK1.andBelow hbn);have HS1:=hid (hs1.below hbn);have f0:(w1.alloc (.cells #[.pointer none,.int .i64 0,.int .i64 0] 69)).cell? ⟨w1.heap.size,0,none⟩=some (.pointer none):=aa hxn 0;have f1:(w1.alloc (.cells #[.pointer none,.int .i64 0,.int .i64 0] 69)).cell? ⟨w1.heap.size,1,none⟩=some (.int .i64 0):=aa hxn 1;have f2:(w1.alloc (.cells #[.pointer none,.int .i64 0,.int .i64 0] 69)).cell? ⟨w1.heap.size,2,none⟩=some (.int .i64 0):=aa hxn 2;clear hr1' hK1 hbn hxn hk1 hs1 HRA HBA
 go_wp2_with (refine am rfl 69 (.tmp 6) (.tmp 24) rfl w.heap.size #[.pointer none,.int .i64 0,.int .i64 0] rfl rfl _ _ HR1.out rfl (by kernel_rfl) (by simp [Value.oneCell']) ?_;intro w3 hg3 hb3 hz3;refine Hid.out ?_)
 have HB3:=hid hb3;have hk3:ac (fun j=>j=w.heap.size) _ w3:=ac.of_grown hg3 (fun i e=>(Option.some.inj e).symm);have HS3:Hid (∀W,W=w3->ac F w W/\St W s m c F N ino Pg Cm fs o (u+2)):=fun W e=>by
  subst e;exact ⟨HK1.out.trans hk3 (fun i e => .inr (by have e':i=w.heap.size:=e;omega)),HS1.out.keepD HR1.out ja (fun hh=>Nat.lt_irrefl _ (HFl.out _ hh)) hk3⟩
 clear hg3 hb3 hz3 hk3 HS1 HK1 HR1 f0 f1 f2;refine hid ?_;go_wp2;exact bodyPost_ret (e8 rfl rfl HB3.out rfl) rfl ⟨rfl,(HS3.out _ rfl).1,(HS3.out _ rfl).2⟩
end
end
section
open Go.RowKit
def endN (es:List (Nat×List UInt8)) (g:Nat):Nat->Nat
 | 0=>0
 | k+1=>if (es.getD k (0,[])).1≠0/\k≠g then 64*k / 512*512+512 else endN es g k
def ii (es:List (Nat×List UInt8)) (g:Nat):List (Nat×List UInt8):=if endN es g es.length<=64*g then es.take (endN es g es.length / 64) else es.set g (0,[])
theorem nr (es:List (Nat×List UInt8)) (g:Nat):∀k,endN es g k%512=0/\endN es g k<=64*k+448
 | 0=>⟨rfl,Nat.zero_le _⟩
 | k+1=>by
  rw [endN]
  split
  ·omega
  ·have:=nr es g k;omega
theorem vx {es:List (Nat×List UInt8)} (h:∀x∈es,x.1<512/\x.2.length<=59) (e:Nat) (he:e%64=0) (hl:e<=64*es.length):rsz (aI es) e=aI (es.take (e / 64)):=by
 have e1:e=64*(e / 64):=by omega
 unfold rsz;rw [aN h,show e-64*es.length=0 by omega,show zN 0=[] from rfl,List.append_nil]
 conv=>lhs;rw [e1]
 exact jM h _ (by omega)
theorem uP:eZ 0 []=zN 64:=by decide
theorem uZ {es:List (Nat×List UInt8)} (h:∀x∈es,x.1<512/\x.2.length<=59) (g:Nat) (hg:g<es.length):wrD (aI es) (64*g) (zN 64)=aI (es.set g (0,[])):=by
 rw [<- uP,ud (by rw [aN h];omega),dE (by simp),show 64*g+64=64*(g+1) by omega,jM h _ (by omega),nE h,List.set_eq_take_append_cons_drop,if_pos hg,eN,mT,List.append_assoc]
theorem uc {es:List (Nat×List UInt8)} (h:aZ es) (g:Nat):aZ (ii es g)/\(ii es g).length<=es.length:=by
 unfold ii
 split
 ·refine ⟨⟨?_,fun x hx=>h.2 x (List.mem_of_mem_take hx)⟩,by rw [List.length_take];omega⟩;have:=h.1;rw [List.length_take];omega
 ·refine ⟨⟨by rw [List.length_set];exact h.1,fun x hx => ?_⟩,by rw [List.length_set];exact Nat.le_refl _⟩;rcases List.mem_or_eq_of_mem_set hx with hx | rfl
  ·exact h.2 x hx
  ·exact ⟨by decide,by simp⟩
end
section
set_option maxRecDepth 100000
set_option maxHeartbeats 4000000
open Go.RowKit Go.Shelf
attribute [local go_sem] Oper.semAt_some
theorem j5 {w:World} {tmps:Array Value} {x:Value} (h1:tmps.getD 4 undef=x) :
  (results Tryz.f35 tmps).run Tryz.prog w = .ok x w:=by
 have h1':tmps[4]?.getD undef=x:=by simpa using h1
 simp only [results,Tryz.results35];simp [go_sem,h1']
theorem yU (n:Nat):madeCells (Value.int .u8 0).cells (n*1)=((zN n).map U8).toArray:=by
 rw [<- eX];apply Array.ext
 ·simp [madeCells]
 ·intro i h1 h2;simp [madeCells,Value.cells,Nat.mod_one]
theorem wM:(Tryz.prog.info? 5).map (fun i=>(i.zero,i.size,i.bytes))=some (some (.int .u8 0),1,1):=by kernel_rfl
theorem xH (w:World):(Instr.makeSlice 76 (.int .i64 64) (.int .i64 64)).run Tryz.prog w = .ok (.slice (some ⟨w.heap.size,0,none⟩) 64 64) (w.alloc (.cells ((zN 64).map U8).toArray 5)):=by
 obtain ⟨i,hi,hz,hs,hb⟩:=info_parts wM;have hrun:=run_make (P:=Tryz.prog) w 76 5 i (.int .u8 0) Tryz.underlying76 hi hz .i64 .i64 64 64 (by omega) (by omega) (by rw [hb];omega) (by omega);simp only [hs] at hrun;have e:madeCells (Value.int .u8 0).cells (Int.toNat 64*1)=((zN 64).map U8).toArray:=yU 64;rw [e] at hrun;exact hrun
def rmL (s i:Nat) (zz g x:Int):List Obj:=[.cells #[.pointer (some ⟨s,0,none⟩),.int .i64 i,.int .i64 zz] 69 (0,0),.cells #[.int .i64 g] 3 (0,0),.cells #[.int .i64 x] 3 (0,0)]
section
variable {w w':World} {s m c ino:Nat} {F:Nat->Prop} {N:Nat} {Pg Cm:Nat->List UInt8} {fs:Nat->Option ao} {o u:Nat} {i:Nat} {f:ao}
theorem wv (es:List (Nat×List UInt8)) (g:Nat) (hg:g<es.length) (hes:aZ es) (hl:es.length<1104) (h:St w s m c F N ino Pg Cm fs o u) (hf:fs i=some f) (hd:f.data=aI es) (hu:u+ubE es<=700000) :
  Calls Tryz.prog 35 #[cY s i (64*es.length),.int .i64 (64*g:Nat)] w fun e w'=>e = .returned (.int .i64 0)/\ac F w w'/\∃Pg' f',f'.kind=f.kind/\f'.data=aI (ii es g)/\St w' s m c F N ino Pg' Cm (bj fs i (some f')) o (u+ubE es+303):=by
 refine (callsIn_wide (n:=9)).1 ?_;obtain ⟨zz,hzz⟩:∃zz:Int,zz=((64*es.length:Nat):Int):=⟨_,rfl⟩;obtain ⟨gg,hgg⟩:∃gg:Int,gg=((64*g:Nat):Int):=⟨_,rfl⟩;obtain ⟨wA,hA⟩:∃wA,wA=((w.alloc (.cells #[.pointer (some ⟨s,0,none⟩),.int .i64 i,.int .i64 zz] 69)).alloc (.cells #[.int .i64 gg] 3)).alloc (.cells #[.int .i64 0] 3):=⟨_,rfl⟩;have hOwn:kJ w wA (rmL s i zz gg 0):=by rw [hA];exact (((kJ.nil w).alloc _).alloc _).alloc _
 have HSA:=hid (h.below hOwn.below);have HF:=hid hf;have HD:=hid hd;have HEs:=hid hes;have HA0:=hid hOwn.own;have HAs:Hid (wA.heap.size=w.heap.size+3):=hOwn.size;have HBA:=hid hOwn.below;have HFl:=hid h.lt;clear h hf hd hes hOwn;have hf2:Fence.wide.fn 42:=trivial;have hf3:Fence.wide.fn 32:=trivial;have hf4:Fence.wide.fn 83:=trivial;have HEn:=hid (jz s i (64*es.length) wA);unfold cY at HEn ⊢;refine callsIn_of_wp_marks Tryz.func35 rfl trivial ?_ rfl;simp only [Tryz.ntmps35,List.size_toArray,List.length_cons,List.length_nil,Nat.reduceAdd,Nat.reduceSub,Array.replicate_succ,Array.replicate_zero,List.push_toArray,List.append_toArray,List.nil_append,List.cons_append];rw [<- hzz] at HEn ⊢;rw [<- hgg];have HZ:=hid hzz;have HG:=hid hgg;clear hzz hgg
 gi_wp2_with fail
 rw [<- hA];clear hA;refine (callsIn_wide.2 HEn.out).mono ?_;clear HEn;rintro e wD ⟨rfl,hbD,hfD⟩;rw [HZ.out] at hfD;have HKD:Hid (ac F w wD):=ac.of_below (HBA.out.trans (hbD.mono HBA.out.size));have HSD:=hid (HSA.out.below hbD);have HrD:=hid (fun k ob hk=>ah hbD (HA0.out k ob hk) (ae (HA0.out k ob hk)));have HfD:=hid hfD;have HsD:Hid (w.heap.size+3<wD.heap.size):=by have:=ae hfD;have:=HAs.out;unfold Hid;omega
 clear hbD hfD HSA HA0 hf2 HBA
 gi_wp2
 refine ey (gf:=89) (lb:=#[.pointer (some ⟨wA.heap.size,0,none⟩)]) (by omega) rfl (enters_of Tryz.func89 (by kernel_rfl) rfl) (fun fn => ?_);generalize hrc:gA fn _ _ _ _ _=rc;have hb0:=(Below.refl wD.heap.size wD).alloc (Nat.le_refl _) (.deferred (some []));have hb1:=hb0.alloc (by simp) (.loop (rc .ready none));have y0:=af wD (.deferred (some []));have y1:=af (wD.alloc (.deferred (some []))) (.loop (rc .ready none));rw [World.size_alloc] at y1;have hsz:((wD.alloc (.deferred (some []))).alloc (.loop (rc .ready none))).heap.size=wD.heap.size+2:=by simp
 have hge:=HsD.out;have hAs:=HAs.out;have hHH:∀j,(F j\/j=wD.heap.size+1\/j=w.heap.size+2)->j<((wD.alloc (.deferred (some []))).alloc (.loop (rc .ready none))).heap.size:=fun j hj=>by
  rw [hsz];rcases hj with hj | hj | hj
  ·have:=HFl.out j hj;omega
  ·omega
  ·omega
 have hbb1:¬(F wA.heap.size\/wA.heap.size=wD.heap.size+1\/wA.heap.size=w.heap.size+2):=fun hh=>by
  rcases hh with hh | hh | hh
  ·have:=HFl.out _ hh;omega
  ·omega
  ·omega
 have hg0:cA w ((wD.alloc (.deferred (some []))).alloc (.loop (rc .ready none))) F wD.heap.size (rmL s i zz gg 0) (rc .ready none) :=
  ⟨HKD.out.andBelow hb1,by show w.heap.size+3<=_;omega,fun k ob hk=>aj (aj (HrD.out k ob hk) _) _,aj y0 _,y1⟩
 have HHW:Hid (∀j,F j->j<wD.heap.size):=fun j hj=>by have:=HFl.out j hj;omega
 refine (jQ (wD.heap.size+1) wA.heap.size es HEs.out (fun j=>F j\/j=wD.heap.size+1\/j=w.heap.size+2)
  (fun k V=>cA w V F wD.heap.size (rmL s i zz gg (endN es g k:Nat)) (rc .ready none))
  (fun _ _=>False) _
  (HSD.out.below hb1) HF.out HD.out (by omega) hHH (fun j hj => .inl hj) hbb1
  (aj (aj HfD.out _) _) (fun k V V' hJk hk=>hJk.keep HFl.out hk)
  (fun k V q ob ob' hJk hq hb hc=>hJk.off (by rw [hsz] at hq;omega) hb _)
  (fun k V q ob ob' hJk hq hb hc=>hJk)
  (fun k V hk hz hJk=>by
   have e:endN es g (k+1)=endN es g k:=by
    rw [endN,if_neg];rintro ⟨h1,-⟩;exact h1 (by rw [List.getD_eq_getElem?_getD,List.getElem?_eq_getElem hk,Option.getD_some];exact hz)
   rw [e];exact hJk)
  (fun k U V hk hk0 hU hS hJk => ?round) hg0).mono ?_
 case round =>
  have hj:=hJk;have hl':=hj.lp;rw [<- hrc] at hl';refine eB hl' rfl ?_;rw [hrc];clear hl' y0 y1 hb0 hb1 hsz hg0 hHH hbb1;have hgd:(es.getD k (0,[])).1≠0:=by rw [List.getD_eq_getElem?_getD,List.getElem?_eq_getElem hk,Option.getD_some];exact hk0
  have HE1:Hid (k≠g->endN es g (k+1)=64*k / 512*512+512):=fun h1=>by rw [endN,if_pos ⟨hgd,h1⟩]
  have HE2:Hid (k=g->endN es g (k+1)=endN es g k):=fun h1=>by rw [endN,if_neg (fun hh=>hh.2 h1)]
  obtain ⟨xi,hxi⟩:∃xi,xi=es[k].1:=⟨_,rfl⟩;obtain ⟨xn,hxn⟩:∃xn,xn=es[k].2:=⟨_,rfl⟩;rw [<- hxi, <- hxn];unfold lj a8;clear hxi hxn hgd hk0;have HSV:=hid hS;have HJV:=hid hj;have HU:=hid hU;have hkb:k<=1112:=by have:=HEs.out.1;omega
  obtain ⟨kk,hkk⟩:∃kk:Int,kk=((64*k:Nat):Int):=⟨_,rfl⟩;rw [<- hkk];have hkk0:0<=kk:=by omega
  have hkk1:kk<=80000:=by omega
  have HKK:=hid hkk;clear hS hj hJk hU hkk hkb
  gi_wp2
  refine ⟨HJV.out.lp,?_⟩;have hj3:cA w (V.putObj (wD.heap.size+1) (.loop (rc .busy none))) F wD.heap.size (rmL s i zz gg (endN es g k:Nat)) (rc .busy none):=HJV.out.put;have hs3:St (V.putObj (wD.heap.size+1) (.loop (rc .busy none))) s m c F N ino Pg Cm fs o U:=HSV.out.put HHW.out (by omega) HJV.out.lp rfl _;have hK3:aW (fun j=>F j\/j=wD.heap.size+1\/j=w.heap.size+2) V (V.putObj (wD.heap.size+1) (.loop (rc .busy none))):=(bn V _ _).toS (fun _ e => .inr (.inl e));generalize V.putObj _ _=V2 at *;have cg:V2.cell? ⟨w.heap.size+1,0,none⟩=some (.int .i64 gg):=aa (hj3.own 1 _ rfl) 0;have HJ3:=hid hj3;have HS3:=hid hs3;have HK3:=hid hK3;clear hj3 hs3 hK3;by_cases hkg:k=g
  ·have hq:kk=gg:=by rw [HKK.out,HG.out,hkg]
   have hq0:(kk != gg)=false:=by rw [hq];simp
   rw [HE2.out hkg];clear HE1 HE2 hkg hq
   gi_wp2
   exact ⟨HJ3.out.lp,⟨rfl,HJ3.out.put,HS3.out.put HHW.out (by omega) HJ3.out.lp rfl _,HK3.out.trans ((bn V2 _ _).toS (fun _ e => .inr (.inl e)))⟩⟩
  ·have hq:kk≠gg:=by rw [HKK.out,HG.out];omega
   have hq0:(kk != gg)=true:=bne_iff_ne.2 hq;rw [HE1.out hkg];clear HE1 HE2 hkg;have ce:V2.cell? ⟨w.heap.size+2,0,none⟩=some (.int .i64 (endN es g k:Nat)):=aa (HJ3.out.own 2 _ rfl) 0;have fe:V2.frozen? ⟨w.heap.size+2,0,none⟩=false:=ai (HJ3.out.own 2 _ rfl) 0;obtain ⟨q,hq9⟩:∃q:Nat,q=64*k / 512:=⟨_,rfl⟩;have e1t:Int.tdiv kk 512=(q:Int):=by rw [Int.tdiv_eq_ediv_of_nonneg hkk0,HKK.out,hq9];omega
   have hq5:(q:Int)<=200:=by omega
   have hq6:(0:Int)<=(q:Int):=by omega
   gi_wp2
   have hS4:=HJ3.out.set (k:=2) (b:=w.heap.size+2) (y := .int .i64 ((64*k / 512*512+512:Nat):Int)) rfl rfl;have hs4:=HS3.out.setI (HJ3.out.own 2 _ rfl) (.inl ⟨_,rfl⟩) (by decide) (fun hh=>by have:=HFl.out _ hh;omega) (.int .i64 ((64*k / 512*512+512:Nat):Int));have hk4:=HK3.out.trans ((ej V2 (w.heap.size+2) (.int .i64 ((64*k / 512*512+512:Nat):Int))).toS (H:=(fun j=>F j\/j=wD.heap.size+1\/j=w.heap.size+2)) (fun _ e => .inr (.inr e)));have eq:64*(k:Int) / 512*512+512=((64*k / 512*512+512:Nat):Int):=by omega
   rw [eq];exact ⟨hS4.lp,⟨rfl,hS4.put,hs4.put HHW.out (by omega) hS4.lp rfl _,hk4.trans ((bn _ _ _).toS (fun _ e => .inr (.inl e)))⟩⟩
 rintro e W2 ⟨⟨v,rfl⟩,hE⟩;refine ⟨⟨_,rfl⟩,?_⟩;rcases hE with ⟨hj,U,hU,hS⟩ | ⟨k,hk,hX⟩
 ·refine ⟨_,_,?_,hj.lp,?_⟩
  ·intro h;cases h
  have HJ9:Hid (cA w (W2.putObj (wD.heap.size+1) (.loop (rc .exhausted none))) F wD.heap.size (rmL s i zz gg (endN es g es.length:Nat)) (rc .exhausted none)):=hj.put;have HS9:Hid (St (W2.putObj (wD.heap.size+1) (.loop (rc .exhausted none))) s m c F N ino Pg Cm fs o U):=hS.put HHW.out (by omega) hj.lp rfl _;have HU:=hid hU;subst hrc;clear hj hS hU;generalize W2.putObj _ _=W3 at *;show Exit.inBlock 0 _ .normal _ _;have cg:W3.cell? ⟨w.heap.size+1,0,none⟩=some (.int .i64 gg):=aa (HJ9.out.own 1 _ rfl) 0;have ce:W3.cell? ⟨w.heap.size+1+1,0,none⟩=some (.int .i64 (endN es g es.length:Nat)):=aa (HJ9.out.own 2 _ rfl) 0;have cs0:W3.cell? ⟨w.heap.size,0,none⟩=some (.pointer (some ⟨s,0,none⟩)):=aa (HJ9.out.own 0 _ rfl) 0;have cs1:W3.cell? ⟨w.heap.size,1,none⟩=some (.int .i64 i):=aa (HJ9.out.own 0 _ rfl) 1;have hem:=nr es g es.length;have hln:=aN HEs.out.2;have hcn:=(HS9.out.good.node i f HF.out (fun e=>e)).2.1;rw [HD.out,hln] at hcn;have he7:=HEs.out.1;by_cases hge2:endN es g es.length<=64*g
  ·have q1:((endN es g es.length:Nat):Int)<=gg:=by rw [HG.out];omega
   have hR:ii es g=es.take (endN es g es.length / 64):=by unfold ii;rw [if_pos hge2]
   have hrz:=vx HEs.out.2 (endN es g es.length) (by omega) (by omega);rw [<- hR] at hrz;have hnm:au (endN es g es.length)<=au (64*es.length):=bS (by omega) (by omega);generalize endN es g es.length=ee at *;have HRz:=hid (sP HS9.out HF.out (by have:=HU.out;omega) ee (by omega) (by omega));rw [HD.out,hrz] at HRz;clear hrz hR hem hln hcn he7 hge2 hnm
   gi_wp2_with fail
   refine (callsIn_wide.2 HRz.out).mono ?_;clear HRz;rintro e W4 ⟨rfl,hk4,Pg',f',g1,-,-,g2,hs4⟩;have hj4:=HJ9.out.keep HFl.out hk4;have HJ4:=hid hj4;have HS4:=hid hs4;have HG1:=hid g1;have HG2:=hid g2;clear hk4 hj4 hs4 HJ9 HS9 g1 g2
   gi_wp2
   refine ⟨by simp,.inl ⟨_,_,rfl,run_takeDeferred HJ4.out.df,?_⟩⟩;exact ⟨_,j5 rfl,rfl,HJ4.out.low.putNew (by omega) _,Pg',f',HG1.out,HG2.out,(HS4.out.put HHW.out (Nat.le_refl _) HJ4.out.df rfl _).more (by have:=HU.out;omega)⟩
  ·have q1:¬((endN es g es.length:Nat):Int)<=gg:=by rw [HG.out];omega
   have hR:ii es g=es.set g (0,[]):=by unfold ii;rw [if_neg hge2]
   have hst:=uZ HEs.out.2 g hg;rw [<- hR] at hst;clear hR;generalize endN es g es.length=ee at *;have HST:=hid hst;have HLN:=hid hln;have HCN:=hid hcn;have HE7:=hid he7;clear hst hem hln hcn he7 hge2
   gi_wp2
   have hbd:=(Below.refl W3.heap.size W3).drew;have hj4:=HJ9.out.keep HFl.out (ac.of_below hbd:ac F W3 _);have hs4:=HS9.out.below hbd;have ds0:W3.drew.cell? ⟨w.heap.size,0,none⟩=some (.pointer (some ⟨s,0,none⟩)):=aa (hj4.own 0 _ rfl) 0;have ds1:W3.drew.cell? ⟨w.heap.size,1,none⟩=some (.int .i64 i):=aa (hj4.own 0 _ rfl) 1;have dg:W3.drew.cell? ⟨w.heap.size+1,0,none⟩=some (.int .i64 gg):=aa (hj4.own 1 _ rfl) 0;refine wpIn_wide.2 (wp_region_noPanic ?_);refine wp_region_held_drew (S:=fun W=>W.cell? ⟨w.heap.size,0,none⟩=some (.pointer (some ⟨s,0,none⟩))/\W.cell? ⟨w.heap.size,1,none⟩=some (.int .i64 i)/\W.cell? ⟨w.heap.size+1,0,none⟩=some (.int .i64 gg)) (by kernel_rfl) ⟨ds0,ds1,dg⟩ (fun hHeld => ?_);clear ds0 ds1 dg cs0 cs1 cg ce;generalize W3.drew=V4 at *;obtain ⟨Z,hZ⟩:∃Z,Z=((zN 64).map U8).toArray:=⟨_,rfl⟩;have hmk:=xH V4;rw [<- hZ] at hmk;have hbn:Below V4.heap.size V4 (V4.alloc (.cells Z 5)):=(Below.refl V4.heap.size V4).alloc (Nat.le_refl _) _;have hown:aV (V4.alloc (.cells Z 5)) V4.heap.size (zN 64):=by unfold aV;rw [hZ];exact af V4 _
   have hz64:(zN 64).length=64:=by decide
   have hgF:¬F V4.heap.size:=fun hh=>by have:=HHW.out _ hh;have:=ae hj4.df;omega
   have hln:=HLN.out;have hcn:=HCN.out;have he7:=HE7.out;have HWr:=hid (ly (hs4.below hbn) HF.out (by have:=HU.out;omega) (64*g) (64*g+64) (zN 64) V4.heap.size 0 64 hown.at (by rw [hz64];exact Nat.le_refl _) hgF hown.lt (by rw [hz64]) (by rw [hz64];omega) (by omega) (by rw [HD.out,hln,Nat.max_eq_right (by omega)];omega));rw [hz64,HD.out,HST.out, <- HG.out] at HWr;have HJn:=hid (hj4.keep HFl.out (ac.of_below hbn:ac F V4 _));clear hown hz64 hgF hZ HS9 HJ9 hbn hbd hj4 hs4 HST HLN HCN HE7 hln hcn he7;refine tq 0 _ ?_
   try simp only [tS]
   refine tq 1 _ ?_
   try simp only [tS]
   refine tq 2 _ ?_
   try simp only [tS]
   refine tq 3 _ ?_
   try simp only [tS]
   refine tq 4 _ ?_
   try simp only [tS]
   refine tr 5 (fun K hK => ?_);go_simp;refine hK.out _ _ ⟨aa (HJn.out.own 0 _ rfl) 0,aa (HJn.out.own 0 _ rfl) 1,aa (HJn.out.own 1 _ rfl) 0⟩ (fun hHeld => ?_);clear hK K
   try simp only [tS]
   refine tr 6 (fun K hK => ?_);go_simp;refine HWr.out.mono ?_;clear HWr;rintro e W4 ⟨rfl,hk4,Pg',f',g1,-,-,g2,hs4⟩;have hj4:=HJn.out.keep HFl.out hk4;have e0:=aa (hj4.own 0 _ rfl) 0;have e1:=aa (hj4.own 0 _ rfl) 1;have e2:=aa (hj4.own 1 _ rfl) 0;have HJ4:=hid hj4;have HS4:=hid hs4;have HG1:=hid g1;have HG2:=hid g2;clear hk4 hj4 hs4 HJn g1 g2
   go_wp2_with fail
   refine hK.out _ _ ⟨e0,e1,e2⟩ (fun hHeld => ?_);clear hK K
   try simp only [tS]
   refine tq 7 _ ?_
   try simp only [tS]
   refine wpAnyH_done (by kernel_rfl) ?_ _;refine NoPanic.normal ?_;clear hHeld e0 e1 e2
   gi_wp2
   refine ⟨by simp,.inl ⟨_,_,rfl,run_takeDeferred HJ4.out.df,?_⟩⟩;exact ⟨_,j5 rfl,rfl,HJ4.out.low.putNew (by omega) _,Pg',f',HG1.out,HG2.out,(HS4.out.put HHW.out (Nat.le_refl _) HJ4.out.df rfl _).more (by have:=HU.out;omega)⟩
 ·exact hX.elim
end
end
section
set_option maxRecDepth 100000
set_option maxHeartbeats 4000000
open Go.RowKit
section
variable {w w':World} {s m c ino:Nat} {F:Nat->Prop} {N:Nat} {Pg Cm:Nat->List UInt8} {fs:Nat->Option ao} {o u:Nat} {i:Nat} {f:ao}
theorem rX (es:List (Nat×List UInt8)) (nm:List UInt8) (hes:aZ es) (hl:es.length<1104) (h:St w s m c F N ino Pg Cm fs o u) (hf:fs i=some f) (hd:f.data=aI es) (hu:u+(400+2*ubE es)<=700000)
  (hA:Calls Tryz.prog 30 #[.pointer (some ⟨s,0,none⟩),.int .i64 i,a8 nm] w fun e w'=>e = .returned (.tuple #[cY s i f.data.length,.int .i64 0])/\ac F w w'/\St w' s m c F N ino Pg Cm fs o (u+2))
  {k:Nat} (hlk:lookE es nm=some k) (hk:k<es.length) :
  Calls Tryz.prog 10 #[.pointer (some ⟨s,0,none⟩),.int .i64 i,a8 nm] w fun e w'=>e = .returned (.tuple #[.int .i64 (es.getD k (0,[])).1,.int .i64 0])/\ac F w w'/\∃Pg' f',f'.kind=f.kind/\f'.data=aI (ii es k)/\St w' s m c F N ino Pg' Cm (bj fs i (some f')) o (u+(400+2*ubE es)):=by
 have hlen:=aN hes.2;rw [hd,hlen] at hA;have HA:=hid hA;have HF:=hid hf;have HD:=hid hd;have HEs:=hid hes;have HFl:=hid h.lt;have HLk:=hid hlk;have HRm:=hid (fun W U (hU:U<=u+2+ubE es) (hS:St W s m c F N ino Pg Cm fs o U)=>wv (s:=s) (i:=i) es k hk hes hl hS hf hd (by omega));unfold cY a8 at HA;unfold cY at HRm;unfold a8;obtain ⟨zz,hzz⟩:∃zz:Int,zz=((64*es.length:Nat):Int):=⟨_,rfl⟩;rw [<- hzz] at HA HRm;have HZ:=hid hzz;obtain ⟨k2,hk2⟩:∃k2:Int,k2=(((es.getD k (0,[])).1:Nat):Int):=⟨_,rfl⟩;rw [<- hk2];have HK2':=hid hk2;clear hA h hf hd hes hlk hlen hzz hk hl hk2;go_enter Tryz.func10,Tryz.ntmps10
 go_wp2_with fail
 refine HA.out.mono ?_;clear HA;rintro e w1 ⟨rfl,hk1,hs1⟩;obtain ⟨wa,hwa⟩:∃wa,wa=w1.alloc (.cells #[.pointer (some ⟨s,0,none⟩),.int .i64 i,.int .i64 zz] 69):=⟨_,rfl⟩;have hba:Below w1.heap.size w1 wa:=by rw [hwa];exact (Below.refl w1.heap.size w1).alloc (Nat.le_refl _) _
 have hxa:wa.heap[w1.heap.size]? = some (.cells #[.pointer (some ⟨s,0,none⟩),.int .i64 i,.int .i64 zz] 69 (0,0)):=by rw [hwa];exact af w1 _
 have HF1:Hid (∀j,F j->j<w1.heap.size):=fun j hj=>Nat.lt_of_lt_of_le (HFl.out j hj) hk1.size;have HK1:=hid (hk1.andBelow hba);have HSa:=hid (hs1.below hba);have HXa:=hid hxa;have HFd:=hid (fun W (hS:St W s m c F N ino Pg Cm fs o (u+2))=>gB (s:=s) (i:=i) es nm HEs.out hS HF.out HD.out (by omega));unfold cY a8 at HFd;rw [<- HZ.out] at HFd;have hfv:eb es nm = .tuple #[.int .i64 (64*k:Nat),.int .i64 (es.getD k (0,[])).1,.int .i64 0]:=by unfold eb;rw [HLk.out]
 rw [hfv, <- HK2'.out] at HFd;generalize ((64*k:Nat):Int)=k1 at *;have c0:=aa hxa 0;have c1:=aa hxa 1;have c2:=aa hxa 2;clear hfv hk1 hs1 hba hxa
 go_wp2_with (rw [<- hwa])
 refine (HFd.out _ HSa.out).mono ?_;clear HFd hwa;rintro e w2 ⟨rfl,hk2,U2,hU2,hs2⟩;have hx2:=hk2.heap HXa.out (fun hh=>by have:=HF1.out _ hh;omega);have HK2:Hid (ac F w w2):=HK1.out.trans hk2 (fun _ e => .inl e);have HR2:=hid (HRm.out w2 U2 hU2 hs2);have HU2:=hid hU2;have d0:=aa hx2 0;have d1:=aa hx2 1;have d2:=aa hx2 2;clear hk2 hs2 hU2 hx2 HSa HXa HK1 HRm c0 c1 c2
 go_wp2_with fail
 refine HR2.out.mono ?_;clear HR2;rintro e w3 ⟨rfl,hk3,Pg',f',g1,g2,hs3⟩;have HE:Hid (ac F w w3/\∃Pg' f',f'.kind=f.kind/\f'.data=aI (ii es k)/\St w3 s m c F N ino Pg' Cm (bj fs i (some f')) o (u+(400+2*ubE es))):=⟨HK2.out.trans hk3 (fun _ e => .inl e),Pg',f',g1,g2,hs3.more (by have:=HU2.out;omega)⟩;clear hk3 hs3 g1 g2;go_wp2;go_returns;exact ⟨rfl,HE.out⟩
end
end
section
set_option maxRecDepth 100000
set_option maxHeartbeats 4000000
open Go.RowKit
section
variable {w w':World} {s m c ino:Nat} {F:Nat->Prop} {N:Nat} {Pg Cm:Nat->List UInt8} {fs:Nat->Option ao} {o u:Nat} {i:Nat} {f:ao}
theorem oR (n:Int) (nm:ByteArray) (j:Int) {r:Int} (hr:r≠0) {Q:World->Prop}
  (hA:Calls Tryz.prog 30 #[.pointer (some ⟨s,0,none⟩),.int .i64 n,.string nm] w fun e w'=>e = .returned (.tuple #[io,.int .i64 r])/\Q w') (hQ:∀V V',Q V->Below V.heap.size V V'->Q V') :
  Calls Tryz.prog 9 #[.pointer (some ⟨s,0,none⟩),.int .i64 n,.string nm,.int .i64 j] w fun e w'=>e = .returned (.int .i64 r)/\Q w':=by
 have hr0:(r != 0)=true:=bne_iff_ne.2 hr;have hr1:(r==0)=false:=beq_false_of_ne hr;have HA:=hid hA;unfold io at HA;clear hA;go_enter Tryz.func9,Tryz.ntmps9
 go_wp2_with fail
 refine HA.out.mono ?_;clear HA;rintro e w1 ⟨rfl,hq⟩;have HE:=hid (hQ _ _ hq ((Below.refl w1.heap.size w1).alloc (Nat.le_refl _) (.cells #[.pointer none,.int .i64 0,.int .i64 0] 69)));clear hq
 go_wp2_with fail
 go_ret;exact ⟨rfl,HE.out⟩
theorem sZ (n zz:Int) (nm:ByteArray) (j:Int) (hj:j<1\/512<=j) {Q:World->Prop}
  (hA:Calls Tryz.prog 30 #[.pointer (some ⟨s,0,none⟩),.int .i64 n,.string nm] w fun e w'=>e = .returned (.tuple #[.agg #[.pointer (some ⟨s,0,none⟩),.int .i64 n,.int .i64 zz],.int .i64 0])/\Q w') (hQ:∀V V',Q V->Below V.heap.size V V'->Q V') :
  Calls Tryz.prog 9 #[.pointer (some ⟨s,0,none⟩),.int .i64 n,.string nm,.int .i64 j] w fun e w'=>e = .returned (.int .i64 2)/\Q w':=by
 have HA:=hid hA;clear hA;by_cases hj1:j<1
 case' pos=>skip
 case' neg=>have hj2:512<=j:=by omega
 all_goals
  clear hj;go_enter Tryz.func9,Tryz.ntmps9
  go_wp2_with fail
  refine HA.out.mono ?_;clear HA;rintro e w1 ⟨rfl,hq⟩;have HE:=hid (hQ _ _ hq ((Below.refl w1.heap.size w1).alloc (Nat.le_refl _) (.cells #[.pointer (some ⟨s,0,none⟩),.int .i64 n,.int .i64 zz] 69)));clear hq
  go_wp2_with fail
  go_ret;exact ⟨rfl,HE.out⟩
theorem oN (n:Int) (nm:ByteArray) {r:Int} (hr:r≠0) {Q:World->Prop}
  (hA:Calls Tryz.prog 30 #[.pointer (some ⟨s,0,none⟩),.int .i64 n,.string nm] w fun e w'=>e = .returned (.tuple #[io,.int .i64 r])/\Q w') (hQ:∀V V',Q V->Below V.heap.size V V'->Q V') :
  Calls Tryz.prog 10 #[.pointer (some ⟨s,0,none⟩),.int .i64 n,.string nm] w fun e w'=>e = .returned (.tuple #[.int .i64 0,.int .i64 r])/\Q w':=by
 have hr0:(r != 0)=true:=bne_iff_ne.2 hr;have HA:=hid hA;unfold io at HA;clear hA;go_enter Tryz.func10,Tryz.ntmps10
 go_wp2_with fail
 refine HA.out.mono ?_;clear HA;rintro e w1 ⟨rfl,hq⟩;have HE:=hid (hQ _ _ hq ((Below.refl w1.heap.size w1).alloc (Nat.le_refl _) (.cells #[.pointer none,.int .i64 0,.int .i64 0] 69)));clear hq
 go_wp2_with fail
 go_returns;exact ⟨rfl,HE.out⟩
theorem oI (n:Int) (nm:ByteArray) {r:Int} (hr:r≠0) {Q:World->Prop}
  (hA:Calls Tryz.prog 30 #[.pointer (some ⟨s,0,none⟩),.int .i64 n,.string nm] w fun e w'=>e = .returned (.tuple #[io,.int .i64 r])/\Q w') (hQ:∀V V',Q V->Below V.heap.size V V'->Q V') :
  Calls Tryz.prog 8 #[.pointer (some ⟨s,0,none⟩),.int .i64 n,.string nm] w fun e w'=>e = .returned (.tuple #[.int .i64 0,.int .i64 r])/\Q w':=by
 have hr0:(r != 0)=true:=bne_iff_ne.2 hr;have HA:=hid hA;unfold io at HA;clear hA;go_enter Tryz.func8,Tryz.ntmps8
 go_wp2_with fail
 refine HA.out.mono ?_;clear HA;rintro e w1 ⟨rfl,hq⟩;have HE:=hid (hQ _ _ hq ((Below.refl w1.heap.size w1).alloc (Nat.le_refl _) (.cells #[.pointer none,.int .i64 0,.int .i64 0] 69)));clear hq
 go_wp2_with fail
 go_returns;exact ⟨rfl,HE.out⟩
def vX (es:List (Nat×List UInt8)) (nm:List UInt8):Int:=match lookE es nm with
 | some k=>(es.getD k (0,[])).1
 | none=>0
def uR (es:List (Nat×List UInt8)) (nm:List UInt8):Int:=if (lookE es nm).isSome then 0 else 4
theorem s5 (es:List (Nat×List UInt8)) (nm:List UInt8):∃k:Int,eb es nm = .tuple #[.int .i64 k,.int .i64 (vX es nm),.int .i64 (uR es nm)]:=by
 unfold eb vX uR;cases lookE es nm with
 | some k=>exact ⟨_,rfl⟩
 | none=>exact ⟨0,rfl⟩
theorem qG (es:List (Nat×List UInt8)) (nm:List UInt8) (hes:aZ es) (_:St w s m c F N ino Pg Cm fs o u) (hf:fs i=some f) (hd:f.data=aI es) (hu:u+(400+2*ubE es)<=700000)
  (hA:Calls Tryz.prog 30 #[.pointer (some ⟨s,0,none⟩),.int .i64 i,a8 nm] w fun e w'=>e = .returned (.tuple #[cY s i f.data.length,.int .i64 0])/\ac F w w'/\St w' s m c F N ino Pg Cm fs o (u+2)) :
  Calls Tryz.prog 8 #[.pointer (some ⟨s,0,none⟩),.int .i64 i,a8 nm] w fun e w'=>e = .returned (.tuple #[.int .i64 (vX es nm),.int .i64 (uR es nm)])/\ac F w w'/\St w' s m c F N ino Pg Cm fs o (u+(400+2*ubE es)):=by
 have hlen:=aN hes.2;rw [hd,hlen] at hA;have HA:=hid hA;have HF:=hid hf;have HD:=hid hd;have HEs:=hid hes;unfold cY a8 at HA;unfold a8;obtain ⟨zz,hzz⟩:∃zz:Int,zz=((64*es.length:Nat):Int):=⟨_,rfl⟩;rw [<- hzz] at HA;have HZ:=hid hzz;obtain ⟨k,hfv⟩:=s5 es nm;have HFv:=hid hfv;obtain ⟨x,hx⟩:∃x,x=vX es nm:=⟨_,rfl⟩;obtain ⟨y,hy⟩:∃y,y=uR es nm:=⟨_,rfl⟩;rw [<- hx, <- hy] at HFv ⊢;clear hA hf hd hes hlen hzz hfv hx hy;go_enter Tryz.func8,Tryz.ntmps8
 go_wp2_with fail
 refine HA.out.mono ?_;clear HA;rintro e w1 ⟨rfl,hk1,hs1⟩;have hba:=(Below.refl w1.heap.size w1).alloc (Nat.le_refl _) (.cells #[.pointer (some ⟨s,0,none⟩),.int .i64 i,.int .i64 zz] 69);have HK1:=hid (hk1.andBelow hba);have HSa:=hid (hs1.below hba);have HFd:=hid (fun W (hS:St W s m c F N ino Pg Cm fs o (u+2))=>gB (s:=s) (i:=i) es nm HEs.out hS HF.out HD.out (by omega));unfold cY a8 at HFd;rw [<- HZ.out,HFv.out] at HFd;clear hk1 hs1 hba
 go_wp2_with fail
 refine (HFd.out _ HSa.out).mono ?_;clear HFd;rintro e w2 ⟨rfl,hk2,U2,hU2,hs2⟩;have HE:Hid (ac F w w2/\St w2 s m c F N ino Pg Cm fs o (u+(400+2*ubE es))):=⟨HK1.out.trans hk2 (fun _ e => .inl e),hs2.more (by omega)⟩;clear hk2 hs2 hU2 HSa;go_wp2;go_returns;exact ⟨rfl,HE.out⟩
theorem sR (es:List (Nat×List UInt8)) (nm:List UInt8) (hes:aZ es) (_:St w s m c F N ino Pg Cm fs o u) (hf:fs i=some f) (hd:f.data=aI es) (hu:u+(400+2*ubE es)<=700000)
  (hA:Calls Tryz.prog 30 #[.pointer (some ⟨s,0,none⟩),.int .i64 i,a8 nm] w fun e w'=>e = .returned (.tuple #[cY s i f.data.length,.int .i64 0])/\ac F w w'/\St w' s m c F N ino Pg Cm fs o (u+2))
  (hlk:lookE es nm=none) :
  Calls Tryz.prog 10 #[.pointer (some ⟨s,0,none⟩),.int .i64 i,a8 nm] w fun e w'=>e = .returned (.tuple #[.int .i64 0,.int .i64 4])/\ac F w w'/\St w' s m c F N ino Pg Cm fs o (u+(400+2*ubE es)):=by
 have hlen:=aN hes.2;rw [hd,hlen] at hA;have HA:=hid hA;have HF:=hid hf;have HD:=hid hd;have HEs:=hid hes;unfold cY a8 at HA;unfold a8;obtain ⟨zz,hzz⟩:∃zz:Int,zz=((64*es.length:Nat):Int):=⟨_,rfl⟩;rw [<- hzz] at HA;have HZ:=hid hzz;have hfv:eb es nm = .tuple #[.int .i64 0,.int .i64 0,.int .i64 4]:=by unfold eb;rw [hlk]
 have HFv:=hid hfv;clear hA hf hd hes hlen hzz hfv hlk;go_enter Tryz.func10,Tryz.ntmps10
 go_wp2_with fail
 refine HA.out.mono ?_;clear HA;rintro e w1 ⟨rfl,hk1,hs1⟩;obtain ⟨wa,hwa⟩:∃wa,wa=w1.alloc (.cells #[.pointer (some ⟨s,0,none⟩),.int .i64 i,.int .i64 zz] 69):=⟨_,rfl⟩;have hba:Below w1.heap.size w1 wa:=by rw [hwa];exact (Below.refl w1.heap.size w1).alloc (Nat.le_refl _) _
 have hxa:wa.heap[w1.heap.size]? = some (.cells #[.pointer (some ⟨s,0,none⟩),.int .i64 i,.int .i64 zz] 69 (0,0)):=by rw [hwa];exact af w1 _
 have HK1:=hid (hk1.andBelow hba);have HSa:=hid (hs1.below hba);have HFd:=hid (fun W (hS:St W s m c F N ino Pg Cm fs o (u+2))=>gB (s:=s) (i:=i) es nm HEs.out hS HF.out HD.out (by omega));unfold cY a8 at HFd;rw [<- HZ.out,HFv.out] at HFd;have c0:=aa hxa 0;have c1:=aa hxa 1;have c2:=aa hxa 2;clear hk1 hs1 hba hxa
 go_wp2_with (rw [<- hwa])
 refine (HFd.out _ HSa.out).mono ?_;clear HFd hwa;rintro e w2 ⟨rfl,hk2,U2,hU2,hs2⟩;have HE:Hid (ac F w w2/\St w2 s m c F N ino Pg Cm fs o (u+(400+2*ubE es))):=⟨HK1.out.trans hk2 (fun _ e => .inl e),hs2.more (by omega)⟩;clear hk2 hs2 hU2 HSa c0 c1 c2;go_wp2;go_returns;exact ⟨rfl,HE.out⟩
end
end
section
set_option maxRecDepth 100000
set_option maxHeartbeats 4000000
open Go.RowKit Go.Shelf Go.Sort
attribute [local go_sem] Oper.semAt_some
def cI (es:List (Nat×List UInt8)) (k:Nat):List (List UInt8):=(es.take k).filterMap fun x=>if x.1=0 then none else some x.2
def iP (es:List (Nat×List UInt8)):List (List UInt8):=(cI es es.length).mergeSort fun x y=>decide (x<=y)
theorem qy {es:List (Nat×List UInt8)} {k:Nat} (hk:k<es.length) (h0:es[k].1=0):cI es (k+1)=cI es k:=by
 unfold cI;rw [List.take_succ_eq_append_getElem hk,List.filterMap_append];simp [h0]
theorem tb {es:List (Nat×List UInt8)} {k:Nat} (hk:k<es.length) (h0:es[k].1≠0):cI es (k+1)=cI es k ++ [es[k].2]:=by
 unfold cI;rw [List.take_succ_eq_append_getElem hk,List.filterMap_append];simp [h0]
theorem oZ (es:List (Nat×List UInt8)) (k:Nat):(cI es k).length<=es.length:=by
 unfold cI;exact Nat.le_trans (List.length_filterMap_le _ _) (by rw [List.length_take];omega)
theorem RdT.put {w:World} {v:Value} {xs:List ByteArray} {d:Nat} {q:Option (List Deferred)} (h:RdT w v xs) (hd:w.heap[d]? = some (.deferred q)) (ob:Obj):RdT (w.putObj d ob) v xs:=by
 obtain ⟨a,c,h1,h2,h2',h3⟩:=h;refine ⟨a,c,h1,h2,h2',fun k hk => ?_⟩;obtain ⟨b,o,e,hb,hc⟩:=h3 k hk;have hbd:b≠d:=fun e=>by
  subst e;simp [World.cell?,hd] at hc
 refine ⟨b,o,e,by simpa using hb,?_⟩;rw [World.cell?_of_block (w:=w) (World.putObj_heap_other hbd)];exact hc
def lsL (s i:Nat) (zz:Int) (lv:Value):List Obj:=[.cells #[.pointer (some ⟨s,0,none⟩),.int .i64 i,.int .i64 zz] 69 (0,0),.cells #[lv] 36 (0,0)]
theorem cA.keepG {w V V':World} {F G:Nat->Prop} {d:Nat} {L:List Obj} {lp:Loop} (h:cA w V F d L lp) (hF:∀j,F j->j<w.heap.size) (hG:∀j,G j->(F j\/w.heap.size+L.length<=j)/\j≠d/\j≠d+1) (k:ac G V V'):cA w V' F d L lp :=
 have hn:=h.len
 ⟨h.low.trans k (fun i hi=>(hG i hi).1.imp id fun e=>by omega),h.len,fun j ob hj=>k.heap (h.own j ob hj) (fun hh=>by
  have h1:=(List.getElem?_eq_some_iff.1 hj).1;rcases (hG _ hh).1 with h2 | h2
  ·have:=hF _ h2;omega
  ·omega),k.heap h.df (fun hh=>(hG _ hh).2.1 rfl),k.heap h.lp (fun hh=>(hG _ hh).2.2 rfl)⟩
section
variable {w w':World} {s m c ino:Nat} {F:Nat->Prop} {N:Nat} {Pg Cm:Nat->List UInt8} {fs:Nat->Option ao} {o u:Nat} {i:Nat} {f:ao}
theorem oh {w:World} {tmps:Array Value} {x y:Value} (h1:tmps.getD 4 undef=x) (h2:tmps.getD 5 undef=y) :
  (results Tryz.f12 tmps).run Tryz.prog w = .ok (.tuple #[x,y]) w:=by
 have h1':tmps[4]?.getD undef=x:=by simpa using h1
 have h2':tmps[5]?.getD undef=y:=by simpa using h2
 simp only [results,Tryz.results12];simp [go_sem,h1',h2']
theorem xy {base:Nat} {lv:Value} {xs:List (List UInt8)} {V:World} (h:ig V base lv xs) (hx:xs.length<=4096):Calls Tryz.prog 43 #[lv] V fun e V'=>e = .returned (.tuple #[])/\V.grownBy V' lv.ownBlock/\RdT V' lv ((xs.mergeSort fun x y=>decide (x<=y)).map fun l=>⟨l.toArray⟩):=by
 have hl:(xs.mergeSort fun x y=>decide (x<=y)).length=xs.length:=by simp
 rcases h.1.2 with ⟨e,h0⟩ | ⟨g,cap,cur,e,hbs,hb,h1,h2,h3,h4⟩
 ·subst e;refine (Tryz.slices_Sort_string_none none 0 V).mono ?_;rintro e V' ⟨rfl,rfl⟩;exact ⟨rfl,ar _ _,none,0,by rw [List.length_map,hl,h0],by rw [List.length_map,hl];omega,by omega,fun k hk=>by rw [List.length_map,hl] at hk;omega⟩
 ·subst e;refine (Tryz.slices_Sort_string g 0 cap xs V (holds_of_block hb (by rw [Nat.mul_one] at h4;exact h4)) (ae hb) (by omega)).mono ?_;rintro e V' ⟨rfl,n,os,rfl⟩;have hr:=ownsRow_sorted (n:=n) (os:=os) (ss:=xs) (ts:=xs.mergeSort fun x y=>decide (x<=y)) hl hbs hb h1 h2 h3;refine ⟨rfl,grownBy_sorted _,some ⟨g,0,none⟩,cap,by rw [List.length_map,hl],by rw [List.length_map,hl];exact h1,by unfold maxLen at h2;omega,fun k hk=>⟨g,0,rfl,?_,?_⟩⟩
  ·rcases hr.2 with ⟨e,-⟩ | ⟨g',cap',cur',e,-,hb',-⟩
   ·cases e
   ·cases e;exact ae hb'
  ·have hk':k<(xs.mergeSort fun x y=>decide (x<=y)).length:=by rw [List.length_map] at hk;exact hk
   rw [Nat.zero_add,hr.cellAt k (by rw [Nat.mul_one, <- hl];exact hk'),List.getElem?_map,List.getElem?_eq_getElem hk',List.getElem_map];rfl
theorem xj {w1 V V4 w9:World} {d:Nat} {s' i':Nat} {zz:Int} {lv:Value} {ns:List (List UInt8)} {lp:Loop} {H:Nat->Prop} (hF1:∀j,F j->j<w1.heap.size) (hFW:∀j,F j->j<w1.heap.size+2) (hj:cA w1 V4 F d (lsL s' i' zz lv) lp) (hs:St V4 s m c F N ino Pg Cm fs o u) (hr:ig V4 (w1.heap.size+2) lv ns) (hk:aW H V V4) (hg:V4.grownBy w9 lv.ownBlock) :
  cA w1 w9 F d (lsL s' i' zz lv) lp/\St w9 s m c F N ino Pg Cm fs o u/\aW H V w9:=by
 have hb:∀j,lv.ownBlock=some j->w1.heap.size+2<=j/\∃cs,V4.heap[j]? = some (.cells cs 9 (0,0)):=fun j hj=>by
  rcases hr.1.2 with ⟨e,-⟩ | ⟨g0,cap,cur,e,hb,hc,-⟩
  ·rw [e] at hj;cases hj
  ·rw [e] at hj;obtain rfl:g0=j:=by simpa [Value.ownBlock] using hj
   exact ⟨hb,cur,hc⟩
 refine ⟨hj.keepG hF1 (G:=fun j=>lv.ownBlock=some j) (fun j e=>⟨.inr (hb j e).1,fun e2 => ?_,fun e2 => ?_⟩) (ac.of_grown hg (fun _ e=>e)),hs.growT hr hFW hg,hk.trans ⟨hg.size,fun k ob hk _ hns=>aw hg hk (fun e => ?_)⟩⟩
 ·obtain ⟨-,cs,hc⟩:=hb j e;rw [e2,hj.df] at hc;cases hc
 ·obtain ⟨-,cs,hc⟩:=hb j e;rw [e2,hj.lp] at hc;cases hc
 ·obtain ⟨-,cs,hc⟩:=hb k e;rw [hk] at hc;exact hns cs (0,0) (Option.some.inj hc)
theorem ou (es:List (Nat×List UInt8)) (hes:aZ es) (h:St w s m c F N ino Pg Cm fs o u) (hf:fs i=some f) (hk:f.kind=2) (hd:f.data=aI es) (hu:u+(2+ubE es)<=900000) :
  Calls Tryz.prog 12 #[.pointer (some ⟨s,0,none⟩),.int .i64 i] w fun e w'=>(∃lv,e = .returned (.tuple #[lv,.int .i64 0])/\RdT w' lv ((iP es).map fun l=>⟨l.toArray⟩)/\∀ad n c,lv = .slice (some ad) n c->w.heap.size<=ad.block)/\ac F w w'/\∃U,U<=u+(2+ubE es)/\St w' s m c F N ino Pg Cm fs o U:=by
 refine (callsIn_wide (n:=9)).1 ?_;have hOp:=ir h hf hk (by omega);rw [hd,aN hes.2] at hOp;have HOp:=hid hOp;have HF:=hid hf;have HD:=hid hd;have HEs:=hid hes;have HFl:=hid h.lt;clear hOp h hf hd hes hk;have hf2:Fence.wide.fn 42:=trivial;have hf3:Fence.wide.fn 41:=trivial;have hf4:Fence.wide.fn 43:=trivial;unfold cY at HOp;obtain ⟨zz,hzz⟩:∃zz:Int,zz=((64*es.length:Nat):Int):=⟨_,rfl⟩;rw [<- hzz] at HOp;have HZ:=hid hzz;clear hzz;refine callsIn_of_wp_marks Tryz.func12 rfl trivial ?_ rfl;simp only [Tryz.ntmps12,List.size_toArray,List.length_cons,List.length_nil,Nat.reduceAdd,Nat.reduceSub,Array.replicate_succ,Array.replicate_zero,List.push_toArray,List.append_toArray,List.nil_append,List.cons_append]
 gi_wp2_with fail
 refine (callsIn_wide.2 HOp.out).mono ?_;clear HOp;rintro e w1 ⟨rfl,hk1,hs1⟩;obtain ⟨wA,hA⟩:∃wA,wA=(w1.alloc (.cells #[.pointer (some ⟨s,0,none⟩),.int .i64 i,.int .i64 zz] 69)).alloc (.cells #[.slice none 0 0] 36):=⟨_,rfl⟩;have hOwn:kJ w1 wA (lsL s i zz (.slice none 0 0)):=by rw [hA];exact ((kJ.nil w1).alloc _).alloc _
 have HK1:=hid hk1;have HSA:=hid (hs1.below hOwn.below);have HA0:=hid hOwn.own;have HAs:Hid (wA.heap.size=w1.heap.size+2):=hOwn.size;have HBA:=hid hOwn.below;have HF1:Hid (∀j,F j->j<w1.heap.size):=fun j hj=>Nat.lt_of_lt_of_le (HFl.out j hj) hk1.size;have HEn:=hid (jz s i (64*es.length) wA);unfold cY at HEn;rw [<- HZ.out] at HEn;clear hOwn hk1 hs1
 gi_wp2_with fail
 rw [<- hA];clear hA;refine (callsIn_wide.2 HEn.out).mono ?_;clear HEn;rintro e wD ⟨rfl,hbD,hfD⟩;rw [HZ.out] at hfD;have HKD:Hid (ac F w1 wD):=ac.of_below (HBA.out.trans (hbD.mono HBA.out.size));have HSD:=hid (HSA.out.below hbD);have HrD:=hid (fun k ob hk=>ah hbD (HA0.out k ob hk) (ae (HA0.out k ob hk)));have HfD:=hid hfD;have HsD:Hid (w1.heap.size+2<wD.heap.size):=by have:=ae hfD;have:=HAs.out;unfold Hid;omega
 clear hbD hfD HSA HA0 hf2 hf3 HBA
 gi_wp2
 refine ey (gf:=89) (lb:=#[.pointer (some ⟨wA.heap.size,0,none⟩)]) (by omega) rfl (enters_of Tryz.func89 (by kernel_rfl) rfl) (fun fn => ?_);generalize hrc:gA fn _ _ _ _ _=rc;have hb0:=(Below.refl wD.heap.size wD).alloc (Nat.le_refl _) (.deferred (some []));have hb1:=hb0.alloc (by simp) (.loop (rc .ready none));have y0:=af wD (.deferred (some []));have y1:=af (wD.alloc (.deferred (some []))) (.loop (rc .ready none));rw [World.size_alloc] at y1;have hsz:((wD.alloc (.deferred (some []))).alloc (.loop (rc .ready none))).heap.size=wD.heap.size+2:=by simp
 have hge:=HsD.out;have hAs:=HAs.out;have hHH:∀j,(F j\/j=wD.heap.size+1\/j=w1.heap.size+1)->j<((wD.alloc (.deferred (some []))).alloc (.loop (rc .ready none))).heap.size:=fun j hj=>by
  rw [hsz];rcases hj with hj | hj | hj
  ·have:=HF1.out j hj;omega
  ·omega
  ·omega
 have hbb1:¬(F wA.heap.size\/wA.heap.size=wD.heap.size+1\/wA.heap.size=w1.heap.size+1):=fun hh=>by
  rcases hh with hh | hh | hh
  ·have:=HF1.out _ hh;omega
  ·omega
  ·omega
 have hg0:cA w1 ((wD.alloc (.deferred (some []))).alloc (.loop (rc .ready none))) F wD.heap.size (lsL s i zz (.slice none 0 0)) (rc .ready none) :=
  ⟨HKD.out.andBelow hb1,by show w1.heap.size+2<=_;omega,fun k ob hk=>aj (aj (HrD.out k ob hk) _) _,aj y0 _,y1⟩
 have HFW:Hid (∀j,F j->j<w1.heap.size+2):=fun j hj=>by have:=HF1.out j hj;omega
 have HHW:Hid (∀j,F j->j<wD.heap.size):=fun j hj=>by have:=HF1.out j hj;omega
 have HRk:Hid (∀(V V':World) (lv:Value) (xs:List (List UInt8)),ig V (w1.heap.size+2) lv xs->ac F V V'->ig V' (w1.heap.size+2) lv xs):=fun V V' lv xs h k=>h.keep k (fun g hg hh=>by
  rcases h.1.2 with ⟨e,-⟩ | ⟨g0,cap,cur,e,hb,-⟩
  ·rw [e] at hg;cases hg
  ·rw [e] at hg;have e2:g0=g:=by simpa [Value.ownBlock] using hg
   have:=HF1.out _ hh;omega)
 have HRp:Hid (∀(V:World) (lv:Value) (xs:List (List UInt8)) (q:Nat) (ob ob':Obj),ig V (w1.heap.size+2) lv xs->V.heap[q]? = some ob->ob.isCells=false->ig (V.putObj q ob') (w1.heap.size+2) lv xs):=fun V lv xs q ob ob' h hb hc=>h.keep (bn V q ob') (fun g hg hh=>by
  rcases h.1.2 with ⟨e,-⟩ | ⟨g0,cap,cur,e,-,hb0,-⟩
  ·rw [e] at hg;cases hg
  ·rw [e] at hg;have e2:g0=g:=by simpa [Value.ownBlock] using hg
   have e3:g=q:=hh;rw [e2,e3,hb] at hb0;rw [Option.some.inj hb0] at hc;cases hc)
 refine (jQ (wD.heap.size+1) wA.heap.size es HEs.out (fun j=>F j\/j=wD.heap.size+1\/j=w1.heap.size+1)
  (fun k V=>∃lv,cA w1 V F wD.heap.size (lsL s i zz lv) (rc .ready none)/\ig V (w1.heap.size+2) lv (cI es k))
  (fun _ _=>False) _
  (HSD.out.below hb1) HF.out HD.out (by omega) hHH (fun j hj => .inl hj) hbb1
  (aj (aj HfD.out _) _) (fun k V V' ⟨lv,h1,h2⟩ hk=>⟨lv,h1.keep HF1.out hk,HRk.out V V' lv _ h2 hk⟩)
  (fun k V q ob ob' ⟨lv,h1,h2⟩ hq hb hc=>⟨lv,h1.off (by rw [hsz] at hq;omega) hb _,HRp.out V lv _ q ob ob' h2 hb hc⟩)
  (fun k V q ob ob' hJk hq hb hc=>hJk)
  (fun k V hk hz ⟨lv,h1,h2⟩=>⟨lv,h1,by rw [qy hk hz];exact h2⟩)
  (fun k U V hk hk0 hU hS hJk => ?round) ⟨_,hg0,xI _ _⟩).mono ?_
 case round =>
  obtain ⟨lv,hj,hrow⟩:=hJk;have hl':=hj.lp;rw [<- hrc] at hl';refine eB hl' rfl ?_;rw [hrc];clear hl' y0 y1 hb0 hb1 hsz hg0 hHH hbb1;have hn1:=tb hk hk0;rw [hn1];have hx9:es[k].2.length<=59:=(HEs.out.2 _ (List.getElem_mem hk)).2;have hnl:(cI es k).length<4096:=by have:=oZ es k;have:=HEs.out.1;omega
  obtain ⟨xi,hxi⟩:∃xi,xi=es[k].1:=⟨_,rfl⟩;obtain ⟨xn,hxn⟩:∃xn,xn=es[k].2:=⟨_,rfl⟩;obtain ⟨ns,hns⟩:∃ns,ns=cI es k:=⟨_,rfl⟩;rw [<- hxn] at hx9 ⊢;rw [<- hxi];rw [<- hns] at hnl hrow ⊢;unfold lj a8;clear hxi hxn hk0 hns hn1;have HSV:=hid hS;have HJV:=hid hj;have HU:=hid hU;have HRow:=hid hrow;have HX9:=hid hx9;have HNl:=hid hnl;obtain ⟨la,lc,rfl⟩:=hrow.form;obtain ⟨kk,hkk⟩:∃kk:Int,kk=((64*k:Nat):Int):=⟨_,rfl⟩;rw [<- hkk];clear hS hj hU hkk hrow hx9 hnl;have hbx:=af V (.cells #[.int .i64 xi,.string ⟨xn.toArray⟩] 79);have hBx:=(Below.refl V.heap.size V).alloc (Nat.le_refl _) (.cells #[.int .i64 xi,.string ⟨xn.toArray⟩] 79)
  gi_wp2
  have hj2:=HJV.out.keep HF1.out (ac.of_below hBx:ac F V _);have hs2:=HSV.out.below hBx;have hr2:=HRk.out _ _ _ _ HRow.out (ac.of_below hBx);refine ⟨hj2.lp,?_⟩;have hKV:aW (fun j=>F j\/j=wD.heap.size+1\/j=w1.heap.size+1) V (World.alloc V (.cells #[.int .i64 xi,.string ⟨xn.toArray⟩] 79)):=(ac.of_below hBx:ac F V _).toS (fun _ e => .inl e);generalize V.alloc _=V1 at *;have hne:V.heap.size≠wD.heap.size+1:=by have:=ae HJV.out.lp;omega
  have hj3:cA w1 (V1.putObj (wD.heap.size+1) (.loop (rc .busy none))) F wD.heap.size (lsL s i zz (.slice la ns.length lc)) (rc .busy none):=hj2.put;have hx3:(V1.putObj (wD.heap.size+1) (.loop (rc .busy none))).heap[V.heap.size]? = some (.cells #[.int .i64 xi,.string ⟨xn.toArray⟩] 79 (0,0)):=(World.putObj_heap_other hne).trans hbx;have hs3:St (V1.putObj (wD.heap.size+1) (.loop (rc .busy none))) s m c F N ino Pg Cm fs o U:=hs2.put HHW.out (by omega) hj2.lp rfl _;have hr3:=HRp.out _ _ _ _ _ (.loop (rc .busy none)) hr2 hj2.lp rfl;have hK3:aW (fun j=>F j\/j=wD.heap.size+1\/j=w1.heap.size+1) V (V1.putObj (wD.heap.size+1) (.loop (rc .busy none))):=hKV.trans ((bn V1 _ _).toS (fun _ e => .inr (.inl e)));have hge3:wD.heap.size+1<V.heap.size:=ae HJV.out.lp;generalize V1.putObj _ _=V2 at *;have c1:V2.cell? ⟨V.heap.size,1,none⟩=some (.string ⟨xn.toArray⟩):=aa hx3 1;have cn:V2.cell? ⟨w1.heap.size+1,0,none⟩=some (.slice la ns.length lc):=aa (hj3.own 1 _ rfl) 0;have hb4:=(Below.refl V2.heap.size V2).alloc (Nat.le_refl _) (.cells #[.string ⟨xn.toArray⟩] 9);have hj4:=hj3.keep HF1.out (ac.of_below hb4:ac F V2 _);have hs4:=hs3.below hb4;have hr4:=HRk.out _ _ _ _ hr3 (ac.of_below hb4);have hK4:aW (fun j=>F j\/j=wD.heap.size+1\/j=w1.heap.size+1) V (V2.alloc (.cells #[.string ⟨xn.toArray⟩] 9)):=hK3.trans ((ac.of_below hb4:ac F V2 _).toS (fun _ e => .inl e));have hx4:=aa (af V2 (.cells #[.string ⟨xn.toArray⟩] 9)) 0;have hv4:w1.heap.size+2<=(V2.alloc (.cells #[.string ⟨xn.toArray⟩] 9)).heap.size:=by have:=ae hj4.lp;omega
  have HJ4:=hid hj4;have HS4:=hid hs4;have HR4:=hid hr4;have HK4:=hid hK4;have HX4:Hid ((V2.alloc (.cells #[.string ⟨xn.toArray⟩] 9)).cell? ⟨V2.heap.size,0,none⟩=some (a8 xn)):=hx4;have HV4:=hid hv4;clear hj2 hs2 hr2 hKV hne hj3 hs3 hr3 hK3 hbx hBx hx3 hj4 hs4 hr4 hK4 hx4 hb4 hv4
  gi_upto_region 7 with fail
  refine tA (by kernel_rfl) ?_
  go_wp2_with (refine kF rfl (.tmp 24) (.tmp 27) rfl rfl xn HX9.out V2.heap.size 1 rfl HR4.out HX4.out HNl.out HV4.out ?_;intro g9 cp9 w9 hr9 hgr9 _;have HP9:=hid (xj HF1.out HFW.out HJ4.out HS4.out HR4.out HK4.out hgr9);have c9:w9.cell? ⟨w1.heap.size+1,0,none⟩=some (.slice la ns.length lc):=(aa (HP9.out.1.own 1 _ rfl) 0);have f9:w9.frozen? ⟨w1.heap.size+1,0,none⟩=false:=(ai (HP9.out.1.own 1 _ rfl) 0);have HR9:=hid hr9;clear hgr9 hr9)
  refine b9.normal ?_;obtain ⟨hj9,hs9,hk9⟩:=HP9.out;have hj5:=hj9.set (k:=1) (b:=w1.heap.size+1) (y := .slice (some ⟨g9,0,none⟩) (ns.length+1) cp9) rfl rfl;have hs5:=hs9.setI (hj9.own 1 _ rfl) (.inr ⟨_,_,_,rfl⟩) (by decide) (fun hh=>by have:=HF1.out _ hh;omega) (.slice (some ⟨g9,0,none⟩) (ns.length+1) cp9);have hr5:=HR9.out.keep (ej w9 (w1.heap.size+1) (.slice (some ⟨g9,0,none⟩) (ns.length+1) cp9)) (fun g hg hh=>by
   have e3:g=w1.heap.size+1:=hh;rcases HR9.out.1.2 with ⟨e,-⟩ | ⟨g0,cap,cur,e,hb,-⟩
   ·cases e
   ·rw [e] at hg;have e2:g0=g:=by simpa [Value.ownBlock] using hg
    omega)
  have hk5:=hk9.trans ((ej w9 (w1.heap.size+1) (.slice (some ⟨g9,0,none⟩) (ns.length+1) cp9)).toS (H:=(fun j=>F j\/j=wD.heap.size+1\/j=w1.heap.size+1)) (fun _ e => .inr (.inr e)));exact ⟨hj5.lp,⟨rfl,⟨_,hj5.put,HRp.out _ _ _ _ _ _ hr5 hj5.lp rfl⟩,hs5.put HHW.out (by omega) hj5.lp rfl _,hk5.trans ((bn _ _ _).toS (fun _ e => .inr (.inl e)))⟩⟩
 rintro e W2 ⟨⟨v,rfl⟩,hE⟩;refine ⟨⟨_,rfl⟩,?_⟩;rcases hE with ⟨⟨lv,hj,hrow⟩,U,hU,hS⟩ | ⟨k,hk,hX⟩
 ·refine ⟨_,_,?_,hj.lp,?_⟩
  ·intro h;cases h
  have hj9:cA w1 (W2.putObj (wD.heap.size+1) (.loop (rc .exhausted none))) F wD.heap.size (lsL s i zz lv) (rc .exhausted none):=hj.put;have HS9:Hid (St (W2.putObj (wD.heap.size+1) (.loop (rc .exhausted none))) s m c F N ino Pg Cm fs o U):=hS.put HHW.out (by omega) hj.lp rfl _;have HR9:=hid (HRp.out _ _ _ _ _ (.loop (rc .exhausted none)) hrow hj.lp rfl);have HU:=hid hU;have HJ9:=hid hj9;obtain ⟨la,lc,rfl⟩:=hrow.form;subst hrc;clear hj hj9 hrow hS hU;generalize W2.putObj _ _=W3 at *;show Exit.inBlock 0 _ .normal _ _;have cn:W3.cell? ⟨w1.heap.size+1,0,none⟩=some (.slice la (cI es es.length).length lc):=aa (HJ9.out.own 1 _ rfl) 0;have hnl:(cI es es.length).length<=4096:=by have:=oZ es es.length;have:=HEs.out.1;omega
  have HSo:=hid (xy HR9.out hnl);clear hnl
  gi_wp2_with fail
  refine (callsIn_wide.2 HSo.out).mono ?_;rintro e W4 ⟨rfl,hg4,hrd4⟩;have HGe:Hid (∀ad n c,Value.slice la (cI es es.length).length lc = .slice (some ad) n c->w.heap.size<=ad.block):=fun ad n c e=>by
   have h1:=(HR9.out.1.lt ad.block (by rw [e];rfl)).1;have:=HK1.out.size;omega
  obtain ⟨hj4,hs4,-⟩:=xj HF1.out HFW.out HJ9.out HS9.out HR9.out (aW.refl (fun _=>False) W3) hg4;have c4:W4.cell? ⟨w1.heap.size+1,0,none⟩=some (.slice la (cI es es.length).length lc):=aa (hj4.own 1 _ rfl) 0;have HJ4:=hid hj4;have HS4:=hid hs4;have HRd:=hid hrd4;clear hg4 hj4 hs4 hrd4 cn HSo HR9 HS9 HJ9
  gi_wp2
  refine ⟨by simp,.inl ⟨_,_,rfl,run_takeDeferred HJ4.out.df,?_⟩⟩;refine ⟨_,oh rfl rfl,⟨_,rfl,HRd.out.put HJ4.out.df _,HGe.out⟩,HK1.out.trans (HJ4.out.low.putNew (by omega) _) (fun _ e => .inl e),U,by have:=HU.out;omega,HS4.out.put HHW.out (Nat.le_refl _) HJ4.out.df rfl _⟩
 ·exact hX.elim
end
end
section
set_option maxRecDepth 100000
set_option maxHeartbeats 2000000
open Go.RowKit
theorem lZ (r:List UInt8):Lib.splitB ⟨#[47]⟩ 0 (Lib.countB ⟨r.toArray⟩ ⟨#[47]⟩) ⟨r.toArray⟩=(dp r).map fun l=>⟨l.toArray⟩:=by
 have h:=Lib.splitB_data ⟨#[47]⟩ 0 (Lib.countB ⟨r.toArray⟩ ⟨#[47]⟩) ⟨r.toArray⟩;have hc:Lib.countB ⟨r.toArray⟩ ⟨#[47]⟩=r.count 47:=Lib.count_one 47 r;rw [hc] at h ⊢;rw [show Lib.splitK (⟨#[47]⟩:ByteArray).data.toList 0 (r.count 47) (⟨r.toArray⟩:ByteArray).data.toList=dp r from lX r] at h;rw [<- h,List.map_map];have e:((fun l:List UInt8=>(⟨l.toArray⟩:ByteArray)) ∘ fun b:ByteArray=>b.data.toList)=id:=by funext b;simp
 rw [e,List.map_id]
theorem lK (r:List UInt8):(dp r).length=r.count 47+1:=by
 have h:=Lib.splitB_all ⟨#[47]⟩ (by decide) 0 (Lib.countB ⟨r.toArray⟩ ⟨#[47]⟩) ⟨r.toArray⟩ rfl;rw [lZ,List.length_map] at h;rw [h,show Lib.countB ⟨r.toArray⟩ ⟨#[47]⟩=r.count 47 from Lib.count_one 47 r]
def ev (w:World) (o:Option (List (List UInt8))) (e:Ending) (w':World):Prop:=Below w.heap.size w w'/\match o with
 | none=>e = .returned (.tuple #[.slice none 0 0,.int .i64 8])
 | some ns=>∃v,e = .returned (.tuple #[v,.int .i64 0])/\RdT w' v (ns.map fun l=>⟨l.toArray⟩)
theorem ev.none {w w':World} (h:Below w.heap.size w w'):ev w .none (.returned (.tuple #[.slice .none 0 0,.int .i64 8])) w':=⟨h,rfl⟩
theorem ev.some {w w':World} {ns:List (List UInt8)} {v:Value} (h:Below w.heap.size w w') (hr:RdT w' v (ns.map fun l=>⟨l.toArray⟩)):ev w (.some ns) (.returned (.tuple #[v,.int .i64 0])) w':=⟨h,v,rfl,hr⟩
theorem wX (ns:List (List UInt8)):(ns.map fun l=>(⟨l.toArray⟩:ByteArray)).map (·.data.toList)=ns:=by
 rw [List.map_map];have e:((fun b:ByteArray=>b.data.toList) ∘ fun l:List UInt8=>(⟨l.toArray⟩:ByteArray))=id:=by funext b;simp
 rw [e,List.map_id]
theorem th (s:ByteArray) (hs:(s.size:Int)<=9223372036854775807) (w:World) (hV:∃m,w.cell? ⟨0,0,none⟩=some (.int .i64 m)):Calls Tryz.prog 27 #[.string s] w (ev w (fV s.data.toList)):=by
 obtain ⟨m,hm⟩:=hV;have HC:=hid (Tryz.strings_CutPrefix s ⟨#[47]⟩ w);obtain ⟨l,hl⟩:∃l,l=s.data.toList:=⟨_,rfl⟩;have hsz:s.size=l.length:=by rw [hl, <- Lib.size_eq]
 rw [<- hl] at HC ⊢;by_cases hp:∃r,l=47 :: r
 ·obtain ⟨r,rfl⟩:=hp;rw [show Lib.hasPrefix (47 :: r) (⟨#[47]⟩:ByteArray).data.toList=true from by simp [Lib.hasPrefix,List.isPrefixOf],show Lib.trimPrefix (47 :: r) (⟨#[47]⟩:ByteArray).data.toList=r from by simp [Lib.trimPrefix,Lib.hasPrefix,List.isPrefixOf]] at HC;simp only [List.length_cons] at hsz;by_cases h25:254<r.length
  ·have HS:Hid (fV (47 :: r)=none):=if_pos h25;have q:(255:Int)<(s.size:Int):=by omega
   clear hl hm;go_enter Tryz.func27,Tryz.ntmps27
   go_wp2_with fail
   refine HC.out.mono ?_;rintro e w1 ⟨rfl,rfl⟩;go_wp2;go_returns;rw [HS.out];exact ev.none (Below.refl _ _)
  ·have q:¬(255:Int)<(s.size:Int):=by omega
   by_cases h0:r=[]
   ·subst h0;have HS:Hid (fV [47]=some []):=rfl;clear hl hm;have e0:(⟨([]:List UInt8).toArray⟩:ByteArray).toList=[]:=by rw [Lib.toList_data]
    go_enter Tryz.func27,Tryz.ntmps27
    go_wp2_with fail
    refine HC.out.mono ?_;rintro e w1 ⟨rfl,rfl⟩;go_wp2;go_returns;rw [HS.out];exact ev.some (Below.refl _ _) ⟨none,0,rfl,by simp,by simp,fun k hk=>by simp at hk⟩
   ·have HS:Hid (fV (47 :: r)=if (dp r).length<=16/\∀x∈dp r,nameL x=true then some (dp r) else none):=by
     unfold Hid;show (if 254<r.length then none else if r=[] then some [] else _)=_;rw [if_neg h25,if_neg h0]
    have hrl:(⟨r.toArray⟩:ByteArray).toList=r:=by rw [Lib.toList_data]
    have hrs:(⟨r.toArray⟩:ByteArray).size=r.length:=eU r;have hsp:=Tryz.strings_Split ⟨r.toArray⟩ ⟨#[47]⟩ m w (by omega) hm (by decide);rw [lZ,show Lib.countB ⟨r.toArray⟩ ⟨#[47]⟩+1=(dp r).length from by rw [lK];exact congrArg (· + 1) (Lib.count_one 47 r)] at hsp;have HSp:=hid hsp;have hsl:(dp r).length<=300:=by have:=List.count_le_length (a:=(47:UInt8)) (l:=r);rw [lK];omega
    have hjs:=oM r;have HJs:=hid hjs;have hr2:¬(⟨r.toArray⟩:ByteArray).toList=[]:=by rw [hrl];exact h0
    generalize (⟨r.toArray⟩:ByteArray)=rb at *;have hr3:(rb.toList==[])=false:=by rw [hrl];cases r with | nil=>exact absurd rfl h0 | cons _ _=>rfl
    have HH:=hid h25;clear hl hm hsp hjs hrl hrs;go_enter Tryz.func27,Tryz.ntmps27
    go_wp2_with fail
    refine HC.out.mono ?_;rintro e w1 ⟨rfl,h1⟩;obtain rfl:=h1.symm;clear h1 HC
    go_wp2_with fail
    refine HSp.out.mono ?_;clear HSp;rintro e w2 ⟨rfl,hw2⟩;have hb2:Below w.heap.size w w2:=by rw [hw2];exact (Below.refl _ w).alloc (Nat.le_refl _) _
    have hrd:RdT w2 (.slice (some ⟨w.heap.size,0,none⟩) (dp r).length (dp r).length) ((dp r).map fun l=>⟨l.toArray⟩):=by
     refine ⟨some ⟨w.heap.size,0,none⟩,(dp r).length,by rw [List.length_map],by rw [List.length_map];omega,by omega,fun k hk=>⟨w.heap.size,0,rfl,?_,?_⟩⟩
     ·rw [hw2];simp
     ·rw [hw2,aa (af w _)];have hk':k<(dp r).length:=by rw [List.length_map] at hk;exact hk
      simp [hk']
    have HJ:=hid (vo _ _ w2 hrd);rw [wX] at HJ;have HB2:=hid hb2;have HRd:=hid hrd;clear hw2 hb2 hrd;obtain ⟨n,hn⟩:∃n,n=(dp r).length:=⟨_,rfl⟩;rw [<- hn] at HJ HRd ⊢;have HN:=hid hn;clear hn;by_cases hok:(dp r).length<=16/\∀x∈dp r,nameL x=true
    ·have hj:gv (dp r)=some (47 :: r):=by
      unfold gv;rw [HJs.out,if_pos ⟨hok.1,hok.2,by have:=HH.out;omega⟩]
     rw [hj] at HJ;have HS2:Hid (fV (47 :: r)=some (dp r)):=by unfold Hid;rw [HS.out,if_pos hok]
     unfold xf at HJ;clear hj hok HS
     go_wp2_with fail
     refine HJ.out.mono ?_;clear HJ;rintro e w3 ⟨rfl,hb3⟩;have HR3:=hid (HRd.out.up hb3);have HB3:=hid (HB2.out.trans (hb3.mono HB2.out.size));clear hb3;go_wp2;go_returns;rw [HS2.out];exact ev.some HB3.out HR3.out
    ·have hj:gv (dp r)=none:=by
      unfold gv;rw [if_neg (fun hh=>hok ⟨hh.1,hh.2.1⟩)]
     rw [hj] at HJ;have HS2:Hid (fV (47 :: r)=none):=by unfold Hid;rw [HS.out,if_neg hok]
     unfold xf at HJ;clear hj hok HS
     go_wp2_with fail
     refine HJ.out.mono ?_;clear HJ;rintro e w3 ⟨rfl,hb3⟩;have HB3:=hid (HB2.out.trans (hb3.mono HB2.out.size));clear hb3;go_wp2;go_returns;rw [HS2.out];exact ev.none HB3.out
 ·have hpf:Lib.hasPrefix l (⟨#[47]⟩:ByteArray).data.toList=false:=by
   cases l with
   | nil=>rfl
   | cons x l =>
    have hx:x≠47:=fun e=>hp ⟨l,by rw [e]⟩;simp [Lib.hasPrefix,List.isPrefixOf,Ne.symm hx]
  have HS:Hid (fV l=none):=by
   unfold Hid fV
   split
   ·exact absurd ⟨_,rfl⟩ hp
   ·rfl
  rw [hpf] at HC;generalize Lib.trimPrefix l _=t at HC;clear hl hm hp;go_enter Tryz.func27,Tryz.ntmps27
  go_wp2_with fail
  refine HC.out.mono ?_;rintro e w1 ⟨rfl,rfl⟩;go_wp2;go_returns;rw [HS.out];exact ev.none (Below.refl _ _)
end
section
set_option maxRecDepth 100000
set_option maxHeartbeats 4000000
open Go.RowKit
def kdD (i:Nat):Nat:=if i=1 then 1 else 2
def fsD:Nat->Nat->Option ao
 | 0=>fun _=>none
 | i+1=>bj (fsD i) (i+1) (some (uQ (kdD i) 420))
theorem sM:∀i j,(fsD i j).isSome=decide (1<=j/\j<=i)
 | 0,j=>by simp [fsD];omega
 | i+1,j=>by
  unfold fsD bj;by_cases e:j=i+1
  ·rw [if_pos e,decide_eq_true ⟨by omega,by omega⟩];rfl
  ·rw [if_neg e,sM i j];exact decide_eq_decide.2 ⟨fun h=>⟨h.1,by omega⟩,fun h=>⟨h.1,by omega⟩⟩
theorem aF.firstI {sk:Nat->Prop} {N ino:Nat} {Pg:Nat->List UInt8} {fs:Nat->Option ao} (h:aF sk N ino Pg fs) (q:Nat) (hq:0<q) (hqi:q<ino) (hlo:∀j,0<j->j<q->(fs j).isSome=true) (hno:(fs q).isSome=false):∃rest,ax (Pg 1) 1 ino 4096=q :: rest:=by
 have hi5:=h.i5;refine uN (fun j hj => ?_) ?_ (by omega)
 ·unfold bw;by_cases h0:j=0
  ·rw [decide_eq_false (by omega),Bool.false_and]
  ·rw [(h.ibit j (by omega)).2 (.inr (hlo j (by omega) hj)),Bool.not_true,Bool.and_false]
 ·unfold bw;rw [decide_eq_true ⟨by omega,by omega⟩,Bool.true_and];cases hb:de (Pg 1) q
  ·rfl
  ·rcases (h.ibit q hqi).1 hb with e | e
   ·omega
   ·rw [hno] at e;cases e
def l8 (w:World) (s m c:Nat) (F:Nat->Prop) (N:Nat) (i:Nat):Prop:=aT w m c 16/\bG w s m/\¬F m/\¬F s/\∃Pg Cm D,aF gq N 16 Pg (fsD i)/\Pc w c F 100 N Pg Cm D 0 (3*i)/\(dkD N D).length<=5+3*i
theorem l8.keep {w w':World} {s m c N i r mr:Nat} {F:Nat->Prop} (h:l8 w s m c F N i) (hr:a7 w F r mr) (k:ac (fun i=>i=r\/i=mr) w w'):l8 w' s m c F N i:=by
 obtain ⟨h1,h2,h3,h4,Pg,Cm,D,h5,h6,h7⟩:=h;have ho:=hr.off;have hm:¬(m=r\/m=mr):=fun e=>by
  obtain ⟨⟨cs,t,fr,hb,ht,-⟩,-⟩:=ho m e;unfold aT at h1;rw [hb] at h1;simp only [Option.some.injEq,Obj.cells.injEq] at h1;exact absurd h1.2.1 ht.2.2
 have hs:¬(s=r\/s=mr):=fun e=>by
  obtain ⟨lb,lc,km,kb,kc,fl,kl,h3,-⟩:=hr.heap;obtain ⟨g,cp,gi,ci,Lp,Li,h4,-⟩:=hr.map;unfold bG at h2;rcases e with rfl | rfl
  ·rw [h3] at h2;simp at h2
  ·rw [h4.heap] at h2;simp at h2
 exact ⟨h1.keep k hm,h2.keep k hs,h3,h4,Pg,Cm,D,h5,h6.keepYs (fun b e=>(ho b e).1) (fun b e=>(ho b e).2) k,h7⟩
theorem l8.below {w w':World} {s m c N i:Nat} {F:Nat->Prop} (h:l8 w s m c F N i) (hb:Below w.heap.size w w'):l8 w' s m c F N i:=by
 obtain ⟨h1,h2,h3,h4,Pg,Cm,D,h5,h6,h7⟩:=h;exact ⟨h1.below hb,h2.below hb,h3,h4,Pg,Cm,D,h5,h6.below hb,h7⟩
theorem vy {w:World} {s m c N i:Nat} {F:Nat->Prop} (h:l8 w s m c F N i) (hi:i<3):Calls Tryz.prog 24 #[.pointer (some ⟨s,0,none⟩),.int .i64 (kdD i:Nat),.int .i64 420] w fun e w'=>e = .returned (.tuple #[.int .i64 (i+1:Nat),.int .i64 0])/\ac F w w'/\l8 w' s m c F N (i+1):=by
 obtain ⟨h1,h2,h3,h4,Pg,Cm,D,h5,h6,h7⟩:=h;obtain ⟨rest,hq⟩:=h5.firstI (i+1) (by omega) (by omega) (fun j hj1 hj2=>by rw [sM];exact decide_eq_true ⟨by omega,by omega⟩) (by rw [sM];exact decide_eq_false (by omega));have hk1:1<=kdD i:=by unfold kdD;split <;> omega
 have hk3:kdD i<=3:=by unfold kdD;split <;> omega
 refine (xR h1 h3 h2 h4 h5.i5 h5.h8 h5.nf (kdD i) 420 (i+1) rest hk1 hk3 (by omega) hq (by omega) (by omega) h6).mono ?_;rintro e w' ⟨rfl,hk,hp'⟩;refine ⟨rfl,hk,h1.keep hk h3,h2.keep hk h4,h3,h4,_,_,_,h5.make hq hk3 (by omega),hp'.more (Nat.le_refl _) (by omega),?_⟩;have d1:=ka N (nR Pg D (i+1)) (3+(i+1) / 8);have d2:=qi N Pg D (i+1);omega
def zX (w:World) (e:Ending) (w':World):Prop:=∃s m c F r Pg,e = .returned (.tuple #[.pointer (some ⟨s,0,none⟩),.pointer (some ⟨r,0,none⟩),.bool true])/\(∀i,F i->w.heap.size<=i)/\Below w.heap.size w w'/\St w' s m c F 100 16 Pg Pg (fsD 3) 206 9
def zT (w:World) (e:Ending) (w':World):Prop:=∃s m c F r Pg mr,e = .returned (.tuple #[.pointer (some ⟨s,0,none⟩),.pointer (some ⟨r,0,none⟩),.bool true])/\(∀i,F i->w.heap.size<=i)/\Below w.heap.size w w'/\St w' s m c F 100 16 Pg Pg (fsD 3) 206 9/\w.heap.size<=r/\w.heap.size<=mr/\a7 w' F r mr
theorem gR (w:World):Calls Tryz.prog 5 #[] w (zT w):=by
 obtain ⟨N,hN0⟩:∃N:Nat,N=100:=⟨_,rfl⟩;obtain ⟨n,hn⟩:∃n:Nat,n=N+101:=⟨_,rfl⟩;have hn3:n<=4096:=by omega
 have hNp:pagesS (fZ n) 100=N:=by unfold pagesS;rw [jO];omega
 have HNp:=hid hNp;have HN:=hid hn;have hmy:jg N 16:=by rw [hN0];decide
 have HMy:=hid hmy;have hma:=yO N 16 2 (fun _=>zN 512);have hdk:=oL N (jk N 16 2) (fun _=>false);rw [rV,qC,List.length_nil] at hdk;have HMa:=hid hma;have HDk:=hid hdk;have hz:∀k,k<N->lg (fZ n) (1+100+k)=zN 512:=fun k hk=>by
  unfold lg;rw [iF n (1+100+k) (by omega)];exact iU
 have HZ:=hid hz;have HC201:Hid ((201:Int)=(n:Int)):=by unfold Hid;omega
 have HC100:Hid ((100:Int)=(N:Int)):=by unfold Hid;omega
 have hN8:8<=N:=by omega
 have hN1:N<=100:=by omega
 have hn2:102<=n:=by omega
 have HN0:=hid hN0;clear hNp hma hdk hz hmy hn hN0;go_enter Tryz.func5,Tryz.ntmps5
 go_wp2_with fail
 rw [HC201.out];refine (yl n (by omega) hn3 _).mono ?_;rintro e w1 ⟨d,rfl,hD,-,-,hB⟩;have HD:Hid (aX w1 d (fZ n)):=hD;have HB1:=hid hB;have HOp:=hid (wj d (fZ n) 100 w1 HD.out (by show 0<=4096;decide) (by omega) (by rw [jO];omega) (by rw [show ((0:Int))=((0:Nat):Int) from rfl,iF n 0 (by omega)];exact iU));clear hD hB HD
 go_wp2_with fail
 refine HOp.out.mono ?_;clear HOp;rintro e w2 ⟨hb2,p,d2,rfl,hp2,hL2⟩;have hpl:=ae hL2.heap;have HB2:=hid (HB1.out.trans (hb2.mono HB1.out.size));have HNw:=hid (yP p d2 (fZ n) 100 (fun i=>w1.heap.size<=i/\i<p) 16 (by omega) (by omega) w2 hL2 (fun i hi=>by omega) (by rw [jO];omega));have hs1:=HB1.out.size;have hs2:=hb2.size;clear hb2 hL2
 go_wp2_with fail
 refine HNw.out.mono ?_;clear HNw;rintro e w3 ⟨hb3,c,L,rfl,hc3,hdv,hLF,hft,hC3⟩;have HB3:=hid (HB2.out.trans (hb3.mono HB2.out.size));have hlt3:=ae hC3.log.heap;have hp3:Pc w3 c (fun i=>L.foot c i) 100 N (fun _=>zN 512) (fun _=>zN 512) (fun _=>false) 0 0:=by
  have hC:=hC3;rw [HNp.out] at hC;exact ⟨L,_,⟨hC,rfl,rfl,tn _ (by simp;omega) (fun s hs=>by rw [List.eq_of_mem_replicate hs];exact t6),Nat.le_refl _,Nat.le_refl _,fun k hk=>HZ.out k hk,fun k hk=>HZ.out k hk,fun _=>rfl,by rw [CS.dirtyKeys_none rfl];simp,fun i hi=>hi,fun i hi=>hC.footLt i hi,hlt3,rR.zeros _ _ _,rfl,pN n (by omega)⟩⟩
 have HF:Hid (∀i,L.foot c i->w.heap.size<=i):=fun i hi=>by
  rcases hft i hi with h | h
  ·omega
  ·omega
 have HMk:=hid (uY 16 hp3);have HP3:=hid hp3;clear hb3 hC3 hft hdv hLF hp3
 go_wp2_with fail
 refine HMk.out.mono ?_;clear HMk;rintro e w4 ⟨hk4,hx⟩;rcases hx with ⟨h,-⟩ | ⟨k,hk,-,hx⟩
 ·exact absurd HMy.out h
 obtain rfl:k=16:=by omega
 rcases hx with ⟨h,-⟩ | ⟨-,m,hm,hmF,hmb,rfl,hp4⟩
 ·rw [rV] at h;exact absurd h (by decide)
 have HK4:=hid hk4;have HMm:=hid hmb;have HP4:=hid hp4;have HmF:=hid hmF;have HNi:=hid (yw m w4);clear hk4 hmb hp4 hmF hk
 go_wp2_with fail
 refine HNi.out.mono ?_;clear HNi;rintro e w5 ⟨rfl,hs5,hb5⟩;have HS5:=hid hs5;have HB5:=hid hb5;have HMr:=hid (ta N 16 (by omega) w5);clear hs5 hb5
 go_wp2_with fail
 rw [HC100.out];refine HMr.out.mono ?_;clear HMr;rintro e w6 ⟨hb6,hx⟩;rcases hx with ⟨h,-⟩ | ⟨k,r,g,gi,hk,-,rfl,hr1,hr2,hr3,hR6⟩
 ·exact absurd HMy.out h
 obtain rfl:k=16:=by omega
 have hp6:=(HP4.out.below HB5.out).below hb6;have hFl:=HP3.out.lt;have h34:=HK4.out.size;have h45:=HB5.out.size;have h56:=hb6.size;have hw3:=HB3.out.size;have hsF:¬L.foot c w4.heap.size:=fun hh=>by have:=hFl _ hh;omega
 have hM6:l8 w6 w4.heap.size m c (fun i=>L.foot c i) N 0:=⟨(HMm.out.below HB5.out).below hb6,HS5.out.below hb6,HmF.out,hsF,_,_,_,vg hN8 hN1 (fun p hp=>hp6.len p hp) HMa.out.2.1 HMa.out.2.2,hp6,HDk.out⟩;have hn5:∀i,w5.heap.size<=i->¬L.foot c i:=fun i h1 hh=>by have:=hFl _ hh;omega
 have HNw:=hid (vQ (F:=fun i=>L.foot c i) hR6 (by rw [aM]) (fun i hi=>hp6.lt i hi) (hn5 _ hr1) (hn5 _ hr2) (hn5 _ hr3));have HB6:Hid (Below w.heap.size w w6):=(HB3.out.trans (HK4.out.below hw3 (fun i hi=>HF.out i hi))).trans ((HB5.out.trans (hb6.mono h45)).mono (by omega));have HM6:=hid hM6;have HF6:=hid (And.intro (fun i hi=>HF.out i hi:∀i,L.foot c i->w.heap.size<=i) (show w.heap.size<=r by omega));clear hb6 hR6 hp6 hFl hsF hM6 hn5 HF HMm HS5 HB5 HP4 HP3 HK4 HB3 HB2 HB1 HZ HDk HMa hk hr1 hr2 hr3;generalize hFd:(fun i=>L.foot c i)=F at *
 go_wp2_with fail
 refine HNw.out.mono ?_;clear HNw;rintro e w8 ⟨q,rfl,hq,hb8,hr8⟩;have hFw:∀i,F i->w.heap.size<=i:=fun i hi=>HF6.out.1 i (by rw [<- hFd] at hi;exact hi);have HFw:=hid hFw;have HI8:Hid (l8 w8 w4.heap.size m c F N 0/\(∃mr,a7 w8 F q mr/\w.heap.size<=mr)/\Below w.heap.size w w8):=⟨HM6.out.below hb8,⟨r,hr8,HF6.out.2⟩,HB6.out.trans (hb8.mono HB6.out.size)⟩;have HQ:Hid (w.heap.size<=q):=Nat.le_trans HB6.out.size hq;clear hb8 hr8 hFw hFd HF6 HM6 HB6 hq hpl hs1 hs2 h34 h45 h56 hw3 hlt3 hc3 hp2;generalize w4.heap.size=s at *;go_wp2
 go_loopw [16] (fun iv W=>∃i:Nat,i<=3/\iv = .int .i64 i/\Hid (l8 W s m c F N i/\(∃mr,a7 W F q mr/\w.heap.size<=mr)/\Below w.heap.size w W)) (fun iv _=>3-(intOf iv).toNat)
 case atStart=>exact ⟨0,by omega,rfl,HI8⟩
 case round =>
  obtain ⟨i,hi3,rfl,HI⟩:=hrel;by_cases hi:i<3
  ·obtain ⟨hM,⟨mr,hr,hmr⟩,hB⟩:=HI.out;have HMk:=hid (fun W' (hb:Below wr.heap.size wr W')=>vy (hM.below hb) hi);have HR:=hid hr;have HB:=hid hB;have HFl:Hid (∀i,F i->i<wr.heap.size):=by obtain ⟨-,-,-,-,Pg,Cm,D,-,h,-⟩:=hM;exact h.lt
   clear HI HI8 hM hr hB;obtain ⟨i',hii⟩:∃i':Nat,i'=i:=⟨i,rfl⟩;rcases (show i=0\/i=1\/i=2 by omega) with rfl | rfl | rfl
   all_goals
    go_wp2_with fail
    have hba:=(Below.refl wr.heap.size wr).alloc (Nat.le_refl _) (.cells #[.int .i64 2,.int .i64 1,.int .i64 2] 63);have hRa:=HR.out.below hba;refine (HMk.out _ hba).mono ?_;clear HMk;rintro e w2 ⟨rfl,hk2,hM2⟩;have hR2:a7 w2 F q mr:=hRa.keep hk2 (fun _ e=>e) (fun _ e => .inl e);have HB2:Hid (Below w.heap.size w w2):=(HB.out.trans (hba.mono HB.out.size)).trans (hk2.below (Nat.le_trans HB.out.size hba.size) (fun i hi=>HFw.out i hi));have HRm:=hid (fun kd=>wQ hR2 (fun i hi=>by have h1:=HFl.out i hi;have h2:=hba.size;have h3:=hk2.size;omega) kd 420);have HM2:=hid hM2;have HR2:=hid hR2;clear hba hRa hk2 hM2 hR2 HR HB
    go_wp2_with fail
    refine (HRm.out _).mono ?_;clear HRm;rintro e w3' ⟨⟨hk3,mr3,hm3,hr3⟩,a3,c3,rfl⟩;have HI3:Hid (l8 w3' s m c F N (i'+1)/\(∃mr,a7 w3' F q mr/\w.heap.size<=mr)/\Below w.heap.size w w3'):=by
     rw [hii];exact ⟨HM2.out.keep HR2.out hk3,⟨mr3,hr3,hm3.elim (fun e=>by omega) (fun e=>by have:=HB2.out.size;omega)⟩,HB2.out.trans (hk3.below HB2.out.size (fun i e=>by have h1:=HQ.out;have e':i=q\/i=mr:=e;omega))⟩
    rw [hii] at HI3;clear hk3 hm3 hr3 HM2 HR2 HB2;go_wp2;exact ⟨⟨_,by omega,by go_num,HI3⟩,by simp [intOf]⟩
  ·obtain rfl:i=3:=by omega
   obtain ⟨hM,⟨mr,hr,hmr⟩,hB⟩:=HI.out;have HCr:=hid (mu hr (by obtain ⟨-,-,-,-,Pg,Cm,D,-,h,-⟩:=hM;exact h.lt));have HM:=hid hM;have HR:=hid hr;have HB:=hid hB;clear HI HI8 hM hr hB
   go_wp2_with fail
   refine HCr.out.mono ?_;clear HCr;rintro e w2 ⟨rfl,hk2,hr2⟩;obtain ⟨m1,m2,m3,m4,Pg,Cm,D,m5,m6,m7⟩:=HM.out.keep HR.out (hk2.mono (fun i e => .inl e));have HCo:=hid (m6.commit (by omega));have HB2:Hid (Below w.heap.size w w2):=HB.out.trans (hk2.below HB.out.size (fun i e=>by have h1:=HQ.out;have e':i=q:=e;omega));have HMs:=hid (And.intro m1 (And.intro m2 (And.intro m3 m4)));have HGd:=hid m5;have HRf:=hid hr2;clear hk2 hr2 m1 m2 m3 m4 m5 m6 m7 HM HR HB
   go_wp2_with fail
   refine HCo.out.mono ?_;clear HCo;rintro e w7 ⟨rfl,hk7,F7,hF7,hF7',hp7⟩;obtain ⟨m1,m2,m3,m4⟩:=HMs.out;have hmF7:¬F7 m:=fun hh=>(hF7' m hh).elim m3 (fun e=>by have:=ae m1;omega);have hsF7:¬F7 s:=fun hh=>(hF7' _ hh).elim m4 (fun e=>by have:=ae m2;omega);obtain rfl:=HN0.out;have hst:St w7 s m c F7 100 16 Pg Pg (fsD 3) 206 9:=⟨m1.keep hk7 m3,m2.keep hk7 m4,hmF7,hsF7,by omega,⟨_,hp7⟩,HGd.out⟩;have HSt:=hid hst;have HF7:Hid (∀i,F7 i->w.heap.size<=i):=fun i hi=>(hF7' i hi).elim (fun e=>HFw.out i e) (fun e=>Nat.le_trans HB2.out.size e);have HB7:Hid (Below w.heap.size w w7):=HB2.out.trans (hk7.below HB2.out.size (fun i hi=>HFw.out i hi));have HR7:Hid (a7 w7 F7 q mr):=HRf.out.keep hk7 (fun _ e=>e) (fun j e=>hF7' j e);clear hst hk7 hF7 hF7' hp7 m1 m2 m3 m4 hmF7 hsF7;go_wp2;go_returns;exact ⟨s,m,c,F7,q,Pg,mr,rfl,HF7.out,HB7.out,HSt.out,HQ.out,hmr,HR7.out⟩
theorem o8 (w:World):Calls Tryz.prog 5 #[] w (zX w):=(gR w).mono fun _ _ ⟨s,m,c,F,r,Pg,_,he,hF,hB,hS,_⟩=>⟨s,m,c,F,r,Pg,he,hF,hB,hS⟩
end
section
open Go.RowKit
def xM:Option ao->Nat
 | some f=>f.cnt
 | none=>0
def jD:Option ao->List Nat
 | some f=>(List.range f.cnt).map f.slot
 | none=>[]
def vh (fs:Nat->Option ao) (n:Nat):Nat:=((List.range n).map (fun i=>xM (fs i))).sum
def qm (fs:Nat->Option ao) (n:Nat):List Nat:=(List.range n).flatMap (fun i=>jD (fs i))
theorem n5 (a:Option ao):(jD a).length=xM a:=by cases a <;> simp [jD,xM]
theorem gQ {a:Option ao} {p:Nat}:p∈jD a ↔ ∃f j,a=some f/\j<f.cnt/\f.slot j=p:=by
 cases a with
 | none=>simp [jD]
 | some f=>simp [jD]
theorem ru (fs:Nat->Option ao) (n:Nat):(qm fs n).length=vh fs n:=by
 unfold qm vh;rw [List.length_flatMap]
 congr 1
 exact List.map_congr_left (fun i _=>n5 _)
theorem mS {L:List UInt8} {a z p:Nat} (hz:z<=4096):p∈ax L a z 4096 ↔ a<=p/\p<z/\de L p=false:=by
 unfold ax bw;rw [List.mem_filter,List.mem_range];simp;constructor
 ·intro h;exact ⟨h.2.1.1,h.2.1.2,h.2.2⟩
 ·intro h;exact ⟨by omega,⟨h.1,h.2.1⟩,h.2.2⟩
theorem pJ (L:List UInt8) (a z:Nat):(ax L a z 4096).Nodup:=List.Pairwise.filter _ List.nodup_range
section
variable {sk:Nat->Prop} {N ino:Nat} {Pg:Nat->List UInt8} {fs:Nat->Option ao} {i:Nat} {f:ao}
theorem aF.nodupS (h:aF sk N ino Pg fs):(qm fs ino).Nodup:=by
 unfold qm List.Nodup;rw [List.pairwise_flatMap];constructor
 ·intro i _;unfold jD
  split
  ·rename_i f hf;rw [List.pairwise_map];refine (List.nodup_range (n:=f.cnt)).imp_of_mem (fun {a b} ha hb hab e=>hab ?_);exact (h.apart i f a i f b hf hf (List.mem_range.1 ha) (List.mem_range.1 hb) e).2
  ·exact List.Pairwise.nil
 ·refine (List.nodup_range (n:=ino)).imp (fun {a b} hab => ?_);intro p hp q hq e;obtain ⟨f,j,h1,h2,h3⟩:=gQ.1 hp;obtain ⟨g,k,h4,h5,h6⟩:=gQ.1 hq;exact hab (h.apart a f j b g k h1 h4 h2 h5 (by rw [h3,h6,e])).1
theorem aF.free (h:aF sk N ino Pg fs):(frL Pg N ino).length+vh fs ino+(3+ino / 8)=N:=by
 have hnf:=h.nf;have hn4:=h.n4;have hmem:∀p,p∈qm fs ino ↔ 3+ino / 8<=p/\p<N/\de (Pg 2) p=true:=fun p=>by
  unfold qm;rw [List.mem_flatMap];constructor
  ·rintro ⟨i,-,hp⟩;obtain ⟨f,j,h1,h2,h3⟩:=gQ.1 hp;have h4:=(h.file i f h1).in_ j h2;rw [h3] at h4;exact ⟨h4.1,h4.2,(h.pbit p h4.1 h4.2).2 ⟨i,f,j,h1,h2,h3⟩⟩
  ·rintro ⟨h1,h2,h3⟩;obtain ⟨i,f,j,h4,h5,h6⟩:=(h.pbit p h1 h2).1 h3;exact ⟨i,List.mem_range.2 (h.out i f h4).2,gQ.2 ⟨f,j,h4,h5,h6⟩⟩
 have hnd:(qm fs ino ++ frL Pg N ino).Nodup:=by
  rw [List.nodup_append];refine ⟨h.nodupS,pJ _ _ _,fun p hp q hq e => ?_⟩;have h1:=(hmem p).1 hp;have h2:=(mS hn4).1 hq;rw [<- e] at h2;rw [h1.2.2] at h2;cases h2.2.2
 have hp:List.Perm (qm fs ino ++ frL Pg N ino) (List.range' (3+ino / 8) (N-(3+ino / 8))):=(List.perm_ext_iff_of_nodup hnd (List.nodup_range' (step:=1))).2 (fun p=>by
  rw [List.mem_append,hmem,List.mem_range'_1];unfold frL;rw [mS hn4];constructor
  ·rintro (h1 | h1) <;> omega
  ·intro h1;cases hb:de (Pg 2) p
   ·exact .inr ⟨by omega,by omega,rfl⟩
   ·exact .inl ⟨by omega,by omega,rfl⟩)
 have hl:=hp.length_eq;rw [List.length_append,ru,List.length_range'] at hl;omega
end
end
section
set_option maxRecDepth 100000
set_option maxHeartbeats 4000000
open Go.RowKit
theorem z7:vh (fsD 3) 16=0:=rfl
theorem xg:ubE []=141:=rfl
theorem zu:ubE [(2,[98])]=141:=rfl
theorem Ac:ubE [(2,[98]),(3,[97])]=141:=rfl
theorem zt:fsD 3 1=some (uQ 2 420):=rfl
theorem tc:iP [(2,[98]),(3,[97])]=[[97],[98]]:=by
 have e:cI [(2,[98]),(3,[97])] 2=[[98],[97]]:=rfl;unfold iP;rw [show ([(2,[98]),(3,[97])]:List (Nat×List UInt8)).length=2 from rfl,e];have h:¬([98]:List UInt8)<=[97]:=by decide
 simp [List.mergeSort,h]
theorem sw:fV [47,97,47,98]=some [[97],[98]]:=by decide +kernel
theorem yL:kM ⟨#[97]⟩=true:=by rw [bU];decide +kernel
theorem y9:kM ⟨#[98]⟩=true:=by rw [bU];decide +kernel
theorem xK:aZ [(2,[98])]:=⟨by decide,by decide⟩
theorem zH:aZ [(2,[98]),(3,[97])]:=⟨by decide,by decide⟩
theorem ny (w:World) (hV:∃m,w.cell? ⟨0,0,none⟩=some (.int .i64 m)):Calls Tryz.prog 6 #[] w fun e w'=>e = .returned (.bool true)/\Below w.heap.size w w':=by
 go_enter Tryz.func6,Tryz.ntmps6
 go_wp2_with fail
 refine (o8 w).mono ?_;rintro e w1 ⟨s,m,c,F,r,Pg,rfl,hF,hb1,hs1⟩;have hlen:(aI []:List UInt8)=[]:=rfl;have hfree:=hs1.good.free;rw [z7] at hfree;have hN98:=fun W=>cH ⟨#[98]⟩ W;rw [y9] at hN98;have hN97:=fun W=>cH ⟨#[97]⟩ W;rw [yL] at hN97;have HN97:=hid hN97;have HAd:=hid (kS (s:=s) (i:=1) [] [98] 2 ⟨by decide,by simp⟩ hs1 zt rfl (by decide) (eT hs1 zt rfl (by decide) ⟨#[98]⟩ hN98) (by decide) (by decide) (by decide) rfl (by decide) (by
  show au (max (64*0+64) 0)-0<=(frL Pg 100 16).length;have:au 64=1:=rfl;rw [show max (64*0+64) 0=64 from rfl,this];omega))
 have HFm:=hid hF;have HB1:=hid hb1;clear hlen hfree hN98 hN97 hs1 hF hb1;unfold a8 at HAd
 go_wp2_with fail
 refine HAd.out.mono ?_;clear HAd;rintro e w2 ⟨rfl,hk2,Pg2,f2,U2,hU2,h21,-,-,h24,hs2⟩;have HB2:Hid (Below w.heap.size w w2):=HB1.out.trans (hk2.below HB1.out.size HFm.out);have h24':f2.data=aI [(2,[98])]:=h24;have hl2:f2.data.length=64:=by rw [h24'];exact aN xK.2
 have hn2:=(hs2.good.node 1 f2 (aK _ _ _) (fun e=>e)).2.1;have HAd:=hid (kS (s:=s) (i:=1) [(2,[98])] [97] 3 xK hs2 (aK _ _ _) h24' (by have:=xg;have:=zu;omega) (eT hs2 (aK _ _ _) (by rw [h21];rfl) (by have:=xg;omega) ⟨#[97]⟩ HN97.out) (by decide) (by decide) (by decide) rfl (by decide) (by
  rw [hn2,hl2,show aR [(2,[98])]=1 from rfl,show max (64*1+64) 64=128 from rfl,show au 128=1 from rfl,show au 64=1 from rfl];exact Nat.zero_le _))
 have hk21:f2.kind=2:=h21;have HK21:=hid hk21;have HU2:=hid hU2;clear hk2 hU2 h21 h24 hs2 h24' hl2 hn2 hk21;unfold a8 at HAd
 go_wp2_with fail
 refine HAd.out.mono ?_;clear HAd;rintro e w3 ⟨rfl,hk3,Pg3,f3,U3,hU3,h31,-,-,h34,hs3⟩;have HB3:Hid (Below w.heap.size w w3):=HB2.out.trans (hk3.below HB2.out.size HFm.out);have h34':f3.data=aI [(2,[98]),(3,[97])]:=h34;have HLs:=hid (ou (s:=s) (i:=1) [(2,[98]),(3,[97])] zH hs3 (aK _ _ _) (by rw [h31,HK21.out]) h34' (by have:=HU2.out;have:=xg;have:=zu;have:=Ac;omega));rw [tc] at HLs;clear hk3 hU3 h31 h34 hs3 h34'
 go_wp2_with fail
 refine HLs.out.mono ?_;clear HLs;rintro e w4 ⟨⟨lv,rfl,hrd,-⟩,hk4,-⟩;have HB4:Hid (Below w.heap.size w w4):=HB3.out.trans (hk4.below HB3.out.size HFm.out);obtain ⟨mv,hm⟩:=hV;have hm4:w4.cell? ⟨0,0,none⟩=some (.int .i64 mv):=(World.cell?_of_block (w:=w) (HB4.out.block 0 (World.block_lt_of_cell? w _ hm))).trans hm;have HSp:=hid (th ⟨#[47,97,47,98]⟩ (by decide) w4 ⟨mv,hm4⟩);rw [show fV (⟨#[47,97,47,98]⟩:ByteArray).data.toList=some [[97],[98]] from sw] at HSp;have HRd:=hid hrd;obtain ⟨la,lc,rfl,-⟩:=hrd;clear hk4 hm hm4
 go_wp2_with fail
 refine HSp.out.mono ?_;clear HSp;rintro e w5 ⟨hb5,v,rfl,hr5⟩;obtain ⟨pa,pc,rfl,-⟩:=hr5;have HB5:=hid (HB4.out.trans (hb5.mono HB4.out.size));have HR5:=hid (HRd.out.up hb5);clear hb5 HRd
 go_wp2_with fail
 have hb6:=(Below.refl w5.heap.size w5).alloc (Nat.le_refl _) (.cells #[.string ⟨#[97]⟩,.string ⟨#[98]⟩] 9);have hx6:=af w5 (.cells #[.string ⟨#[97]⟩,.string ⟨#[98]⟩] 9);have hrd6:RdT (w5.alloc (.cells #[.string ⟨#[97]⟩,.string ⟨#[98]⟩] 9)) (.slice (some ⟨w5.heap.size,0,none⟩) 2 2) ([[97],[98]].map fun l=>⟨l.toArray⟩):=by
  refine ⟨_,_,rfl,by simp,by simp,fun k hk=>⟨_,_,rfl,ae hx6,?_⟩⟩
  match k,hk with
  | 0,_=>exact aa hx6 0
  | 1,_=>exact aa hx6 1
 refine (lY _ _ _ _ (HR5.out.up hb6) hrd6).mono ?_;rintro e w7 ⟨rfl,hb7⟩;have HB7:=hid (HB5.out.trans ((hb6.trans (hb7.mono hb6.size)).mono HB5.out.size));clear hb6 hx6 hrd6 hb7 HR5;go_wp2;go_ret;exact ⟨rfl,HB7.out⟩
end
section
open Go.RowKit
theorem xL {fs:Nat->Option ao} {f1 f3:ao} (h1:fs 1=some f1) (h3:fs 3=some f3) (ho:∀j,j≠1->j≠3->fs j=fsD 3 j):vh fs 16=f1.cnt+f3.cnt:=by
 have e:∀j,j≠1->j≠3->j<16->xM (fs j)=0:=fun j a b hj=>by
  rw [ho j a b];have:∀j,j<16->j≠1->j≠3->xM (fsD 3 j)=0:=by decide
  exact this j hj a b
 unfold vh;rw [show List.range 16=[0,1,2,3,4,5,6,7,8,9,10,11,12,13,14,15] from rfl];simp only [List.map_cons,List.map_nil,List.sum_cons,List.sum_nil];rw [e 0 (by omega) (by omega) (by omega),e 2 (by omega) (by omega) (by omega),e 4 (by omega) (by omega) (by omega),e 5 (by omega) (by omega) (by omega),e 6 (by omega) (by omega) (by omega),e 7 (by omega) (by omega) (by omega),e 8 (by omega) (by omega) (by omega),e 9 (by omega) (by omega) (by omega),e 10 (by omega) (by omega) (by omega),e 11 (by omega) (by omega) (by omega),e 12 (by omega) (by omega) (by omega),e 13 (by omega) (by omega) (by omega),e 14 (by omega) (by omega) (by omega),e 15 (by omega) (by omega) (by omega),h1,h3];show 0+(f1.cnt+(0+(f3.cnt+_)))=_;omega
theorem jy {k:Nat} (h:k<=64):au (64*k)<=8:=by
 unfold au fillN;rw [if_neg (by omega),if_neg (by omega)];omega
theorem d8 {es:List (Nat×List UInt8)} (h:es.length<=60):400+2*ubE es<=3000:=by unfold ubE;omega
def gS (es:List (Nat×List UInt8)) (nm:List UInt8) (j:Nat):Int×List (Nat×List UInt8):=if nameL nm=false then (8,es) else if (lookE es nm).isSome then (5,es) else (0,cq es j nm)
theorem y6 {w w':World} {s m c ino:Nat} {F:Nat->Prop} {N:Nat} {Pg Cm:Nat->List UInt8} {fs:Nat->Option ao} {o u i:Nat} {f:ao} {es:List (Nat×List UInt8)} {nm:List UInt8} {j:Nat} {e:Ending} (h:zA w s m c F N ino Pg Cm fs o u i f es nm j e w') (hf:fs i=some f) (hd:f.data=aI es) :
  ac F w w'/\e = .returned (.int .i64 (gS es nm j).1)/\∃Pg' f',f'.kind=f.kind/\f'.data=aI (gS es nm j).2/\St w' s m c F N ino Pg' Cm (bj fs i (some f')) o (u+(400+2*ubE es)):=by
 have hup:bj fs i (some f)=fs:=by
  funext k
  unfold bj;by_cases e:k=i
  ·rw [if_pos e,e,hf]
  ·rw [if_neg e]
 obtain ⟨hk,h | h | h⟩:=h
 ·obtain ⟨h1,rfl,h3⟩:=h;refine ⟨hk,by unfold gS;rw [if_pos h1],Pg,f,rfl,by unfold gS;rw [if_pos h1];exact hd,by rw [hup];exact h3⟩
 ·obtain ⟨h1,⟨k,h2⟩,rfl,h3⟩:=h;have e:gS es nm j=(5,es):=by unfold gS;rw [if_neg (by rw [h1];decide),if_pos (by rw [h2];rfl)]
  rw [e];exact ⟨hk,rfl,Pg,f,rfl,hd,by rw [hup];exact h3⟩
 ·obtain ⟨h1,h2,rfl,Pg',f',h4,h5,h3⟩:=h;have e:gS es nm j=(0,cq es j nm):=by unfold gS;rw [if_neg (by rw [h1];decide),if_neg (by rw [h2];decide)]
  rw [e];exact ⟨hk,rfl,Pg',f',h4,h5,h3⟩
theorem zj {es:List (Nat×List UInt8)} {nm:List UInt8} {j:Nat} (h:aZ es) (hj:j<512) (hl:es.length<=60):aZ (gS es nm j).2/\(gS es nm j).2.length<=es.length+1:=by
 unfold gS;by_cases h1:nameL nm=false
 ·rw [if_pos h1];exact ⟨h,Nat.le_succ _⟩
 ·rw [if_neg h1];have hn:nameL nm=true:=by cases hh:nameL nm;exact absurd hh h1;rfl
  by_cases h2:(lookE es nm).isSome
  ·rw [if_pos h2];exact ⟨h,Nat.le_succ _⟩
  ·rw [if_neg h2];have:=qq es j nm;exact ⟨⟨by show (cq es j nm).length<=1112;omega,yZ h.2 hj (je hn).2⟩,this⟩
theorem uH {fs:Nat->Option ao} {f1 f3 f:ao} {Pg:Nat->List UInt8} {e1 e3 es:List (Nat×List UInt8)} (hg:aF gq 100 16 Pg fs) (h1:fs 1=some f1) (h3:fs 3=some f3) (ho:∀j,j≠1->j≠3->fs j=fsD 3 j) (hd1:f1.data=aI e1) (hd3:f3.data=aI e3) (k1:aZ e1) (k3:aZ e3) (l1:e1.length<=60) (l3:e3.length<=60) (hes:aZ es) (hl:es.length<=60) (hd:f.data=aI es) :
  au (max (64*aR es+64) f.data.length)-f.cnt<=(ax (Pg 2) (3+16 / 8) 100 4096).length:=by
 have hs:=xL h1 h3 ho;have hf:=hg.free;rw [hs] at hf;have c1:=(hg.node 1 f1 h1 (fun e=>e)).2.1;have c3:=(hg.node 3 f3 h3 (fun e=>e)).2.1;rw [hd1,aN k1.2] at c1;rw [hd3,aN k3.2] at c3;have n1:=jy (k:=e1.length) (by omega);have n3:=jy (k:=e3.length) (by omega);have hq:=d9 es;have e:max (64*aR es+64) f.data.length=64*max (aR es+1) es.length:=by rw [hd,aN hes.2];omega
 have n:=jy (k:=max (aR es+1) es.length) (by omega);rw [e];unfold frL at hf;omega
end
section
open Go.RowKit
def gF (es:List (Nat×List UInt8)) (nm:List UInt8) (j:Int):List (Nat×List UInt8):=if 1<=j/\j<512 then (gS es nm j.toNat).2 else es
def im (es:List (Nat×List UInt8)) (nm:List UInt8):List (Nat×List UInt8):=if nameL nm=true then (match lookE es nm with | some k=>ii es k | none=>es) else es
def kt (es:List (Nat×List UInt8)) (nm:List UInt8):Int×Int:=if nameL nm=true then (vX es nm,uR es nm) else (0,8)
section
variable {w w' W:World} {s m c ino:Nat} {F:Nat->Prop} {N:Nat} {Pg Cm:Nat->List UInt8} {fs:Nat->Option ao} {o u:Nat} {i:Nat} {f:ao} {es:List (Nat×List UInt8)}
theorem gE {F:Nat->Prop}:∀V V':World,(ac F w V/\St V s m c F N ino Pg Cm fs o u)->Below V.heap.size V V'->(ac F w V'/\St V' s m c F N ino Pg Cm fs o u):=fun _ _ hq hb=>⟨hq.1.andBelow hb,hq.2.below hb⟩
theorem xr {nm:List UInt8} {k:Nat} (h:lookE es nm=some k):k<es.length:=by
 unfold lookE at h;exact (List.findIdx?_eq_some_iff_getElem.1 h).1
theorem xu (h:St W s m c F N ino Pg Cm fs o u) (hf:fs i=some f) (hk:f.kind=2) (hes:aZ es) (hd:f.data=aI es) (hu:u+(400+2*ubE es)<=700000) (hl:es.length<1104)
  (hfr:au (max (64*aR es+64) f.data.length)-f.cnt<=(ax (Pg 2) (3+ino / 8) N 4096).length) (nm:ByteArray) (j:Int) :
  Calls Tryz.prog 9 #[.pointer (some ⟨s,0,none⟩),.int .i64 i,.string nm,.int .i64 j] W fun e W'=>∃x:Int,e = .returned (.int .i64 x)/\(1<=j->j<512->x=(gS es nm.data.toList j.toNat).1)/\ac F W W' /\
   ∃Pg' f',f'.kind=f.kind/\f'.data=aI (gF es nm.data.toList j)/\St W' s m c F N ino Pg' Cm (bj fs i (some f')) o (u+(400+2*ubE es)):=by
 by_cases hj:1<=j/\j<512
 ·obtain ⟨k,rfl⟩:∃k:Nat,j=(k:Int):=⟨j.toNat,by omega⟩;refine (ye es nm k hes h hf hk hd (by omega) (by omega) (by omega) hl hfr).mono ?_;intro e W' hA;obtain ⟨h1,h2,Pg',f',h3,h4,h5⟩:=y6 hA hf hd;have ek:((k:Int)).toNat=k:=by omega
  refine ⟨_,h2,fun _ _=>by rw [ek],h1,Pg',f',h3,?_,h5⟩;unfold gF;rw [if_pos hj,ek];exact h4
 ·have hN:=fun W=>cH nm W;have e7:gF es nm.data.toList j=es:=by unfold gF;rw [if_neg hj]
  rw [e7];have hend:∀(x:Int) (e:Ending) (W':World),e = .returned (.int .i64 x)/\(ac F W W'/\St W' s m c F N ino Pg Cm fs o (u+2))->∃x:Int,e = .returned (.int .i64 x)/\(1<=j->j<512->x=(gS es nm.data.toList j.toNat).1)/\ac F W W' /\
   ∃Pg' f',f'.kind=f.kind/\f'.data=aI es/\St W' s m c F N ino Pg' Cm (bj fs i (some f')) o (u+(400+2*ubE es)):=fun x e W' ⟨h1,h2,h3⟩ =>
   ⟨x,h1,fun a b=>absurd ⟨a,b⟩ hj,h2,Pg,f,rfl,hd,by rw [fF hf];exact h3.more (by omega)⟩
  cases hok:nameL nm.data.toList with
  | false =>
   rw [bU,hok] at hN;exact (oR i nm j (r:=8) (by decide) (jb h hf hk (by omega) nm hN) gE).mono (hend 8)
  | true =>
   rw [bU,hok] at hN;have hA:=eT h hf hk (by omega) nm hN;unfold cY at hA;exact (sZ i _ nm j (by omega) hA gE).mono (hend 2)
theorem uo (h:St W s m c F N ino Pg Cm fs o u) (hf:fs i=some f) (hk:f.kind=2) (hes:aZ es) (hd:f.data=aI es) (hu:u+(400+2*ubE es)<=700000) (hl:es.length<1104) (nm:ByteArray) :
  Calls Tryz.prog 10 #[.pointer (some ⟨s,0,none⟩),.int .i64 i,.string nm] W fun e W'=>∃x y:Int,e = .returned (.tuple #[.int .i64 x,.int .i64 y])/\(∀k,nameL nm.data.toList=true->lookE es nm.data.toList=some k->x=(es.getD k (0,[])).1/\y=0)/\ac F W W' /\
   ∃Pg' f',f'.kind=f.kind/\f'.data=aI (im es nm.data.toList)/\St W' s m c F N ino Pg' Cm (bj fs i (some f')) o (u+(400+2*ubE es)):=by
 have hN:=fun W=>cH nm W;have hnm:a8 nm.data.toList = .string nm:=by unfold a8;simp
 cases hok:nameL nm.data.toList with
 | false =>
  rw [bU,hok] at hN;refine (oN i nm (r:=8) (by decide) (jb h hf hk (by omega) nm hN) gE).mono ?_;rintro e W' ⟨h1,h2,h3⟩;refine ⟨0,8,h1,fun _ a _=>absurd a (by decide),h2,Pg,f,rfl,?_,by rw [fF hf];exact h3.more (by omega)⟩;unfold im;rw [hok,if_neg (by decide)];exact hd
 | true =>
  rw [bU,hok] at hN;have hA:=eT h hf hk (by omega) nm hN;rw [<- hnm] at hA ⊢;cases hlk:lookE es nm.data.toList with
  | some k =>
   refine (rX es nm.data.toList hes hl h hf hd hu hA hlk (xr hlk)).mono ?_;rintro e W' ⟨h1,h2,Pg',f',h3,h4,h5⟩;refine ⟨_,_,h1,fun k' _ hk'=>by cases hk';exact ⟨rfl,rfl⟩,h2,Pg',f',h3,?_,h5⟩;unfold im;rw [if_pos hok,hlk];exact h4
  | none =>
   refine (sR es nm.data.toList hes h hf hd hu hA hlk).mono ?_;rintro e W' ⟨h1,h2,h3⟩;refine ⟨_,_,h1,fun k' _ hk'=>(by cases hk'),h2,Pg,f,rfl,?_,by rw [fF hf];exact h3⟩;unfold im;rw [if_pos hok,hlk];exact hd
theorem uh (h:St W s m c F N ino Pg Cm fs o u) (hf:fs i=some f) (hk:f.kind=2) (hes:aZ es) (hd:f.data=aI es) (hu:u+(400+2*ubE es)<=700000) (nm:ByteArray) :
  Calls Tryz.prog 8 #[.pointer (some ⟨s,0,none⟩),.int .i64 i,.string nm] W fun e W'=>e = .returned (.tuple #[.int .i64 (kt es nm.data.toList).1,.int .i64 (kt es nm.data.toList).2])/\ac F W W'/\St W' s m c F N ino Pg Cm fs o (u+(400+2*ubE es)):=by
 have hN:=fun W=>cH nm W;have hnm:a8 nm.data.toList = .string nm:=by unfold a8;simp
 cases hok:nameL nm.data.toList with
 | false =>
  rw [bU,hok] at hN;refine (oI i nm (r:=8) (by decide) (jb h hf hk (by omega) nm hN) gE).mono ?_;rintro e W' ⟨h1,h2,h3⟩;unfold kt;rw [hok,if_neg (by decide)];exact ⟨h1,h2,h3.more (by omega)⟩
 | true =>
  rw [bU,hok] at hN;have hA:=eT h hf hk (by omega) nm hN;rw [<- hnm] at hA ⊢;unfold kt;rw [if_pos hok];exact qG es nm.data.toList hes h hf hd hu hA
theorem iR (h:St W s m c F 100 16 Pg Cm fs o u) (ho:∀j,j≠1->j≠3->fs j=fsD 3 j) (hu:u<=700000) (n:Int) (h1:n≠1) (h3:n≠3) :
  ∃r:Int,r≠0/\∀nm:ByteArray,Calls Tryz.prog 30 #[.pointer (some ⟨s,0,none⟩),.int .i64 n,.string nm] W fun e W'=>e = .returned (.tuple #[io,.int .i64 r])/\(ac F W W'/\St W' s m c F 100 16 Pg Cm fs o (u+2)):=by
 by_cases h2:n=2
 ·subst h2;have e2:∃f,fsD 3 2=some f/\f.kind≠2:=⟨_,rfl,by decide⟩;obtain ⟨f,hf,hk⟩:=e2;rw [<- ho 2 (by decide) (by decide)] at hf;exact ⟨10,by decide,fun nm=>nw 2 nm (by decide) h.lt (fun W' hb=>o7 (i:=2) (h.below hb) hf hk (by omega))⟩
 ·have hg:gErr 16 fs n≠0:=by
   unfold gErr
   split
   ·rename_i hr;rw [ho _ (by omega) (by omega)];have:∀k,k<16->k≠1->k≠2->k≠3->fsD 3 k=none:=by
     intro k a b c d;have:∀k,k<16->k≠1->k≠2->k≠3->(fsD 3 k).isNone=true:=by decide
     exact Option.isNone_iff_eq_none.1 (this k a b c d)
    rw [this _ (by omega) (by omega) (by omega) (by omega)]
    decide
   ·decide
  exact ⟨_,hg,fun nm=>nw n nm hg h.lt (fun W' hb=>q7 (h.below hb) n hg (by omega))⟩
end
end
section
open Go.RowKit
structure bK (w W:World) (s m c r mr:Nat) (F:Nat->Prop) (e1 e3:List (Nat×List UInt8)) (o u:Nat):Prop where
 low:Below w.heap.size w W
 new:∀i,F i->w.heap.size<=i
 st:∃Pg Cm fs f1 f3,St W s m c F 100 16 Pg Cm fs o u/\fs 1=some f1/\f1.kind=2/\f1.data=aI e1/\fs 3=some f3/\f3.kind=2/\f3.data=aI e3/\∀j,j≠1->j≠3->fs j=fsD 3 j
 ok1:aZ e1
 ok3:aZ e3
 ref:a7 W F r mr
 rge:w.heap.size<=r
 mge:w.heap.size<=mr
def aG (w W:World) (s m c r mr:Nat) (F:Nat->Prop) (e1 e3:List (Nat×List UInt8)) (o u:Nat) (W':World):Prop:=∃F' mr',bK w W' s m c r mr' F' e1 e3 o u/\ac (fun i=>F i\/i=r\/i=mr) W W'/\(∀i,F' i->F i\/W.heap.size<=i)/\(mr'=mr\/W.heap.size<=mr')
section
variable {w W W':World} {s m c r mr:Nat} {F:Nat->Prop} {e1 e3:List (Nat×List UInt8)} {o u:Nat}
theorem bK.lt (h:bK w W s m c r mr F e1 e3 o u):∀i,F i->i<W.heap.size:=by
 obtain ⟨Pg,Cm,fs,f1,f3,h0,-⟩:=h.st;exact h0.lt
theorem bK.to (h:bK w W s m c r mr F e1 e3 o u) {a1 a3:List (Nat×List UInt8)} {u':Nat} (hk:ac F W W') (k1:aZ a1) (k3:aZ a3)
  (hst:∃Pg Cm fs f1 f3,St W' s m c F 100 16 Pg Cm fs o u'/\fs 1=some f1/\f1.kind=2/\f1.data=aI a1/\fs 3=some f3/\f3.kind=2/\f3.data=aI a3/\∀j,j≠1->j≠3->fs j=fsD 3 j):aG w W s m c r mr F a1 a3 o u' W' :=
 ⟨F,mr,⟨h.low.trans (hk.below h.low.size h.new),h.new,hst,k1,k3,h.ref.keep hk (fun _ e=>e) (fun _ e => .inl e),h.rge,h.mge⟩,hk.mono (fun _ e => .inl e),fun _ e => .inl e,.inl rfl⟩
theorem bK.more (h:bK w W s m c r mr F e1 e3 o u) {u':Nat} (hu:u<=u'):bK w W s m c r mr F e1 e3 o u':=by
 obtain ⟨Pg,Cm,fs,f1,f3,h0,h1⟩:=h.st;exact ⟨h.low,h.new,⟨Pg,Cm,fs,f1,f3,h0.more hu,h1⟩,h.ok1,h.ok3,h.ref,h.rge,h.mge⟩
theorem bK.up (h:bK w W s m c r mr F e1 e3 o u) (hb:Below W.heap.size W W'):bK w W' s m c r mr F e1 e3 o u:=by
 obtain ⟨Pg,Cm,fs,f1,f3,h0,h1⟩:=h.st;exact ⟨h.low.trans (hb.mono h.low.size),h.new,⟨Pg,Cm,fs,f1,f3,h0.below hb,h1⟩,h.ok1,h.ok3,h.ref.below hb,h.rge,h.mge⟩
theorem aG.refl (h:bK w W s m c r mr F e1 e3 o u) (hb:Below W.heap.size W W'):aG w W s m c r mr F e1 e3 o u W':=⟨F,mr,h.up hb,ac.of_below hb,fun _ e => .inl e,.inl rfl⟩
theorem iV {es:List (Nat×List UInt8)} {nm:List UInt8} {j:Int} (h:aZ es) (hl:es.length<=60):aZ (gF es nm j)/\(gF es nm j).length<=es.length+1:=by
 unfold gF
 split
 ·rename_i hj;exact zj h (by omega) hl
 ·exact ⟨h,Nat.le_succ _⟩
theorem mi {es:List (Nat×List UInt8)} {nm:List UInt8} (h:aZ es):aZ (im es nm)/\(im es nm).length<=es.length:=by
 unfold im
 split
 ·split
  ·exact uc h _
  ·exact ⟨h,Nat.le_refl _⟩
 ·exact ⟨h,Nat.le_refl _⟩
theorem bK.add (h:bK w W s m c r mr F e1 e3 o u) (n:Int) (nm:ByteArray) (j:Int) (l1:e1.length<=60) (l3:e3.length<=60) (hu:u<=600000) :
  Calls Tryz.prog 9 #[.pointer (some ⟨s,0,none⟩),.int .i64 n,.string nm,.int .i64 j] W fun e W'=>∃x:Int,e = .returned (.int .i64 x)/\(n=1->1<=j->j<512->x=(gS e1 nm.data.toList j.toNat).1) /\
   aG w W s m c r mr F (if n=1 then gF e1 nm.data.toList j else e1) (if n=3 then gF e3 nm.data.toList j else e3) o (u+3000) W':=by
 obtain ⟨Pg,Cm,fs,f1,f3,h0,g1,k1,d1,g3,k3,d3,ho⟩:=h.st;have hb1:=d8 l1;have hb3:=d8 l3;by_cases h1:n=1
 ·subst h1;rw [if_pos rfl,if_neg (by decide)];refine (xu h0 g1 k1 h.ok1 d1 (by omega) (by omega) (uH h0.good g1 g3 ho d1 d3 h.ok1 h.ok3 l1 l3 h.ok1 l1 d1) nm j).mono ?_;rintro e W' ⟨x,he,hx,hk,Pg',f',q1,q2,q3⟩;refine ⟨x,he,fun _=>hx,h.to hk (iV h.ok1 l1).1 h.ok3 ⟨Pg',Cm,_,f',f3,q3.more (by omega),aK _ _ _,by rw [q1,k1],q2,?_,k3,d3,fun j a b => ?_⟩⟩
  ·unfold bj;rw [if_neg (by decide)];exact g3
  ·unfold bj;rw [if_neg a];exact ho j a b
 ·by_cases h3:n=3
  ·subst h3;rw [if_neg (by decide),if_pos rfl];refine (xu h0 g3 k3 h.ok3 d3 (by omega) (by omega) (uH h0.good g1 g3 ho d1 d3 h.ok1 h.ok3 l1 l3 h.ok3 l3 d3) nm j).mono ?_;rintro e W' ⟨x,he,-,hk,Pg',f',q1,q2,q3⟩;refine ⟨x,he,fun e=>absurd e (by decide),h.to hk h.ok1 (iV h.ok3 l3).1 ⟨Pg',Cm,_,f1,f',q3.more (by omega),?_,k1,d1,aK _ _ _,by rw [q1,k3],q2,fun j a b => ?_⟩⟩
   ·unfold bj;rw [if_neg (by decide)];exact g1
   ·unfold bj;rw [if_neg b];exact ho j a b
  ·rw [if_neg h1,if_neg h3];obtain ⟨x,hx,hA⟩:=iR h0 ho (by omega) n h1 h3;refine (oR n nm j hx (hA nm) gE).mono ?_;rintro e W' ⟨he,hk,q3⟩;exact ⟨x,he,fun e=>absurd e h1,h.to hk h.ok1 h.ok3 ⟨Pg,Cm,fs,f1,f3,q3.more (by omega),g1,k1,d1,g3,k3,d3,ho⟩⟩
theorem bK.drop (h:bK w W s m c r mr F e1 e3 o u) (n:Int) (nm:ByteArray) (l1:e1.length<=60) (l3:e3.length<=60) (hu:u<=600000) :
  Calls Tryz.prog 10 #[.pointer (some ⟨s,0,none⟩),.int .i64 n,.string nm] W fun e W'=>∃x y:Int,e = .returned (.tuple #[.int .i64 x,.int .i64 y])/\(n=1->∀k,nameL nm.data.toList=true->lookE e1 nm.data.toList=some k->x=(e1.getD k (0,[])).1/\y=0) /\
   aG w W s m c r mr F (if n=1 then im e1 nm.data.toList else e1) (if n=3 then im e3 nm.data.toList else e3) o (u+3000) W':=by
 obtain ⟨Pg,Cm,fs,f1,f3,h0,g1,k1,d1,g3,k3,d3,ho⟩:=h.st;have hb1:=d8 l1;have hb3:=d8 l3;by_cases h1:n=1
 ·subst h1;rw [if_pos rfl,if_neg (by decide)];refine (uo h0 g1 k1 h.ok1 d1 (by omega) (by omega) nm).mono ?_;rintro e W' ⟨x,y,he,hx,hk,Pg',f',q1,q2,q3⟩;refine ⟨x,y,he,fun _=>hx,h.to hk (mi h.ok1).1 h.ok3 ⟨Pg',Cm,_,f',f3,q3.more (by omega),aK _ _ _,by rw [q1,k1],q2,?_,k3,d3,fun j a b => ?_⟩⟩
  ·unfold bj;rw [if_neg (by decide)];exact g3
  ·unfold bj;rw [if_neg a];exact ho j a b
 ·by_cases h3:n=3
  ·subst h3;rw [if_neg (by decide),if_pos rfl];refine (uo h0 g3 k3 h.ok3 d3 (by omega) (by omega) nm).mono ?_;rintro e W' ⟨x,y,he,-,hk,Pg',f',q1,q2,q3⟩;refine ⟨x,y,he,fun e=>absurd e (by decide),h.to hk h.ok1 (mi h.ok3).1 ⟨Pg',Cm,_,f1,f',q3.more (by omega),?_,k1,d1,aK _ _ _,by rw [q1,k3],q2,fun j a b => ?_⟩⟩
   ·unfold bj;rw [if_neg (by decide)];exact g1
   ·unfold bj;rw [if_neg b];exact ho j a b
  ·rw [if_neg h1,if_neg h3];obtain ⟨x,hx,hA⟩:=iR h0 ho (by omega) n h1 h3;refine (oN n nm hx (hA nm) gE).mono ?_;rintro e W' ⟨he,hk,q3⟩;exact ⟨0,x,he,fun e=>absurd e h1,h.to hk h.ok1 h.ok3 ⟨Pg,Cm,fs,f1,f3,q3.more (by omega),g1,k1,d1,g3,k3,d3,ho⟩⟩
theorem bK.find (h:bK w W s m c r mr F e1 e3 o u) (n:Int) (nm:ByteArray) (l1:e1.length<=60) (l3:e3.length<=60) (hu:u<=600000) :
  Calls Tryz.prog 8 #[.pointer (some ⟨s,0,none⟩),.int .i64 n,.string nm] W fun e W'=>∃x y:Int,e = .returned (.tuple #[.int .i64 x,.int .i64 y])/\(n=1->(x,y)=kt e1 nm.data.toList)/\aG w W s m c r mr F e1 e3 o (u+3000) W':=by
 obtain ⟨Pg,Cm,fs,f1,f3,h0,g1,k1,d1,g3,k3,d3,ho⟩:=h.st;have hb1:=d8 l1;have hb3:=d8 l3;by_cases h1:n=1
 ·subst h1;refine (uh h0 g1 k1 h.ok1 d1 (by omega) nm).mono ?_;rintro e W' ⟨he,hk,q3⟩;exact ⟨_,_,he,fun _=>rfl,h.to hk h.ok1 h.ok3 ⟨Pg,Cm,fs,f1,f3,q3.more (by omega),g1,k1,d1,g3,k3,d3,ho⟩⟩
 ·by_cases h3:n=3
  ·subst h3;refine (uh h0 g3 k3 h.ok3 d3 (by omega) nm).mono ?_;rintro e W' ⟨he,hk,q3⟩;exact ⟨_,_,he,fun e=>absurd e (by decide),h.to hk h.ok1 h.ok3 ⟨Pg,Cm,fs,f1,f3,q3.more (by omega),g1,k1,d1,g3,k3,d3,ho⟩⟩
  ·obtain ⟨x,hx,hA⟩:=iR h0 ho (by omega) n h1 h3;refine (oI n nm hx (hA nm) gE).mono ?_;rintro e W' ⟨he,hk,q3⟩;exact ⟨0,x,he,fun e=>absurd e h1,h.to hk h.ok1 h.ok3 ⟨Pg,Cm,fs,f1,f3,q3.more (by omega),g1,k1,d1,g3,k3,d3,ho⟩⟩
theorem bK.refs (h:bK w W s m c r mr F e1 e3 o u) (hR:dx W F r mr W'):aG w W s m c r mr F e1 e3 o u W':=by
 obtain ⟨hk,m',hm,hr⟩:=hR;obtain ⟨Pg,Cm,fs,f1,f3,h0,h1⟩:=h.st;exact ⟨F,m',⟨h.low.trans (hk.below h.low.size (fun i e=>by have:=h.rge;have:=h.mge;rcases e with e | e <;> omega)),h.new,⟨Pg,Cm,fs,f1,f3,h0.ref h.ref hk,h1⟩,h.ok1,h.ok3,hr,h.rge,hm.elim (fun e=>by rw [e];exact h.mge) (fun e=>Nat.le_trans h.low.size e)⟩,hk.mono (fun i e => .inr e),fun _ e => .inl e,hm⟩
theorem bK.rcommit (h:bK w W s m c r mr F e1 e3 o u):Calls Tryz.prog 26 #[.pointer (some ⟨r,0,none⟩)] W fun e W'=>e = .returned (.tuple #[])/\aG w W s m c r mr F e1 e3 o u W':=by
 refine (mu h.ref h.lt).mono ?_;rintro e W' ⟨he,hk,hr⟩;exact ⟨he,h.refs ⟨hk.mono (fun _ e => .inl e),mr,.inl rfl,hr⟩⟩
theorem bK.map (h:bK w W s m c r mr F e1 e3 o u):Calls Tryz.prog 13 #[.pointer (some ⟨s,0,none⟩)] W fun e w'=>e = .returned (.pointer (some ⟨m,0,none⟩))/\w'=W:=by
 obtain ⟨Pg,Cm,fs,f1,f3,h0,-⟩:=h.st;exact wC h0.store
theorem bK.cache (h:bK w W s m c r mr F e1 e3 o u):Calls Tryz.prog 14 #[.pointer (some ⟨m,0,none⟩)] W fun e w'=>e = .returned (.pointer (some ⟨c,0,none⟩))/\w'=W:=by
 obtain ⟨Pg,Cm,fs,f1,f3,h0,-⟩:=h.st;exact cN h0.map
theorem bK.commit (h:bK w W s m c r mr F e1 e3 o u) (ho:o<=800000):Calls Tryz.prog 15 #[.pointer (some ⟨c,0,none⟩)] W fun e W'=>e = .returned (.int .i64 0)/\aG w W s m c r mr F e1 e3 (o+206) u W':=by
 obtain ⟨Pg,Cm,fs,f1,f3,h0,h1⟩:=h.st;obtain ⟨D,hp⟩:=h0.pc;refine (hp.commit ho).mono ?_;rintro e W' ⟨he,hk,F',hF,hF',hp'⟩;have hmF:¬F' m:=fun hh=>(hF' m hh).elim h0.mF (fun e=>by have:=ae h0.map;omega);have hsF:¬F' s:=fun hh=>(hF' s hh).elim h0.sF (fun e=>by have:=ae h0.store;omega);exact ⟨he,F',mr,⟨h.low.trans (hk.below h.low.size h.new),fun i hi=>(hF' i hi).elim (h.new i) (fun e=>Nat.le_trans h.low.size e),⟨Pg,Pg,fs,f1,f3,⟨h0.map.keep hk h0.mF,h0.store.keep hk h0.sF,hmF,hsF,h0.few,⟨_,hp'⟩,h0.good⟩,h1⟩,h.ok1,h.ok3,h.ref.keep hk (fun _ e=>e) (fun j e=>hF' j e),h.rge,h.mge⟩,hk.mono (fun _ e => .inl e),hF',.inl rfl⟩
end
end
section
open Go.RowKit
section
variable {w w':World} {F:Nat->Prop} {r m:Nat}
theorem iz.six {Z:Nat->Prop} {lb:Nat} {fl:List RF} (h:iz w Z lb fl) (j:Nat) (hj:j<16):∃k0 m0 l0 b0 ba bc d0 da dc ind,w.cell? ⟨lb,j*6,none⟩=some (.int .i64 k0)/\w.cell? ⟨lb,j*6+1,none⟩=some (.int .i64 m0)/\w.cell? ⟨lb,j*6+2,none⟩=some (.int .i64 l0) /\
  w.cell? ⟨lb,j*6+3,none⟩=some (.slice ba (List.length b0) bc)/\w.cell? ⟨lb,j*6+4,none⟩=some (.slice da (List.length d0) dc)/\w.cell? ⟨lb,j*6+5,none⟩=some (.int .i64 ind)/\RF.ok w Z ⟨k0,m0,l0,b0,ba,bc,d0,da,dc,ind⟩:=by
 have hj':j<fl.length:=by rw [h.len];exact hj
 have hrow:=h.row j hj';have hok:=h.ok j hj';generalize fl[j]=f0 at hrow hok;obtain ⟨k0,m0,l0,b0,ba,bc,d0,da,dc,ind⟩:=f0;exact ⟨k0,m0,l0,b0,ba,bc,d0,da,dc,ind,hrow 0 _ rfl,hrow 1 _ rfl,hrow 2 _ rfl,hrow 3 _ rfl,hrow 4 _ rfl,hrow 5 _ rfl,hok⟩
end
end
section
set_option maxRecDepth 100000
set_option maxHeartbeats 2000000
open Go.RowKit
theorem et {w:World} {tmps:Array Value} {b:Nat} {cs:List Value} {t:Value} (h1:tmps.getD 4 undef = .pointer (some ⟨b,0,none⟩)) (h2:tmps.getD 5 undef=t) (r:w.heap[b]? = some (.cells cs.toArray 142 (0,0))) (hl:cs.length=15) :
  (results Tryz.f84 tmps).run Tryz.prog w = .ok (.tuple #[.agg cs.toArray,t]) w:=by
 have h1':tmps[4]?.getD undef = .pointer (some ⟨b,0,none⟩):=by simpa using h1
 have h2':tmps[5]?.getD undef=t:=by simpa using h2
 have hr:=run_loadVar_mid (P:=Tryz.prog) w b 0 142 cs _ (by have:=aL r;exact this) Tryz.underlying142 rfl (by rw [hl];kernel_rfl);simp only [results,Tryz.results84];simp [h1',h2',asAddr,hr]
def fL:List Value:=[.int .i64 0,.int .i64 0,.int .i64 0,.int .i64 0,.int .i64 0,.int .i64 0,.int .i64 0,.int .i64 0,.int .i64 0,.int .i64 0,.int .i64 0,.int .i64 0,.int .i64 0,.int .i64 0,.int .i64 0]
def zY (w:World) (i:Int) (e:Ending) (w':World):Prop:=Below w.heap.size w w'/\∃(cs:List Value) (z c:Int),cs.length=15/\cs[3]? = some (.int .i64 z)/\(∀v∈cs,∃n,v = .int .i64 n)/\0<=z/\z<=70656/\e = .returned (.tuple #[.agg cs.toArray,.int .i64 c])/\(c=0->1<=i/\i<16)
theorem ml {w w':World} {i:Int} {cs:List Value} {z c:Int} (hb:Below w.heap.size w w') (h1:cs.length=15) (h2:cs[3]? = some (.int .i64 z)) (h3:∀v∈cs,∃n,v = .int .i64 n) (h4:0<=z) (h5:z<=70656) (h6:c=0->1<=i/\i<16):zY w i (.returned (.tuple #[.agg cs.toArray,.int .i64 c])) w':=⟨hb,cs,z,c,h1,h2,h3,h4,h5,rfl,h6⟩
theorem nl:∀v∈fL,∃n,v = .int .i64 n:=fun v hv=>by
 simp only [fL,List.mem_cons,List.mem_nil_iff,or_false] at hv;rcases hv with rfl | rfl | rfl | rfl | rfl | rfl | rfl | rfl | rfl | rfl | rfl | rfl | rfl | rfl | rfl <;> exact ⟨0,rfl⟩
theorem mG:fL.toArray.all (·.oneCell')=true:=by kernel_rfl
section
variable {w w':World} {F:Nat->Prop} {r m:Nat}
theorem yK (h:a7 w F r m) (i:Int):Calls Tryz.prog 84 #[.pointer (some ⟨r,0,none⟩),.int .i64 i] w fun e w'=>zY w i e w':=by
 obtain ⟨wb,hwb⟩:∃wb,wb=w.alloc (.cells #[.int .i64 0,.int .i64 0,.int .i64 0,.int .i64 0,.int .i64 0,.int .i64 0,.int .i64 0,.int .i64 0,.int .i64 0,.int .i64 0,.int .i64 0,.int .i64 0,.int .i64 0,.int .i64 0,.int .i64 0] 142):=⟨_,rfl⟩;have hB:Below w.heap.size w wb:=by rw [hwb];exact (Below.refl _ w).alloc (Nat.le_refl _) _
 have hr0:wb.heap[w.heap.size]? = some (.cells fL.toArray 142 (0,0)):=by rw [hwb];exact af w _
 have hrb:=h.below hB;obtain ⟨lb,lc,km,kb,kc,fl,kl,h1,h2,-⟩:=hrb.heap;have c1:wb.cell? ⟨r,1,none⟩=some (.slice (some ⟨lb,0,none⟩) 16 lc):=aa h1 1;have HLk:=hid (jA hrb i);have HSd:=hid h2;have HB:=hid hB;have HR0:=hid hr0;have HWb:=hid hwb;clear h h1 h2 hrb hB hr0 hwb;go_enter Tryz.func84,Tryz.ntmps84
 go_wp2_with fail
 rw [<- HWb.out];refine HLk.out.mono ?_;clear HLk HWb;rintro e w1 ⟨h1,nn,rfl,hn⟩;obtain rfl:=h1.symm;clear h1;rcases hn with rfl | rfl | ⟨rfl,hi1,hi2⟩
 ·go_wp2_with (refine am rfl 142 (.tmp 4) (.tmp 15) rfl w.heap.size fL.toArray rfl rfl _ _ HR0.out rfl (by kernel_rfl) mG ?_;intro w6 hg6 hb6 hz6)
  have hb06:Below w.heap.size w w6:=HB.out.grown hg6 HB.out.size (fun k e=>by cases e;exact Nat.le_refl _);exact bodyPost_ret (et rfl rfl hb6 rfl) rfl (ml (z:=0) (c:=2) hb06 rfl rfl nl (by omega) (by omega) (fun e=>absurd e (by decide)))
 ·go_wp2_with (refine am rfl 142 (.tmp 4) (.tmp 15) rfl w.heap.size fL.toArray rfl rfl _ _ HR0.out rfl (by kernel_rfl) mG ?_;intro w6 hg6 hb6 hz6)
  have hb06:Below w.heap.size w w6:=HB.out.grown hg6 HB.out.size (fun k e=>by cases e;exact Nat.le_refl _);exact bodyPost_ret (et rfl rfl hb6 rfl) rfl (ml (z:=0) (c:=4) hb06 rfl rfl nl (by omega) (by omega) (fun e=>absurd e (by decide)))
 ·obtain ⟨j,rfl⟩:∃j:Nat,i=(j:Int):=⟨i.toNat,by omega⟩;obtain ⟨k0,m0,l0,b0,ba,bc,d0,da,dc,ind,x0,x1,x2,x3,x4,x5,hok⟩:=HSd.out.six j (by omega);have hb7:b0.length<=70656:=hok.bl;have HD0:=hid hok.data;clear hok HSd
  go_wp2_with fail
  obtain ⟨W,hW⟩:∃W,W=(wb.alloc (.cells #[.int .i64 k0,.int .i64 m0,.int .i64 l0,.slice ba b0.length bc,.slice da d0.length dc,.int .i64 ind] 146)).alloc (.cells #[.int .i64 k0,.int .i64 m0,.int .i64 l0,.int .i64 b0.length,.int .i64 0,.int .i64 0,.int .i64 0,.int .i64 0,.int .i64 0,.int .i64 0,.int .i64 0,.int .i64 0,.int .i64 0,.int .i64 0,.int .i64 0] 142):=⟨_,rfl⟩;rw [<- hW];have hbf:W.heap[wb.heap.size]? = some (.cells #[.int .i64 k0,.int .i64 m0,.int .i64 l0,.slice ba b0.length bc,.slice da d0.length dc,.int .i64 ind] 146 (0,0)):=by rw [hW];exact aj (af wb _) _
  have hbx:W.heap[wb.heap.size+1]? = some (.cells ([.int .i64 k0,.int .i64 m0,.int .i64 l0,.int .i64 b0.length,.int .i64 0,.int .i64 0,.int .i64 0,.int .i64 0,.int .i64 0,.int .i64 0,.int .i64 0,.int .i64 0,.int .i64 0,.int .i64 0,.int .i64 0]:List Value).toArray 142 (0,0)):=by
   rw [hW];have h5:=af (wb.alloc (.cells #[.int .i64 k0,.int .i64 m0,.int .i64 l0,.slice ba b0.length bc,.slice da d0.length dc,.int .i64 ind] 146)) (.cells #[.int .i64 k0,.int .i64 m0,.int .i64 l0,.int .i64 b0.length,.int .i64 0,.int .i64 0,.int .i64 0,.int .i64 0,.int .i64 0,.int .i64 0,.int .i64 0,.int .i64 0,.int .i64 0,.int .i64 0,.int .i64 0] 142);rw [World.size_alloc] at h5;exact h5
  have hbw:Below wb.heap.size wb W:=by rw [hW];exact ((Below.refl _ wb).alloc (Nat.le_refl _) _).alloc (by simp) _
  have HCs:Hid (∃C:List Value,C.length=15/\C[3]? = some (.int .i64 b0.length)/\(∀v∈C,∃n,v = .int .i64 n)/\W.heap[wb.heap.size+1]? = some (.cells C.toArray 142 (0,0))) :=
   ⟨_,rfl,rfl,fun v hv=>by
    simp only [List.mem_cons,List.mem_nil_iff,or_false] at hv;rcases hv with rfl | rfl | rfl | rfl | rfl | rfl | rfl | rfl | rfl | rfl | rfl | rfl | rfl | rfl | rfl <;> exact ⟨_,rfl⟩,hbx⟩
  have HBf:=hid hbf;have HBw:=hid hbw;have hwl:w.heap.size<wb.heap.size:=ae HR0.out;clear hbf hbx hbw hW x0 x1 x2 x3 x4 x5 c1
  go_loopw [9] (fun kv wr=>∃k:Nat,k<=10/\kv = .int .i64 k/\Hid (∃C:List Value,C.length=15/\C[3]? = some (.int .i64 b0.length)/\(∀v∈C,∃n,v = .int .i64 n)/\wr.heap[wb.heap.size+1]? = some (.cells C.toArray 142 (0,0)))/\Hid (ac (fun i=>i=wb.heap.size+1) W wr)) (fun kv _=>10-(intOf kv).toNat)
  case atStart=>exact ⟨0,by omega,rfl,HCs,ac.refl _ _⟩
  case round =>
   obtain ⟨k,hk,rfl,HC,HK⟩:=hrel;obtain ⟨C,hl,h3,hi,hb⟩:=HC.out;have hf:=HK.out.heap HBf.out (by omega);have f4:wr.cell? ⟨wb.heap.size,4,none⟩=some (.slice da d0.length dc):=aa hf 4;have f5:wr.cell? ⟨wb.heap.size,5,none⟩=some (.int .i64 ind):=aa hf 5;by_cases hk1:k<d0.length
   ·have hk1':(k:Int)<(d0.length:Int):=by omega
    by_cases hk2:k<10
    ·have hk2':(k:Int)<10:=by omega
     obtain ⟨db,dof,e,hc⟩:=HD0.out k hk1;subst e;have hdc:=hc k hk1;have hdl:=World.block_lt_of_cell? wb _ hdc;have hd2:wr.cell? ⟨db,dof+k,none⟩=some (.int .i64 d0[k]):=HK.out.cell ((HBw.out.cell hdl).trans hdc) (fun e=>by have e':db=wb.heap.size+1:=e;have hdl':db<wb.heap.size:=hdl;omega);generalize d0[k]=dv at *;obtain ⟨old,cx⟩:∃old,wr.cell? ⟨wb.heap.size+1,4+k,none⟩=some old:=by
      rw [aa hb,List.getElem?_toArray,List.getElem?_eq_getElem (by omega)];exact ⟨_,rfl⟩
     have fx:wr.frozen? ⟨wb.heap.size+1,4+k,none⟩=false:=ai hb _;have hst:=ap hb (4+k) (.int .i64 dv);rw [List.setIfInBounds_toArray] at hst;have HC2:Hid (∃C:List Value,C.length=15/\C[3]? = some (.int .i64 b0.length)/\(∀v∈C,∃n,v = .int .i64 n)/\(wr.setCell ⟨wb.heap.size+1,4+k,none⟩ (.int .i64 dv)).heap[wb.heap.size+1]? = some (.cells C.toArray 142 (0,0))) :=
      ⟨_,by rw [List.length_set];exact hl,by rw [List.getElem?_set_ne (by omega)];exact h3,fun v hv=>(List.mem_or_eq_of_mem_set hv).elim (fun h=>hi v h) (fun h=>⟨dv,h⟩),hst⟩
     clear hst hb hi h3 hf hdc hdl hc HC;go_wp2;exact ⟨⟨k+1,by omega,by go_num,HC2,HK.out.grown (ak (ar _ _) _ _) (fun i e => .inl (Option.some.inj e).symm)⟩,by simp [intOf];omega⟩
    ·have hk2':¬(k:Int)<10:=by omega
     obtain ⟨old,cx⟩:∃old,wr.cell? ⟨wb.heap.size+1,14,none⟩=some old:=by
      rw [aa hb,List.getElem?_toArray,List.getElem?_eq_getElem (by omega)];exact ⟨_,rfl⟩
     have fx:wr.frozen? ⟨wb.heap.size+1,14,none⟩=false:=ai hb _;have hst:=ap hb 14 (.int .i64 ind);rw [List.setIfInBounds_toArray] at hst;have hl2:(C.set 14 (.int .i64 ind)).length=15:=by rw [List.length_set];exact hl
     have h32:(C.set 14 (.int .i64 ind))[3]? = some (.int .i64 b0.length):=by rw [List.getElem?_set_ne (by omega)];exact h3
     have hi2:∀v∈C.set 14 (.int .i64 ind),∃n,v = .int .i64 n:=fun v hv=>(List.mem_or_eq_of_mem_set hv).elim (fun h=>hi v h) (fun h=>⟨ind,h⟩);have hrs:(wr.setCell ⟨wb.heap.size+1,14,none⟩ (.int .i64 ind)).heap[w.heap.size]? = some (.cells fL.toArray 142 (0,0)):=by
      rw [al 14 _ (by omega)];exact HK.out.heap (ah HBw.out HR0.out (by omega)) (fun e=>by have e':w.heap.size=wb.heap.size+1:=e;omega)
     have hbz:Below w.heap.size w (wr.setCell ⟨wb.heap.size+1,14,none⟩ (.int .i64 ind)):=by
      have h5:=HB.out.trans (HBw.out.mono HB.out.size);have h6:=h5.trans (HK.out.below h5.size (fun i e=>by have e':i=wb.heap.size+1:=e;omega));exact h6.grown (ak (ar _ _) _ _) h6.size (fun i e=>by have e':wb.heap.size+1=i:=Option.some.inj e;omega)
     generalize C.set 14 (.int .i64 ind)=C2 at *;have HSt:=hid hst;have HL2:=hid (And.intro hl2 (And.intro h32 hi2));have HRs:=hid hrs;have HBz:=hid hbz;have hon:C2.toArray.all (·.oneCell')=true:=by
      rw [Array.all_eq_true_iff_forall_mem];intro v hv;obtain ⟨n,rfl⟩:=hi2 v (by simpa using hv)
      rfl
     have HOn:=hid hon;clear hst hb hi h3 hf HC hl hl2 h32 hi2 hrs hbz hon
     go_wp2_with (first
      | refine dH rfl 142 (.tmp 8) rfl (wb.heap.size+1) rfl C2.toArray _ _ HSt.out _ Tryz.underlying142 rfl (by rw [List.size_toArray,HL2.out.1];kernel_rfl) ?_
      | (refine am rfl 142 (.tmp 4) (.tmp 57) rfl w.heap.size C2.toArray rfl rfl _ _ HRs.out (by rw [List.size_toArray,HL2.out.1];rfl) (by rw [List.size_toArray,HL2.out.1];kernel_rfl) HOn.out ?_;intro w6 hg6 hb6 hz6))
     have hb06:Below w.heap.size w w6:=HBz.out.grown hg6 HBz.out.size (fun k e=>by cases e;exact Nat.le_refl _);exact bodyPost_ret (et rfl rfl hb6 HL2.out.1) rfl (ml (c:=0) hb06 HL2.out.1 HL2.out.2.1 HL2.out.2.2 (by omega) (by omega) (fun _=>⟨by omega,by omega⟩))
   ·have hk1':¬(k:Int)<(d0.length:Int):=by omega
    obtain ⟨old,cx⟩:∃old,wr.cell? ⟨wb.heap.size+1,14,none⟩=some old:=by
     rw [aa hb,List.getElem?_toArray,List.getElem?_eq_getElem (by omega)];exact ⟨_,rfl⟩
    have fx:wr.frozen? ⟨wb.heap.size+1,14,none⟩=false:=ai hb _;have hst:=ap hb 14 (.int .i64 ind);rw [List.setIfInBounds_toArray] at hst;have hl2:(C.set 14 (.int .i64 ind)).length=15:=by rw [List.length_set];exact hl
    have h32:(C.set 14 (.int .i64 ind))[3]? = some (.int .i64 b0.length):=by rw [List.getElem?_set_ne (by omega)];exact h3
    have hi2:∀v∈C.set 14 (.int .i64 ind),∃n,v = .int .i64 n:=fun v hv=>(List.mem_or_eq_of_mem_set hv).elim (fun h=>hi v h) (fun h=>⟨ind,h⟩);have hrs:(wr.setCell ⟨wb.heap.size+1,14,none⟩ (.int .i64 ind)).heap[w.heap.size]? = some (.cells fL.toArray 142 (0,0)):=by
     rw [al 14 _ (by omega)];exact HK.out.heap (ah HBw.out HR0.out (by omega)) (fun e=>by have e':w.heap.size=wb.heap.size+1:=e;omega)
    have hbz:Below w.heap.size w (wr.setCell ⟨wb.heap.size+1,14,none⟩ (.int .i64 ind)):=by
     have h5:=HB.out.trans (HBw.out.mono HB.out.size);have h6:=h5.trans (HK.out.below h5.size (fun i e=>by have e':i=wb.heap.size+1:=e;omega));exact h6.grown (ak (ar _ _) _ _) h6.size (fun i e=>by have e':wb.heap.size+1=i:=Option.some.inj e;omega)
    generalize C.set 14 (.int .i64 ind)=C2 at *;have HSt:=hid hst;have HL2:=hid (And.intro hl2 (And.intro h32 hi2));have HRs:=hid hrs;have HBz:=hid hbz;have hon:C2.toArray.all (·.oneCell')=true:=by
     rw [Array.all_eq_true_iff_forall_mem];intro v hv;obtain ⟨n,rfl⟩:=hi2 v (by simpa using hv)
     rfl
    have HOn:=hid hon;clear hst hb hi h3 hf HC hl hl2 h32 hi2 hrs hbz hon
    go_wp2_with (first
     | refine dH rfl 142 (.tmp 8) rfl (wb.heap.size+1) rfl C2.toArray _ _ HSt.out _ Tryz.underlying142 rfl (by rw [List.size_toArray,HL2.out.1];kernel_rfl) ?_
     | (refine am rfl 142 (.tmp 4) (.tmp 57) rfl w.heap.size C2.toArray rfl rfl _ _ HRs.out (by rw [List.size_toArray,HL2.out.1];rfl) (by rw [List.size_toArray,HL2.out.1];kernel_rfl) HOn.out ?_;intro w6 hg6 hb6 hz6))
    have hb06:Below w.heap.size w w6:=HBz.out.grown hg6 HBz.out.size (fun k e=>by cases e;exact Nat.le_refl _);exact bodyPost_ret (et rfl rfl hb6 HL2.out.1) rfl (ml (c:=0) hb06 HL2.out.1 HL2.out.2.1 HL2.out.2.2 (by omega) (by omega) (fun _=>⟨by omega,by omega⟩))
end
end
section
open Go.RowKit
theorem t8 (l chars:List UInt8):Lib.containsAny l chars=l.any chars.contains:=by
 induction l with
 | nil=>rfl
 | cons b l ih =>
  unfold Lib.containsAny at ih ⊢;rw [Lib.indexAny,List.any_cons, <- ih];have hge:=Lib.indexAny_ge chars l;cases h:chars.contains b
  ·rw [if_neg (by simp),Bool.false_or];by_cases e:Lib.indexAny l chars = -1
   ·rw [if_pos (by rw [e];rfl),e]
   ·rw [if_neg (fun hh=>e (by simpa using hh)),decide_eq_true (by omega),decide_eq_true (by omega)]
  ·rw [if_pos rfl,Bool.true_or];rfl
end
section
set_option maxRecDepth 100000
set_option maxHeartbeats 1000000
open Go.RowKit
theorem lE (s:ByteArray) (k:Nat) (w:World) (h:k<s.size):(Instr.index 9 (.string s) (.int .i64 (k:Int))).run Tryz.prog w = .ok (.int .u8 ((s.data.toList.getD k 0).toNat:Int)) w:=by
 rw [run_index_string w _ _ .i64 (k:Int) Tryz.underlying9,dif_pos ⟨by omega,by omega⟩];have hl:k<s.data.toList.length:=by rw [<- Lib.size_eq];exact h
 rw [List.getD_eq_getElem?_getD,List.getElem?_eq_getElem hl]
 rfl
theorem j3 (s:ByteArray) (hs:(s.size:Int)<=9223372036854775807) (w:World):Calls Tryz.prog 37 #[.string s] w fun e w'=>e = .returned (.bool (nameL s.data.toList))/\w'=w:=by
 have HS:=hid hs;have hsz:=Lib.size_eq s;obtain ⟨l,hl⟩:∃l,l=s.data.toList:=⟨_,rfl⟩;have HL:=hid hl;clear hs;rw [<- hl] at hsz ⊢;clear hl;go_enter Tryz.func37,Tryz.ntmps37;go_wp2
 go_loopw [3] (fun i wr=>∃k:Nat,k<=s.size/\i = .int .i64 k/\Hid (∀b∈l.take k,b≠0/\b≠47)/\wr=w) (fun i _=>s.size-(intOf i).toNat)
 case atStart=>exact ⟨0,by omega,rfl,fun b hb=>by simp at hb,rfl⟩
 case round =>
  obtain ⟨k,hk,rfl,hA,rfl⟩:=hrel;by_cases hlt:k<s.size
  ·have hk1:(k:Int)<(s.size:Int):=by omega
   have hinc:IntKind.i64.wrap ((k:Int)+1)=(k:Int)+1:=IntWalk.i64_in _ (by have:=HS.out;omega);have hix:=fun W=>lE s k W hlt;rw [<- HL.out] at hix;have hkl:k<l.length:=by omega
   have hg:l.getD k 0=l[k]:=by rw [List.getD_eq_getElem?_getD,List.getElem?_eq_getElem hkl,Option.getD_some]
   have HNo:Hid (l.getD k 0=0\/l.getD k 0=47->nameL l=false):=fun h=>by
    unfold nameL;rw [t8,show l.any ([0,47]:List UInt8).contains=true from List.any_eq_true.2 ⟨l[k],List.getElem_mem hkl,by rw [<- hg];rcases h with h | h <;> rw [h] <;> rfl⟩]
    simp
   have HYes:Hid (l.getD k 0≠0/\l.getD k 0≠47->∀b∈l.take (k+1),b≠0/\b≠47):=fun h b hb=>by
    rw [List.take_succ_eq_append_getElem hkl] at hb;rcases List.mem_append.1 hb with hb | hb
    ·exact hA.out b hb
    ·rw [List.mem_singleton.1 hb, <- hg];exact h
   clear hg hkl hA;generalize l.getD k 0=x at *;by_cases h0:x=0
   ·have q0:((x.toNat:Int)==0)=true:=by rw [h0];rfl
    have HN:=hid (HNo.out (.inl h0));clear HNo HYes h0;go_wp2;go_ret;exact ⟨by rw [HN.out];rfl,rfl⟩
   ·have q0:((x.toNat:Int)==0)=false:=beq_false_of_ne (fun e=>h0 (by
     have e':x.toNat=0:=by omega
     exact UInt8.toNat_inj.1 (by rw [e'];rfl)))
    by_cases h1:x=47
    ·have q1:((x.toNat:Int)==47)=true:=by rw [h1];rfl
     have HN:=hid (HNo.out (.inr h1));clear HNo HYes h0 h1;go_wp2;go_ret;exact ⟨by rw [HN.out];rfl,rfl⟩
    ·have q1:((x.toNat:Int)==47)=false:=beq_false_of_ne (fun e=>h1 (by
      have e':x.toNat=47:=by omega
      exact UInt8.toNat_inj.1 (by rw [e'];rfl)))
     have HY:=hid (HYes.out ⟨h0,h1⟩);clear HNo HYes h0 h1;go_wp2;exact ⟨⟨k+1,by omega,by go_num,HY,trivial⟩,by simp [intOf];omega⟩
  ·obtain rfl:k=s.size:=by omega
   have hge:¬((s.size:Int)<(s.size:Int)):=by omega
   have hany:Lib.containsAny l [0,47]=false:=by
    rw [t8,List.any_eq_false];intro b hb;rw [hsz,List.take_length] at hA;have:=hA.out b hb;simp [this.1,this.2]
   have HW:Hid (nameL l=(decide (1<=l.length)&&decide (l.length<=59) && !(l==[46]) && !(l==[46,46]))):=by unfold Hid nameL;rw [hany];simp
   have hst:s.toList=l:=by rw [Lib.toList_data,HL.out]
   clear hany hA;have HST:Hid (∀z b,(s.toList==z)=b->(l==z)=b):=fun z b h=>by rw [<- hst];exact h
   clear hst;by_cases h1:1<=s.size
   ·have q1:(1:Int)<=(s.size:Int):=by omega
    by_cases h2:s.size<=59
    ·have q2:(s.size:Int)<=59:=by omega
     cases e1:(s.toList==[46])
     ·have f1:¬s.toList=[46]:=fun e=>by rw [e] at e1;exact absurd e1 (by decide)
      cases e2:(s.toList==[46,46])
      ·have f2:¬s.toList=[46,46]:=fun e=>by rw [e] at e2;exact absurd e2 (by decide)
       have HN:Hid (nameL l=true):=by unfold Hid;rw [HW.out,HST.out _ _ e1,HST.out _ _ e2];simp;omega
       clear HW;go_wp2;go_ret;exact ⟨by rw [HN.out];rfl,rfl⟩
      ·have f2:s.toList=[46,46]:=by simpa using e2
       have HN:Hid (nameL l=false):=by unfold Hid;rw [HW.out,HST.out _ _ e1,HST.out _ _ e2];simp
       clear HW;go_wp2;go_ret;exact ⟨by rw [HN.out];rfl,rfl⟩
     ·have f1:s.toList=[46]:=by simpa using e1
      have HN:Hid (nameL l=false):=by unfold Hid;rw [HW.out,HST.out _ _ e1];simp
      clear HW;go_wp2;go_ret;exact ⟨by rw [HN.out];rfl,rfl⟩
    ·have q2:¬(s.size:Int)<=59:=by omega
     have HN:Hid (nameL l=false):=by unfold Hid nameL;rw [decide_eq_false (show ¬l.length<=59 by omega)];simp
     clear HW;go_wp2;go_ret;exact ⟨by rw [HN.out];rfl,rfl⟩
   ·have q1:¬(1:Int)<=(s.size:Int):=by omega
    have HN:Hid (nameL l=false):=by unfold Hid nameL;rw [decide_eq_false (show ¬1<=l.length by omega)];simp
    clear HW;go_wp2;go_ret;exact ⟨by rw [HN.out];rfl,rfl⟩
end
section
set_option maxHeartbeats 1000000
open Go.RowKit
def SlR (w:World) (v:Value) (n:Nat):Prop:=∃a c,v = .slice a n c/\n<=1104/\∀k,k<n->∃b o,∃(x:ByteArray) (y:Int),a=some ⟨b,o,none⟩/\b<w.heap.size/\w.cell? ⟨b,o+k*2,none⟩=some (.string x)/\w.cell? ⟨b,o+k*2+1,none⟩=some (.int .i64 y)/\x.size<=59
theorem SlR.nil (w:World):SlR w (.slice none 0 0) 0:=⟨none,0,rfl,by omega,fun k hk=>absurd hk (by omega)⟩
theorem SlR.get {w:World} {a:Option Addr} {n c:Nat} (h:SlR w (.slice a n c) n) {k:Nat} (hk:k<n):∃b o,∃(x:ByteArray) (y:Int),a=some ⟨b,o,none⟩/\w.cell? ⟨b,o+k*2,none⟩=some (.string x)/\w.cell? ⟨b,o+k*2+1,none⟩=some (.int .i64 y)/\x.size<=59:=by
 obtain ⟨a',c',e,-,h3⟩:=h;simp only [Value.slice.injEq] at e;obtain ⟨rfl,-,rfl⟩:=e;obtain ⟨b,o,x,y,e,-,hc,hd,hx⟩:=h3 k hk;exact ⟨b,o,x,y,e,hc,hd,hx⟩
theorem nu (v:Value) (n:Nat) (nm:ByteArray) (w:World) (h:SlR w v n) :
  Calls Tryz.prog 38 #[v,.string nm] w fun e w'=>w'=w/\∃x:Int,e = .returned (.int .i64 x) /\ -1<=x/\x<n:=by
 have HS:=hid h;obtain ⟨a,c,rfl,hn,-⟩:=h;go_enter Tryz.func38,Tryz.ntmps38;go_wp2
 go_loopw [5] (fun i wr=>∃k:Nat,k<=n/\i = .int .i64 k/\wr=w) (fun i _=>n-(intOf i).toNat)
 case atStart=>exact ⟨0,by omega,rfl,rfl⟩
 case round =>
  obtain ⟨k,hk,rfl,rfl⟩:=hrel;by_cases hlt:k<n
  ·have hi0:(0:Int)<=(k:Int):=by omega
   have hi1:(k:Int)<(n:Int):=by omega
   obtain ⟨b,o,x,y,rfl,d0,d1,-⟩:=HS.out.get hlt;by_cases hy:y=0
   ·have hy0:(y != 0)=false:=by rw [hy];rfl
    go_wp2;exact ⟨⟨k+1,by omega,by go_num,by first | trivial | rfl⟩,by simp [intOf];omega⟩
   ·have hy0:(y != 0)=true:=bne_iff_ne.2 hy;cases hq:(x.toList==nm.toList)
    ·go_wp2;exact ⟨⟨k+1,by omega,by go_num,by first | trivial | rfl⟩,by simp [intOf];omega⟩
    ·go_wp2;go_ret;exact ⟨rfl,_,rfl,by omega,by omega⟩
  ·have hge:¬(k:Int)<(n:Int):=by omega
   go_wp2;go_ret;exact ⟨rfl,_,rfl,by omega,by omega⟩
section
variable {w w':World} {F:Nat->Prop} {r m:Nat}
theorem vI (h:a7 w F r m) (j:Nat) (hj:j<16):Calls Tryz.prog 86 #[.pointer (some ⟨r,0,none⟩),.int .i64 j] w fun e w'=>w'=w/\∃a c,∃l:List UInt8,e = .returned (.slice a l.length c)/\dN w a l/\l.length<=70656/\l.length<=c:=by
 obtain ⟨lb,lc,km,kb,kc,fl,kl,h1,h2,-⟩:=h.heap;have c1:w.cell? ⟨r,1,none⟩=some (.slice (some ⟨lb,0,none⟩) 16 lc):=aa h1 1;obtain ⟨k0,m0,l0,b0,ba,bc,d0,da,dc,ind,x0,x1,x2,x3,x4,x5,hok⟩:=h2.six j hj;have hi0:(0:Int)<=(j:Int):=by omega
 have hi1:(j:Int)<16:=by omega
 have HO:=hid hok;clear h h1 h2 hok x0 x1 x2 x4 x5;go_enter Tryz.func86,Tryz.ntmps86;go_wp2;go_ret;exact ⟨rfl,_,_,b0,rfl,HO.out.bytes,HO.out.bl,HO.out.bcap⟩
end
end
section
set_option maxRecDepth 100000
set_option maxHeartbeats 4000000
open Go.RowKit
theorem qQ:(Tryz.prog.info? 87).map (fun i=>(i.zero,i.size,i.bytes))=some (some (.agg #[.string ByteArray.empty,.int .i64 0]),2,24):=by kernel_rfl
def slC (sl:List (ByteArray×Int)):List Value:=sl.flatMap fun p=>[.string p.1,.int .i64 p.2]
theorem x8 (sl:List (ByteArray×Int)) (x:ByteArray) (y:Int):slC (sl ++ [(x,y)])=slC sl ++ [.string x,.int .i64 y]:=by simp [slC]
theorem wI:∀(sl:List (ByteArray×Int)) (k:Nat) (hk:k<sl.length),(slC sl)[k*2]? = some (.string sl[k].1)/\(slC sl)[k*2+1]? = some (.int .i64 sl[k].2)
 | p :: sl,0,_=>⟨rfl,rfl⟩
 | p :: sl,k+1,hk=>by
  have h:=wI sl k (by simpa using hk);have e1:(k+1)*2=k*2+2:=by omega
  have e2:slC (p :: sl) = .string p.1 :: .int .i64 p.2 :: slC sl:=rfl;rw [e2,e1];simpa using h
structure SlI (w W:World) (v:Value) (sl:List (ByteArray×Int)):Prop where
 own:W.ownsRow w.heap.size 87 2 v sl.length (slC sl)
 low:Below w.heap.size w W
 few:∀p∈sl,p.1.size<=59
theorem SlI.up {w W W':World} {v:Value} {sl:List (ByteArray×Int)} (h:SlI w W v sl) (hb:Below W.heap.size W W'):SlI w W' v sl :=
 ⟨(ac.of_below hb:ac (fun _=>False) W W').row h.own (fun _ _ e=>e),h.low.trans (hb.mono h.low.size),h.few⟩
theorem SlI.row {w W:World} {v:Value} {sl:List (ByteArray×Int)} (h:SlI w W v sl) (hl:sl.length<=1104):SlR W v sl.length:=by
 rcases h.own.2 with ⟨e,h0⟩ | ⟨g,cap,cur,e,hb,hg,-⟩
 ·rw [e,h0];exact SlR.nil W
 ·refine ⟨some ⟨g,0,none⟩,cap,e,hl,fun k hk => ?_⟩;have ho:W.ownsRow w.heap.size 87 2 (.slice (some ⟨g,0,none⟩) sl.length cap) sl.length (slC sl):=by rw [<- e];exact h.own
  obtain ⟨h1,h2⟩:=wI sl k hk;have c1:=ho.cells (g:=g) rfl (k*2) _ h1;have c2:=ho.cells (g:=g) rfl (k*2+1) _ h2;rw [Addr.add_mid] at c1 c2;exact ⟨g,0,sl[k].1,sl[k].2,rfl,ae hg,by rw [Nat.zero_add] at *;exact c1,by rw [Nat.zero_add] at *;exact c2,h.few _ (List.getElem_mem hk)⟩
theorem ft {w W:World} {ops:Array Oper} {rest:List Oper} {o:Oper} {a:Act} {Q:Exit->Act->World->Prop} (hgd:o.guard=none) (s x:Operand)
  (ho:o.op = .call { callee := .builtin .append,args:=#[s,x],argTypes:=#[81,81] }) (v:Value) (sl:List (ByteArray×Int)) (hs:a.eval s=v) (ab c:Nat) (hx:a.eval x = .slice (some ⟨ab,0,none⟩) 1 c)
  (nm:ByteArray) (y:Int) (h9:nm.size<=59) (h:SlI w W v sl) (c0:W.cell? ⟨ab,0,none⟩=some (.string nm)) (c1:W.cell? ⟨ab,1,none⟩=some (.int .i64 y)) (hn:sl.length<4096)
  (k:∀g cap w',SlI w w' (.slice (some ⟨g,0,none⟩) (sl.length+1) cap) (sl ++ [(nm,y)])->wpList Tryz.prog ops Q rest (a.put o.dst (.slice (some ⟨g,0,none⟩) (sl.length+1) cap)) w'):wpList Tryz.prog ops Q (o :: rest) a W:=by
 obtain ⟨i0,hi,hz0,hz1,hz2⟩:=info_parts qQ;have hnews:∀j u,[Value.string nm,.int .i64 y][j]? = some u->W.cell? ((⟨ab,0,none⟩:Addr).add j)=some u:=fun j u hu=>by
  rw [Addr.add_mid]
  match j with
  | 0=>exact c0.trans hu
  | 1=>exact c1.trans hu
  | j+2=>cases hu
 have h1:∀u∈[Value.string nm,.int .i64 y],u.oneCell'=true:=by
  intro u hu;rcases List.mem_cons.1 hu with rfl | hu
  ·rfl
  ·rw [List.mem_singleton.1 hu];rfl
 refine wpList_append_lies _ hgd s x 81 ho w.heap.size 87 i0 (.agg #[.string ByteArray.empty,.int .i64 0]) 2 24 Tryz.underlying81 hi hz0 hz1 hz2 rfl (by omega) v sl.length (slC sl) hs h.own ⟨ab,0,none⟩ 1 c [.string nm,.int .i64 y] hx rfl hnews h1 (by omega) (by unfold maxLen;omega) (by omega) h.low.size W.heap.size rfl ?_;intro g cap w' hown hgr hat hlt;refine k g cap w' ⟨?_,h.low.grown hgr h.low.size (fun i e=>(h.own.lt i e).1),fun p hp => ?_⟩
 ·rw [x8,List.length_append];exact hown
 ·rcases List.mem_append.1 hp with hp | hp
  ·exact h.few p hp
  ·rw [List.mem_singleton.1 hp];exact h9
theorem rD (a:Option Addr) (l:List UInt8) (c:Nat) (w:World) (hb:dN w a l) (hl:l.length<=70656) (hlc:l.length<=c) :
  Calls Tryz.prog 85 #[.slice a l.length c] w fun e w'=>Below w.heap.size w w'/\∃v n,e = .returned v/\SlR w' v n:=by
 obtain ⟨i0,hi,hz0,hz1,hz2⟩:=info_parts qQ;have HI0:=hid hi;have HBy:=hid hb;clear hi hb;have HS0:Hid (SlI w w (.slice none 0 0) []):=⟨World.ownsRow_nil _ _ _ _,Below.refl _ _,fun p hp=>by cases hp⟩;go_enter Tryz.func85,Tryz.ntmps85;go_wp2
 go_loopw [3,4] (fun v qv wr=>∃(k q:Nat) (va:Option Addr) (vc:Nat),q<=l.length/\v = .slice va k vc/\qv = .int .i64 q/\Hid (q=64*k)/\Hid (∃sl,sl.length=k/\SlI w wr (.slice va k vc) sl)) (fun _ qv _=>l.length+64-(intOf qv).toNat)
 case atStart=>exact ⟨0,0,none,0,by omega,rfl,rfl,rfl,[],rfl,HS0.out⟩
 case round =>
  obtain ⟨k,q,va,vc,hk,rfl,rfl,HQ,HI⟩:=hrel;clear HS0;by_cases hlt:q+64<=l.length
  ·have hlt':(q:Int)+64<=(l.length:Int):=by omega
   obtain ⟨b,o,rfl,-⟩:=HBy.out 0 (by omega);have HCe:Hid (∀W,Below w.heap.size w W->∀j,j<l.length->∃z:Nat,z<256/\l[j]?.map (·.toNat)=some z/\W.cell? ⟨b,o+j,none⟩=some (.int .u8 (z:Int))):=fun W hW j hj=>by
    obtain ⟨b',o',e,h⟩:=(HBy.out.below hW) j hj;cases e;exact ⟨l[j].toNat,UInt8.toNat_lt _,by rw [List.getElem?_eq_getElem hj];rfl,h j hj⟩
   have hB:Below w.heap.size w wr:=by obtain ⟨sl,-,h⟩:=HI.out;exact h.low
   obtain ⟨z0,hz0',-,d0⟩:=HCe.out wr hB q (by omega);obtain ⟨z1,hz1',-,d1⟩:=HCe.out wr hB (q+1) (by omega);obtain ⟨z2,hz2',-,d2⟩:=HCe.out wr hB (q+2) (by omega);obtain ⟨z3,hz3',-,d3⟩:=HCe.out wr hB (q+3) (by omega);obtain ⟨z4,hz4',-,d4⟩:=HCe.out wr hB (q+4) (by omega);have hq0:(0:Int)<=(q:Int):=by omega
   have hq1:(q:Int)<(l.length:Int):=by omega
   have hq2:(q:Int)+1<(l.length:Int):=by omega
   have hq3:(q:Int)+2<(l.length:Int):=by omega
   have hq4:(q:Int)+3<(l.length:Int):=by omega
   have hq5:(q:Int)+4<(l.length:Int):=by omega
   have hqb:(q:Int)<=80000:=by omega
   have HB:=hid hB;have HZb:=hid (And.intro hz0' (And.intro hz1' (And.intro hz2' (And.intro hz3' hz4'))));clear hB hz0' hz1' hz2' hz3' hz4';have hw4:wrap64 (z4:Int)=(z4:Int):=by have:=HZb.out;unfold wrap64;omega
   obtain ⟨nn,hnn,hnv⟩:∃nn:Nat,nn<=59/\nn=min z4 59:=⟨min z4 59,by omega,rfl⟩;have HSt:Hid (∀W,Below w.heap.size w W->∃x:ByteArray,x.size<=59/\(convert 76 9 (.slice (some ⟨b,o+(q+5),none⟩) nn (c-(q+5)))).run Tryz.prog W = .ok (.string x) W):=fun W hW=>by
    have hlen:((l.drop (q+5)).take nn).length=nn:=by rw [List.length_take,List.length_drop];omega
    have h:=rK (w:=W) (g:=b) (o:=o+(q+5)) (c:=c-(q+5)) (nm:=(l.drop (q+5)).take nn) (fun j hj=>by
     rw [hlen] at hj;obtain ⟨z,-,hz,hc⟩:=HCe.out W hW (q+5+j) (by omega);rw [show o+(q+5)+j=o+(q+5+j) by omega,hc];rw [List.getElem?_eq_getElem (by omega)] at hz;have hz':(l[q+5+j]'(by omega)).toNat=z:=Option.some.inj hz;rw [<- hz',List.getElem_take,List.getElem_drop])
    rw [hlen] at h;exact ⟨_,by rw [eU];omega,h⟩
   go_wp2
   go_quiet (fail)
   rename_i nq;obtain ⟨W,hW⟩:∃W,W=wr.drewN nq:=⟨_,rfl⟩;have hbW:Below wr.heap.size wr W:=by rw [hW];exact cX (Below.refl _ _) _
   rw [<- hW];have d4':W.cell? ⟨b,o+(q+4),none⟩=some (.int .u8 (z4:Int)):=by
    rw [hW];exact d4
   clear hW d0 d1 d2 d3 d4;obtain ⟨x,hx9,hx⟩:=HSt.out W (HB.out.trans (hbW.mono HB.out.size));have HIW:Hid (∃sl,sl.length=k/\SlI w W (.slice va k vc) sl):=by obtain ⟨sl,h1,h2⟩:=HI.out;exact ⟨sl,h1,h2.up hbW⟩
   have HX9:=hid hx9;clear HI HSt HCe hbW hx9
   try generalize bits BinOp.or _ _ _=y
   obtain ⟨sl,hsl,hI⟩:=HIW.out;subst hsl;have HSl:=hid hI;have hl104:sl.length<=1104:=by have:=HQ.out;omega
   have HOw:=hid (fun ob=>hI.own.alloc (o:=ob));have hws:w.heap.size<=W.heap.size:=hI.low.size;clear HIW hI;have hz:z4<256:=HZb.out.2.2.2.2;have he2:(0:Int)<=(q:Int)+5:=by omega
   by_cases h9:(59:Int)<(z4:Int)
   ·obtain rfl:nn=59:=by omega
    have he0:(0:Int)<=(q:Int)+64:=by omega
    have he1:(q:Int)+64<=(c:Int):=by omega
    have he3:(q:Int)+5<=(q:Int)+64:=by omega
    have hmx:max ((q:Int)+64) 0=(q:Int)+64:=by omega
    have htn:((q:Int)+64).toNat-(q+5)=59:=by omega
    clear hnv hz
    go_wp2_with (refine ft rfl (.tmp 51) (.tmp 63) rfl _ sl rfl W.heap.size 1 rfl x y HX9.out (HSl.out.up ((Below.refl _ W).alloc (Nat.le_refl _) _)) (aa (af W _) 0) (aa (af W _) 1) (by omega) ?_;intro g9 cap9 w9 hI9;have HG9:=hid hI9;clear hI9)
    have hq:=HQ.out;clear HSl HX9 HBy HB HZb d4' hx HOw HQ HI0;refine ⟨⟨sl.length+1,q+64,_,cap9,hlt,rfl,congrArg _ (by omega),?_,sl ++ [(x,y)],by rw [List.length_append];rfl,HG9.out⟩,?_⟩
    ·unfold Hid;omega
    ·simp only [intOf];omega
   ·have hnz:nn=z4:=by omega
    have hn9:nn<=59:=by omega
    clear hnv hnn hz;subst hnz;obtain ⟨tt,htt⟩:∃tt:Nat,tt=q+5+nn:=⟨_,rfl⟩;have hwn:wrap64 ((q:Int)+5+(nn:Int))=(tt:Int):=by
     rw [show (q:Int)+5+(nn:Int)=((q+5+nn:Nat):Int) by omega, <- htt];have:tt<=80100:=by omega
     clear htt;unfold wrap64;omega
    have he0:(0:Int)<=(tt:Int):=by clear hwn;omega
    have he1:(tt:Int)<=(c:Int):=by clear hwn;omega
    have he3:(q:Int)+5<=(tt:Int):=by clear hwn;omega
    have htn:tt-(q+5)=nn:=by clear hwn;omega
    clear htt
    go_wp2_with (refine ft rfl (.tmp 51) (.tmp 63) rfl _ sl rfl W.heap.size 1 rfl x y HX9.out (HSl.out.up ((Below.refl _ W).alloc (Nat.le_refl _) _)) (aa (af W _) 0) (aa (af W _) 1) (by omega) ?_;intro g9 cap9 w9 hI9;have HG9:=hid hI9;clear hI9)
    have hq:=HQ.out;clear HSl HX9 HBy HB HZb d4' hx HOw HQ HI0;refine ⟨⟨sl.length+1,q+64,_,cap9,hlt,rfl,congrArg _ (by omega),?_,sl ++ [(x,y)],by rw [List.length_append];rfl,HG9.out⟩,?_⟩
    ·unfold Hid;omega
    ·simp only [intOf];omega
  ·have hge:¬(q:Int)+64<=(l.length:Int):=by omega
   have hqb:(q:Int)<=80000:=by omega
   have HE:Hid (Below w.heap.size w wr/\SlR wr (.slice va k vc) k):=by
    obtain ⟨sl,hsl,h⟩:=HI.out;have hq:=HQ.out;exact ⟨h.low,by rw [<- hsl] at h ⊢;exact h.row (by omega)⟩
   clear HI;go_wp2;go_ret
   first
    | exact ⟨HE.out.1,_,k,rfl,HE.out.2⟩
    | exact ⟨HE.out.1,k,HE.out.2⟩
    | exact ⟨HE.out.1,_,rfl,k,HE.out.2⟩
end
section
set_option maxRecDepth 100000
set_option maxHeartbeats 4000000
open Go.RowKit
theorem SlR.all {w:World} {a:Option Addr} {n c:Nat} (h:SlR w (.slice a n c) n) {k:Nat} (hk:k<n):∃b o,∃(x:ByteArray) (y:Int),a=some ⟨b,o,none⟩/\x.size<=59/\∀W,Below w.heap.size w W->W.cell? ⟨b,o+k*2,none⟩=some (.string x)/\W.cell? ⟨b,o+k*2+1,none⟩=some (.int .i64 y):=by
 obtain ⟨a',c',e,-,h3⟩:=h;simp only [Value.slice.injEq] at e;obtain ⟨rfl,-,rfl⟩:=e;obtain ⟨b,o,x,y,e,hb,hc,hd,hx⟩:=h3 k hk;exact ⟨b,o,x,y,e,hx,fun W hB=>⟨(World.cell?_of_block (w:=w) (hB.block b hb)).trans hc,(World.cell?_of_block (w:=w) (hB.block b hb)).trans hd⟩⟩
def xd (w:World) (e:Ending) (w':World):Prop:=Below w.heap.size w w'/\∃v k,∃x:Int,e = .returned (.tuple #[v,.int .i64 x])/\SlR w' v k
theorem kN {w w':World} {v:Value} {k:Nat} {x:Int} (hb:Below w.heap.size w w') (hs:SlR w' v k):xd w (.returned (.tuple #[v,.int .i64 x])) w':=⟨hb,v,k,x,rfl,hs⟩
section
variable {w w':World} {F:Nat->Prop} {r m:Nat}
theorem gO (h:a7 w F r m) (n:Int):Calls Tryz.prog 36 #[.pointer (some ⟨r,0,none⟩),.int .i64 n] w fun e w'=>xd w e w':=by
 have HGt:=hid (yK h n);have HR:=hid h;clear h;go_enter Tryz.func36,Tryz.ntmps36
 go_wp2_with fail
 refine HGt.out.mono ?_;clear HGt;rintro e w1 ⟨hb1,cs,z,c,hl,-,hi,-,-,rfl,hn⟩;obtain ⟨kd,hk0⟩:∃kd,cs[0]? = some (.int .i64 kd):=by
  rw [List.getElem?_eq_getElem (by omega)];obtain ⟨q,e⟩:=hi _ (List.getElem_mem (by omega:0<cs.length));exact ⟨q,by rw [e]⟩
 have hon:cs.toArray.all (·.oneCell')=true:=by
  rw [Array.all_eq_true_iff_forall_mem];intro v hv;obtain ⟨q,rfl⟩:=hi v (by simpa using hv)
  rfl
 have HOn:=hid hon;have HB1:=hid hb1;have HCs:=hid (And.intro hl hk0);have HN:=hid hn;clear hon hb1 hl hk0 hi hn;by_cases hc:c=0
 ·subst hc;have hn:=HN.out rfl;obtain ⟨j,rfl⟩:∃j:Nat,n=(j:Int):=⟨n.toNat,by omega⟩;have HJ:Hid (j<16):=by unfold Hid;omega
  clear hn HN;by_cases hk:kd=2
  ·subst hk
   go_wp2_with (refine am rfl 142 (.tmp 6) (.tmp 12) rfl w1.heap.size cs.toArray rfl rfl _ _ (af w1 _) (by rw [List.size_toArray,HCs.out.1];rfl) (by rw [List.size_toArray,HCs.out.1];kernel_rfl) HOn.out ?_;intro w2 hg2 hb2 hz2;have c0:w2.cell? ⟨w1.heap.size,0,none⟩=some (.int .i64 2):=(by rw [aa hb2,List.getElem?_toArray];exact HCs.out.2);have HB2:=hid (HB1.out.trans ((((Below.refl _ w1).alloc (Nat.le_refl _) _).grown hg2 (by simp) (fun k e=>by cases e;exact Nat.le_refl _)).mono HB1.out.size));have HBy:=hid (vI (HR.out.below HB2.out) j HJ.out);clear hg2 hz2 hb2)
   refine HBy.out.mono ?_;clear HBy;rintro e w3 ⟨rfl,a,cc,l,rfl,hby,hl7,hlc⟩;have HS:=hid (rD a l cc w3 hby hl7 hlc);clear hby hl7 hlc c0
   go_wp2_with fail
   refine HS.out.mono ?_;clear HS;rintro e w4 ⟨hb4,v,q,rfl,hs⟩;have HB4:=hid (HB2.out.trans (hb4.mono HB2.out.size));have HS4:=hid hs;clear hb4 hs;go_wp2;go_returns;exact kN HB4.out HS4.out
  ·go_wp2_with (refine am rfl 142 (.tmp 6) (.tmp 12) rfl w1.heap.size cs.toArray rfl rfl _ _ (af w1 _) (by rw [List.size_toArray,HCs.out.1];rfl) (by rw [List.size_toArray,HCs.out.1];kernel_rfl) HOn.out ?_;intro w2 hg2 hb2 hz2;have c0:w2.cell? ⟨w1.heap.size,0,none⟩=some (.int .i64 kd):=(by rw [aa hb2,List.getElem?_toArray];exact HCs.out.2);have HB2:=hid (HB1.out.trans ((((Below.refl _ w1).alloc (Nat.le_refl _) _).grown hg2 (by simp) (fun k e=>by cases e;exact Nat.le_refl _)).mono HB1.out.size));clear hg2 hz2 hb2)
   go_returns;exact kN HB2.out (SlR.nil _)
 ·go_wp2_with (refine am rfl 142 (.tmp 6) (.tmp 12) rfl w1.heap.size cs.toArray rfl rfl _ _ (af w1 _) (by rw [List.size_toArray,HCs.out.1];rfl) (by rw [List.size_toArray,HCs.out.1];kernel_rfl) HOn.out ?_;intro w2 hg2 hb2 hz2;have HB2:=hid (HB1.out.trans ((((Below.refl _ w1).alloc (Nat.le_refl _) _).grown hg2 (by simp) (fun k e=>by cases e;exact Nat.le_refl _)).mono HB1.out.size));clear hg2 hz2 hb2)
  go_returns;exact kN HB2.out (SlR.nil _)
def zq (w:World) (e:Ending) (w':World):Prop:=Below w.heap.size w w'/\∃x y:Int,e = .returned (.tuple #[.int .i64 x,.int .i64 y])
theorem ku {w w':World} {x y:Int} (hb:Below w.heap.size w w'):zq w (.returned (.tuple #[.int .i64 x,.int .i64 y])) w':=⟨hb,x,y,rfl⟩
theorem mW (h:a7 w F r m) (n:Int) (nm:ByteArray) (hs:(nm.size:Int)<=9223372036854775807):Calls Tryz.prog 29 #[.pointer (some ⟨r,0,none⟩),.int .i64 n,.string nm] w fun e w'=>zq w e w':=by
 have HLk:=hid (gO h n);have HNm:=hid (fun W=>j3 nm hs W);clear h hs;go_enter Tryz.func29,Tryz.ntmps29
 go_wp2_with fail
 refine HLk.out.mono ?_;clear HLk;rintro e w1 ⟨hb,v,k,x,rfl,hS⟩;have HB:=hid hb;have HS:=hid hS;clear hb hS;by_cases hx:x=0
 ·subst hx
  go_wp2_with fail
  refine (HNm.out w1).mono ?_;clear HNm;rintro e w2 ⟨rfl,rfl⟩;cases hn:nameL nm.data.toList
  ·go_wp2;go_returns;exact ku HB.out
  ·have HAt:=hid (nu v k nm w2 HS.out)
   go_wp2_with fail
   refine HAt.out.mono ?_;clear HAt;rintro e w3 ⟨rfl,y,rfl,hy0,hy1⟩;by_cases hy:y<0
   ·go_wp2;go_returns;exact ku HB.out
   ·obtain ⟨j,rfl⟩:∃j:Nat,y=(j:Int):=⟨y.toNat,by omega⟩;have hj0:(0:Int)<=(j:Int):=by omega
    obtain ⟨a,c,rfl,-,-⟩:=id HS.out;obtain ⟨b,o,s',z,rfl,d0,d1,-⟩:=HS.out.get (k:=j) (by omega);go_wp2;go_returns;exact ku HB.out
 ·go_wp2;go_returns;exact ku HB.out
end
end
section
set_option maxRecDepth 100000
set_option maxHeartbeats 4000000
open Go.RowKit
structure BY (w W:World) (g:Nat) (nm:ByteArray) (i:Int) (L:List UInt8):Prop where
 own:aV W g L
 len:L.length=64
 slot:W.heap[w.heap.size]? = some (.cells #[.string nm,.int .i64 i] 87 (0,0))
 low:Below w.heap.size w W
 ge:w.heap.size<g
theorem BY.set {w W:World} {g:Nat} {nm:ByteArray} {i:Int} {L:List UInt8} (h:BY w W g nm i L) (k:Nat) (x:UInt8):BY w (W.setCell ⟨g,k,none⟩ (.int .u8 (x.toNat:Int))) g nm i (L.set k x) :=
 ⟨h.own.set k x,by rw [List.length_set];exact h.len,(al k _ (by have:=h.ge;omega)).trans h.slot,h.low.grown (ak (ar _ _) _ _) h.low.size (fun j e=>by have:=Option.some.inj e;have:=h.ge;omega),h.ge⟩
theorem BY.at {w W:World} {g:Nat} {nm:ByteArray} {i:Int} {L:List UInt8} (h:BY w W g nm i L) (k:Nat) (hk:k<64):∃old,W.cell? ⟨g,k,none⟩=some old:=⟨_,h.own.cell k (by rw [h.len];exact hk)⟩
theorem BY.s0 {w W:World} {g:Nat} {nm:ByteArray} {i:Int} {L:List UInt8} (h:BY w W g nm i L):W.cell? ⟨w.heap.size,0,none⟩=some (.string nm):=aa h.slot 0
theorem BY.s1 {w W:World} {g:Nat} {nm:ByteArray} {i:Int} {L:List UInt8} (h:BY w W g nm i L):W.cell? ⟨w.heap.size,1,none⟩=some (.int .i64 i):=aa h.slot 1
theorem jZ (z:Int):∃x:UInt8,IntKind.u8.wrap z=(x.toNat:Int):=⟨UInt8.ofNat (z%256).toNat,by rw [IntKind.wrap_u8,UInt8.toNat_ofNat'];omega⟩
theorem lV (nm:ByteArray) (i:Int) (hs:nm.size<=59) (w:World):Calls Tryz.prog 40 #[.agg #[.string nm,.int .i64 i]] w fun e w'=>∃g,∃l:List UInt8,e = .returned (.slice (some ⟨g,0,none⟩) 64 64)/\w.heap.size<=g/\l.length=64/\aV w' g l/\Below w.heap.size w w':=by
 obtain ⟨wA,hA⟩:∃wA,wA=w.alloc (.cells #[.string nm,.int .i64 i] 87):=⟨_,rfl⟩;have HBA:Hid (Below w.heap.size w wA):=by rw [hA];exact (Below.refl _ w).alloc (Nat.le_refl _) _
 have HXA:Hid (wA.heap[w.heap.size]? = some (.cells #[.string nm,.int .i64 i] 87 (0,0))):=by rw [hA];exact af w _
 have HZA:Hid (wA.heap.size=w.heap.size+1):=by rw [hA];exact World.size_alloc _ _
 go_enter Tryz.func40,Tryz.ntmps40
 go_wp2_with (rw [<- hA];refine gY rfl _ _ rfl 64 64 rfl rfl rfl (by omega) ?_;intro w1 hb1 ho1 hz1;refine Hid.out ?_)
 clear hA;have HX1:=hid (ah hb1 HXA.out (ae HXA.out));have HB1:=hid (HBA.out.trans (hb1.mono HBA.out.size));have ho:aV w1 wA.heap.size (zN 64):=by unfold aV;rw [ho1,eX]
 obtain ⟨Z,hZ⟩:∃Z,Z=zN 64:=⟨_,rfl⟩;rw [<- hZ,HZA.out] at ho;have hZl:Z.length=64:=by rw [hZ,aO]
 have HO1:=hid ho;have HZl:=hid hZl;have HGx:Hid (w.heap.size+1≠w.heap.size/\w.heap.size<=w.heap.size+1):=⟨by omega,by omega⟩;have c1:w1.cell? ⟨w.heap.size,1,none⟩=some (.int .i64 i):=aa HX1.out 1;clear hb1 ho1 hz1 ho HBA HXA HZA hZ hZl;refine hid ?_;generalize w.heap.size+1=g at *;by_cases hi:i=0
 ·have hi0:(i==0)=true:=by rw [hi];rfl
  go_wp2_with fail
  go_ret;exact ⟨g,Z,rfl,HGx.out.2,HZl.out,HO1.out,HB1.out⟩
 ·have hi0:(i==0)=false:=beq_false_of_ne hi
  go_wp2_with fail
  have hbd:=(Below.refl w1.heap.size w1).drew;have hxd:=ah hbd HX1.out (ae HX1.out);have hod:=HO1.out.below hbd;have HBd:=hid (HB1.out.trans (hbd.mono HB1.out.size));have HY0:Hid (BY w w1.drew g nm i Z):=⟨hod,HZl.out,hxd,HBd.out,by have h1:=HGx.out;omega⟩;obtain ⟨x0,hx0⟩:=jZ (i / 16777216);obtain ⟨x1,hx1⟩:=jZ (i / 65536);obtain ⟨x2,hx2⟩:=jZ (i / 256);obtain ⟨x3,hx3⟩:=jZ i;obtain ⟨x4,hx4⟩:=jZ (nm.size:Int);have HXs:=hid (And.intro hx0 (And.intro hx1 (And.intro hx2 (And.intro hx3 hx4))));clear hx0 hx1 hx2 hx3 hx4;refine wp_region_noPanic ?_;refine wp_region_held_drew (S:=fun W=>W.cell? ⟨w.heap.size,0,none⟩=some (.string nm)/\W.cell? ⟨w.heap.size,1,none⟩=some (.int .i64 i)) (by kernel_rfl) ⟨aa hxd 0,aa hxd 1⟩ (fun hHeld => ?_);clear hbd hxd hod HX1 HO1 HB1 c1;generalize w1.drew=wd at *;refine tq 0 _ ?_
  try simp only [tS]
  refine tq 1 _ ?_
  try simp only [tS]
  refine tq 2 _ ?_
  try simp only [tS]
  refine tq 3 _ ?_
  try simp only [tS]
  refine tq 4 _ ?_
  try simp only [tS]
  refine tq 5 _ ?_
  try simp only [tS]
  refine tq 6 _ ?_
  try simp only [tS]
  refine tq 7 _ ?_
  try simp only [tS]
  refine tq 8 _ ?_
  try simp only [tS]
  refine tq 9 _ ?_
  try simp only [tS]
  refine tq 10 _ ?_
  try simp only [tS]
  refine tq 11 _ ?_
  try simp only [tS]
  refine tq 12 _ ?_
  try simp only [tS]
  refine tq 13 _ ?_
  try simp only [tS]
  refine tq 14 _ ?_
  try simp only [tS]
  refine tq 15 _ ?_
  try simp only [tS]
  refine tq 16 _ ?_
  try simp only [tS]
  refine tq 17 _ ?_
  try simp only [tS]
  refine tq 18 _ ?_
  try simp only [tS]
  refine tq 19 _ ?_
  try simp only [tS]
  refine tq 20 _ ?_
  try simp only [tS]
  refine tq 21 _ ?_
  try simp only [tS]
  refine tq 22 _ ?_
  try simp only [tS]
  refine tq 23 _ ?_
  try simp only [tS]
  refine tq 24 _ ?_
  try simp only [tS]
  obtain ⟨hx0,hx1,hx2,hx3,hx4⟩:=HXs.out;rw [hx0,hx1,hx2,hx3,hx4];clear hx0 hx1 hx2 hx3 hx4;obtain ⟨old0,co0⟩:=HY0.out.at 0 (by omega);have fo0:=HY0.out.own.frozen 0;refine tr 25 (fun K hK => ?_);go_simp;have HY1:=hid (HY0.out.set 0 x0);refine hK.out _ _ ⟨HY1.out.s0,HY1.out.s1⟩ (fun hHeld => ?_);clear hK K co0 fo0 HY0;generalize World.setCell _ _ _=wd1 at *
  try simp only [tS]
  refine tq 26 _ ?_
  try simp only [tS]
  obtain ⟨old1,co1⟩:=HY1.out.at 1 (by omega);have fo1:=HY1.out.own.frozen 1;refine tr 27 (fun K hK => ?_);go_simp;have HY2:=hid (HY1.out.set 1 x1);refine hK.out _ _ ⟨HY2.out.s0,HY2.out.s1⟩ (fun hHeld => ?_);clear hK K co1 fo1 HY1;generalize World.setCell _ _ _=wd2 at *
  try simp only [tS]
  refine tq 28 _ ?_
  try simp only [tS]
  obtain ⟨old2,co2⟩:=HY2.out.at 2 (by omega);have fo2:=HY2.out.own.frozen 2;refine tr 29 (fun K hK => ?_);go_simp;have HY3:=hid (HY2.out.set 2 x2);refine hK.out _ _ ⟨HY3.out.s0,HY3.out.s1⟩ (fun hHeld => ?_);clear hK K co2 fo2 HY2;generalize World.setCell _ _ _=wd3 at *
  try simp only [tS]
  refine tq 30 _ ?_
  try simp only [tS]
  obtain ⟨old3,co3⟩:=HY3.out.at 3 (by omega);have fo3:=HY3.out.own.frozen 3;refine tr 31 (fun K hK => ?_);go_simp;have HY4:=hid (HY3.out.set 3 x3);refine hK.out _ _ ⟨HY4.out.s0,HY4.out.s1⟩ (fun hHeld => ?_);clear hK K co3 fo3 HY3;generalize World.setCell _ _ _=wd4 at *
  try simp only [tS]
  refine tq 32 _ ?_
  try simp only [tS]
  obtain ⟨old4,co4⟩:=HY4.out.at 4 (by omega);have fo4:=HY4.out.own.frozen 4;refine tr 33 (fun K hK => ?_);go_simp;have HY5:=hid (HY4.out.set 4 x4);refine hK.out _ _ ⟨HY5.out.s0,HY5.out.s1⟩ (fun hHeld => ?_);clear hK K co4 fo4 HY4;generalize World.setCell _ _ _=wd5 at *
  try simp only [tS]
  refine wpAnyH_done (by kernel_rfl) ?_ _;refine NoPanic.normal ?_;clear hHeld;have HL:=hid (show ∃L,BY w wd5 g nm i L from ⟨_,HY5.out⟩);clear HY5 HXs HGx HZl;go_wp2
  go_loopw [4] (fun kv wr=>∃k:Nat,k<=nm.size/\kv = .int .i64 k/\Hid (∃L,BY w wr g nm i L)) (fun kv _=>nm.size-(intOf kv).toNat)
  case atStart=>exact ⟨0,by omega,rfl,HL⟩
  case round =>
   obtain ⟨k,hk,rfl,HB⟩:=hrel;clear HL;obtain ⟨L,hB⟩:=HB.out;have s0:=hB.s0;by_cases hlt:k<nm.size
   ·have hi0:(0:Int)<=(k:Int):=by omega
    have hi1:(k:Int)<(nm.size:Int):=by omega
    have hi2:5+(k:Int)<64:=by omega
    have hix:=lE nm k wr hlt;obtain ⟨x,hx⟩:∃x:UInt8,x=nm.data.toList.getD k 0:=⟨_,rfl⟩;rw [<- hx] at hix;obtain ⟨old,co⟩:=hB.at (5+k) (by omega);have fo:=hB.own.frozen (5+k);have HN:Hid (∃L,BY w (wr.setCell ⟨g,5+k,none⟩ (.int .u8 (x.toNat:Int))) g nm i L):=⟨_,hB.set (5+k) x⟩;clear hB HB hx;go_wp2;exact ⟨⟨k+1,by omega,by go_num,HN⟩,by simp [intOf];omega⟩
   ·have hge:¬(k:Int)<(nm.size:Int):=by omega
    clear HB;have HB:=hid hB;clear hB;go_wp2;go_ret
    first
     | exact ⟨g,rfl,Nat.le_of_lt HB.out.ge,L,HB.out.len,HB.out.own,HB.out.low⟩
     | exact ⟨g,rfl,Nat.le_of_lt HB.out.ge,⟨L,HB.out.len,HB.out.own⟩,HB.out.low⟩
end
section
open Go.RowKit
theorem aY {w:World} {ops:Array Oper} {rest:List Oper} {o:Oper} {a:Act} {Q:Exit->Act->World->Prop} {t e:TypeId} {i0:TypeInfo} {z:Value} {bb:Nat} (ht:Tryz.prog.underlying t=some (.slice e)) (hi:Tryz.prog.info? e=some i0) (hz0:i0.zero=some z) (hz1:i0.size=1) (hz2:i0.bytes=bb) (hzc:z.cells.size=1) (hbb:bb<=16)
  (hgd:o.guard=none) (s x:Operand) (ho:o.op = .call { callee := .builtin .append,args:=#[s,x],argTypes:=#[t,t] }) (base:Nat) (v:Value) (n:Nat) (xs:List Value) (hs:a.eval s=v) (hown:w.ownsRow base e 1 v n xs)
  (sa:Option Addr) (m c:Nat) (news:List Value) (hx:a.eval x = .slice sa m c) (hl:news.length=m*1) (hc:0<m->∃ad,sa=some ad/\∀j u,news[j]? = some u->w.cell? (ad.add j)=some u) (h1:∀u∈news,u.oneCell'=true)
  (hn:n+m<=200000) (hbase:base<=w.heap.size)
  (h:∀v' w',w'.ownsRow base e 1 v' (n+m) (xs ++ news)->w.grownBy w' v.ownBlock->(v'.ownBlock=v.ownBlock\/v'.ownBlock=some w.heap.size)->wpList Tryz.prog ops Q rest (a.put o.dst v') w'):wpList Tryz.prog ops Q (o :: rest) a w:=by
 rcases Nat.eq_zero_or_pos m with rfl | hpos
 ·obtain rfl:news=[]:=List.eq_nil_of_length_eq_zero (by simpa using hl);rw [List.append_nil,Nat.add_zero] at h;have hrun:(Builtin.append_ #[t,t] o.type #[v,.slice sa 0 c]).run Tryz.prog w = .ok v w:=by
   rcases hown.2 with ⟨rfl,-⟩ | ⟨g,cap,cur,rfl,-,-,hle,-⟩
   ·exact gm t o.type e i0 ht hi sa c
   ·exact gX t o.type e i0 ht hi _ n cap hle sa c
  refine wpList_plain hgd fun K hK => ?_;unfold Oper.wp;simp [execOp,ho,resolve,invoke,builtin,hs,hx,hrun,Result.andThen];exact hK _ _ (h v w hown (ar _ _) (.inl rfl))
 ·obtain ⟨ad,rfl,hcell⟩:=hc hpos;have hmul:(n+m)*bb<=140737488355328:=Nat.le_trans (Nat.mul_le_mul hn hbb) (by omega);refine wpList_append_lies _ hgd s x t ho base e i0 z 1 bb ht hi hz0 hz1 hz2 hzc (by omega) v n xs hs hown ad m c news hx hl hcell h1 hpos (by unfold maxLen;omega) hmul hbase w.heap.size rfl ?_;intro g cap w1 hown1 hgr hat _;refine h _ w1 hown1 hgr ?_;rcases hat with e | e
  ·exact .inl e.symm
  ·exact .inr (by rw [e];rfl)
end
end Go.Proofs.YtpiieilffkickaaGreatDoor
