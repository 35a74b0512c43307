/- Several of my texts in one: R6Size, R6Writ, R7Add, R7List, R6Ops, R7Drop, L7Do, L7DoW, DTextArg, D7Deeds, D7Walk, DApartW, DFindP, DFindsW. -/
import Derived.Test.YtpiieilffkickaaGreatDoorJoined7
import Derived.Test.YtpiieilffkickaaGreatDoorJoined6
import Derived.Test.YtpiieilffkickaaGreatDoorJoined1
import Derived.SliceStrings
set_option maxRecDepth 100000
set_option maxHeartbeats 2000000
namespace Go.Proofs.YtpiieilffkickaaGreatDoor
section
open Go.RowKit
section
variable {w w':World} {F:Nat->Prop} {r m:Nat}
theorem sN (s:Nat) (hs:s<=1000000) (w:World):Calls Tryz.prog 153 #[.int .i64 s] w fun e w'=>e = .returned (.int .i64 (fillN s:Nat))/\w'=w:=by
 have h1:IntKind.i64.wrap ((s:Int)+511)=(s:Int)+511:=IntWalk.i64_in _ (by omega);go_enter Tryz.func153,Tryz.ntmps153
 go_wp2_with fail
 go_ret;refine ⟨?_,rfl⟩;have:((s:Int)+511) / 512=((fillN s:Nat):Int):=by unfold fillN;omega
 simp [this]
theorem bi {base n:Nat} {e:TypeId} {v:Value} {xs:List Value} (h:w.ownsRow base e 1 v n xs) (i:Nat) (hi:v.ownBlock=some i):base<=i/\i<w.heap.size:=by
 rcases h.2 with ⟨rfl,-⟩ | ⟨g,cap,cur,rfl,h1,h2,-⟩
 ·cases hi
 ·cases hi;exact ⟨h1,ae h2⟩
theorem a7.cell0 (h:a7 w F r m):w.cell? ⟨r,0,none⟩=some (.pointer (some ⟨m,0,none⟩)):=by
 obtain ⟨lb,lc,km,kb,kc,fl,kl,h1,-⟩:=h.heap;exact aa h1 0
theorem jG (xs:List Int) (x:Int):bP (xs ++ [x])=bP xs ++ bP [x]:=by simp [bP]
def e9:Value->Nat
 | .slice _ n _=>n
 | _=>0
def szF (w:World) (F:Nat->Prop) (pv:Value):Nat->Prop:=fun i=>F i\/i=w.heap.size\/pv.ownBlock=some i
structure SzI (w wr:World) (F:Nat->Prop) (r m:Nat) (k0 m0 l0:Int) (bv dv:Value) (pv:Value) (xs:List Int):Prop where
 ref:a7 wr (szF w F pv) r m
 box:∃ind:Int,wr.heap[w.heap.size]? = some (.cells #[.int .i64 k0,.int .i64 m0,.int .i64 l0,bv,dv,.int .i64 ind] 146 (0,0))
 row:wr.ownsRow (w.heap.size+1) 3 1 pv xs.length (bP xs)
 keep:ac (fun i=>i=m) w wr
theorem pM {W2 W3 W4:World} {k0 m0 l0 ind1:Int} {bv dv:Value} {pa:Option Addr} {pc n2 ds:Nat} {xs:List Int} {pv':Value} (hlt:xs.length<ds) (hds:ds<=138) (hr:a7 W2 (szF w F (.slice pa xs.length pc)) r m)
  (hbx:W2.heap[w.heap.size]? = some (.cells #[.int .i64 k0,.int .i64 m0,.int .i64 l0,bv,dv,.int .i64 ind1] 146 (0,0))) (hrw:W2.ownsRow (w.heap.size+1) 3 1 (.slice pa xs.length pc) xs.length (bP xs)) (hk:ac (fun i=>i=m) w W2)
  (hb3:Below W2.heap.size W2 W3) (hs3:W3.heap.size=W2.heap.size+1) (hown:W4.ownsRow (w.heap.size+1) 3 1 pv' (xs.length+1) (bP (xs ++ [(n2:Int)]))) (hgr:W3.grownBy W4 (Value.slice pa xs.length pc).ownBlock) (hat:pv'.ownBlock=(Value.slice pa xs.length pc).ownBlock\/pv'.ownBlock=some W3.heap.size) :
  (∃(xs':List Int) (pa':Option Addr) (pc':Nat),pv' = .slice pa' xs'.length pc'/\xs'.length<=138/\Hid (SzI w W4 F r m k0 m0 l0 bv dv pv' xs'))/\ds-e9 pv'<ds-e9 (.slice pa xs.length pc):=by
 have hl:(xs ++ [(n2:Int)]).length=xs.length+1:=by simp
 obtain ⟨pa',pc',rfl⟩:∃pa' pc',pv' = .slice pa' (xs.length+1) pc':=by
  rcases hown.2 with ⟨e,h0⟩ | ⟨g,cap,cur,e,-⟩
  ·omega
  ·exact ⟨_,cap,e⟩
 have k34:ac (fun i=>(Value.slice pa xs.length pc).ownBlock=some i) W3 W4:=ac.of_grown hgr (fun i e=>e);have k24:ac (fun i=>(Value.slice pa xs.length pc).ownBlock=some i) W2 W4:=(ac.of_below hb3:ac (fun i=>(Value.slice pa xs.length pc).ownBlock=some i) W2 W3).trans k34 (fun i e => .inl e);have hbi:∀i,(Value.slice pa xs.length pc).ownBlock=some i->w.heap.size+1<=i:=fun i e=>(bi hrw i e).1;refine ⟨⟨xs ++ [(n2:Int)],pa',pc',by rw [hl],by omega,?_⟩,by show ds-(xs.length+1)<ds-xs.length;omega⟩;refine ⟨hr.keep k24 (fun i e => .inr (.inr e)) (fun i e => ?_),⟨ind1,k24.heap hbx (fun e=>by have:=hbi _ e;omega)⟩,by rw [hl];exact hown,hk.trans k24 (fun i e => .inr (by have:=hbi i e;omega))⟩;rcases e with e | e | e
 ·exact .inl (.inl e)
 ·exact .inl (.inr (.inl e))
 ·rcases hat with h1 | h1
  ·exact .inl (.inr (.inr (h1.symm.trans e)))
  ·rw [h1] at e;cases e;exact .inr (by omega)
theorem xt {W2:World} {k0 m0 l0 ind1:Int} {bv dv:Value} {g pc q ds:Nat} {xs:List Int} (hq:q+1=xs.length) (hxl:xs.length<=138) (hgt:ds<xs.length) (hr:a7 W2 (szF w F (.slice (some ⟨g,0,none⟩) xs.length pc)) r m)
  (hbx:W2.heap[w.heap.size]? = some (.cells #[.int .i64 k0,.int .i64 m0,.int .i64 l0,bv,dv,.int .i64 ind1] 146 (0,0))) (hrw:W2.ownsRow (w.heap.size+1) 3 1 (.slice (some ⟨g,0,none⟩) xs.length pc) xs.length (bP xs)) (hk:ac (fun i=>i=m) w W2) :
  (∃(xs':List Int) (pa':Option Addr) (pc':Nat),Value.slice (some ⟨g,0,none⟩) q pc = .slice pa' xs'.length pc'/\xs'.length<=138/\ds<=xs'.length/\Hid (SzI w W2 F r m k0 m0 l0 bv dv (.slice (some ⟨g,0,none⟩) q pc) xs'))/\e9 (.slice (some ⟨g,0,none⟩) q pc)<e9 (.slice (some ⟨g,0,none⟩) xs.length pc):=by
 have hl:(xs.take q).length=q:=by rw [List.length_take];omega
 refine ⟨⟨xs.take q,_,pc,by rw [hl],by omega,by omega,hr,⟨ind1,hbx⟩,?_,hk⟩,by show q<xs.length;omega⟩;rw [hl];rcases hrw.2 with ⟨e,h0⟩ | ⟨g',cap,cur,e,h1,h2,h3,h4,h5,h6⟩
 ·omega
 ·rw [Value.slice.injEq] at e;obtain ⟨e,-,rfl⟩:=e;cases e;refine ⟨by simp [bP];omega,.inr ⟨g,pc,cur,rfl,h1,h2,by omega,h4,h5,?_⟩⟩;have h7:=congrArg (List.take (q*1)) h6;rw [List.take_take,Nat.min_eq_left (by omega)] at h7;rw [h7,bP,bP,List.map_take,Nat.mul_one]
structure BzI (w W:World) (F:Nat->Prop) (r m:Nat) (k0 m0 l0:Int) (bv dv pv:Value) (xs:List Int) (B:Nat) (v:Value) (l:List UInt8):Prop where
 ref:a7 W (fun i=>F i\/i=w.heap.size\/v.ownBlock=some i) r m
 box:∃ind:Int,W.heap[w.heap.size]? = some (.cells #[.int .i64 k0,.int .i64 m0,.int .i64 l0,bv,dv,.int .i64 ind] 146 (0,0))
 row:W.ownsRow (w.heap.size+1) 3 1 pv xs.length (bP xs)
 own:W.ownsRow B 5 1 v l.length (l.map U8)
 keep:ac (fun i=>i=m) w W
 pvB:∀i,pv.ownBlock=some i->i<B
 boxB:w.heap.size<B
 size:B<=W.heap.size
theorem zg {W2 W3 W4:World} {k0 m0 l0:Int} {bv dv pv:Value} {xs:List Int} {B:Nat} {va:Option Addr} {vc:Nat} {l:List UInt8} {v':Value} (h:BzI w W2 F r m k0 m0 l0 bv dv pv xs B (.slice va l.length vc) l)
  (hb3:Below W2.heap.size W2 W3) (hs3:W3.heap.size=W2.heap.size+1) (hown:W4.ownsRow B 5 1 v' (l.length+1) ((l ++ [0]).map U8)) (hgr:W3.grownBy W4 (Value.slice va l.length vc).ownBlock) (hat:v'.ownBlock=(Value.slice va l.length vc).ownBlock\/v'.ownBlock=some W3.heap.size) :
  ∃va' vc',v' = .slice va' (l ++ [(0:UInt8)]).length vc'/\BzI w W4 F r m k0 m0 l0 bv dv pv xs B v' (l ++ [0]):=by
 have hl:(l ++ [(0:UInt8)]).length=l.length+1:=by simp
 obtain ⟨va',vc',rfl⟩:∃va' vc',v' = .slice va' (l.length+1) vc':=by
  rcases hown.2 with ⟨e,h0⟩ | ⟨g,cap,cur,e,-⟩
  ·omega
  ·exact ⟨_,cap,e⟩
 have k34:ac (fun i=>(Value.slice va l.length vc).ownBlock=some i) W3 W4:=ac.of_grown hgr (fun i e=>e);have k24:ac (fun i=>(Value.slice va l.length vc).ownBlock=some i) W2 W4:=(ac.of_below hb3:ac (fun i=>(Value.slice va l.length vc).ownBlock=some i) W2 W3).trans k34 (fun i e => .inl e);have hbi:∀i,(Value.slice va l.length vc).ownBlock=some i->B<=i:=fun i e=>(bi h.own i e).1;have hbb:=h.boxB;have hws:=h.keep.size;obtain ⟨ind,hbx⟩:=h.box;refine ⟨va',vc',by rw [hl],h.ref.keep k24 (fun i e => .inr (.inr e)) (fun i e => ?_),⟨ind,k24.heap hbx (fun e=>by have:=hbi _ e;omega)⟩,k24.row h.row (fun i e=>by have h5:=h.pvB i e;intro e2;have:=hbi i e2;omega),by rw [hl];exact hown,h.keep.trans k24 (fun i e => .inr (by have:=hbi i e;omega)),h.pvB,hbb,Nat.le_trans h.size k24.size⟩;rcases e with e | e | e
 ·exact .inl (.inl e)
 ·exact .inl (.inr (.inl e))
 ·rcases hat with h1 | h1
  ·exact .inl (.inr (.inr (h1.symm.trans e)))
  ·rw [h1] at e;cases e;exact .inr (by omega)
theorem jE (h:a7 w F r m) (hFl:∀i,F i->i<w.heap.size) (j:Nat) (hj:j<16) (s:Nat) (hs:s<=70656):Calls Tryz.prog 88 #[.pointer (some ⟨r,0,none⟩),.int .i64 j,.int .i64 s] w fun e w'=>dx w F r m w'/\((∃b:Bool,b=false/\e = .returned (.bool b))\/(e = .returned (.bool true)/\ac (fun i=>i=r\/i=m) w w'/\a7 w' F r m/\∃g cp f,w'.cell? ⟨r,1,none⟩=some (.slice (some ⟨g,0,none⟩) 16 cp)/\w'.rangeAt g (j*6) (RF.cells f)/\f.ok w' (zOf F r m)/\f.b.length=s)):=by
 obtain ⟨lb,lc,km,kb,kc,fl,kl,h1,h2,-⟩:=h.heap;have c1:w.cell? ⟨r,1,none⟩=some (.slice (some ⟨lb,0,none⟩) 16 lc):=aa h1 1;obtain ⟨k0,m0,l0,b0,ba,bc,d0,da,dc,ind,x0,x1,x2,x3,x4,x5,hok⟩:=h2.six j hj;have HFl:=hid hFl;have HR:=hid h;have HOk:=hid hok;obtain ⟨i0,hi0,hz0,hz1,hz2⟩:=info_parts yE;have HII:=hid hi0;obtain ⟨w1,hw1⟩:∃w1,w1=w.alloc (.cells #[.int .i64 k0,.int .i64 m0,.int .i64 l0,.slice ba b0.length bc,.slice da d0.length dc,.int .i64 ind] 146):=⟨_,rfl⟩;have HB1:Hid (Below w.heap.size w w1):=by rw [hw1];exact (Below.refl _ w).alloc (Nat.le_refl _) _
 have HX1:Hid (w1.heap[w.heap.size]? = some (.cells #[.int .i64 k0,.int .i64 m0,.int .i64 l0,.slice ba b0.length bc,.slice da d0.length dc,.int .i64 ind] 146 (0,0))):=by rw [hw1];exact af w _
 have HS1:Hid (w1.heap.size=w.heap.size+1):=by rw [hw1];exact World.size_alloc _ _
 have HW1:=hid hw1;have HD1:Hid (0<d0.length->∃ad,da=some ad/\∀j u,(bP d0)[j]? = some u->w1.cell? (ad.add j)=some u):=fun hp=>by
  obtain ⟨b,o,e,hc⟩:=hok.data 0 hp;refine ⟨⟨b,o,none⟩,e,fun t u hu => ?_⟩;have ht:t<d0.length:=by have:=(List.getElem?_eq_some_iff.1 hu).1;simpa [bP] using this
  have h5:=hc t ht;rw [Addr.add_mid,HB1.out.cell (World.block_lt_of_cell? w _ h5),h5];rw [bP,List.getElem?_map,List.getElem?_eq_getElem ht] at hu;exact hu
 have hdl:d0.length<=138:=hok.dl;clear h h1 h2 hFl hok hi0 hw1;go_enter Tryz.func88,Tryz.ntmps88
 go_wp2_with (rw [<- HW1.out];refine aY Tryz.underlying102 HII.out hz0 hz1 hz2 rfl (by omega) rfl (.tmp 21) (.tmp 23) rfl (w.heap.size+1) (.slice none 0 0) 0 [] rfl (World.ownsRow_nil _ _ _ _) da d0.length dc (bP d0) rfl (by simp [bP]) HD1.out (fun u hu=>by obtain ⟨n,rfl⟩:=jc u hu;rfl) (by omega) (by rw [HS1.out];exact Nat.le_refl _) ?_;intro pv w2 hown hgr hat;rw [Nat.zero_add,List.nil_append] at hown)
 have hb12:Below w1.heap.size w1 w2:=⟨hgr.os,hgr.tape,hgr.output,hgr.size,fun k hk=>hgr.block k hk (by simp [Value.ownBlock])⟩;have hb02:=HB1.out.trans (hb12.mono HB1.out.size);obtain ⟨pa,pc,hpv⟩:∃pa pc,pv = .slice pa d0.length pc:=by
  rcases hown.2 with ⟨e,h0⟩ | ⟨g,cap,cur,e,-⟩
  ·exact ⟨none,0,by rw [e,h0]⟩
  ·exact ⟨_,cap,e⟩
 have HSt:Hid (SzI w w2 F r m k0 m0 l0 (.slice ba b0.length bc) (.slice da d0.length dc) pv d0):=⟨HR.out.keep (ac.of_below hb02:ac (fun _=>False) w w2) (fun _ e=>e.elim) (fun i e=>by rcases e with e | e | e;exact .inl e;exact .inr (by omega);exact .inr (by have:=(bi hown i e).1;omega)),⟨ind,ah hb12 HX1.out (ae HX1.out)⟩,hown,ac.of_below hb02⟩;subst hpv;have HDt:=hid (fun W=>sN s (by omega) W);have HML:Hid (m<w.heap.size):=HR.out.lt.2;have hds:fillN s<=138:=by unfold fillN;omega
 generalize fillN s=ds at *;clear hown hgr hat hb12 hb02 c1 x0 x1 x2 x3 x4 x5 HX1 HD1 HW1 HS1 HB1
 go_loopw [8] (fun v wr=>∃(xs:List Int) (pa:Option Addr) (pc:Nat),v = .slice pa xs.length pc/\xs.length<=138/\Hid (SzI w wr F r m k0 m0 l0 (.slice ba b0.length bc) (.slice da d0.length dc) v xs)) (fun v _=>ds-e9 v)
 case atStart=>exact ⟨d0,pa,pc,rfl,hdl,HSt⟩
 case round =>
  obtain ⟨xs,pa,pc,rfl,hxl,HI⟩:=hrel;clear HSt;by_cases hlt:xs.length<ds
  ·have hlt':(xs.length:Int)<(ds:Int):=by omega
   obtain ⟨ind1,hbx⟩:=HI.out.box;have HRf:=hid HI.out.ref;have HRw:=hid HI.out.row;have HKp:=hid HI.out.keep;have HBx:=hid hbx;have y5:wr.cell? ⟨w.heap.size,5,none⟩=some (.int .i64 ind1):=aa hbx 5;clear HI hbx;by_cases h10:xs.length=10
   ·have hq10:((xs.length:Int)==10)=true:=by rw [h10];rfl
    clear h10;by_cases hi0:ind1=0
    ·go_wp2_with fail
     refine (HDt.out wr).mono ?_;rintro e W0 ⟨rfl,h3⟩;obtain rfl:=h3.symm;clear h3;have hsz:∀i,szF w F (.slice pa xs.length pc) i->i<wr.heap.size:=fun i hi=>by
      rcases hi with hi | hi | hi
      ·exact Nat.lt_of_lt_of_le (HFl.out i hi) HKp.out.size
      ·rw [hi];exact ae HBx.out
      ·exact (bi HRw.out i hi).2
     have HPg:=hid (jY HRf.out hsz);have cr:wr.cell? ⟨r,0,none⟩=some (.pointer (some ⟨m,0,none⟩)):=HRf.out.cell0;clear hsz
     go_wp2_with fail
     refine HPg.out.mono ?_;clear HPg;rintro e W1 ⟨hk2,hr2,rfl | ⟨n1,rfl⟩⟩
     ·have HK2:=hid (HKp.out.trans hk2 (fun i e => .inl e));have HR2:=hid (hr2.keep (ac.refl (fun _=>False) W1) (fun _ e=>e.elim) (F':=F) (fun i e => .inl (.inl e)));clear hk2 hr2 cr
      go_wp2_with fail
      go_ret;exact ⟨⟨HK2.out.mono (fun i e => .inr e),m,.inl rfl,HR2.out⟩,.inl ⟨false,rfl,rfl⟩⟩
     ·have HK2:=hid (HKp.out.trans hk2 (fun i e => .inl e));have HR2:=hid hr2;have HRw2:=hid (hk2.row HRw.out (fun i e=>by have h5:=bi HRw.out i e;have h7:=HML.out;intro e2;have e2':i=m:=e2;omega));have HBx2:=hid (hk2.heap HBx.out (fun e=>by have e':w.heap.size=m:=e;have h7:=HML.out;omega));clear hk2 hr2 cr HRf HRw HKp HBx;have z5:W1.cell? ⟨w.heap.size,5,none⟩=some (.int .i64 ind1):=aa HBx2.out 5;have g5:W1.frozen? ⟨w.heap.size,5,none⟩=false:=ai HBx2.out 5;obtain ⟨W5,hW5⟩:∃W5,W5=W1.setCell ⟨w.heap.size,5,none⟩ (.int .i64 (n1:Int)):=⟨_,rfl⟩;have k5:ac (fun i=>i=w.heap.size) W1 W5:=by rw [hW5];exact (ac.refl _ W1).grown (ak (ar _ _) _ _) (fun i e => .inl (Option.some.inj e).symm)
      have HBx:Hid (W5.heap[w.heap.size]? = some (.cells #[.int .i64 k0,.int .i64 m0,.int .i64 l0,.slice ba b0.length bc,.slice da d0.length dc,.int .i64 (n1:Int)] 146 (0,0))):=by rw [hW5];exact ap HBx2.out 5 _
      have HRf:=hid (HR2.out.keep k5 (fun i e => .inr (.inl e)) (fun i e => .inl e));have HRw:=hid (k5.row HRw2.out (fun i e=>by have h5:=(bi HRw2.out i e).1;intro e2;have e2':i=w.heap.size:=e2;omega));have HKp:=hid (HK2.out.trans k5 (fun i e => .inr (by have e':i=w.heap.size:=e;omega)));have HW5:=hid hW5;clear k5 hW5 HR2 HRw2 HK2 HBx2 y5;have hsz:∀i,szF w F (.slice pa xs.length pc) i->i<W5.heap.size:=fun i hi=>by
       rcases hi with hi | hi | hi
       ·exact Nat.lt_of_lt_of_le (HFl.out i hi) HKp.out.size
       ·rw [hi];exact ae HBx.out
       ·exact (bi HRw.out i hi).2
      have HPg:=hid (jY HRf.out hsz);have cr:(W1.setCell ⟨w.heap.size,5,none⟩ (.int .i64 (n1:Int))).cell? ⟨r,0,none⟩=some (.pointer (some ⟨m,0,none⟩)):=by rw [<- HW5.out];exact HRf.out.cell0
      clear hsz
      go_wp2_with fail
      rw [<- HW5.out];refine HPg.out.mono ?_;clear HPg;rintro e W2 ⟨hk2,hr2,rfl | ⟨n2,rfl⟩⟩
      ·have HK2:=hid (HKp.out.trans hk2 (fun i e => .inl e));have HR2:=hid (hr2.keep (ac.refl (fun _=>False) W2) (fun _ e=>e.elim) (F':=F) (fun i e => .inl (.inl e)));clear hk2 hr2 cr
       go_wp2_with fail
       go_ret;exact ⟨⟨HK2.out.mono (fun i e => .inr e),m,.inl rfl,HR2.out⟩,.inl ⟨false,rfl,rfl⟩⟩
      ·have HK2:=hid (HKp.out.trans hk2 (fun i e => .inl e));have HR2:=hid hr2;have HRw2:=hid (hk2.row HRw.out (fun i e=>by have h5:=bi HRw.out i e;have h7:=HML.out;intro e2;have e2':i=m:=e2;omega));have HBx2:=hid (hk2.heap HBx.out (fun e=>by have e':w.heap.size=m:=e;have h7:=HML.out;omega));clear hk2 hr2 cr HRf HRw HKp HBx;obtain ⟨W3,hW3⟩:∃W3,W3=W2.alloc (.cells #[.int .i64 (n2:Int)] 3):=⟨_,rfl⟩;have hb3:Below W2.heap.size W2 W3:=by rw [hW3];exact (Below.refl _ W2).alloc (Nat.le_refl _) _
       have hc3:W3.cell? ⟨W2.heap.size,0,none⟩=some (.int .i64 (n2:Int)):=by rw [hW3];exact aa (af W2 _) 0
       have hs3:W3.heap.size=W2.heap.size+1:=by rw [hW3];exact World.size_alloc _ _
       have HRw3:=hid ((ac.of_below hb3:ac (fun _=>False) W2 W3).row HRw2.out (fun _ _ e=>e));have HW3:=hid hW3;have HB3:=hid hb3;have HC3:=hid hc3;have HS3:=hid hs3;clear hW3 hb3 hc3 hs3
       go_wp2_with (rw [<- HW3.out];refine aY Tryz.underlying102 HII.out hz0 hz1 hz2 rfl (by omega) rfl (.tmp 60) (.tmp 62) rfl (w.heap.size+1) (.slice pa xs.length pc) xs.length (bP xs) rfl HRw3.out (some ⟨W2.heap.size,0,none⟩) 1 1 (bP [(n2:Int)]) rfl rfl (fun _=>⟨_,rfl,fun t u hu=>by obtain ⟨ht,e⟩:=List.getElem?_eq_some_iff.1 hu;have ht':t=0:=(by simp [bP] at ht;omega);subst ht';rw [<- e];exact HC3.out⟩) (fun u hu=>by obtain ⟨n,rfl⟩:=jc u hu;rfl) (by omega) (by have h1:=ae HBx2.out;have h2:=HS3.out;omega) ?_;intro pv' W4 hown4 hgr4 hat4;rw [<- jG] at hown4)
       exact pM hlt hds HR2.out HBx2.out HRw2.out HK2.out HB3.out HS3.out hown4 hgr4 hat4
    ·go_wp2_with fail
     refine (HDt.out wr).mono ?_;rintro e W0 ⟨rfl,h3⟩;obtain rfl:=h3.symm;clear h3;have hsz:∀i,szF w F (.slice pa xs.length pc) i->i<wr.heap.size:=fun i hi=>by
      rcases hi with hi | hi | hi
      ·exact Nat.lt_of_lt_of_le (HFl.out i hi) HKp.out.size
      ·rw [hi];exact ae HBx.out
      ·exact (bi HRw.out i hi).2
     have HPg:=hid (jY HRf.out hsz);have cr:wr.cell? ⟨r,0,none⟩=some (.pointer (some ⟨m,0,none⟩)):=HRf.out.cell0;clear hsz
     go_wp2_with fail
     refine HPg.out.mono ?_;clear HPg;rintro e W2 ⟨hk2,hr2,rfl | ⟨n2,rfl⟩⟩
     ·have HK2:=hid (HKp.out.trans hk2 (fun i e => .inl e));have HR2:=hid (hr2.keep (ac.refl (fun _=>False) W2) (fun _ e=>e.elim) (F':=F) (fun i e => .inl (.inl e)));clear hk2 hr2 cr
      go_wp2_with fail
      go_ret;exact ⟨⟨HK2.out.mono (fun i e => .inr e),m,.inl rfl,HR2.out⟩,.inl ⟨false,rfl,rfl⟩⟩
     ·have HK2:=hid (HKp.out.trans hk2 (fun i e => .inl e));have HR2:=hid hr2;have HRw2:=hid (hk2.row HRw.out (fun i e=>by have h5:=bi HRw.out i e;have h7:=HML.out;intro e2;have e2':i=m:=e2;omega));have HBx2:=hid (hk2.heap HBx.out (fun e=>by have e':w.heap.size=m:=e;have h7:=HML.out;omega));clear hk2 hr2 cr HRf HRw HKp HBx;clear y5;obtain ⟨W3,hW3⟩:∃W3,W3=W2.alloc (.cells #[.int .i64 (n2:Int)] 3):=⟨_,rfl⟩;have hb3:Below W2.heap.size W2 W3:=by rw [hW3];exact (Below.refl _ W2).alloc (Nat.le_refl _) _
      have hc3:W3.cell? ⟨W2.heap.size,0,none⟩=some (.int .i64 (n2:Int)):=by rw [hW3];exact aa (af W2 _) 0
      have hs3:W3.heap.size=W2.heap.size+1:=by rw [hW3];exact World.size_alloc _ _
      have HRw3:=hid ((ac.of_below hb3:ac (fun _=>False) W2 W3).row HRw2.out (fun _ _ e=>e));have HW3:=hid hW3;have HB3:=hid hb3;have HC3:=hid hc3;have HS3:=hid hs3;clear hW3 hb3 hc3 hs3
      go_wp2_with (rw [<- HW3.out];refine aY Tryz.underlying102 HII.out hz0 hz1 hz2 rfl (by omega) rfl (.tmp 60) (.tmp 62) rfl (w.heap.size+1) (.slice pa xs.length pc) xs.length (bP xs) rfl HRw3.out (some ⟨W2.heap.size,0,none⟩) 1 1 (bP [(n2:Int)]) rfl rfl (fun _=>⟨_,rfl,fun t u hu=>by obtain ⟨ht,e⟩:=List.getElem?_eq_some_iff.1 hu;have ht':t=0:=(by simp [bP] at ht;omega);subst ht';rw [<- e];exact HC3.out⟩) (fun u hu=>by obtain ⟨n,rfl⟩:=jc u hu;rfl) (by omega) (by have h1:=ae HBx2.out;have h2:=HS3.out;omega) ?_;intro pv' W4 hown4 hgr4 hat4;rw [<- jG] at hown4)
      exact pM hlt hds HR2.out HBx2.out HRw2.out HK2.out HB3.out HS3.out hown4 hgr4 hat4
   ·have h10':¬(xs.length:Int)=10:=by omega
    go_wp2_with fail
    refine (HDt.out wr).mono ?_;rintro e W0 ⟨rfl,h3⟩;obtain rfl:=h3.symm;clear h3 y5;have hsz:∀i,szF w F (.slice pa xs.length pc) i->i<wr.heap.size:=fun i hi=>by
     rcases hi with hi | hi | hi
     ·exact Nat.lt_of_lt_of_le (HFl.out i hi) HKp.out.size
     ·rw [hi];exact ae HBx.out
     ·exact (bi HRw.out i hi).2
    have HPg:=hid (jY HRf.out hsz);have cr:wr.cell? ⟨r,0,none⟩=some (.pointer (some ⟨m,0,none⟩)):=HRf.out.cell0;clear hsz
    go_wp2_with fail
    refine HPg.out.mono ?_;clear HPg;rintro e W2 ⟨hk2,hr2,rfl | ⟨n2,rfl⟩⟩
    ·have HK2:=hid (HKp.out.trans hk2 (fun i e => .inl e));have HR2:=hid (hr2.keep (ac.refl (fun _=>False) W2) (fun _ e=>e.elim) (F':=F) (fun i e => .inl (.inl e)));clear hk2 hr2 cr
     go_wp2_with fail
     go_ret;exact ⟨⟨HK2.out.mono (fun i e => .inr e),m,.inl rfl,HR2.out⟩,.inl ⟨false,rfl,rfl⟩⟩
    ·have HK2:=hid (HKp.out.trans hk2 (fun i e => .inl e));have HR2:=hid hr2;have HRw2:=hid (hk2.row HRw.out (fun i e=>by have h5:=bi HRw.out i e;have h7:=HML.out;intro e2;have e2':i=m:=e2;omega));have HBx2:=hid (hk2.heap HBx.out (fun e=>by have e':w.heap.size=m:=e;have h7:=HML.out;omega));clear hk2 hr2 cr HRf HRw HKp HBx;obtain ⟨W3,hW3⟩:∃W3,W3=W2.alloc (.cells #[.int .i64 (n2:Int)] 3):=⟨_,rfl⟩;have hb3:Below W2.heap.size W2 W3:=by rw [hW3];exact (Below.refl _ W2).alloc (Nat.le_refl _) _
     have hc3:W3.cell? ⟨W2.heap.size,0,none⟩=some (.int .i64 (n2:Int)):=by rw [hW3];exact aa (af W2 _) 0
     have hs3:W3.heap.size=W2.heap.size+1:=by rw [hW3];exact World.size_alloc _ _
     have HRw3:=hid ((ac.of_below hb3:ac (fun _=>False) W2 W3).row HRw2.out (fun _ _ e=>e));have HW3:=hid hW3;have HB3:=hid hb3;have HC3:=hid hc3;have HS3:=hid hs3;clear hW3 hb3 hc3 hs3
     go_wp2_with (rw [<- HW3.out];refine aY Tryz.underlying102 HII.out hz0 hz1 hz2 rfl (by omega) rfl (.tmp 60) (.tmp 62) rfl (w.heap.size+1) (.slice pa xs.length pc) xs.length (bP xs) rfl HRw3.out (some ⟨W2.heap.size,0,none⟩) 1 1 (bP [(n2:Int)]) rfl rfl (fun _=>⟨_,rfl,fun t u hu=>by obtain ⟨ht,e⟩:=List.getElem?_eq_some_iff.1 hu;have ht':t=0:=(by simp [bP] at ht;omega);subst ht';rw [<- e];exact HC3.out⟩) (fun u hu=>by obtain ⟨n,rfl⟩:=jc u hu;rfl) (by omega) (by have h1:=ae HBx2.out;have h2:=HS3.out;omega) ?_;intro pv' W4 hown4 hgr4 hat4;rw [<- jG] at hown4)
     exact pM hlt hds HR2.out HBx2.out HRw2.out HK2.out HB3.out HS3.out hown4 hgr4 hat4
  ·have hge:¬(xs.length:Int)<(ds:Int):=by omega
   go_wp2_with fail
   refine (HDt.out wr).mono ?_;rintro e W0 ⟨rfl,h3⟩;obtain rfl:=h3.symm;clear h3
   go_wp2_with fail
   have HSt:=hid HI.out;have hdx0:ds<=xs.length:=by omega
   clear HI hlt hge
   go_loopw [8] (fun v wr=>∃(xs:List Int) (pa:Option Addr) (pc:Nat),v = .slice pa xs.length pc/\xs.length<=138/\ds<=xs.length/\Hid (SzI w wr F r m k0 m0 l0 (.slice ba b0.length bc) (.slice da d0.length dc) v xs)) (fun v _=>e9 v)
   case atStart=>exact ⟨xs,pa,pc,rfl,hxl,hdx0,HSt⟩
   case round =>
    obtain ⟨xs,pa,pc,rfl,hxl,hdx,HI⟩:=hrel;clear HSt;by_cases hgt:ds<xs.length
    ·have hgt':(ds:Int)<(xs.length:Int):=by omega
     obtain ⟨ind1,hbx⟩:=HI.out.box;have HRf:=hid HI.out.ref;have HRw:=hid HI.out.row;have HKp:=hid HI.out.keep;have HBx:=hid hbx;clear hbx;obtain ⟨q,hq⟩:∃q,q+1=xs.length:=⟨xs.length-1,by omega⟩;obtain ⟨g,z,hpa,hcl⟩:∃g z,pa=some ⟨g,0,none⟩/\wr.cell? ⟨g,q,none⟩=some (.int .i64 z):=by
      rcases HRw.out.2 with ⟨e,h0⟩ | ⟨g,cap,cur,e,-⟩
      ·omega
      ·rw [Value.slice.injEq] at e;obtain ⟨rfl,-,rfl⟩:=e;refine ⟨g,xs[q]'(by omega),rfl,?_⟩;rw [HRw.out.cellAt _ (by omega),bP,List.getElem?_map,List.getElem?_eq_getElem (by omega)];rfl
     subst hpa;have hqw:IntKind.i64.wrap ((xs.length:Int)-1)=(q:Int):=by rw [IntWalk.i64_in _ (by omega)];omega
     have hql:q<xs.length:=by omega
     have hql':(q:Int)<(xs.length:Int):=by omega
     have HQ:=hid hq;clear HI hq
     go_wp2_with fail
     refine (HDt.out wr).mono ?_;rintro e W0 ⟨rfl,h3⟩;obtain rfl:=h3.symm;clear h3;have hsz:∀i,szF w F (.slice (some ⟨g,0,none⟩) xs.length pc) i->i<wr.heap.size:=fun i hi=>by
      rcases hi with hi | hi | hi
      ·exact Nat.lt_of_lt_of_le (HFl.out i hi) HKp.out.size
      ·rw [hi];exact ae HBx.out
      ·exact (bi HRw.out i hi).2
     have hbd:Below wr.heap.size wr wr.drew:=(Below.refl _ wr).drew;have HGv:=hid (kG (HRf.out.below hbd) (fun i hi=>Nat.lt_of_lt_of_le (hsz i hi) hbd.size) z);have cr:=(HRf.out.below hbd).cell0;have hcd:=(hbd.cell (World.block_lt_of_cell? wr _ hcl)).trans hcl;have HBd:=hid hbd;have HSz:=hid hsz;clear hsz hbd hcl
     go_wp2_with fail
     refine wp_region_noPanic ?_;refine wp_region_held_drew (S:=fun W=>W.cell? ⟨r,0,none⟩=some (.pointer (some ⟨m,0,none⟩))/\W.cell? ⟨g,q,none⟩=some (.int .i64 z)) (by kernel_rfl) ⟨cr,hcd⟩ (fun hHeld => ?_);generalize wr.drew=wd at *;refine tq 0 _ ?_
     try simp only [tS]
     refine tq 1 _ ?_
     try simp only [tS]
     refine tq 2 _ ?_
     try simp only [tS]
     refine tq 3 _ ?_
     try simp only [tS]
     refine tq 4 _ ?_
     try simp only [tS]
     refine tq 5 _ ?_
     try simp only [tS]
     refine tq 6 _ ?_
     try simp only [tS]
     refine tq 7 (.int .i64 (q:Int)) ?_
     try simp only [tS]
     refine tq 8 _ ?_
     try simp only [tS]
     refine tq 9 _ ?_
     try simp only [tS]
     refine tr 10 (fun K hK => ?_);go_simp;refine HGv.out.mono ?_;clear HGv;rintro e W2 ⟨hk2,hr2,c2,rfl⟩;have HK2:=hid ((HKp.out.trans (ac.of_below HBd.out:ac (fun _=>False) wr wd) (fun _ e=>e.elim)).trans hk2 (fun i e => .inl e));have hgm:g≠m:=fun e=>by have h5:=(bi HRw.out g rfl).1;have h7:=HML.out;omega
     have e0:=hr2.cell0;have e1:=hk2.cell hcd (fun e=>hgm e);have HR2:=hid hr2;have HRw2:=hid (hk2.row ((ac.of_below HBd.out:ac (fun _=>False) wr wd).row HRw.out (fun _ _ e=>e)) (fun i e=>by have h5:=bi HRw.out i e;have h7:=HML.out;intro e2;have e2':i=m:=e2;omega));have HBx2:=hid (hk2.heap (ah HBd.out HBx.out (ae HBx.out)) (fun e=>by have e':w.heap.size=m:=e;have h7:=HML.out;omega));clear hk2 hr2 hgm cr hcd
     go_wp2_with fail
     refine hK.out _ _ ⟨e0,e1⟩ (fun hHeld => ?_);clear hK K
     try simp only [tS]
     refine wpAnyH_done (by kernel_rfl) ?_ _;refine NoPanic.normal ?_;clear hHeld e1;have hpc:xs.length<=pc:=by
      rcases HRw2.out.2 with ⟨e,h0⟩ | ⟨g',cap,cur,e,-,-,hle,-⟩
      ·omega
      ·rw [Value.slice.injEq] at e;obtain ⟨-,-,rfl⟩:=e;exact hle
     have hqc:q<=pc:=by omega
     have hqc':(q:Int)<=(pc:Int):=by omega
     have hq0':(0:Int)<=(q:Int):=by omega
     by_cases h10:q=10
     ·have hq10:((q:Int)==10)=true:=by rw [h10];rfl
      clear h10;have y5:W2.cell? ⟨w.heap.size,5,none⟩=some (.int .i64 ind1):=aa HBx2.out 5;have hsz2:∀i,szF w F (.slice (some ⟨g,0,none⟩) xs.length pc) i->i<W2.heap.size:=fun i hi=>by
       rcases hi with hi | hi | hi
       ·exact Nat.lt_of_lt_of_le (HFl.out i hi) HK2.out.size
       ·rw [hi];exact ae HBx2.out
       ·exact (bi HRw2.out i hi).2
      have hbd2:Below W2.heap.size W2 W2.drew:=(Below.refl _ W2).drew;have HGv:=hid (kG (HR2.out.below hbd2) (fun i hi=>Nat.lt_of_lt_of_le (hsz2 i hi) hbd2.size) ind1);have cr:=(HR2.out.below hbd2).cell0;have hcd:=(hbd2.cell (World.block_lt_of_cell? W2 _ y5)).trans y5;have HBd2:=hid hbd2;clear hsz2 hbd2 y5 e0
      go_wp2_with fail
      refine wp_region_noPanic ?_;refine wp_region_held_drew (S:=fun W=>W.cell? ⟨r,0,none⟩=some (.pointer (some ⟨m,0,none⟩))/\W.cell? ⟨w.heap.size,5,none⟩=some (.int .i64 ind1)) (by kernel_rfl) ⟨cr,hcd⟩ (fun hHeld => ?_);generalize W2.drew=we at *;refine tq 0 _ ?_
      try simp only [tS]
      refine tq 1 _ ?_
      try simp only [tS]
      refine tq 2 _ ?_
      try simp only [tS]
      refine tq 3 _ ?_
      try simp only [tS]
      refine tq 4 _ ?_
      try simp only [tS]
      refine tq 5 _ ?_
      try simp only [tS]
      refine tr 6 (fun K hK => ?_);go_simp;refine HGv.out.mono ?_;clear HGv;rintro e W6 ⟨hk6,hr6,c6,rfl⟩;have hbm:¬w.heap.size=m:=fun e=>by have h7:=HML.out;omega
      have k26:ac (fun i=>i=m) W2 W6:=(ac.of_below HBd2.out:ac (fun i=>i=m) W2 we).trans hk6 (fun i e => .inl e);have HK6:=hid (HK2.out.trans k26 (fun i e => .inl e));have hbx6:=k26.heap HBx2.out (fun e=>hbm e);have e0:=hr6.cell0;have e1:W6.cell? ⟨w.heap.size,5,none⟩=some (.int .i64 ind1):=aa hbx6 5;have g1:W6.frozen? ⟨w.heap.size,5,none⟩=false:=ai hbx6 5;have HR6:=hid hr6;have HBx6:=hid hbx6;have HRw6:=hid (k26.row HRw2.out (fun i e=>by have h5:=bi HRw2.out i e;have h7:=HML.out;intro e2;have e2':i=m:=e2;omega));clear hk6 hr6 hbx6 k26 hbm cr hcd
      go_wp2_with fail
      refine hK.out _ _ ⟨e0,e1⟩ (fun hHeld => ?_);clear hK K
      try simp only [tS]
      refine wpAnyH_done (by kernel_rfl) ?_ _;refine NoPanic.normal ?_;clear hHeld
      go_wp2_with fail
      have k7:ac (fun i=>i=w.heap.size) W6 (W6.setCell ⟨w.heap.size,5,none⟩ (.int .i64 0)):=(ac.refl _ W6).grown (ak (ar _ _) _ _) (fun i e => .inl (Option.some.inj e).symm);exact xt HQ.out hxl hgt (HR6.out.keep k7 (fun i e => .inr (.inl e)) (fun i e => .inl e)) (ap HBx6.out 5 (.int .i64 0)) (k7.row HRw6.out (fun i e=>by have h5:=(bi HRw6.out i e).1;intro e2;have e2':i=w.heap.size:=e2;omega)) (HK6.out.trans k7 (fun i e => .inr (by have e':i=w.heap.size:=e;omega)))
     ·have h10':¬(q:Int)=10:=by omega
      go_wp2_with fail
      exact xt HQ.out hxl hgt HR2.out HBx2.out HRw2.out HK2.out
    ·have hle:¬(ds:Int)<(xs.length:Int):=by omega
     have hxe:xs.length=ds:=by omega
     obtain ⟨ind1,hbx⟩:=HI.out.box;have y3:wr.cell? ⟨w.heap.size,3,none⟩=some (.slice ba b0.length bc):=aa hbx 3;have HXe:=hid hxe;clear hbx hxe
     go_wp2_with fail
     refine (HDt.out wr).mono ?_;rintro e W0 ⟨rfl,h3⟩;obtain rfl:=h3.symm;clear h3;obtain ⟨i8,hi8,hy0,hy1,hy2⟩:=info_parts iE;have HI8:=hid hi8;have HBb:Hid (0<b0.length->∃ad,ba=some ad/\∀t u,(b0.map U8)[t]? = some u->wr.cell? (ad.add t)=some u):=fun hp=>by
      obtain ⟨b,o,e,hc⟩:=HOk.out.bytes 0 hp;refine ⟨⟨b,o,none⟩,e,fun t u hu => ?_⟩;have ht:t<b0.length:=by have:=(List.getElem?_eq_some_iff.1 hu).1;simpa using this
      have h5:=HI.out.keep.cell (hc t ht) (fun e2=>(HOk.out.bz b o e).1 (.inr (.inr e2)));rw [Addr.add_mid,h5];rw [List.getElem?_map,List.getElem?_eq_getElem ht] at hu;exact hu
     have hbl:b0.length<=70656:=HOk.out.bl;clear hi8
     go_wp2_with (refine aY Tryz.underlying76 HI8.out hy0 hy1 hy2 rfl (by omega) rfl (.tmp 96) (.tmp 98) rfl wr.heap.size (.slice none 0 0) 0 [] rfl (World.ownsRow_nil _ _ _ _) ba b0.length bc (b0.map U8) rfl (by simp) HBb.out (fun u hu=>by obtain ⟨x,-,rfl⟩:=List.mem_map.1 hu;rfl) (by omega) (Nat.le_refl _) ?_;intro bv W2 hown hgr hat;rw [Nat.zero_add,List.nil_append] at hown)
     have hb2:Below wr.heap.size wr W2:=⟨hgr.os,hgr.tape,hgr.output,hgr.size,fun k hk=>hgr.block k hk (by simp [Value.ownBlock])⟩;obtain ⟨va,vc,hbv⟩:∃va vc,bv = .slice va b0.length vc:=by
      rcases hown.2 with ⟨e,h0⟩ | ⟨g,cap,cur,e,-⟩
      ·exact ⟨none,0,by rw [e,h0]⟩
      ·exact ⟨_,cap,e⟩
     subst hbv;have HBz:Hid (BzI w W2 F r m k0 m0 l0 (.slice ba b0.length bc) (.slice da d0.length dc) (.slice pa xs.length pc) xs wr.heap.size (.slice va b0.length vc) b0):=by
      have hI:=HI.out;obtain ⟨ind2,hbx⟩:=hI.box;exact ⟨hI.ref.keep (ac.of_below hb2:ac (fun _=>False) wr W2) (fun _ e=>e.elim) (fun i e=>by rcases e with e | e | e;exact .inl (.inl e);exact .inl (.inr (.inl e));exact .inr (bi hown i e).1),⟨ind2,ah hb2 hbx (ae hbx)⟩,(ac.of_below hb2:ac (fun _=>False) wr W2).row hI.row (fun _ _ e=>e),hown,hI.keep.trans (ac.of_below hb2:ac (fun _=>False) wr W2) (fun _ e=>e.elim),fun i e=>(bi hI.row i e).2,ae hbx,hb2.size⟩
     generalize wr.heap.size=B at *;clear hgr hat hb2 hown HI HBb
     go_loopw [13] (fun v wr=>∃(l:List UInt8) (va:Option Addr) (vc:Nat),v = .slice va l.length vc/\l.length<=70656/\Hid (BzI w wr F r m k0 m0 l0 (.slice ba b0.length bc) (.slice da d0.length dc) (.slice pa xs.length pc) xs B v l)) (fun v _=>s-e9 v)
     case atStart=>exact ⟨b0,va,vc,rfl,hbl,HBz⟩
     case round =>
      obtain ⟨l,va,vc,rfl,hll,HI⟩:=hrel;clear HBz;by_cases hlt:l.length<s
      ·have hlt':(l.length:Int)<(s:Int):=by omega
       obtain ⟨W3,hW3⟩:∃W3,W3=wr.alloc (.cells #[.int .u8 0] 5):=⟨_,rfl⟩;have hb3:Below wr.heap.size wr W3:=by rw [hW3];exact (Below.refl _ wr).alloc (Nat.le_refl _) _
       have hc3:W3.cell? ⟨wr.heap.size,0,none⟩=some (.int .u8 0):=by rw [hW3];exact aa (af wr _) 0
       have hs3:W3.heap.size=wr.heap.size+1:=by rw [hW3];exact World.size_alloc _ _
       have HOw3:=hid ((ac.of_below hb3:ac (fun _=>False) wr W3).row HI.out.own (fun _ _ e=>e));have HW3:=hid hW3;have HB3:=hid hb3;have HC3:=hid hc3;have HS3:=hid hs3;clear hW3 hb3 hc3 hs3
       go_wp2_with (rw [<- HW3.out];refine aY Tryz.underlying76 HI8.out hy0 hy1 hy2 rfl (by omega) rfl (.tmp 104) (.tmp 105) rfl B (.slice va l.length vc) l.length (l.map U8) rfl HOw3.out (some ⟨wr.heap.size,0,none⟩) 1 1 ([(0:UInt8)].map U8) rfl rfl (fun _=>⟨_,rfl,fun t u hu=>by obtain ⟨ht,e⟩:=List.getElem?_eq_some_iff.1 hu;have ht':t=0:=(by simp at ht;omega);subst ht';rw [<- e];exact HC3.out⟩) (fun u hu=>by obtain ⟨x,-,rfl⟩:=List.mem_map.1 hu;rfl) (by omega) (by have h1:=HI.out.size;have h2:=HS3.out;omega) ?_;intro v' W4 hown4 hgr4 hat4;rw [<- List.map_append] at hown4)
       obtain ⟨va',vc',rfl,hnx⟩:=zg HI.out HB3.out HS3.out hown4 hgr4 hat4;exact ⟨⟨l ++ [0],va',vc',rfl,by simp;omega,hnx⟩,by show s-(l ++ [(0:UInt8)]).length<s-l.length;simp;omega⟩
      ·have hge:¬(l.length:Int)<(s:Int):=by omega
       have hsl:s<=l.length:=by omega
       obtain ⟨ind2,hbx⟩:=HI.out.box;have hvc:l.length<=vc:=by
        rcases HI.out.own.2 with ⟨e,h0⟩ | ⟨g,cap,cur,e,-,-,hle,-⟩
        ·omega
        ·rw [Value.slice.injEq] at e;obtain ⟨-,-,rfl⟩:=e;exact hle
       have hsc:(s:Int)<=(vc:Int):=by omega
       have hs0:(0:Int)<=(s:Int):=by omega
       have HBx:=hid hbx;clear hbx;have hrs:∀W,(Instr.slice 76 (.slice va l.length vc) none (some (.int .i64 (s:Int))) none).run Tryz.prog W = .ok (.slice va s vc) W:=fun W=>by
        cases va with
        | none=>simp [Instr.slice,Instr.sliceBounds,go_sem,hs0,hsc]
        | some ad=>simp [Instr.slice,Instr.sliceBounds,go_sem,hs0,hsc]
       have HRs:=hid hrs;clear hrs
       go_wp2_with fail
       have hbd:Below wr.heap.size wr wr.drew:=(Below.refl _ wr).drew;have hbxd:=ah hbd HBx.out (ae HBx.out);have HId:Hid (BzI w wr.drew F r m k0 m0 l0 (.slice ba b0.length bc) (.slice da d0.length dc) (.slice pa xs.length pc) xs B (.slice va l.length vc) l) :=
        ⟨HI.out.ref.below hbd,⟨ind2,hbxd⟩,(ac.of_below hbd:ac (fun _=>False) wr wr.drew).row HI.out.row (fun _ _ e=>e),(ac.of_below hbd:ac (fun _=>False) wr wr.drew).row HI.out.own (fun _ _ e=>e),HI.out.keep.trans (ac.of_below hbd:ac (fun _=>False) wr wr.drew) (fun _ e=>e.elim),HI.out.pvB,HI.out.boxB,Nat.le_trans HI.out.size hbd.size⟩
       refine wp_region_noPanic ?_;refine wp_region_held_drew (S:=fun _=>True) (by kernel_rfl) trivial (fun hHeld => ?_);generalize wr.drew=wd at *;have z3:wd.cell? ⟨w.heap.size,3,none⟩=some (.slice ba b0.length bc):=aa hbxd 3;have z4:wd.cell? ⟨w.heap.size,4,none⟩=some (.slice da d0.length dc):=aa hbxd 4;have q3:wd.frozen? ⟨w.heap.size,3,none⟩=false:=ai hbxd 3;have q4:wd.frozen? ⟨w.heap.size,4,none⟩=false:=ai hbxd 4;have HBd:=hid hbxd;clear hbd hbxd HI HBx;refine tq 0 _ ?_
       try simp only [tS]
       refine tq 1 _ ?_
       try simp only [tS]
       refine tq 2 _ ?_
       try simp only [tS]
       have hrs:=HRs.out;refine tq 3 (.slice va s vc) ?_
       try simp only [tS]
       clear hrs;refine tq 4 _ ?_
       try simp only [tS]
       refine tr 5 (fun K hK => ?_);go_simp;refine hK _ _ trivial (fun hHeld => ?_);clear hK K z3 z4 q3 q4
       try simp only [tS]
       obtain ⟨we,hwe⟩:∃we,we=wd.setCell ⟨w.heap.size,4,none⟩ (.slice pa xs.length pc):=⟨_,rfl⟩;rw [<- hwe];have hbe:we.heap[w.heap.size]? = some (.cells #[.int .i64 k0,.int .i64 m0,.int .i64 l0,.slice ba b0.length bc,.slice pa xs.length pc,.int .i64 ind2] 146 (0,0)):=by rw [hwe];exact ap HBd.out 4 _
       have hke:ac (fun i=>i=w.heap.size) wd we:=by rw [hwe];exact (ac.refl _ wd).grown (ak (ar _ _) _ _) (fun i e => .inl (Option.some.inj e).symm)
       have z3:we.cell? ⟨w.heap.size,3,none⟩=some (.slice ba b0.length bc):=aa hbe 3;have q3:we.frozen? ⟨w.heap.size,3,none⟩=false:=ai hbe 3;have HBe:=hid hbe;have HKe:=hid hke;clear hbe hke hwe;refine tq 6 _ ?_
       try simp only [tS]
       refine tr 7 (fun K hK => ?_);go_simp;refine hK _ _ trivial (fun hHeld => ?_);clear hK K z3 q3
       try simp only [tS]
       refine wpAnyH_done (by kernel_rfl) ?_ _;refine NoPanic.normal ?_;clear hHeld;obtain ⟨wf,hwf⟩:∃wf,wf=we.setCell ⟨w.heap.size,3,none⟩ (.slice va s vc):=⟨_,rfl⟩;rw [<- hwf];have hbf:wf.heap[w.heap.size]? = some (.cells #[.int .i64 k0,.int .i64 m0,.int .i64 l0,.slice va s vc,.slice pa xs.length pc,.int .i64 ind2] 146 (0,0)):=by rw [hwf];exact ap HBe.out 3 _
       have hkf:ac (fun i=>i=w.heap.size) wd wf:=by rw [hwf];exact HKe.out.grown (ak (ar _ _) _ _) (fun i e => .inl (Option.some.inj e).symm)
       have z0:wf.cell? ⟨w.heap.size,0,none⟩=some (.int .i64 k0):=aa hbf 0;have z1:wf.cell? ⟨w.heap.size,1,none⟩=some (.int .i64 m0):=aa hbf 1;have z2:wf.cell? ⟨w.heap.size,2,none⟩=some (.int .i64 l0):=aa hbf 2;have z3:wf.cell? ⟨w.heap.size,3,none⟩=some (.slice va s vc):=aa hbf 3;have z4:wf.cell? ⟨w.heap.size,4,none⟩=some (.slice pa xs.length pc):=aa hbf 4;have z5:wf.cell? ⟨w.heap.size,5,none⟩=some (.int .i64 ind2):=aa hbf 5;have hI:=HId.out;have hBb:=hI.boxB;have hrl:=HR.out.lt;have hown:=hkf.row hI.own (fun i e e2=>by have h5:=(bi hI.own i e).1;have e3:i=w.heap.size:=e2;omega);have hrow:=hkf.row hI.row (fun i e e2=>by have h5:=(bi hI.row i e).1;have e3:i=w.heap.size:=e2;omega);have hl':(l.take s).length=s:=by rw [List.length_take];omega
       have hnew:∀i,w.heap.size<i->i<wf.heap.size->rdZ wf (zOf F r m) i:=fun i h1 h2=>⟨fun hh=>by
        rcases hh with hh | hh | hh
        ·have:=HFl.out i hh;omega
        ·omega
        ·omega,h2⟩
       have hok':RF.ok wf (zOf F r m) ⟨k0,m0,l0,l.take s,va,vc,xs,pa,pc,ind2⟩:=by
        refine ⟨fun j hj => ?_,fun b o e => ?_,fun j hj => ?_,fun b o e => ?_,by show (l.take s).length<=70656;omega,hxl,by show (l.take s).length<=vc;omega⟩
        ·have hj':j<l.length:=by have h5:j<(l.take s).length:=hj;omega
         rcases hown.2 with ⟨e,h0⟩ | ⟨g,cap,cur,e,-⟩
         ·omega
         ·rw [Value.slice.injEq] at e;obtain ⟨e,-,rfl⟩:=e;subst e;refine ⟨g,0,rfl,fun i hi => ?_⟩;have hi':i<l.length:=by have h5:i<(l.take s).length:=hi;omega
          rw [Nat.zero_add,hown.cellAt i (by omega),List.getElem?_map,List.getElem?_eq_getElem hi'];simp [U8]
        ·have hv:va=some ⟨b,o,none⟩:=e;subst hv;rcases hown.2 with ⟨e,h0⟩ | ⟨g,cap,cur,e,h5,h6,-⟩
         ·cases e
         ·cases e;exact hnew b (by omega) (ae h6)
        ·have hj':j<xs.length:=hj;rcases hrow.2 with ⟨e,h0⟩ | ⟨g,cap,cur,e,-⟩
         ·omega
         ·rw [Value.slice.injEq] at e;obtain ⟨e,-,rfl⟩:=e;subst e;refine ⟨g,0,rfl,fun i hi => ?_⟩;have hi':i<xs.length:=hi;rw [Nat.zero_add,hrow.cellAt i (by omega),bP,List.getElem?_map,List.getElem?_eq_getElem hi']
          rfl
        ·have hv:pa=some ⟨b,o,none⟩:=e;subst hv;rcases hrow.2 with ⟨e,h0⟩ | ⟨g,cap,cur,e,h5,h6,-⟩
         ·cases e
         ·cases e;exact hnew b (by omega) (ae h6)
       have href:a7 wf F r m:=hI.ref.keep hkf (fun i e => .inr (.inl e)) (fun i e => .inl (.inl e));have hwl:w.heap.size<=wf.heap.size:=by have h5:=ae hbf;omega
       have hse:=jf href (fun i hi=>Nat.lt_of_lt_of_le (HFl.out i hi) hwl) j hj ⟨k0,m0,l0,l.take s,va,vc,xs,pa,pc,ind2⟩ hok';have hce:(RF.cells ⟨k0,m0,l0,l.take s,va,vc,xs,pa,pc,ind2⟩).toArray=#[.int .i64 k0,.int .i64 m0,.int .i64 l0,.slice va s vc,.slice pa xs.length pc,.int .i64 ind2]:=by
        unfold RF.cells;rw [hl']
       rw [hce] at hse;have HSe:=hid hse;have HKf:Hid (ac (fun i=>i=m) w wf):=hI.keep.trans hkf (fun i e => .inr (by have e':i=w.heap.size:=e;omega));have HOk2:=hid hok';have HLs:=hid hl';clear hse hce href hwl hok' hnew hl' hrow hown hrl hBb hI hkf hbf hwf HId HKe HBe HBd
       go_wp2_with fail
       refine HSe.out.mono ?_;clear HSe;rintro e wg ⟨rfl,hkg,hrg,g,cp,hcg,hrowg⟩;have HKg:=hid hkg;have HRg:=hid (And.intro hrg (And.intro hcg hrowg));clear hkg hrg hcg hrowg;go_wp2;go_ret;obtain ⟨hrg,hcg,hrowg⟩:=HRg.out;have kk:ac (fun i=>i=r\/i=m) w wg:=(HKf.out.mono (fun i e => .inr e)).trans HKg.out (fun i e => .inl (.inl e));exact ⟨⟨kk,m,.inl rfl,hrg⟩,.inr ⟨rfl,kk,hrg,g,cp,_,hcg,hrowg,HOk2.out.keep HKg.out (fun i _ hn e=>hn (.inr (.inl e))) (fun _ _ hn=>hn),HLs.out⟩⟩
end
end
section
set_option maxRecDepth 100000
set_option maxHeartbeats 2000000
open Go.RowKit
theorem uB {w:World} {base n c:Nat} {e:TypeId} {a:Option Addr} {xs:List Value} (h:w.ownsRow base e 1 (.slice a n c) n xs):n<=c:=by
 rcases h.2 with ⟨e,h0⟩ | ⟨g,cap,cur,e,-,-,hle,-⟩
 ·omega
 ·rw [Value.slice.injEq] at e;obtain ⟨-,-,rfl⟩:=e;exact hle
theorem ui {w:World} {B g n c:Nat} {l:List UInt8} (h:w.ownsRow B 5 1 (.slice (some ⟨g,0,none⟩) n c) n (l.map U8)) (hl:l.length=n) (j:Nat) (hj:j<n) (x:UInt8) :
  (∃old,w.cell? ⟨g,j,none⟩=some old)/\w.frozen? ⟨g,j,none⟩=false/\(w.setCell ⟨g,j,none⟩ (.int .u8 (x.toNat:Int))).ownsRow B 5 1 (.slice (some ⟨g,0,none⟩) n c) n ((l.set j x).map U8):=by
 refine ⟨?_,?_,?_⟩
 ·rw [h.cellAt j (by omega),List.getElem?_map,List.getElem?_eq_getElem (by omega)];exact ⟨_,rfl⟩
 ·rcases h.2 with ⟨e,h0⟩ | ⟨g',cap,cur,e,h1,h2,-⟩
  ·cases e
  ·cases e;exact ai h2 _
 ·rcases h.2 with ⟨e,h0⟩ | ⟨g',cap,cur,e,h1,h2,h3,h4,h5,h6⟩
  ·cases e
  ·cases e;refine ⟨by simp [hl],.inr ⟨g,c,_,rfl,h1,ap h2 j _,h3,h4,by rw [Array.size_setIfInBounds];exact h5,?_⟩⟩;rw [Array.toList_setIfInBounds,List.take_set,h6,List.map_set]
   rfl
section
variable {w w':World} {F:Nat->Prop} {r m:Nat}
theorem kY (h:a7 w F r m) (hFl:∀i,F i->i<w.heap.size) (i a:Int) (g:Nat) (l:List UInt8) (hl:aV w g l) (hgz:¬zOf F r m g) (hL:l.length<=8000):Calls Tryz.prog 39 #[.pointer (some ⟨r,0,none⟩),.int .i64 i,.int .i64 a,.slice (some ⟨g,0,none⟩) l.length l.length] w fun e w'=>dx w F r m w'/\∃c:Int,e = .returned (.int .i64 c):=by
 obtain ⟨lb,lc,km,kb,kc,fl,kl,h1,h2,-⟩:=h.heap;have c1:w.cell? ⟨r,1,none⟩=some (.slice (some ⟨lb,0,none⟩) 16 lc):=aa h1 1;have HLk:=hid (jA h i);have HFl:=hid hFl;have HR:=hid h;have HSd:=hid h2;have HOb:=hid hl;have HGz:=hid hgz;obtain ⟨n,hn⟩:∃n,n=l.length:=⟨_,rfl⟩;rw [<- hn] at hL ⊢;have HN:=hid hn;clear h h1 h2 hFl hl hgz hn;go_enter Tryz.func39,Tryz.ntmps39
 go_wp2_with fail
 refine HLk.out.mono ?_;clear HLk;rintro e w1 ⟨h1,nn,rfl,hn⟩;obtain rfl:=h1.symm;clear h1;rcases hn with rfl | rfl | ⟨rfl,hi1,hi2⟩
 ·go_wp2_with fail
  go_ret;exact ⟨dx.refl HR.out,2,rfl⟩
 ·go_wp2_with fail
  go_ret;exact ⟨dx.refl HR.out,4,rfl⟩
 ·obtain ⟨j,rfl⟩:∃j:Nat,i=(j:Int):=⟨i.toNat,by omega⟩;have HK:=hid (dx.refl HR.out);by_cases b1:a<0
  ·clear HSd HR
   go_wp2_with fail
   go_ret;exact ⟨HK.out,2,rfl⟩
  ·by_cases b2:n=0
   ·by_cases b3:a<=70656
    ·clear HSd HR
     go_wp2_with fail
     go_ret;exact ⟨HK.out,0,rfl⟩
    ·have b3':70656<a:=by omega
     clear HSd HR
     go_wp2_with fail
     go_ret;exact ⟨HK.out,6,rfl⟩
   ·have b2':¬((n:Int)=0):=by omega
    by_cases b3:70656<a
    ·clear HSd HR
     go_wp2_with fail
     go_ret;exact ⟨HK.out,6,rfl⟩
    ·by_cases b4:70656-a<(n:Int)
     ·clear HSd HR
      go_wp2_with fail
      go_ret;exact ⟨HK.out,6,rfl⟩
     ·obtain ⟨an,rfl⟩:∃an:Nat,a=(an:Int):=⟨a.toNat,by omega⟩;obtain ⟨q,hq⟩:∃q:Nat,(an:Int)+(n:Int)=(q:Int):=⟨an+n,by omega⟩;have hq7:q<=70656:=by omega
      have hqn:an+n=q:=by omega
      obtain ⟨k0,m0,l0,b0,ba,bc,d0,da,dc,ind,x0,x1,x2,x3,x4,x5,hok⟩:=HSd.out.six j (by omega);have hb7:b0.length<=70656:=hok.bl;have hj16:j<16:=by omega
      clear hok HSd;by_cases b5:b0.length<q
      ·have b5':(b0.length:Int)<(q:Int):=by omega
       have HRz:=hid (jE HR.out HFl.out j hj16 q hq7);have hqs:an+n<=q:=by omega
       clear x0 x1 x2 x4 x5
       go_wp2_with fail
       refine HRz.out.mono ?_;clear HRz;rintro e w1 ⟨hto,⟨b,rfl,rfl⟩ | ⟨rfl,hk1,hr1,g1,cp1,f1,hc1,hrow1,hok1,hl1⟩⟩
       ·obtain ⟨kk,m',hm',hr'⟩:=hto;have HFu:=hid (kp hr' (fun i hi=>Nat.lt_of_lt_of_le (HFl.out i hi) kk.size));have HKk:=hid kk;clear kk hr' c1 x3
        go_wp2_with fail
        refine HFu.out.mono ?_;clear HFu;rintro e w2 ⟨rfl,hk2,m2,hm2,hr2⟩;have HK2:=hid hk2;have HR2:=hid hr2;clear hk2 hr2
        go_wp2_with fail
        go_ret;have hs:=HKk.out.size;exact ⟨⟨HKk.out.trans HK2.out (fun i e => .inl (.inl e)),m2,.inr (by omega),HR2.out⟩,7,rfl⟩
       ·clear hto;obtain ⟨k1,m1,l1,b1,ba1,bc1,d1,da1,dc1,ind1⟩:=f1;have y0:w1.cell? ⟨g1,j*6,none⟩=some (.int .i64 k1):=hrow1 0 _ rfl;have y1:w1.cell? ⟨g1,j*6+1,none⟩=some (.int .i64 m1):=hrow1 1 _ rfl;have y2:w1.cell? ⟨g1,j*6+2,none⟩=some (.int .i64 l1):=hrow1 2 _ rfl;have y3:w1.cell? ⟨g1,j*6+3,none⟩=some (.slice ba1 b1.length bc1):=hrow1 3 _ rfl;have y4:w1.cell? ⟨g1,j*6+4,none⟩=some (.slice da1 d1.length dc1):=hrow1 4 _ rfl;have y5:w1.cell? ⟨g1,j*6+5,none⟩=some (.int .i64 ind1):=hrow1 5 _ rfl;have HOk1:=hid hok1;have HK1:=hid hk1;have HR1:=hid hr1;have HL1:=hid hl1;clear hrow1 hok1 hk1 hr1 hl1 x3 c1;obtain ⟨W2,hW2⟩:∃W2,W2=w1.alloc (.cells #[.int .i64 k1,.int .i64 m1,.int .i64 l1,.slice ba1 b1.length bc1,.slice da1 d1.length dc1,.int .i64 ind1] 146):=⟨_,rfl⟩;have HB12:Hid (Below w1.heap.size w1 W2):=by rw [hW2];exact (Below.refl _ w1).alloc (Nat.le_refl _) _
        have HBx:Hid (W2.heap[w1.heap.size]? = some (.cells #[.int .i64 k1,.int .i64 m1,.int .i64 l1,.slice ba1 b1.length bc1,.slice da1 d1.length dc1,.int .i64 ind1] 146 (0,0))):=by rw [hW2];exact af w1 _
        have HS2:Hid (W2.heap.size=w1.heap.size+1):=by rw [hW2];exact World.size_alloc _ _
        have HW2:=hid hW2;have hb17:b1.length<=70656:=HOk1.out.bl;have HBb:Hid (0<b1.length->∃ad,ba1=some ad/\∀t u,(b1.map U8)[t]? = some u->W2.cell? (ad.add t)=some u):=fun hp=>by
         obtain ⟨b,o,e,hc⟩:=HOk1.out.bytes 0 hp;refine ⟨⟨b,o,none⟩,e,fun t u hu => ?_⟩;have ht:t<b1.length:=by have:=(List.getElem?_eq_some_iff.1 hu).1;simpa using this
         have h5:=hc t ht;rw [Addr.add_mid,HB12.out.cell (World.block_lt_of_cell? w1 _ h5),h5];rw [List.getElem?_map,List.getElem?_eq_getElem ht] at hu;exact hu
        obtain ⟨i8,hi8,hy0,hy1,hy2⟩:=info_parts iE;have HI8:=hid hi8;clear hi8 hW2
        go_wp2_with (rw [<- HW2.out];refine aY Tryz.underlying76 HI8.out hy0 hy1 hy2 rfl (by omega) rfl (.tmp 74) (.tmp 76) rfl W2.heap.size (.slice none 0 0) 0 [] rfl (World.ownsRow_nil _ _ _ _) ba1 b1.length bc1 (b1.map U8) rfl (by simp) HBb.out (fun u hu=>by obtain ⟨x,-,rfl⟩:=List.mem_map.1 hu;rfl) (by omega) (Nat.le_refl _) ?_;intro bv W3 hown hgr hat;rw [Nat.zero_add,List.nil_append] at hown)
        have hb23:Below W2.heap.size W2 W3:=⟨hgr.os,hgr.tape,hgr.output,hgr.size,fun k hk=>hgr.block k hk (by simp [Value.ownBlock])⟩;have hb1q:=HL1.out;obtain ⟨gc,cc,hbv⟩:∃gc cc,bv = .slice (some ⟨gc,0,none⟩) b1.length cc:=by
         rcases hown.2 with ⟨e,h0⟩ | ⟨g0,cap,cur,e,-⟩
         ·omega
         ·exact ⟨g0,cap,e⟩
        subst hbv;have hgc:=bi hown gc rfl;have hbx3:=ah hb23 HBx.out (by have:=HS2.out;omega);have hzg:g<w.heap.size:=HOb.out.lt;have hob1:=HOb.out.keep HK1.out (fun hh=>HGz.out (hh.elim (fun e => .inr (.inl e)) (fun e => .inr (.inr e))));have hob3:=(hob1.below HB12.out).below hb23;have hw1:=HK1.out.size;have HRow:Hid (∃l':List UInt8,l'.length=b1.length/\W3.ownsRow W2.heap.size 5 1 (.slice (some ⟨gc,0,none⟩) b1.length cc) b1.length (l'.map U8)):=⟨b1,rfl,hown⟩;have HOb3:=hid hob3;have HBx3:=hid hbx3;have HB13:=hid (HB12.out.trans (hb23.mono HB12.out.size));have hgcg:gc≠g:=by have:=HS2.out;omega
        have hgcb:gc≠w1.heap.size:=by have:=HS2.out;omega
        have HGc:=hid hgc;clear hown hgr hat hb23 hbx3 hob1 hob3 HBb HI8 HW2 HBx y0 y1 y2 y3 y4 y5 hgc;obtain ⟨bl,hbl⟩:∃bl,bl=b1.length:=⟨_,rfl⟩;rw [<- hbl] at hb1q HRow hb17 ⊢;have HBl:=hid hbl;clear hbl;subst hb1q
        go_loopw [13] (fun kv wr=>∃k:Nat,k<=n/\kv = .int .i64 k/\Hid (∃l':List UInt8,l'.length=bl/\wr.ownsRow W2.heap.size 5 1 (.slice (some ⟨gc,0,none⟩) bl cc) bl (l'.map U8))/\Hid (ac (fun i=>i=gc) W3 wr)) (fun kv _=>n-(intOf kv).toNat)
        case atStart=>exact ⟨0,by omega,rfl,HRow,ac.refl _ _⟩
        case round =>
         obtain ⟨k,hk,rfl,HRw,HKw⟩:=hrel;by_cases hkn:k<n
         ·have hkn':(k:Int)<(n:Int):=by omega
          obtain ⟨l',hl',hrw⟩:=HRw.out;obtain ⟨t,ht⟩:∃t:Nat,(an:Int)+(k:Int)=(t:Int):=⟨an+k,by omega⟩;have htb:t<bl:=by omega
          have htb':(t:Int)<(bl:Int):=by omega
          have hln:k<l.length:=by have:=HN.out;omega
          have c3:=(HOb3.out.keep HKw.out (fun e=>hgcg (by have e':g=gc:=e;exact e'.symm))).cell k hln;obtain ⟨⟨old,c4⟩,f4,hset⟩:=ui hrw hl' t htb (l[k]);have HSet:Hid (∃l'':List UInt8,l''.length=bl/\(wr.setCell ⟨gc,t,none⟩ (.int .u8 ((l[k]).toNat:Int))).ownsRow W2.heap.size 5 1 (.slice (some ⟨gc,0,none⟩) bl cc) bl (l''.map U8)):=⟨l'.set t l[k],by rw [List.length_set];exact hl',hset⟩;generalize ((l[k]).toNat:Int)=x at *;clear hrw hset HRw hl';go_wp2;exact ⟨⟨k+1,by omega,by go_num,HSet,HKw.out.grown (ak (ar _ _) _ _) (fun i e => .inl (Option.some.inj e).symm)⟩,by simp [intOf];omega⟩
         ·have hge:¬(k:Int)<(n:Int):=by omega
          have hbx:=HKw.out.heap HBx3.out (fun e=>hgcb (by have e':w1.heap.size=gc:=e;exact e'.symm));have z3:wr.cell? ⟨w1.heap.size,3,none⟩=some (.slice ba1 b1.length bc1):=aa hbx 3;have f3:wr.frozen? ⟨w1.heap.size,3,none⟩=false:=ai hbx 3;have z0:wr.cell? ⟨w1.heap.size,0,none⟩=some (.int .i64 k1):=aa hbx 0;have z1:wr.cell? ⟨w1.heap.size,1,none⟩=some (.int .i64 m1):=aa hbx 1;have z2:wr.cell? ⟨w1.heap.size,2,none⟩=some (.int .i64 l1):=aa hbx 2;have z4:wr.cell? ⟨w1.heap.size,4,none⟩=some (.slice da1 d1.length dc1):=aa hbx 4;have z5:wr.cell? ⟨w1.heap.size,5,none⟩=some (.int .i64 ind1):=aa hbx 5;have HBx4:=hid hbx;clear hbx
          go_wp2_with fail
          obtain ⟨W4,hW4⟩:∃W4,W4=wr.setCell ⟨w1.heap.size,3,none⟩ (.slice (some ⟨gc,0,none⟩) bl cc):=⟨_,rfl⟩;rw [<- hW4];obtain ⟨l',hl',hrw⟩:=HRw.out;have hgc:=HGc.out;have hs2:=HS2.out;have hs13:=HB13.out.size;have hs1:=HK1.out.size;have hs3:=HKw.out.size;have hbl4:=ae HBx4.out;have k34:ac (fun i=>i=w1.heap.size) wr W4:=by rw [hW4];exact (ac.refl _ wr).grown (ak (ar _ _) _ _) (fun i e => .inl (Option.some.inj e).symm)
          have k14:ac (fun i=>w1.heap.size<=i) w1 W4:=((ac.of_below HB13.out:ac (fun i=>w1.heap.size<=i) w1 W3).trans HKw.out (fun i e => .inl (by have e':i=gc:=e;show w1.heap.size<=i;omega))).trans k34 (fun i e => .inl (by have e':i=w1.heap.size:=e;show w1.heap.size<=i;omega));have kw4:ac (fun i=>i=r\/i=m) w W4:=HK1.out.trans k14 (fun i e => .inr (by have e':w1.heap.size<=i:=e;omega));have hrw4:=k34.row hrw (fun i e e2=>by have h5:=(bi hrw i e).1;have e3:i=w1.heap.size:=e2;omega);have href:a7 W4 F r m:=by
           have q3:a7 W3 (fun i=>F i\/i=gc\/i=w1.heap.size) r m:=HR1.out.keep (ac.of_below HB13.out:ac (fun _=>False) w1 W3) (fun _ e=>e.elim) (fun i e=>by rcases e with e | e | e;exact .inl e;exact .inr (by omega);exact .inr (by omega));have q4:a7 wr (fun i=>F i\/i=gc\/i=w1.heap.size) r m:=q3.keep HKw.out (fun i e => .inr (.inl e)) (fun i e => .inl e);exact q4.keep k34 (fun i e => .inr (.inr e)) (fun i e => .inl (.inl e))
          have hrl:=HR.out.lt;have hok4:RF.ok W4 (zOf F r m) ⟨k1,m1,l1,l',some ⟨gc,0,none⟩,cc,d1,da1,dc1,ind1⟩:=by
           have h9:=HOk1.out.keep k14 (Z':=zOf F r m) (fun i hi _ e=>by have e':w1.heap.size<=i:=e;omega) (fun _ _ hn=>hn);refine ⟨fun j hj=>⟨gc,0,rfl,fun i hi => ?_⟩,fun b o e => ?_,h9.data,h9.dz,by show l'.length<=70656;omega,h9.dl,by have hcc:=uB hrw4;show l'.length<=cc;omega⟩
           ·have hi':i<l'.length:=hi;rw [Nat.zero_add,hrw4.cellAt i (by omega),List.getElem?_map,List.getElem?_eq_getElem hi']
            rfl
           ·have e':(⟨gc,0,none⟩:Addr)=⟨b,o,none⟩:=Option.some.inj e;cases e';refine ⟨fun hh => ?_,by have:=k34.size;have:=(bi hrw gc rfl).2;omega⟩;rcases hh with hh | hh | hh
            ·have:=HFl.out _ hh;omega
            ·omega
            ·omega
          have hse:=jf href (fun i hi=>Nat.lt_of_lt_of_le (HFl.out i hi) kw4.size) j hj16 ⟨k1,m1,l1,l',some ⟨gc,0,none⟩,cc,d1,da1,dc1,ind1⟩ hok4;have hce:(RF.cells ⟨k1,m1,l1,l',some ⟨gc,0,none⟩,cc,d1,da1,dc1,ind1⟩).toArray=#[.int .i64 k1,.int .i64 m1,.int .i64 l1,.slice (some ⟨gc,0,none⟩) bl cc,.slice da1 d1.length dc1,.int .i64 ind1]:=by
           unfold RF.cells;rw [hl']
          rw [hce] at hse;have HSe:=hid hse;have HK4:=hid kw4;clear hse hce hok4 hrl href hrw4 k34 k14 kw4 hrw hl' hgc hs2 hs13 hs1 hs3 hbl4 hW4 z0 z1 z2 z3 z4 z5 f3;refine HSe.out.mono ?_;clear HSe;rintro e wg ⟨rfl,hkg,hrg,-⟩;have HKg:=hid hkg;have HRg:=hid hrg;clear hkg hrg;go_wp2;go_ret;exact ⟨⟨HK4.out.trans HKg.out (fun i e => .inl (.inl e)),m,.inl rfl,HRg.out⟩,0,rfl⟩
      ·have b5':¬(b0.length:Int)<(q:Int):=by omega
       have hqs:an+n<=b0.length:=by omega
       clear x0 x1 x2 x4 x5;generalize b0.length=qz at *;have HRz:=hid (jE HR.out HFl.out j hj16 qz hb7)
       go_wp2_with fail
       refine HRz.out.mono ?_;clear HRz;rintro e w1 ⟨hto,⟨b,rfl,rfl⟩ | ⟨rfl,hk1,hr1,g1,cp1,f1,hc1,hrow1,hok1,hl1⟩⟩
       ·obtain ⟨kk,m',hm',hr'⟩:=hto;have HFu:=hid (kp hr' (fun i hi=>Nat.lt_of_lt_of_le (HFl.out i hi) kk.size));have HKk:=hid kk;clear kk hr' c1 x3
        go_wp2_with fail
        refine HFu.out.mono ?_;clear HFu;rintro e w2 ⟨rfl,hk2,m2,hm2,hr2⟩;have HK2:=hid hk2;have HR2:=hid hr2;clear hk2 hr2
        go_wp2_with fail
        go_ret;have hs:=HKk.out.size;exact ⟨⟨HKk.out.trans HK2.out (fun i e => .inl (.inl e)),m2,.inr (by omega),HR2.out⟩,7,rfl⟩
       ·clear hto;obtain ⟨k1,m1,l1,b1,ba1,bc1,d1,da1,dc1,ind1⟩:=f1;have y0:w1.cell? ⟨g1,j*6,none⟩=some (.int .i64 k1):=hrow1 0 _ rfl;have y1:w1.cell? ⟨g1,j*6+1,none⟩=some (.int .i64 m1):=hrow1 1 _ rfl;have y2:w1.cell? ⟨g1,j*6+2,none⟩=some (.int .i64 l1):=hrow1 2 _ rfl;have y3:w1.cell? ⟨g1,j*6+3,none⟩=some (.slice ba1 b1.length bc1):=hrow1 3 _ rfl;have y4:w1.cell? ⟨g1,j*6+4,none⟩=some (.slice da1 d1.length dc1):=hrow1 4 _ rfl;have y5:w1.cell? ⟨g1,j*6+5,none⟩=some (.int .i64 ind1):=hrow1 5 _ rfl;have HOk1:=hid hok1;have HK1:=hid hk1;have HR1:=hid hr1;have HL1:=hid hl1;clear hrow1 hok1 hk1 hr1 hl1 x3 c1;obtain ⟨W2,hW2⟩:∃W2,W2=w1.alloc (.cells #[.int .i64 k1,.int .i64 m1,.int .i64 l1,.slice ba1 b1.length bc1,.slice da1 d1.length dc1,.int .i64 ind1] 146):=⟨_,rfl⟩;have HB12:Hid (Below w1.heap.size w1 W2):=by rw [hW2];exact (Below.refl _ w1).alloc (Nat.le_refl _) _
        have HBx:Hid (W2.heap[w1.heap.size]? = some (.cells #[.int .i64 k1,.int .i64 m1,.int .i64 l1,.slice ba1 b1.length bc1,.slice da1 d1.length dc1,.int .i64 ind1] 146 (0,0))):=by rw [hW2];exact af w1 _
        have HS2:Hid (W2.heap.size=w1.heap.size+1):=by rw [hW2];exact World.size_alloc _ _
        have HW2:=hid hW2;have hb17:b1.length<=70656:=HOk1.out.bl;have HBb:Hid (0<b1.length->∃ad,ba1=some ad/\∀t u,(b1.map U8)[t]? = some u->W2.cell? (ad.add t)=some u):=fun hp=>by
         obtain ⟨b,o,e,hc⟩:=HOk1.out.bytes 0 hp;refine ⟨⟨b,o,none⟩,e,fun t u hu => ?_⟩;have ht:t<b1.length:=by have:=(List.getElem?_eq_some_iff.1 hu).1;simpa using this
         have h5:=hc t ht;rw [Addr.add_mid,HB12.out.cell (World.block_lt_of_cell? w1 _ h5),h5];rw [List.getElem?_map,List.getElem?_eq_getElem ht] at hu;exact hu
        obtain ⟨i8,hi8,hy0,hy1,hy2⟩:=info_parts iE;have HI8:=hid hi8;clear hi8 hW2
        go_wp2_with (rw [<- HW2.out];refine aY Tryz.underlying76 HI8.out hy0 hy1 hy2 rfl (by omega) rfl (.tmp 74) (.tmp 76) rfl W2.heap.size (.slice none 0 0) 0 [] rfl (World.ownsRow_nil _ _ _ _) ba1 b1.length bc1 (b1.map U8) rfl (by simp) HBb.out (fun u hu=>by obtain ⟨x,-,rfl⟩:=List.mem_map.1 hu;rfl) (by omega) (Nat.le_refl _) ?_;intro bv W3 hown hgr hat;rw [Nat.zero_add,List.nil_append] at hown)
        have hb23:Below W2.heap.size W2 W3:=⟨hgr.os,hgr.tape,hgr.output,hgr.size,fun k hk=>hgr.block k hk (by simp [Value.ownBlock])⟩;have hb1q:=HL1.out;obtain ⟨gc,cc,hbv⟩:∃gc cc,bv = .slice (some ⟨gc,0,none⟩) b1.length cc:=by
         rcases hown.2 with ⟨e,h0⟩ | ⟨g0,cap,cur,e,-⟩
         ·omega
         ·exact ⟨g0,cap,e⟩
        subst hbv;have hgc:=bi hown gc rfl;have hbx3:=ah hb23 HBx.out (by have:=HS2.out;omega);have hzg:g<w.heap.size:=HOb.out.lt;have hob1:=HOb.out.keep HK1.out (fun hh=>HGz.out (hh.elim (fun e => .inr (.inl e)) (fun e => .inr (.inr e))));have hob3:=(hob1.below HB12.out).below hb23;have hw1:=HK1.out.size;have HRow:Hid (∃l':List UInt8,l'.length=b1.length/\W3.ownsRow W2.heap.size 5 1 (.slice (some ⟨gc,0,none⟩) b1.length cc) b1.length (l'.map U8)):=⟨b1,rfl,hown⟩;have HOb3:=hid hob3;have HBx3:=hid hbx3;have HB13:=hid (HB12.out.trans (hb23.mono HB12.out.size));have hgcg:gc≠g:=by have:=HS2.out;omega
        have hgcb:gc≠w1.heap.size:=by have:=HS2.out;omega
        have HGc:=hid hgc;clear hown hgr hat hb23 hbx3 hob1 hob3 HBb HI8 HW2 HBx y0 y1 y2 y3 y4 y5 hgc;obtain ⟨bl,hbl⟩:∃bl,bl=b1.length:=⟨_,rfl⟩;rw [<- hbl] at hb1q HRow hb17 ⊢;have HBl:=hid hbl;clear hbl;subst hb1q
        go_loopw [13] (fun kv wr=>∃k:Nat,k<=n/\kv = .int .i64 k/\Hid (∃l':List UInt8,l'.length=bl/\wr.ownsRow W2.heap.size 5 1 (.slice (some ⟨gc,0,none⟩) bl cc) bl (l'.map U8))/\Hid (ac (fun i=>i=gc) W3 wr)) (fun kv _=>n-(intOf kv).toNat)
        case atStart=>exact ⟨0,by omega,rfl,HRow,ac.refl _ _⟩
        case round =>
         obtain ⟨k,hk,rfl,HRw,HKw⟩:=hrel;by_cases hkn:k<n
         ·have hkn':(k:Int)<(n:Int):=by omega
          obtain ⟨l',hl',hrw⟩:=HRw.out;obtain ⟨t,ht⟩:∃t:Nat,(an:Int)+(k:Int)=(t:Int):=⟨an+k,by omega⟩;have htb:t<bl:=by omega
          have htb':(t:Int)<(bl:Int):=by omega
          have hln:k<l.length:=by have:=HN.out;omega
          have c3:=(HOb3.out.keep HKw.out (fun e=>hgcg (by have e':g=gc:=e;exact e'.symm))).cell k hln;obtain ⟨⟨old,c4⟩,f4,hset⟩:=ui hrw hl' t htb (l[k]);have HSet:Hid (∃l'':List UInt8,l''.length=bl/\(wr.setCell ⟨gc,t,none⟩ (.int .u8 ((l[k]).toNat:Int))).ownsRow W2.heap.size 5 1 (.slice (some ⟨gc,0,none⟩) bl cc) bl (l''.map U8)):=⟨l'.set t l[k],by rw [List.length_set];exact hl',hset⟩;generalize ((l[k]).toNat:Int)=x at *;clear hrw hset HRw hl';go_wp2;exact ⟨⟨k+1,by omega,by go_num,HSet,HKw.out.grown (ak (ar _ _) _ _) (fun i e => .inl (Option.some.inj e).symm)⟩,by simp [intOf];omega⟩
         ·have hge:¬(k:Int)<(n:Int):=by omega
          have hbx:=HKw.out.heap HBx3.out (fun e=>hgcb (by have e':w1.heap.size=gc:=e;exact e'.symm));have z3:wr.cell? ⟨w1.heap.size,3,none⟩=some (.slice ba1 b1.length bc1):=aa hbx 3;have f3:wr.frozen? ⟨w1.heap.size,3,none⟩=false:=ai hbx 3;have z0:wr.cell? ⟨w1.heap.size,0,none⟩=some (.int .i64 k1):=aa hbx 0;have z1:wr.cell? ⟨w1.heap.size,1,none⟩=some (.int .i64 m1):=aa hbx 1;have z2:wr.cell? ⟨w1.heap.size,2,none⟩=some (.int .i64 l1):=aa hbx 2;have z4:wr.cell? ⟨w1.heap.size,4,none⟩=some (.slice da1 d1.length dc1):=aa hbx 4;have z5:wr.cell? ⟨w1.heap.size,5,none⟩=some (.int .i64 ind1):=aa hbx 5;have HBx4:=hid hbx;clear hbx
          go_wp2_with fail
          obtain ⟨W4,hW4⟩:∃W4,W4=wr.setCell ⟨w1.heap.size,3,none⟩ (.slice (some ⟨gc,0,none⟩) bl cc):=⟨_,rfl⟩;rw [<- hW4];obtain ⟨l',hl',hrw⟩:=HRw.out;have hgc:=HGc.out;have hs2:=HS2.out;have hs13:=HB13.out.size;have hs1:=HK1.out.size;have hs3:=HKw.out.size;have hbl4:=ae HBx4.out;have k34:ac (fun i=>i=w1.heap.size) wr W4:=by rw [hW4];exact (ac.refl _ wr).grown (ak (ar _ _) _ _) (fun i e => .inl (Option.some.inj e).symm)
          have k14:ac (fun i=>w1.heap.size<=i) w1 W4:=((ac.of_below HB13.out:ac (fun i=>w1.heap.size<=i) w1 W3).trans HKw.out (fun i e => .inl (by have e':i=gc:=e;show w1.heap.size<=i;omega))).trans k34 (fun i e => .inl (by have e':i=w1.heap.size:=e;show w1.heap.size<=i;omega));have kw4:ac (fun i=>i=r\/i=m) w W4:=HK1.out.trans k14 (fun i e => .inr (by have e':w1.heap.size<=i:=e;omega));have hrw4:=k34.row hrw (fun i e e2=>by have h5:=(bi hrw i e).1;have e3:i=w1.heap.size:=e2;omega);have href:a7 W4 F r m:=by
           have q3:a7 W3 (fun i=>F i\/i=gc\/i=w1.heap.size) r m:=HR1.out.keep (ac.of_below HB13.out:ac (fun _=>False) w1 W3) (fun _ e=>e.elim) (fun i e=>by rcases e with e | e | e;exact .inl e;exact .inr (by omega);exact .inr (by omega));have q4:a7 wr (fun i=>F i\/i=gc\/i=w1.heap.size) r m:=q3.keep HKw.out (fun i e => .inr (.inl e)) (fun i e => .inl e);exact q4.keep k34 (fun i e => .inr (.inr e)) (fun i e => .inl (.inl e))
          have hrl:=HR.out.lt;have hok4:RF.ok W4 (zOf F r m) ⟨k1,m1,l1,l',some ⟨gc,0,none⟩,cc,d1,da1,dc1,ind1⟩:=by
           have h9:=HOk1.out.keep k14 (Z':=zOf F r m) (fun i hi _ e=>by have e':w1.heap.size<=i:=e;omega) (fun _ _ hn=>hn);refine ⟨fun j hj=>⟨gc,0,rfl,fun i hi => ?_⟩,fun b o e => ?_,h9.data,h9.dz,by show l'.length<=70656;omega,h9.dl,by have hcc:=uB hrw4;show l'.length<=cc;omega⟩
           ·have hi':i<l'.length:=hi;rw [Nat.zero_add,hrw4.cellAt i (by omega),List.getElem?_map,List.getElem?_eq_getElem hi']
            rfl
           ·have e':(⟨gc,0,none⟩:Addr)=⟨b,o,none⟩:=Option.some.inj e;cases e';refine ⟨fun hh => ?_,by have:=k34.size;have:=(bi hrw gc rfl).2;omega⟩;rcases hh with hh | hh | hh
            ·have:=HFl.out _ hh;omega
            ·omega
            ·omega
          have hse:=jf href (fun i hi=>Nat.lt_of_lt_of_le (HFl.out i hi) kw4.size) j hj16 ⟨k1,m1,l1,l',some ⟨gc,0,none⟩,cc,d1,da1,dc1,ind1⟩ hok4;have hce:(RF.cells ⟨k1,m1,l1,l',some ⟨gc,0,none⟩,cc,d1,da1,dc1,ind1⟩).toArray=#[.int .i64 k1,.int .i64 m1,.int .i64 l1,.slice (some ⟨gc,0,none⟩) bl cc,.slice da1 d1.length dc1,.int .i64 ind1]:=by
           unfold RF.cells;rw [hl']
          rw [hce] at hse;have HSe:=hid hse;have HK4:=hid kw4;clear hse hce hok4 hrl href hrw4 k34 k14 kw4 hrw hl' hgc hs2 hs13 hs1 hs3 hbl4 hW4 z0 z1 z2 z3 z4 z5 f3;refine HSe.out.mono ?_;clear HSe;rintro e wg ⟨rfl,hkg,hrg,-⟩;have HKg:=hid hkg;have HRg:=hid hrg;clear hkg hrg;go_wp2;go_ret;exact ⟨⟨HK4.out.trans HKg.out (fun i e => .inl (.inl e)),m,.inl rfl,HRg.out⟩,0,rfl⟩
end
end
section
set_option maxRecDepth 100000
set_option maxHeartbeats 4000000
open Go.RowKit
section
variable {w w1 w2 w':World} {F:Nat->Prop} {r m:Nat}
theorem dx.low (h:a7 w F r m) (hb:Below w.heap.size w w'):dx w F r m w':=⟨ac.of_below hb,m,.inl rfl,h.below hb⟩
theorem dx.after (hb:Below w.heap.size w w1) (k:dx w1 F r m w2):dx w F r m w2:=by
 obtain ⟨k2,m2,g2,r2⟩:=k;exact ⟨(ac.of_below hb:ac (fun i=>i=r\/i=m) w w1).trans k2 (fun i hi => .inl hi),m2,g2.imp id (fun e=>Nat.le_trans hb.size e),r2⟩
theorem dx.seq {m1:Nat} (k1:ac (fun i=>i=r\/i=m) w w1) (g1:m1=m\/w.heap.size<=m1) (h:dx w1 F r m1 w2):dx w F r m w2:=by
 obtain ⟨k2,m2,g2,r2⟩:=h;refine ⟨k1.trans k2 (fun i hi => ?_),m2,?_,r2⟩
 ·rcases hi with hi | hi
  ·exact .inl (.inl hi)
  ·rcases g1 with g | g
   ·exact .inl (.inr (hi.trans g))
   ·exact .inr (by rw [hi];exact g)
 ·rcases g2 with g | g
  ·exact g1.imp (fun e=>g.trans e) (fun e=>by rw [g];exact e)
  ·exact .inr (Nat.le_trans k1.size g)
def Ad (w:World) (F:Nat->Prop) (r m:Nat) (e:Ending) (w':World):Prop:=dx w F r m w'/\∃c:Int,e = .returned (.int .i64 c)
theorem gH {c:Int} (h:dx w F r m w'):Ad w F r m (.returned (.int .i64 c)) w':=⟨h,c,rfl⟩
theorem zK (h:a7 w F r m) (hFl:∀i,F i->i<w.heap.size) {g:Nat} (hg:w.heap.size<=g):¬zOf F r m g:=fun hh=>by
 have h8:=h.lt;rcases hh with hh | hh | hh
 ·have:=hFl _ hh;omega
 ·omega
 ·omega
theorem oE (h:a7 w F r m) (hFl:∀i,F i->i<w.heap.size) (n:Int) (nm:ByteArray) (hs:(nm.size:Int)<=9223372036854775807) (i:Int):Calls Tryz.prog 11 #[.pointer (some ⟨r,0,none⟩),.int .i64 n,.string nm,.int .i64 i] w fun e w'=>Ad w F r m e w':=by
 have HLk:=hid (gO h n);have HNm:=hid (fun W=>j3 nm hs W);have HR:=hid h;have HFl:=hid hFl;clear h hs hFl;go_enter Tryz.func11,Tryz.ntmps11
 go_wp2_with fail
 refine HLk.out.mono ?_;clear HLk;rintro e w1 ⟨hb,v,k,x,rfl,hS⟩;have HB:=hid hb;have HS:=hid hS;clear hb hS;by_cases hx:x=0
 case' neg =>
  go_wp2;go_ret;exact gH (.low HR.out HB.out)
 subst hx
 go_wp2_with fail
 refine (HNm.out w1).mono ?_;clear HNm;rintro e w2 ⟨rfl,rfl⟩;cases hn:nameL nm.data.toList
 case' false =>
  go_wp2;go_ret;exact gH (.low HR.out HB.out)
 have h59:nm.size<=59:=by rw [Lib.size_eq];exact (je hn).2
 have HBy:=hid (fun W=>lV nm i h59 W);have HAt:=hid (nu v k nm w2 HS.out);obtain ⟨va,vc,rfl,hk4,-⟩:=id HS.out;clear h59 hn;by_cases hi1:i<1
 ·go_wp2;go_ret;exact gH (.low HR.out HB.out)
 by_cases hi2:511<i
 ·go_wp2;go_ret;exact gH (.low HR.out HB.out)
 go_wp2_with fail
 refine HAt.out.mono ?_;clear HAt;rintro e w3 ⟨rfl,y,rfl,hy0,hy1⟩;by_cases hy:0<=y
 ·go_wp2;go_ret;exact gH (.low HR.out HB.out)
 clear hy0 hy1
 go_wp2_with fail
 go_loopw [11] (fun iv wr=>∃q:Nat,q<=k/\iv = .int .i64 q/\wr=w3) (fun iv _=>k-(intOf iv).toNat)
 case atStart=>exact ⟨0,by omega,rfl,rfl⟩
 case round =>
  obtain ⟨q,hq,rfl,rfl⟩:=hrel;have hq0:(0:Int)<=(q:Int):=by omega
  have hm:wrap64 (64*(q:Int))=64*(q:Int):=by unfold wrap64;omega
  by_cases hlt:q<k
  ·have hq1:(q:Int)<(k:Int):=by omega
   obtain ⟨b,o,s',z,rfl,d0,d1,-⟩:=HS.out.get hlt;by_cases hz:z=0
   ·subst hz;have HQ:=hid hm
    go_wp2_with fail
    refine (HBy.out wr).mono ?_;clear HBy;rintro e w4 ⟨g,l,rfl,hg,hl,ho,hb4⟩;have hR4:=HR.out.below (HB.out.trans (hb4.mono HB.out.size));have hF4:∀i,F i->i<wr.heap.size:=fun i hh=>Nat.lt_of_lt_of_le (HFl.out i hh) HB.out.size;have hwr:=kY hR4 (fun i hh=>Nat.lt_of_lt_of_le (hF4 i hh) hb4.size) n (64*(q:Int)) g l ho (fun hh=>zK (HR.out.below HB.out) hF4 hg hh) (by omega);rw [hl] at hwr;have HWr:=hid hwr;have HR4:=hid hR4;have HB4:=hid (HB.out.trans (hb4.mono HB.out.size));clear hwr hR4 hF4 hb4 hg hl ho
    go_wp2_with fail
    refine HWr.out.mono ?_;clear HWr;rintro e w5 ⟨hk5,c5,rfl⟩;have HK5:=hid hk5;clear hk5;go_wp2;go_ret;exact gH (.after HB4.out HK5.out)
   ·have hz0:(z != 0)=true:=bne_iff_ne.2 hz;go_wp2;exact ⟨⟨q+1,by omega,by go_num,by first | trivial | rfl⟩,by simp [intOf];omega⟩
  ·have hq1:¬(q:Int)<(k:Int):=by omega
   have HQ:=hid hm
   go_wp2_with fail
   refine (HBy.out wr).mono ?_;clear HBy;rintro e w4 ⟨g,l,rfl,hg,hl,ho,hb4⟩;have hR4:=HR.out.below (HB.out.trans (hb4.mono HB.out.size));have hF4:∀i,F i->i<wr.heap.size:=fun i hh=>Nat.lt_of_lt_of_le (HFl.out i hh) HB.out.size;have hwr:=kY hR4 (fun i hh=>Nat.lt_of_lt_of_le (hF4 i hh) hb4.size) n (64*(q:Int)) g l ho (fun hh=>zK (HR.out.below HB.out) hF4 hg hh) (by omega);rw [hl] at hwr;have HWr:=hid hwr;have HR4:=hid hR4;have HB4:=hid (HB.out.trans (hb4.mono HB.out.size));clear hwr hR4 hF4 hb4 hg hl ho
   go_wp2_with fail
   refine HWr.out.mono ?_;clear HWr;rintro e w5 ⟨hk5,c5,rfl⟩;have HK5:=hid hk5;clear hk5;go_wp2;go_ret;exact gH (.after HB4.out HK5.out)
end
end
section
set_option maxRecDepth 100000
set_option maxHeartbeats 8000000
open Go.RowKit
structure dh (w W:World) (v:Value) (n:Nat):Prop where
 own:∃xs:List ByteArray,xs.length=n/\W.ownsRow w.heap.size 9 1 v n (xs.map .string)
 low:Below w.heap.size w W
section
variable {w W W':World} {v:Value} {n m:Nat}
theorem dh.nil (w:World):dh w w (.slice none 0 0) 0:=⟨⟨[],rfl,World.ownsRow_nil _ _ _ _⟩,Below.refl _ _⟩
theorem dh.up (h:dh w W v n) (hb:Below W.heap.size W W'):dh w W' v n:=by
 obtain ⟨⟨xs,h1,h2⟩,hl⟩:=h;exact ⟨⟨xs,h1,(ac.of_below hb:ac (fun _=>False) W W').row h2 (fun _ _ e=>e)⟩,hl.trans (hb.mono hl.size)⟩
theorem dh.base (h0:Below w.heap.size w W) (h:dh W W' v n):dh w W' v n:=by
 obtain ⟨⟨xs,h1,h2⟩,hl⟩:=h;exact ⟨⟨xs,h1,h2.mono h0.size⟩,h0.trans (hl.mono h0.size)⟩
theorem dh.cast {a b:Nat} (h:dh w W v a) (e:a=b):dh w W v b:=e ▸ h
theorem dh.form (h:dh w W v n):(n=0/\v = .slice none 0 0)\/∃g c,v = .slice (some ⟨g,0,none⟩) n c/\n<=c/\g<W.heap.size/\∀j,j<n->∃x:ByteArray,W.cell? ⟨g,j,none⟩=some (.string x):=by
 obtain ⟨⟨xs,h1,h2⟩,-⟩:=h;rcases h2.2 with ⟨e,h0⟩ | ⟨g,cap,cur,e,hbs,hb,h3,-⟩
 ·exact .inl ⟨h0,e⟩
 ·subst e;refine .inr ⟨g,cap,rfl,h3,ae hb,fun j hj=>⟨xs[j]'(by omega),?_⟩⟩;rw [h2.cellAt j (by rw [Nat.mul_one];exact hj),List.getElem?_map,List.getElem?_eq_getElem (by omega)];rfl
theorem dh.slice (h:dh w W v n):∃a c,v = .slice a n c:=by
 rcases h.form with ⟨rfl,e⟩ | ⟨g,c,e,-⟩
 ·exact ⟨_,_,e⟩
 ·exact ⟨_,_,e⟩
theorem aH {ops:Array Oper} {rest:List Oper} {o:Oper} {a:Act} {Q:Exit->Act->World->Prop} (hgd:o.guard=none) (s x:Operand)
  (ho:o.op = .call { callee := .builtin .append,args:=#[s,x],argTypes:=#[36,36] }) (v:Value) (n:Nat) (hs:a.eval s=v) (h:dh w W v n) (sa:Option Addr) (m c:Nat) (hx:a.eval x = .slice sa m c)
  (hc:0<m->∃b f,sa=some ⟨b,f,none⟩/\∀j,j<m->∃y:ByteArray,W.cell? ⟨b,f+j,none⟩=some (.string y)) (hn:n+m<=4096)
  (k:∀v' w',dh w w' v' (n+m)->wpList Tryz.prog ops Q rest (a.put o.dst v') w'):wpList Tryz.prog ops Q (o :: rest) a W:=by
 obtain ⟨i0,hi,hz0,hz1,hz2⟩:=info_parts uq;obtain ⟨⟨xs,h1,h2⟩,hl⟩:=h;obtain ⟨ys,hy1,hy2⟩:∃ys:List ByteArray,ys.length=m/\(0<m->∃ad,sa=some ad/\∀j u,(ys.map Value.string)[j]? = some u->W.cell? (ad.add j)=some u):=by
  rcases Nat.eq_zero_or_pos m with h0 | h0
  ·exact ⟨[],h0.symm,fun e=>absurd e (by omega)⟩
  ·obtain ⟨b,f,e,hj⟩:=hc h0;refine ⟨List.ofFn fun i:Fin m=>(hj i i.2).choose,by simp,fun _=>⟨_,e,fun j u hu => ?_⟩⟩;obtain ⟨hl1,hl2⟩:=List.getElem?_eq_some_iff.1 hu;have hjm:j<m:=by simpa using hl1
   rw [Addr.add_mid, <- hl2,List.getElem_map,List.getElem_ofFn];exact (hj j hjm).choose_spec
 refine aY Tryz.underlying36 hi hz0 hz1 hz2 rfl (by omega) hgd s x ho w.heap.size v n (xs.map .string) hs h2 sa m c (ys.map .string) hx (by rw [List.length_map];omega) hy2 (fun u hu=>by obtain ⟨y,-,rfl⟩:=List.mem_map.1 hu;rfl) (by omega) hl.size ?_;intro v' w' hown hgr _;refine k v' w' ⟨⟨xs ++ ys,by rw [List.length_append];omega,?_⟩,hl.grown hgr hl.size (fun i e=>(h2.lt i e).1)⟩;rw [List.map_append];exact hown
end
theorem nT (t:TypeId) (a b:ByteArray):binOp .gtr t (.string a) (.string b)=pure (.bool (!Op.bytesLess a.toList b.toList && !(a.toList==b.toList))):=by simp [binOp,Op.stringOp]
attribute [local go_sem] nT
section
variable {w w':World} {F:Nat->Prop} {r m:Nat}
def zy (w:World) (e:Ending) (w':World):Prop:=Below w.heap.size w w'/\∃a k c,∃x:Int,e = .returned (.tuple #[.slice a k c,.int .i64 x])
theorem rv {a:Option Addr} {k c:Nat} {x:Int} (hb:Below w.heap.size w w'):zy w (.returned (.tuple #[.slice a k c,.int .i64 x])) w':=⟨hb,a,k,c,x,rfl⟩
theorem tE (h:a7 w F r m) (n:Int):Calls Tryz.prog 75 #[.pointer (some ⟨r,0,none⟩),.int .i64 n] w fun e w'=>zy w e w':=by
 have HLk:=hid (gO h n);clear h;go_enter Tryz.func75,Tryz.ntmps75
 go_wp2_with fail
 refine HLk.out.mono ?_;clear HLk;rintro e w1 ⟨hb,v,k,x,rfl,hS⟩;have HB:=hid hb;have HS:=hid hS;clear hb hS;by_cases hx:x=0
 case' neg =>
  go_wp2;go_returns;exact rv HB.out
 subst hx;obtain ⟨la,lc,rfl,hk4,-⟩:=id HS.out;have HR0:Hid (dh w1 w1 (.slice none 0 0) 0):=dh.nil w1
 go_wp2_with fail
 go_loopw [8,9] (fun ov iv wr=>∃(q n:Nat) (oa:Option Addr) (oc:Nat),q<=k/\n<=q/\ov = .slice oa n oc/\iv = .int .i64 q/\Hid (dh w1 wr (.slice oa n oc) n)) (fun _ iv _=>k-(intOf iv).toNat)
 case atStart=>exact ⟨0,0,none,0,by omega,by omega,rfl,rfl,HR0.out⟩
 case round =>
  obtain ⟨q,n',oa,oc,hq,hn,rfl,rfl,HR⟩:=hrel;clear HR0;have hi0:(0:Int)<=(q:Int):=by omega
  by_cases hlt:q<k
  ·have hi1:(q:Int)<(k:Int):=by omega
   obtain ⟨b,o,sx,y,rfl,hsx,hSl⟩:=HS.out.all hlt;have HSl:=hid hSl;obtain ⟨d0,d1⟩:=hSl wr HR.out.low;clear hSl;by_cases hy:y=0
   ·subst hy;go_wp2;exact ⟨⟨q+1,n',oa,oc,by omega,by omega,rfl,by go_num,HR⟩,by simp [intOf];omega⟩
   ·have hy0:¬y=0:=hy;clear d0
    go_wp2_with fail
    clear d1
    go_loopw [10] (fun kv w2=>∃p:Nat,p<=n'/\kv = .int .i64 p/\Hid (Below wr.heap.size wr w2)) (fun kv _=>(intOf kv).toNat)
    case atStart=>exact ⟨n',Nat.le_refl _,rfl,Below.refl _ _⟩
    case round =>
     obtain ⟨p,hp,rfl,HW⟩:=hrel;have hn4:n'<=1104:=by omega
     have HR2:=hid (HR.out.up HW.out);by_cases hp0:0<p
     ·obtain ⟨x0,hx0⟩:∃x0:Nat,p=x0+1:=⟨p-1,by omega⟩;rcases HR2.out.form with ⟨h0,-⟩ | ⟨g,cg,e,hcg,hg,hcell⟩
      ·omega
      have e':=e;simp only [Value.slice.injEq] at e;obtain ⟨rfl,-,rfl⟩:=e;clear e';obtain ⟨xo,d1⟩:=hcell x0 (by omega);obtain ⟨d0,-⟩:=HSl.out _ HR2.out.low;obtain ⟨cm,hcm⟩:∃cm:Bool,(!Op.bytesLess xo.toList sx.toList && !(xo.toList==sx.toList))=cm:=⟨_,rfl⟩;have e0:(p:Int)-1=(x0:Int):=by omega
      have hp1:(0:Int)<(p:Int):=by omega
      have hp2:(0:Int)<=(x0:Int):=by omega
      have hp3:(x0:Int)<(n':Int):=by omega
      have HX0:=hid hx0;clear hx0;cases cm
      ·go_wp2
       go_quiet (fail)
       rename_i nq;obtain ⟨W,hW⟩:∃W,W=wr.drewN nq:=⟨_,rfl⟩;have hbW:Below wr.heap.size wr W:=by rw [hW];exact cX (Below.refl _ _) _
       rw [<- hW];clear hW;clear d0 d1 e0 hp1 hp2 hp3 hcm hcell hg hcg HX0;have HRW:=hid (HR2.out.up hbW);clear HR2 hbW HW;have hp5:(0:Int)<=(p:Int):=by omega
       rcases HRW.out.form with ⟨h0,e⟩ | ⟨g2,cg2,e,hcg,hg,hcell⟩
       ·cases e
       ·simp only [Value.slice.injEq,Option.some.injEq,Addr.mk.injEq] at e;obtain ⟨⟨rfl,-,-⟩,-,rfl⟩:=e;have HCl:=hid hcell;have HG:=hid hg;clear hcell hg;by_cases hoc:oc=p
        ·have h1:n'=p:=by omega
         have h2:n'=oc:=by omega
         subst h1;subst h2
         go_wp2_with (first
          | (refine aH rfl (.tmp 52) (.tmp 55) rfl (.slice none 0 0) 0 rfl (dh.nil W) (some ⟨g,0,none⟩) n' n' rfl (fun _=>⟨g,0,rfl,fun j hj=>by rw [Nat.zero_add];exact HCl.out j (by omega)⟩) (by omega) ?_;intro v3 w3 h3;have HA3:=hid h3;have d0:=(HSl.out w3 (HRW.out.low.trans (h3.low.mono HRW.out.low.size))).1;clear h3)
          | (refine aH rfl (.tmp 57) (.tmp 63) rfl v3 _ rfl (HA3.out.up ((Below.refl _ _).alloc (Nat.le_refl _) _)) (some ⟨w3.heap.size,0,none⟩) 1 1 rfl (fun _=>⟨_,0,rfl,fun j hj=>⟨sx,by obtain rfl:j=0:=(by omega);exact aa (af _ _) 0⟩⟩) (by omega) ?_;intro v4 w4 h4;have HA4:=hid h4;clear h4 d0)
          | (refine aH rfl (.tmp 65) (.tmp 68) rfl v4 _ rfl HA4.out (some ⟨g,0,none⟩) _ _ rfl (fun e=>absurd e (by omega)) (by omega) ?_;intro v5 w5 h5;have HA5:=hid h5;clear h5))
         have h5:dh w1 w5 v5 (n'+1):=(dh.base HRW.out.low HA5.out).cast (by omega);obtain ⟨a5,c5,rfl⟩:=h5.slice;have HA6:=hid h5;exact ⟨⟨q+1,n'+1,a5,c5,by omega,by omega,rfl,congrArg _ (by omega),HA6⟩,by simp only [intOf];omega⟩
        ·have hp6:(p:Int)<=(n':Int):=by omega
         have hp7:(p:Int)<=(oc:Int):=by omega
         have hp8:(n':Int)<=(oc:Int):=by omega
         have hoc2:¬oc-p=0:=by omega
         have hoc3:p<oc:=by omega
         go_wp2_with (first
          | (refine aH rfl (.tmp 52) (.tmp 55) rfl (.slice none 0 0) 0 rfl (dh.nil W) (some ⟨g,0,none⟩) p oc rfl (fun _=>⟨g,0,rfl,fun j hj=>by rw [Nat.zero_add];exact HCl.out j (by omega)⟩) (by omega) ?_;intro v3 w3 h3;have HA3:=hid h3;have d0:=(HSl.out w3 (HRW.out.low.trans (h3.low.mono HRW.out.low.size))).1;clear h3)
          | (refine aH rfl (.tmp 57) (.tmp 63) rfl v3 _ rfl (HA3.out.up ((Below.refl _ _).alloc (Nat.le_refl _) _)) (some ⟨w3.heap.size,0,none⟩) 1 1 rfl (fun _=>⟨_,0,rfl,fun j hj=>⟨sx,by obtain rfl:j=0:=(by omega);exact aa (af _ _) 0⟩⟩) (by omega) ?_;intro v4 w4 h4;have HA4:=hid h4;clear h4 d0)
          | (refine aH rfl (.tmp 65) (.tmp 68) rfl v4 _ rfl HA4.out (some ⟨g,p,none⟩) (n'-p) (oc-p) rfl (fun _=>⟨g,p,rfl,fun j hj=>(HCl.out (p+j) (by omega)).imp fun y hy=>(World.cell?_of_block (w:=W) (HA4.out.low.block g HG.out)).trans hy⟩) (by omega) ?_;intro v5 w5 h5;have HA5:=hid h5;clear h5))
         have h5:dh w1 w5 v5 (n'+1):=(dh.base HRW.out.low HA5.out).cast (by omega);obtain ⟨a5,c5,rfl⟩:=h5.slice;have HA6:=hid h5;exact ⟨⟨q+1,n'+1,a5,c5,by omega,by omega,rfl,congrArg _ (by omega),HA6⟩,by simp only [intOf];omega⟩
      ·go_wp2
       go_quiet (fail)
       rename_i nq;obtain ⟨W,hW⟩:∃W,W=wr.drewN nq:=⟨_,rfl⟩;have hbW:Below wr.heap.size wr W:=by rw [hW];exact cX (Below.refl _ _) _
       rw [<- hW];clear hW;have HW2:=hid (HW.out.trans (hbW.mono HW.out.size));clear d0 d1 hcm HR2 hbW;go_wp2;exact ⟨⟨x0,by have:=HX0.out;omega,rfl,HW2⟩,by simp only [intOf];have:=HX0.out;omega⟩
     ·have hp1:¬(0:Int)<(p:Int):=by omega
      go_wp2
      go_quiet (fail)
      rename_i nq;obtain ⟨W,hW⟩:∃W,W=wr.drewN nq:=⟨_,rfl⟩;have hbW:Below wr.heap.size wr W:=by rw [hW];exact cX (Below.refl _ _) _
      rw [<- hW];clear hW;clear hp1;have HRW:=hid (HR2.out.up hbW);clear HR2 hbW HW;have hp5:(0:Int)<=(p:Int):=by omega
      rcases HRW.out.form with ⟨h0,e⟩ | ⟨g,cg,e,hcg,hg,hcell⟩
      ·simp only [Value.slice.injEq] at e;obtain ⟨rfl,-,rfl⟩:=e;obtain rfl:p=0:=by omega
       subst h0
       go_wp2_with (first
        | (refine aH rfl (.tmp 52) (.tmp 55) rfl (.slice none 0 0) 0 rfl (dh.nil W) none 0 0 rfl (fun e=>absurd e (by decide)) (by decide) ?_;intro v3 w3 h3;have HA3:=hid h3;have d0:=(HSl.out w3 (HRW.out.low.trans (h3.low.mono HRW.out.low.size))).1;clear h3)
        | (refine aH rfl (.tmp 57) (.tmp 63) rfl v3 _ rfl (HA3.out.up ((Below.refl _ _).alloc (Nat.le_refl _) _)) (some ⟨w3.heap.size,0,none⟩) 1 1 rfl (fun _=>⟨_,0,rfl,fun j hj=>⟨sx,by obtain rfl:j=0:=(by omega);exact aa (af _ _) 0⟩⟩) (by decide) ?_;intro v4 w4 h4;have HA4:=hid h4;clear h4 d0)
        | (refine aH rfl (.tmp 65) (.tmp 68) rfl v4 _ rfl HA4.out none 0 0 rfl (fun e=>absurd e (by decide)) (by decide) ?_;intro v5 w5 h5;have HA5:=hid h5;clear h5))
       obtain ⟨a5,c5,rfl⟩:=HA5.out.slice;exact ⟨⟨q+1,1,a5,c5,by omega,by omega,rfl,congrArg _ (by omega),.base HRW.out.low HA5.out⟩,by simp only [intOf];omega⟩
      ·simp only [Value.slice.injEq] at e;obtain ⟨rfl,-,rfl⟩:=e;have HCl:=hid hcell;have HG:=hid hg;clear hcell hg;by_cases hoc:oc=p
       ·have h1:n'=p:=by omega
        have h2:n'=oc:=by omega
        subst h1;subst h2
        go_wp2_with (first
         | (refine aH rfl (.tmp 52) (.tmp 55) rfl (.slice none 0 0) 0 rfl (dh.nil W) (some ⟨g,0,none⟩) n' n' rfl (fun _=>⟨g,0,rfl,fun j hj=>by rw [Nat.zero_add];exact HCl.out j (by omega)⟩) (by omega) ?_;intro v3 w3 h3;have HA3:=hid h3;have d0:=(HSl.out w3 (HRW.out.low.trans (h3.low.mono HRW.out.low.size))).1;clear h3)
         | (refine aH rfl (.tmp 57) (.tmp 63) rfl v3 _ rfl (HA3.out.up ((Below.refl _ _).alloc (Nat.le_refl _) _)) (some ⟨w3.heap.size,0,none⟩) 1 1 rfl (fun _=>⟨_,0,rfl,fun j hj=>⟨sx,by obtain rfl:j=0:=(by omega);exact aa (af _ _) 0⟩⟩) (by omega) ?_;intro v4 w4 h4;have HA4:=hid h4;clear h4 d0)
         | (refine aH rfl (.tmp 65) (.tmp 68) rfl v4 _ rfl HA4.out (some ⟨g,0,none⟩) _ _ rfl (fun e=>absurd e (by omega)) (by omega) ?_;intro v5 w5 h5;have HA5:=hid h5;clear h5))
        have h5:dh w1 w5 v5 (n'+1):=(dh.base HRW.out.low HA5.out).cast (by omega);obtain ⟨a5,c5,rfl⟩:=h5.slice;have HA6:=hid h5;exact ⟨⟨q+1,n'+1,a5,c5,by omega,by omega,rfl,congrArg _ (by omega),HA6⟩,by simp only [intOf];omega⟩
       ·have hp6:(p:Int)<=(n':Int):=by omega
        have hp7:(p:Int)<=(oc:Int):=by omega
        have hp8:(n':Int)<=(oc:Int):=by omega
        have hoc2:¬oc-p=0:=by omega
        have hoc3:p<oc:=by omega
        go_wp2_with (first
         | (refine aH rfl (.tmp 52) (.tmp 55) rfl (.slice none 0 0) 0 rfl (dh.nil W) (some ⟨g,0,none⟩) p oc rfl (fun _=>⟨g,0,rfl,fun j hj=>by rw [Nat.zero_add];exact HCl.out j (by omega)⟩) (by omega) ?_;intro v3 w3 h3;have HA3:=hid h3;have d0:=(HSl.out w3 (HRW.out.low.trans (h3.low.mono HRW.out.low.size))).1;clear h3)
         | (refine aH rfl (.tmp 57) (.tmp 63) rfl v3 _ rfl (HA3.out.up ((Below.refl _ _).alloc (Nat.le_refl _) _)) (some ⟨w3.heap.size,0,none⟩) 1 1 rfl (fun _=>⟨_,0,rfl,fun j hj=>⟨sx,by obtain rfl:j=0:=(by omega);exact aa (af _ _) 0⟩⟩) (by omega) ?_;intro v4 w4 h4;have HA4:=hid h4;clear h4 d0)
         | (refine aH rfl (.tmp 65) (.tmp 68) rfl v4 _ rfl HA4.out (some ⟨g,p,none⟩) (n'-p) (oc-p) rfl (fun _=>⟨g,p,rfl,fun j hj=>(HCl.out (p+j) (by omega)).imp fun y hy=>(World.cell?_of_block (w:=W) (HA4.out.low.block g HG.out)).trans hy⟩) (by omega) ?_;intro v5 w5 h5;have HA5:=hid h5;clear h5))
        have h5:dh w1 w5 v5 (n'+1):=(dh.base HRW.out.low HA5.out).cast (by omega);obtain ⟨a5,c5,rfl⟩:=h5.slice;have HA6:=hid h5;exact ⟨⟨q+1,n'+1,a5,c5,by omega,by omega,rfl,congrArg _ (by omega),HA6⟩,by simp only [intOf];omega⟩
  ·have hi1:¬(q:Int)<(k:Int):=by omega
   have HE:=hid (HB.out.trans (HR.out.low.mono HB.out.size));go_wp2;go_returns;exact rv HE.out
end
end
section
set_option maxRecDepth 100000
set_option maxHeartbeats 1000000
open Go.RowKit
section
variable {w w':World} {F:Nat->Prop} {r m:Nat}
def zB (w:World) (F:Nat->Prop) (r m:Nat) (i:Int) (e:Ending) (w':World):Prop:=dx w F r m w'/\∃c:Int,e = .returned (.int .i64 c)/\(c=0->1<=i/\i<16/\ac (fun i=>i=r\/i=m) w w'/\a7 w' F r m)
theorem iO {i c:Int} (h:dx w F r m w') (hc:c≠0):zB w F r m i (.returned (.int .i64 c)) w':=⟨h,c,rfl,fun e=>absurd e hc⟩
theorem sy (h:a7 w F r m) (hFl:∀i,F i->i<w.heap.size) (i s:Int):Calls Tryz.prog 76 #[.pointer (some ⟨r,0,none⟩),.int .i64 i,.int .i64 s] w fun e w'=>zB w F r m i e w':=by
 have HLk:=hid (jA h i);have HFl:=hid hFl;have HR:=hid h;clear h hFl;go_enter Tryz.func76,Tryz.ntmps76
 go_wp2_with fail
 refine HLk.out.mono ?_;clear HLk;rintro e w1 ⟨h1,n,rfl,hn⟩;obtain rfl:=h1.symm;clear h1;have HK:=hid (dx.refl HR.out);rcases hn with rfl | rfl | ⟨rfl,hi1,hi2⟩
 ·go_wp2_with fail
  go_ret;exact iO HK.out (by decide)
 ·go_wp2_with fail
  go_ret;exact iO HK.out (by decide)
 ·by_cases b1:s<0
  ·go_wp2_with fail
   go_ret;exact iO HK.out (by decide)
  ·by_cases b2:70656<s
   ·go_wp2_with fail
    go_ret;exact iO HK.out (by decide)
   ·obtain ⟨j,rfl⟩:∃j:Nat,i=(j:Int):=⟨i.toNat,by omega⟩;obtain ⟨t,rfl⟩:∃t:Nat,s=(t:Int):=⟨s.toNat,by omega⟩;have HRz:=hid (jE HR.out HFl.out j (by omega) t (by omega));clear HK
    go_wp2_with fail
    refine HRz.out.mono ?_;clear HRz;rintro e w1 ⟨⟨kk,m',hm',hr'⟩,⟨b,rfl,rfl⟩ | ⟨rfl,hk1,hr1,-⟩⟩
    ·have HFu:=hid (kp hr' (fun i hi=>Nat.lt_of_lt_of_le (HFl.out i hi) kk.size));have HKk:=hid kk;clear kk hr'
     go_wp2_with fail
     refine HFu.out.mono ?_;clear HFu;rintro e w2 ⟨rfl,hk2,m2,hm2,hr2⟩;have HK2:=hid hk2;have HR2:=hid hr2;clear hk2 hr2
     go_wp2_with fail
     go_ret;have hs:=HKk.out.size;exact iO ⟨HKk.out.trans HK2.out (fun i e => .inl (.inl e)),m2,.inr (by omega),HR2.out⟩ (by decide)
    ·have HK1:=hid hk1;have HR1:=hid hr1;clear kk hr' hk1 hr1 hm'
     go_wp2_with fail
     go_ret;exact ⟨⟨HK1.out,m,.inl rfl,HR1.out⟩,0,rfl,fun _=>⟨hi1,hi2,HK1.out,HR1.out⟩⟩
end
end
section
set_option maxRecDepth 100000
set_option maxHeartbeats 4000000
open Go.RowKit
section
variable {w w1 w2 w':World} {F:Nat->Prop} {r m:Nat}
def zU (w:World) (F:Nat->Prop) (r m:Nat) (e:Ending) (w':World):Prop:=dx w F r m w'/\∃x y:Int,e = .returned (.tuple #[.int .i64 x,.int .i64 y])
theorem kx {x y:Int} (h:dx w F r m w'):zU w F r m (.returned (.tuple #[.int .i64 x,.int .i64 y])) w':=⟨h,x,y,rfl⟩
theorem dx.up (h:dx w F r m w1) (hb:Below w1.heap.size w1 w2):dx w F r m w2:=by
 obtain ⟨k1,m1,g1,r1⟩:=h;exact .seq k1 g1 (.low r1 hb)
theorem se (h:a7 w F r m) (hFl:∀i,F i->i<w.heap.size) (n:Int) (nm:ByteArray) (hs:(nm.size:Int)<=9223372036854775807):Calls Tryz.prog 28 #[.pointer (some ⟨r,0,none⟩),.int .i64 n,.string nm] w fun e w'=>zU w F r m e w':=by
 have HFd:=hid (mW h n nm hs);have HR:=hid h;have HFl:=hid hFl;clear h hs hFl;go_enter Tryz.func28,Tryz.ntmps28
 go_wp2_with fail
 refine HFd.out.mono ?_;clear HFd;rintro e w1 ⟨hb,x1,y1,rfl⟩;have HB1:=hid hb;clear hb;by_cases hy:y1=0
 case' neg =>
  go_wp2;go_returns;exact kx (.low HR.out HB1.out)
 subst hy;have HLk:=hid (gO (HR.out.below HB1.out) n)
 go_wp2_with fail
 refine HLk.out.mono ?_;clear HLk;rintro e w2 ⟨hb,v,k,x2,rfl,hS⟩;have HB2:=hid (HB1.out.trans (hb.mono HB1.out.size));have HS:=hid hS;have HAt:=hid (nu v k nm w2 hS);have hk4:k<=1104:=by obtain ⟨_,_,_,h,_⟩:=hS;exact h
 clear hb hS HB1
 go_wp2_with fail
 refine HAt.out.mono ?_;clear HAt;rintro e w3 ⟨rfl,y,rfl,hy0,hy1⟩;have hm:wrap64 (64*y)=64*y:=by unfold wrap64;omega
 have HBy:=hid (lV ByteArray.empty 0 (by decide) w3);clear hy0 hy1 hk4
 go_wp2_with fail
 refine HBy.out.mono ?_;clear HBy;rintro e w4 ⟨g,l,rfl,hg,hl,ho,hb4⟩;have hR4:=HR.out.below (HB2.out.trans (hb4.mono HB2.out.size));have hF3:∀i,F i->i<w3.heap.size:=fun i hh=>Nat.lt_of_lt_of_le (HFl.out i hh) HB2.out.size;have hwr:=kY hR4 (fun i hh=>Nat.lt_of_lt_of_le (hF3 i hh) hb4.size) n (64*y) g l ho (fun hh=>zK (HR.out.below HB2.out) hF3 hg hh) (by omega);rw [hl] at hwr;have HWr:=hid hwr;have HB4:=hid (HB2.out.trans (hb4.mono HB2.out.size));clear hwr hR4 hF3 hb4 hg hl ho HB2
 go_wp2_with fail
 refine HWr.out.mono ?_;clear HWr;rintro e w5 ⟨hk5,c5,rfl⟩;have HK5:Hid (dx w F r m w5) := .after HB4.out hk5;clear hk5 hm;by_cases hc5:c5=0
 case' neg =>
  go_wp2;go_returns;exact kx HK5.out
 subst hc5;obtain ⟨hk0,m5,hm5,hR5⟩:=HK5.out;have HLs:=hid (tE hR5 n);have HR5:=hid hR5;have HF5:Hid (∀i,F i->i<w5.heap.size):=fun i hh=>Nat.lt_of_lt_of_le (HFl.out i hh) hk0.size;have H05:Hid (ac (fun i=>i=r\/i=m) w w5/\(m5=m\/w.heap.size<=m5)):=⟨hk0,hm5⟩;clear hk0 hm5 hR5
 go_wp2_with fail
 refine HLs.out.mono ?_;clear HLs;rintro e w6 ⟨hb6,a6,k6,cp6,x6,rfl⟩;have HR6:=hid (HR5.out.below hb6);have HK6:=hid (HK5.out.up hb6);have HRs:=hid (sy HR6.out (fun i hh=>Nat.lt_of_lt_of_le (HF5.out i hh) hb6.size) n 0);have HJ:Hid (∀W,dx w6 F r m5 W->dx w F r m W):=fun W hW => .seq (H05.out.1.trans (ac.of_below hb6:ac (fun _=>False) w5 w6) (fun _ e=>e.elim)) H05.out.2 hW;clear hb6;by_cases hk6:k6=0
 ·subst hk6
  go_wp2_with fail
  refine HRs.out.mono ?_;clear HRs;rintro e w7 ⟨hk7,c7,rfl,-⟩;have HK7:=hid (HJ.out w7 hk7);clear hk7;by_cases hc7:c7=0
  ·subst hc7;go_wp2;go_returns;exact kx HK7.out
  ·go_wp2;go_returns;exact kx HK7.out
 ·have hk60:¬(k6:Int)=0:=by omega
  clear HRs;go_wp2;go_returns;exact kx HK6.out
end
end
section
open Go.RowKit
section
variable {w W W' W2:World} {s m c r mr:Nat} {F:Nat->Prop} {e1 e3 a1 a3:List (Nat×List UInt8)} {o u o2 u2:Nat}
theorem aG.seq {F1:Nat->Prop} {m1:Nat} (k1:ac (fun i=>F i\/i=r\/i=mr) W W') (f1:∀i,F1 i->F i\/W.heap.size<=i) (g1:m1=mr\/W.heap.size<=m1) (h:aG w W' s m c r m1 F1 a1 a3 o2 u2 W2):aG w W s m c r mr F a1 a3 o2 u2 W2:=by
 obtain ⟨F2,m2,h2,k2,f2,g2⟩:=h;refine ⟨F2,m2,h2,k1.trans k2 (fun i hi => ?_),fun i hi => ?_,?_⟩
 ·rcases hi with hi | hi | hi
  ·exact (f1 i hi).imp .inl id
  ·exact .inl (.inr (.inl hi))
  ·rcases g1 with g | g
   ·exact .inl (.inr (.inr (hi.trans g)))
   ·exact .inr (by rw [hi];exact g)
 ·rcases f2 i hi with hi | hi
  ·exact f1 i hi
  ·exact .inr (Nat.le_trans k1.size hi)
 ·rcases g2 with g | g
  ·exact g1.imp (fun e=>g.trans e) (fun e=>by rw [g];exact e)
  ·exact .inr (Nat.le_trans k1.size g)
theorem aG.box (h:aG w W s m c r mr F e1 e3 o u W') {b:Nat} {x:Obj} (hb:W.heap[b]? = some x) (hF:¬F b) (h1:b≠r) (h2:b≠mr):W'.heap[b]? = some x:=by
 obtain ⟨F1,m1,-,k1,-⟩:=h;exact k1.heap hb (fun e=>e.elim hF (fun e=>e.elim h1 h2))
theorem St.moreO {ino N o' u':Nat} {Pg Cm:Nat->List UInt8} {fs:Nat->Option ao} (h:St w s m c F N ino Pg Cm fs o u) (ho:o<=o') (hu:u<=u'):St w s m c F N ino Pg Cm fs o' u':=by
 obtain ⟨D,hp⟩:=h.pc;exact ⟨h.map,h.store,h.mF,h.sF,h.few,⟨D,hp.more ho hu⟩,h.good⟩
theorem aG.more (h:aG w W s m c r mr F e1 e3 o u W') (ho:o<=o2) (hu:u<=u2):aG w W s m c r mr F e1 e3 o2 u2 W':=by
 obtain ⟨F1,m1,h1,k1⟩:=h;obtain ⟨Pg,Cm,fs,f1,f3,h0,h3⟩:=h1.st;exact ⟨F1,m1,⟨h1.low,h1.new,⟨Pg,Cm,fs,f1,f3,h0.moreO ho hu,h3⟩,h1.ok1,h1.ok3,h1.ref,h1.rge,h1.mge⟩,k1⟩
theorem aG.pre (hb:Below W.heap.size W W') (h:aG w W' s m c r mr F e1 e3 o u W2):aG w W s m c r mr F e1 e3 o u W2 :=
 .seq (ac.of_below hb) (fun _ e => .inl e) (.inl rfl) h
theorem aG.add (h:aG w W s m c r mr F e1 e3 o u W') (n:Int) (nm:ByteArray) (j:Int) (l1:e1.length<=60) (l3:e3.length<=60) (hu:u<=600000) :
  Calls Tryz.prog 9 #[.pointer (some ⟨s,0,none⟩),.int .i64 n,.string nm,.int .i64 j] W' fun e W2=>∃x:Int,e = .returned (.int .i64 x)/\aG w W s m c r mr F (if n=1 then gF e1 nm.data.toList j else e1) (if n=3 then gF e3 nm.data.toList j else e3) o (u+3000) W2:=by
 obtain ⟨F1,m1,h1,k1,f1,g1⟩:=h;refine (h1.add n nm j l1 l3 hu).mono ?_;rintro e W2 ⟨x,he,-,hs⟩;exact ⟨x,he,.seq k1 f1 g1 hs⟩
theorem aG.drop (h:aG w W s m c r mr F e1 e3 o u W') (n:Int) (nm:ByteArray) (l1:e1.length<=60) (l3:e3.length<=60) (hu:u<=600000) :
  Calls Tryz.prog 10 #[.pointer (some ⟨s,0,none⟩),.int .i64 n,.string nm] W' fun e W2=>∃x y:Int,e = .returned (.tuple #[.int .i64 x,.int .i64 y])/\aG w W s m c r mr F (if n=1 then im e1 nm.data.toList else e1) (if n=3 then im e3 nm.data.toList else e3) o (u+3000) W2:=by
 obtain ⟨F1,m1,h1,k1,f1,g1⟩:=h;refine (h1.drop n nm l1 l3 hu).mono ?_;rintro e W2 ⟨x,y,he,-,hs⟩;exact ⟨x,y,he,.seq k1 f1 g1 hs⟩
theorem aG.find (h:aG w W s m c r mr F e1 e3 o u W') (n:Int) (nm:ByteArray) (l1:e1.length<=60) (l3:e3.length<=60) (hu:u<=600000) :
  Calls Tryz.prog 8 #[.pointer (some ⟨s,0,none⟩),.int .i64 n,.string nm] W' fun e W2=>∃x y:Int,e = .returned (.tuple #[.int .i64 x,.int .i64 y])/\aG w W s m c r mr F e1 e3 o (u+3000) W2:=by
 obtain ⟨F1,m1,h1,k1,f1,g1⟩:=h;refine (h1.find n nm l1 l3 hu).mono ?_;rintro e W2 ⟨x,y,he,-,hs⟩;exact ⟨x,y,he,.seq k1 f1 g1 hs⟩
theorem aG.vadd (h:aG w W s m c r mr F e1 e3 o u W') (n:Int) (nm:ByteArray) (hs:(nm.size:Int)<=9223372036854775807) (i:Int) :
  Calls Tryz.prog 11 #[.pointer (some ⟨r,0,none⟩),.int .i64 n,.string nm,.int .i64 i] W' fun e W2=>∃x:Int,e = .returned (.int .i64 x)/\aG w W s m c r mr F e1 e3 o u W2:=by
 obtain ⟨F1,m1,h1,k1,f1,g1⟩:=h;refine (oE h1.ref h1.lt n nm hs i).mono ?_;rintro e W2 ⟨hR,x,he⟩;exact ⟨x,he,.seq k1 f1 g1 (h1.refs hR)⟩
theorem aG.vdrop (h:aG w W s m c r mr F e1 e3 o u W') (n:Int) (nm:ByteArray) (hs:(nm.size:Int)<=9223372036854775807) :
  Calls Tryz.prog 28 #[.pointer (some ⟨r,0,none⟩),.int .i64 n,.string nm] W' fun e W2=>∃x y:Int,e = .returned (.tuple #[.int .i64 x,.int .i64 y])/\aG w W s m c r mr F e1 e3 o u W2:=by
 obtain ⟨F1,m1,h1,k1,f1,g1⟩:=h;refine (se h1.ref h1.lt n nm hs).mono ?_;rintro e W2 ⟨hR,x,y,he⟩;exact ⟨x,y,he,.seq k1 f1 g1 (h1.refs hR)⟩
theorem aG.vfind (h:aG w W s m c r mr F e1 e3 o u W') (n:Int) (nm:ByteArray) (hs:(nm.size:Int)<=9223372036854775807) :
  Calls Tryz.prog 29 #[.pointer (some ⟨r,0,none⟩),.int .i64 n,.string nm] W' fun e W2=>∃x y:Int,e = .returned (.tuple #[.int .i64 x,.int .i64 y])/\aG w W s m c r mr F e1 e3 o u W2:=by
 obtain ⟨F1,m1,h1,k1,f1,g1⟩:=h;refine (mW h1.ref n nm hs).mono ?_;rintro e W2 ⟨hb,x,y,he⟩;exact ⟨x,y,he,.seq k1 f1 g1 (.refl h1 hb)⟩
theorem aG.rcommit (h:aG w W s m c r mr F e1 e3 o u W'):Calls Tryz.prog 26 #[.pointer (some ⟨r,0,none⟩)] W' fun e W2=>e = .returned (.tuple #[])/\aG w W s m c r mr F e1 e3 o u W2:=by
 obtain ⟨F1,m1,h1,k1,f1,g1⟩:=h;refine h1.rcommit.mono ?_;rintro e W2 ⟨he,hs⟩;exact ⟨he,.seq k1 f1 g1 hs⟩
theorem aG.map (h:aG w W s m c r mr F e1 e3 o u W'):Calls Tryz.prog 13 #[.pointer (some ⟨s,0,none⟩)] W' fun e w'=>e = .returned (.pointer (some ⟨m,0,none⟩))/\w'=W':=by
 obtain ⟨F1,m1,h1,-⟩:=h;exact h1.map
theorem aG.cache (h:aG w W s m c r mr F e1 e3 o u W'):Calls Tryz.prog 14 #[.pointer (some ⟨m,0,none⟩)] W' fun e w'=>e = .returned (.pointer (some ⟨c,0,none⟩))/\w'=W':=by
 obtain ⟨F1,m1,h1,-⟩:=h;exact h1.cache
theorem aG.commit (h:aG w W s m c r mr F e1 e3 o u W') (ho:o<=800000):Calls Tryz.prog 15 #[.pointer (some ⟨c,0,none⟩)] W' fun e W2=>e = .returned (.int .i64 0)/\aG w W s m c r mr F e1 e3 (o+206) u W2:=by
 obtain ⟨F1,m1,h1,k1,f1,g1⟩:=h;refine (h1.commit ho).mono ?_;rintro e W2 ⟨he,hs⟩;exact ⟨he,.seq k1 f1 g1 hs⟩
def Do7 (w W:World) (s m c r mr:Nat) (F:Nat->Prop) (e1 e3:List (Nat×List UInt8)) (n:Int) (o u:Nat) (e:Ending) (W':World):Prop :=
 ∃(b:Bool) (a1 a3:List (Nat×List UInt8)),e = .returned (.bool b)/\a1.length<=e1.length+1/\a3.length<=e3.length+1/\(n=1->a3=e3)/\aG w W s m c r mr F a1 a3 (o+206) (u+3000) W'
theorem gT {b:Bool} {n:Int} (h1:a1.length<=e1.length+1) (h3:a3.length<=e3.length+1) (hn:n=1->a3=e3) (h:aG w W s m c r mr F a1 a3 (o+206) (u+3000) W'):Do7 w W s m c r mr F e1 e3 n o u (.returned (.bool b)) W':=⟨b,a1,a3,rfl,h1,h3,hn,h⟩
theorem vl (e1 e3:List (Nat×List UInt8)) (k1:aZ e1) (k3:aZ e3) (l1:e1.length<=60) (l3:e3.length<=60) (n:Int) (l:List UInt8) (j:Int) :
  (if n=1 then gF e1 l j else e1).length<=e1.length+1/\(if n=3 then gF e3 l j else e3).length<=e3.length+1/\(n=1->(if n=3 then gF e3 l j else e3)=e3):=by
 refine ⟨?_,?_,fun e=>if_neg (by omega)⟩
 ·split
  ·exact (iV k1 l1).2
  ·exact Nat.le_succ _
 ·split
  ·exact (iV k3 l3).2
  ·exact Nat.le_succ _
theorem vD (e1 e3:List (Nat×List UInt8)) (k1:aZ e1) (k3:aZ e3) (n:Int) (l:List UInt8) :
  (if n=1 then im e1 l else e1).length<=e1.length+1/\(if n=3 then im e3 l else e3).length<=e3.length+1/\(n=1->(if n=3 then im e3 l else e3)=e3):=by
 refine ⟨?_,?_,fun e=>if_neg (by omega)⟩
 ·split
  ·exact Nat.le_succ_of_le (mi k1).2
  ·exact Nat.le_succ _
 ·split
  ·exact Nat.le_succ_of_le (mi k3).2
  ·exact Nat.le_succ _
end
end
section
set_option maxRecDepth 100000
set_option maxHeartbeats 8000000
open Go.RowKit
theorem rh {w0 w:World} {s m c r mr:Nat} {F:Nat->Prop} {e1 e3:List (Nat×List UInt8)} {o u:Nat} (h:bK w0 w s m c r mr F e1 e3 o u) (l1:e1.length<=60) (l3:e3.length<=60) (hu:u<=600000) (ho:o<=800000) (kd n i:Int) (nm:ByteArray) (hs:(nm.size:Int)<=9223372036854775807):Calls Tryz.prog 7 #[.pointer (some ⟨s,0,none⟩),.pointer (some ⟨r,0,none⟩),.agg #[.int .i64 kd,.int .i64 n,.int .i64 i,.string nm]] w (Do7 w0 w s m c r mr F e1 e3 n o u):=by
 obtain ⟨wA,hA⟩:∃wA,wA=w.alloc (.cells #[.int .i64 kd,.int .i64 n,.int .i64 i,.string nm] 30):=⟨_,rfl⟩;have hba:Below w.heap.size w wA:=by rw [hA];exact (Below.refl _ w).alloc (Nat.le_refl _) _
 have hxa:wA.heap[w.heap.size]? = some (.cells #[.int .i64 kd,.int .i64 n,.int .i64 i,.string nm] 30 (0,0)):=by rw [hA];exact af w _
 have HNo:Hid (¬F w.heap.size/\w.heap.size≠r/\w.heap.size≠mr):=by
  have h8:=h.ref.lt;exact ⟨fun hh=>absurd (h.lt _ hh) (by omega),by omega,by omega⟩
 obtain ⟨wd,hwd⟩:∃wd,wd=wA.drew:=⟨_,rfl⟩;have hbd:Below wA.heap.size wA wd:=by rw [hwd];exact (Below.refl _ wA).drew
 have HAd:=hid (h.up (hba.trans (hbd.mono hba.size)));have HAa:=hid (h.up hba);have HBA:=hid hba;have HBD:=hid (hba.trans (hbd.mono hba.size));have HXD:=hid (ah hbd hxa (ae hxa));have HXA:=hid hxa;have c0:wA.cell? ⟨w.heap.size,0,none⟩=some (.int .i64 kd):=aa hxa 0;have c1:wA.cell? ⟨w.heap.size,1,none⟩=some (.int .i64 n):=aa hxa 1;have c2:wA.cell? ⟨w.heap.size,2,none⟩=some (.int .i64 i):=aa hxa 2;have c3:wA.cell? ⟨w.heap.size,3,none⟩=some (.string nm):=aa hxa 3;have HOk:=hid (And.intro h.ok1 h.ok3);clear h hba hxa hbd;rcases (show kd=0\/kd=1\/kd=2\/(¬kd=0/\¬kd=1/\¬kd=2) by omega) with rfl | rfl | rfl | ⟨k0,k1,k2⟩
 ·have hlen:=vl e1 e3 HOk.out.1 HOk.out.2 l1 l3 n nm.data.toList i;have hC:=(aG.refl HAd.out (Below.refl _ _)).add n nm i l1 l3 hu;generalize (if n=1 then gF e1 nm.data.toList i else e1)=a1 at *;generalize (if n=3 then gF e3 nm.data.toList i else e3)=a3 at *;have HC:=hid hC;have HLn:=hid hlen;clear hC hlen HAd HAa HBA HOk;go_enter Tryz.func7,Tryz.ntmps7
  go_wp2_with fail
  rw [<- hA];clear hA
  go_wp2_with fail
  refine wp_region_noPanic ?_;refine wp_region_held_drew (S:=fun W=>W.cell? ⟨w.heap.size,1,none⟩=some (.int .i64 n)/\W.cell? ⟨w.heap.size,2,none⟩=some (.int .i64 i)/\W.cell? ⟨w.heap.size,3,none⟩=some (.string nm)) (by kernel_rfl) (by rw [<- hwd];exact ⟨aa HXD.out 1,aa HXD.out 2,aa HXD.out 3⟩) (fun hHeld => ?_);rw [<- hwd];clear hwd c0 c1 c2 c3 HXA;have hSd:wd.cell? ⟨w.heap.size,1,none⟩=some (.int .i64 n)/\wd.cell? ⟨w.heap.size,2,none⟩=some (.int .i64 i)/\wd.cell? ⟨w.heap.size,3,none⟩=some (.string nm):=⟨aa HXD.out 1,aa HXD.out 2,aa HXD.out 3⟩;refine tq 0 _ ?_
  try simp only [tS]
  refine tq 1 _ ?_
  try simp only [tS]
  refine tq 2 _ ?_
  try simp only [tS]
  refine tq 3 _ ?_
  try simp only [tS]
  refine tq 4 _ ?_
  try simp only [tS]
  refine tq 5 _ ?_
  try simp only [tS]
  refine tq 6 _ ?_
  try simp only [tS]
  refine tq 8 _ ?_
  try simp only [tS]
  refine tq 9 _ ?_
  try simp only [tS]
  refine tq 10 _ ?_
  try simp only [tS]
  refine tq 11 _ ?_
  try simp only [tS]
  refine tq 12 _ ?_
  try simp only [tS]
  refine tq 13 _ ?_
  try simp only [tS]
  refine tq 14 _ ?_
  try simp only [tS]
  refine tr 7 (fun K hK => ?_);go_simp;refine HC.out.mono ?_;clear HC;rintro e w2 ⟨x1,rfl,hT2⟩;have hX2:=hT2.box HXD.out HNo.out.1 HNo.out.2.1 HNo.out.2.2;have HX2:=hid hX2;have HC2:=hid (hT2.vadd n nm hs i);have f1:w2.cell? ⟨w.heap.size,1,none⟩=some (.int .i64 n):=aa hX2 1;have f2:w2.cell? ⟨w.heap.size,2,none⟩=some (.int .i64 i):=aa hX2 2;have f3:w2.cell? ⟨w.heap.size,3,none⟩=some (.string nm):=aa hX2 3;clear hX2 hT2 hSd
  go_wp2_with fail
  refine hK.out _ _ ⟨f1,f2,f3⟩ (fun hHeld => ?_);clear hK K
  try simp only [tS]
  refine tr 15 (fun K hK => ?_);go_simp;refine HC2.out.mono ?_;clear HC2;rintro e w3 ⟨x2,rfl,hT3⟩;have hX3:=hT3.box HXD.out HNo.out.1 HNo.out.2.1 HNo.out.2.2;have g1:w3.cell? ⟨w.heap.size,1,none⟩=some (.int .i64 n):=aa hX3 1;have g2:w3.cell? ⟨w.heap.size,2,none⟩=some (.int .i64 i):=aa hX3 2;have g3:w3.cell? ⟨w.heap.size,3,none⟩=some (.string nm):=aa hX3 3;have HT:=hid hT3;clear hX3 hT3 f1 f2 f3
  go_wp2_with fail
  refine hK.out _ _ ⟨g1,g2,g3⟩ (fun hHeld => ?_);clear hK K
  try simp only [tS]
  have hSd:w3.cell? ⟨w.heap.size,1,none⟩=some (.int .i64 n)/\w3.cell? ⟨w.heap.size,2,none⟩=some (.int .i64 i)/\w3.cell? ⟨w.heap.size,3,none⟩=some (.string nm):=⟨g1,g2,g3⟩;obtain ⟨okv,hok⟩:∃okv:Bool,okv=(x1==x2):=⟨_,rfl⟩;refine tq 16 (.bool (x1==x2)) ?_
  try simp only [tS]
  rw [<- hok];clear hok;refine tq 17 _ ?_
  try simp only [tS]
  refine wpAnyH_done (by kernel_rfl) ?_ _;refine NoPanic.normal ?_;clear hHeld g1 g2 g3 hSd;cases okv
  ·go_wp2_with fail
   refine HT.out.rcommit.mono ?_;rintro e w5 ⟨rfl,hT5⟩;have HT5:=hid hT5;clear hT5 HT;go_wp2;go_ret;exact gT HLn.out.1 HLn.out.2.1 HLn.out.2.2 (.pre HBD.out (HT5.out.more (by omega) (Nat.le_refl _)))
  ·go_wp2_with fail
   refine HT.out.rcommit.mono ?_;rintro e w5 ⟨rfl,hT5⟩;have HT5:=hid hT5;clear hT5 HT;have HMp:=hid HT5.out.map;have HCa:=hid HT5.out.cache;have HCm:=hid (HT5.out.commit ho)
   go_wp2_with fail
   refine HMp.out.mono ?_;clear HMp;rintro e w6 ⟨rfl,rfl⟩
   go_wp2_with fail
   refine HCa.out.mono ?_;clear HCa;rintro e w7 ⟨rfl,rfl⟩
   go_wp2_with fail
   refine HCm.out.mono ?_;clear HCm;rintro e w8 ⟨rfl,hT8⟩;have HT8:=hid hT8;clear hT8;go_wp2;go_ret;exact gT HLn.out.1 HLn.out.2.1 HLn.out.2.2 (.pre HBD.out HT8.out)
 ·have hlen:=vD e1 e3 HOk.out.1 HOk.out.2 n nm.data.toList;have hC:=(aG.refl HAa.out (Below.refl _ _)).drop n nm l1 l3 hu;generalize (if n=1 then im e1 nm.data.toList else e1)=a1 at *;generalize (if n=3 then im e3 nm.data.toList else e3)=a3 at *;have HC:=hid hC;have HLn:=hid hlen;clear hlen;clear hC HAa HBD HXD HAd HOk;go_enter Tryz.func7,Tryz.ntmps7
  go_wp2_with fail
  rw [<- hA];clear hA hwd
  go_wp2_with fail
  refine HC.out.mono ?_;clear HC;rintro e w2 ⟨x1,y1,rfl,hT2⟩;have hX2:=hT2.box HXA.out HNo.out.1 HNo.out.2.1 HNo.out.2.2;have HC2:=hid (hT2.vdrop n nm hs);have f1:w2.cell? ⟨w.heap.size,1,none⟩=some (.int .i64 n):=aa hX2 1;have f3:w2.cell? ⟨w.heap.size,3,none⟩=some (.string nm):=aa hX2 3;clear hX2 hT2 c0 c1 c2 c3
  go_wp2_with fail
  refine HC2.out.mono ?_;clear HC2;rintro e w3 ⟨x2,y2,rfl,hT3⟩;have HT:=hid hT3;clear hT3 f1 f3;by_cases q1:x1=x2
  ·subst q1;by_cases q2:y1=y2
   ·subst q2;have q3:(x1==x1)=true:=beq_self_eq_true x1;have q4:(y1==y1)=true:=beq_self_eq_true y1
    go_wp2_with fail
    refine HT.out.rcommit.mono ?_;rintro e w5 ⟨rfl,hT5⟩;have HT5:=hid hT5;clear hT5 HT;have HMp:=hid HT5.out.map;have HCa:=hid HT5.out.cache;have HCm:=hid (HT5.out.commit ho)
    go_wp2_with fail
    refine HMp.out.mono ?_;clear HMp;rintro e w6 ⟨rfl,rfl⟩
    go_wp2_with fail
    refine HCa.out.mono ?_;clear HCa;rintro e w7 ⟨rfl,rfl⟩
    go_wp2_with fail
    refine HCm.out.mono ?_;clear HCm;rintro e w8 ⟨rfl,hT8⟩;have HT8:=hid hT8;clear hT8;go_wp2;go_ret;exact gT HLn.out.1 HLn.out.2.1 HLn.out.2.2 (.pre HBA.out HT8.out)
   ·have q3:(x1==x1)=true:=beq_self_eq_true x1;have q4:(y1==y2)=false:=beq_eq_false_iff_ne.2 q2
    go_wp2_with fail
    refine HT.out.rcommit.mono ?_;rintro e w5 ⟨rfl,hT5⟩;have HT5:=hid hT5;clear hT5 HT;go_wp2;go_ret;exact gT HLn.out.1 HLn.out.2.1 HLn.out.2.2 (.pre HBA.out (HT5.out.more (by omega) (Nat.le_refl _)))
  ·have q3:(x1==x2)=false:=beq_eq_false_iff_ne.2 q1
   go_wp2_with fail
   refine HT.out.rcommit.mono ?_;rintro e w5 ⟨rfl,hT5⟩;have HT5:=hid hT5;clear hT5 HT;go_wp2;go_ret;exact gT HLn.out.1 HLn.out.2.1 HLn.out.2.2 (.pre HBA.out (HT5.out.more (by omega) (Nat.le_refl _)))
 ·have hC:=(aG.refl HAa.out (Below.refl _ _)).find n nm l1 l3 hu;have HC:=hid hC;have HLn:Hid (e1.length<=e1.length+1/\e3.length<=e3.length+1/\(n=1->e3=e3)):=⟨Nat.le_succ _,Nat.le_succ _,fun _=>rfl⟩;clear hC HAa HBD HXD HAd HOk;go_enter Tryz.func7,Tryz.ntmps7
  go_wp2_with fail
  rw [<- hA];clear hA hwd
  go_wp2_with fail
  refine HC.out.mono ?_;clear HC;rintro e w2 ⟨x1,y1,rfl,hT2⟩;have hX2:=hT2.box HXA.out HNo.out.1 HNo.out.2.1 HNo.out.2.2;have HC2:=hid (hT2.vfind n nm hs);have f1:w2.cell? ⟨w.heap.size,1,none⟩=some (.int .i64 n):=aa hX2 1;have f3:w2.cell? ⟨w.heap.size,3,none⟩=some (.string nm):=aa hX2 3;clear hX2 hT2 c0 c1 c2 c3
  go_wp2_with fail
  refine HC2.out.mono ?_;clear HC2;rintro e w3 ⟨x2,y2,rfl,hT3⟩;have HT:=hid hT3;clear hT3 f1 f3;by_cases q1:x1=x2
  ·subst q1;by_cases q2:y1=y2
   ·subst q2;have q3:(x1==x1)=true:=beq_self_eq_true x1;have q4:(y1==y1)=true:=beq_self_eq_true y1
    go_wp2_with fail
    refine HT.out.rcommit.mono ?_;rintro e w5 ⟨rfl,hT5⟩;have HT5:=hid hT5;clear hT5 HT;have HMp:=hid HT5.out.map;have HCa:=hid HT5.out.cache;have HCm:=hid (HT5.out.commit ho)
    go_wp2_with fail
    refine HMp.out.mono ?_;clear HMp;rintro e w6 ⟨rfl,rfl⟩
    go_wp2_with fail
    refine HCa.out.mono ?_;clear HCa;rintro e w7 ⟨rfl,rfl⟩
    go_wp2_with fail
    refine HCm.out.mono ?_;clear HCm;rintro e w8 ⟨rfl,hT8⟩;have HT8:=hid hT8;clear hT8;go_wp2;go_ret;exact gT HLn.out.1 HLn.out.2.1 (fun _=>rfl) (.pre HBA.out HT8.out)
   ·have q3:(x1==x1)=true:=beq_self_eq_true x1;have q4:(y1==y2)=false:=beq_eq_false_iff_ne.2 q2
    go_wp2_with fail
    refine HT.out.rcommit.mono ?_;rintro e w5 ⟨rfl,hT5⟩;have HT5:=hid hT5;clear hT5 HT;go_wp2;go_ret;exact gT HLn.out.1 HLn.out.2.1 (fun _=>rfl) (.pre HBA.out (HT5.out.more (by omega) (Nat.le_refl _)))
  ·have q3:(x1==x2)=false:=beq_eq_false_iff_ne.2 q1
   go_wp2_with fail
   refine HT.out.rcommit.mono ?_;rintro e w5 ⟨rfl,hT5⟩;have HT5:=hid hT5;clear hT5 HT;go_wp2;go_ret;exact gT HLn.out.1 HLn.out.2.1 (fun _=>rfl) (.pre HBA.out (HT5.out.more (by omega) (Nat.le_refl _)))
 ·have HT:=hid ((aG.refl HAa.out (Below.refl _ _)).more (Nat.le_refl o) (by omega:u<=u+3000));have HLn:Hid (e1.length<=e1.length+1/\e3.length<=e3.length+1/\(n=1->e3=e3)):=⟨Nat.le_succ _,Nat.le_succ _,fun _=>rfl⟩;clear HAa HBD HXD HXA HNo HAd HOk hwd;go_enter Tryz.func7,Tryz.ntmps7
  go_wp2_with fail
  rw [<- hA];clear hA
  go_wp2_with fail
  refine HT.out.rcommit.mono ?_;rintro e w5 ⟨rfl,hT5⟩;have HT5:=hid hT5;clear hT5 HT;have HMp:=hid HT5.out.map;have HCa:=hid HT5.out.cache;have HCm:=hid (HT5.out.commit ho)
  go_wp2_with fail
  refine HMp.out.mono ?_;clear HMp;rintro e w6 ⟨rfl,rfl⟩
  go_wp2_with fail
  refine HCa.out.mono ?_;clear HCa;rintro e w7 ⟨rfl,rfl⟩
  go_wp2_with fail
  refine HCm.out.mono ?_;clear HCm;rintro e w8 ⟨rfl,hT8⟩;have HT8:=hid hT8;clear hT8;go_wp2;go_ret;exact gT HLn.out.1 HLn.out.2.1 (fun _=>rfl) (.pre HBA.out HT8.out)
end
section
set_option maxRecDepth 100000
open Go.ChangeShapes Go.WideShapes Go.ChangeAt Go.RowKit
theorem xv:Tryz.prog.cellsOf 9=1:=by kernel_rfl
theorem xD {H:Type} {enc:TypeId×Value->H} {W:World} {base:Nat} {v:Value} {d:DataW H} {p:List MemPlace} (hok:Value.okWide Tryz.prog W .any base 36 v) (h:DataW.Trod enc Tryz.prog W 0 (fun _=>true) true 36 v d p):∃xs:List ByteArray,RdT W v xs/\∀x∈xs,x.size<=maxLen:=by
 obtain ⟨a0,len0,cap0,rfl⟩:=okWide_slice Tryz.underlying36 hok;obtain ⟨fuel,hf⟩:=h;rcases open_strings Tryz.underlying36 Tryz.underlying9 xv hf with ⟨hcs,hx⟩ | ⟨a,len,cap,ss,hcs,_,hl,hm,hz,hx,hcell,hsz⟩
 ·simp only [Value.cells,List.cons.injEq,and_true,Value.slice.injEq] at hcs;obtain ⟨rfl,rfl,rfl⟩:=hcs;exact ⟨[],⟨none,0,rfl,by simp,by simp,fun j hj=>by simp at hj⟩,fun x hx=>by cases hx⟩
 ·simp only [Value.cells,List.cons.injEq,and_true,Value.slice.injEq] at hcs;obtain ⟨rfl,rfl,rfl⟩:=hcs;simp only [if_true] at hz;have hlen:(ss.take len0).length=len0:=by simp;omega
  refine ⟨ss.take len0,⟨some a,cap0,by rw [hlen],by rw [hlen];exact hl,by unfold maxLen at hm;omega,fun j hj => ?_⟩,fun x hx=>hsz x (List.mem_of_mem_take hx)⟩;rw [hlen] at hj;have h0:=ef (hcell 0 (by omega));rw [Addr.add,if_pos rfl] at h0;have hc:=hcell j (by omega);have hg:ss.getD j ByteArray.empty=(ss.take len0)[j]'(by omega):=by rw [List.getD_eq_getElem?_getD,List.getElem?_eq_getElem (by omega),List.getElem_take];rfl
  have hb:=World.block_lt_of_cell? W _ hc;rw [hg] at hc;refine ⟨a.block,a.off,by rw [<- h0],?_,?_⟩
  ·rw [h0,Addr.add_mid] at hb;exact hb
  ·rw [h0,Addr.add_mid] at hc;exact hc
end
section
set_option maxRecDepth 100000
open Go.ChangeShapes Go.WideShapes Go.ChangeAt Go.RowKit
structure D7 where
 k:Int
 n:Int
 i:Int
 nm:ByteArray
def D7.cells (D:D7):List Value:=[.int .i64 D.k,.int .i64 D.n,.int .i64 D.i,.string D.nm]
def D7.ok (w:World) (D:D7) (b o:Nat):Prop:=D.nm.size<=maxLen/\∀j (hj:j<D.cells.length),w.cell? ⟨b,o+j,none⟩=some D.cells[j]
def zP (w:World) (a:Option Addr) (ds:List D7):Prop:=∀j,j<ds.length->∃b o,a=some ⟨b,o,none⟩/\∀i (hi:i<ds.length),D7.ok w ds[i] b (o+i*4)
theorem D7.ok.below {w w':World} {D:D7} {b o:Nat} (h:D.ok w b o) (k:Below w.heap.size w w'):D.ok w' b o:=⟨h.1,fun j hj=>(k.cell (World.block_lt_of_cell? w _ (h.2 j hj))).trans (h.2 j hj)⟩
theorem un:Tryz.prog.cellsOf 30=4:=by kernel_rfl
theorem zR {H:Type} {enc:TypeId×Value->H} {W:World} {base:Nat} {sp:Nat->Bool} {held:Bool} {fuel:Nat} {cs:List Value} {y:DataW H×List MemPlace} (hl:cs.length=4) (h:DataW.trod enc Tryz.prog W base sp held fuel 30 cs=some y):∃D:D7,cs=D.cells/\D.nm.size<=maxLen:=by
 obtain ⟨xs,n,_,rfl,_,hlen,hf⟩:=DataW.trod_struct Tryz.underlying30 h
 match cs,hl,xs,hlen with
 | [c0,c1,c2,c3],_,[y0,y1,y2,y3],_ =>
  obtain ⟨v0,e0,_⟩:=DataW.trod_int Tryz.underlying3 (hf 0 _ rfl);obtain ⟨v1,e1,_⟩:=DataW.trod_int Tryz.underlying3 (hf 1 _ rfl);obtain ⟨v2,e2,_⟩:=DataW.trod_int Tryz.underlying3 (hf 2 _ rfl);obtain ⟨v3,e3,_,w3⟩:=DataW.trod_string Tryz.underlying9 (hf 3 _ rfl);have f0:c0 = .int .i64 v0:=by simpa [show Tryz.prog.cellsOf 3=1 by kernel_rfl] using e0
  have f1:c1 = .int .i64 v1:=by simpa [show Tryz.prog.cellsOf 3=1 by kernel_rfl] using e1
  have f2:c2 = .int .i64 v2:=by simpa [show Tryz.prog.cellsOf 3=1 by kernel_rfl] using e2
  have f3:c3 = .string v3:=by simpa [show Tryz.prog.cellsOf 3=1 by kernel_rfl,show Tryz.prog.cellsOf 9=1 by kernel_rfl] using e3
  subst f0 f1 f2 f3;exact ⟨⟨v0,v1,v2,v3⟩,rfl,w3⟩
theorem rQ {H:Type} {enc:TypeId×Value->H} {W:World} {sp:Nat->Bool} {held:Bool} {a:Addr} {m:Nat} {y:DataW H×List MemPlace} (h:(W.cells? 0 a 4).bind (DataW.trod enc Tryz.prog W 0 sp held m 30)=some y) :
  ∃D:D7,a=⟨a.block,a.off,none⟩/\D.ok W a.block a.off:=by
 obtain ⟨cs,hcs,hf⟩:=Option.bind_eq_some_iff.1 h;obtain ⟨_,hl,hc⟩:=World.cells?_some hcs;obtain ⟨D,rfl,hsz⟩:=zR hl hf;have c0:=hc 0 (by omega);have hp:=ef c0;rw [Addr.add,if_pos rfl] at hp;rw [hp] at hc;refine ⟨D,hp,hsz,fun j hj => ?_⟩;have:=hc j (by rw [<- hl];exact hj);rw [Addr.add_mid,List.getElem?_eq_getElem hj] at this;exact this
theorem yj {H:Type} {enc:TypeId×Value->H} {W:World} {base:Nat} {v:Value} {d:DataW H} {p:List MemPlace} (hok:Value.okWide Tryz.prog W .any base 22 v) (h:DataW.Trod enc Tryz.prog W 0 (fun _=>true) true 22 v d p) :
  ∃(ds:List D7) (a:Option Addr) (c:Nat),v = .slice a ds.length c/\zP W a ds/\ds.length<=9223372036854775807:=by
 obtain ⟨a0,len,cap,rfl⟩:=okWide_slice Tryz.underlying22 hok;obtain ⟨fuel,hf⟩:=h;rcases DataW.trod_slice Tryz.underlying22 hf with ⟨hcs,hx⟩ | ⟨a,len',cap',elems,rest,n,_,hcs,hx,_,hl,hm,hel,hcell,_,_⟩
 ·simp only [Value.cells,List.cons.injEq,and_true,Value.slice.injEq] at hcs;obtain ⟨rfl,rfl,rfl⟩:=hcs;exact ⟨[],none,0,rfl,fun j hj=>by simp at hj,by simp⟩
 ·simp only [Value.cells,List.cons.injEq,and_true,Value.slice.injEq] at hcs;obtain ⟨rfl,rfl,rfl⟩:=hcs;have hex:∀i,i<len->∃D:D7,(a.add (i*4))=⟨a.block,a.off+i*4,none⟩/\D.ok W a.block (a.off+i*4):=fun i hi=>by
   have h1:=hcell i hi;rw [un,List.getElem?_eq_getElem (by omega)] at h1;obtain ⟨D,hp,c0⟩:=rQ h1;have hblk:(a.add (i*4)).block=a.block:=aJ a _;have hoff:(a.add (i*4)).off=a.off+i*4:=yS _ _;rw [hblk,hoff] at hp c0;exact ⟨D,hp,c0⟩
  obtain ⟨ds,hdl,hP⟩:=us len hex;refine ⟨ds,some a,cap,by rw [hdl],fun j hj => ?_,by unfold maxLen at hm;omega⟩;have ha:a=⟨a.block,a.off,none⟩:=by
   have h1:=hcell 0 (by omega);rw [un,List.getElem?_eq_getElem (by omega)] at h1;obtain ⟨D,hp,_⟩:=rQ h1;rw [Nat.zero_mul,Addr.add,if_pos rfl] at hp;exact hp
  exact ⟨a.block,a.off,by rw [<- ha],fun i hi=>(hP i hi).2⟩
end
section
open Go.RowKit
theorem bK.start {w W:World} {s m c r mr:Nat} {F:Nat->Prop} {Pg:Nat->List UInt8} (hF:∀i,F i->w.heap.size<=i) (hb:Below w.heap.size w W) (h:St W s m c F 100 16 Pg Pg (fsD 3) 206 9) (hr:w.heap.size<=r) (hm:w.heap.size<=mr) (hR:a7 W F r mr):bK w W s m c r mr F [] [] 206 9 :=
 ⟨hb,hF,⟨Pg,Pg,fsD 3,_,_,h,rfl,rfl,rfl,rfl,rfl,rfl,fun _ _ _=>rfl⟩,⟨by decide,by simp⟩,⟨by decide,by simp⟩,hR,hr,hm⟩
def fT (w W:World) (s m c r:Nat) (k1 k3 o u:Nat):Prop:=∃mr F e1 e3,bK w W s m c r mr F e1 e3 o u/\e1.length<=k1/\e3.length<=k3
section
variable {w W W':World} {s m c r mr:Nat} {F:Nat->Prop} {e1 e3:List (Nat×List UInt8)} {o u k1 k3:Nat}
theorem fT.low (h:fT w W s m c r k1 k3 o u):Below w.heap.size w W:=by
 obtain ⟨mr,F,e1,e3,h,-⟩:=h;exact h.low
theorem fT.up (h:fT w W s m c r k1 k3 o u) (hb:Below W.heap.size W W'):fT w W' s m c r k1 k3 o u:=by
 obtain ⟨mr,F,e1,e3,h,h1,h3⟩:=h;exact ⟨mr,F,e1,e3,h.up hb,h1,h3⟩
theorem fT.do_ (h:fT w W s m c r k1 k3 o u) (l1:k1<=60) (l3:k3<=60) (hu:u<=600000) (ho:o<=800000) (kd n i:Int) (nm:ByteArray) (hs:nm.size<=maxLen):Calls Tryz.prog 7 #[.pointer (some ⟨s,0,none⟩),.pointer (some ⟨r,0,none⟩),.agg #[.int .i64 kd,.int .i64 n,.int .i64 i,.string nm]] W fun e W'=>(∃b:Bool,e = .returned (.bool b))/\fT w W' s m c r (k1+1) (k3+1) (o+206) (u+3000):=by
 obtain ⟨mr,F,e1,e3,h,h1,h3⟩:=h;refine (rh h (by omega) (by omega) hu ho kd n i nm (by unfold maxLen at hs;omega)).mono ?_;rintro e W' ⟨b,a1,a3,he,q1,q3,-,F',mr',hD,-⟩;exact ⟨⟨b,he⟩,mr',F',a1,a3,hD,by omega,by omega⟩
theorem fT.add3 (h:fT w W s m c r k1 k3 o u) (l1:k1<=60) (l3:k3<=60) (hu:u<=600000) (nm:ByteArray) (j:Int):Calls Tryz.prog 9 #[.pointer (some ⟨s,0,none⟩),.int .i64 3,.string nm,.int .i64 j] W fun e W'=>(∃x:Int,e = .returned (.int .i64 x))/\fT w W' s m c r k1 (k3+1) o (u+3000):=by
 obtain ⟨mr,F,e1,e3,h,h1,h3⟩:=h;refine (h.add 3 nm j (by omega) (by omega) hu).mono ?_;rintro e W' ⟨x,he,-,F',mr',hD,-⟩;rw [if_neg (by decide),if_pos rfl] at hD;exact ⟨⟨x,he⟩,mr',F',_,_,hD,h1,by have:=(iV (nm:=nm.data.toList) (j:=j) h.ok3 (by omega)).2;omega⟩
theorem fT.vadd (h:fT w W s m c r k1 k3 o u) (n:Int) (nm:ByteArray) (hs:nm.size<=maxLen) (j:Int):Calls Tryz.prog 11 #[.pointer (some ⟨r,0,none⟩),.int .i64 n,.string nm,.int .i64 j] W fun e W'=>(∃x:Int,e = .returned (.int .i64 x))/\fT w W' s m c r k1 k3 o u:=by
 obtain ⟨mr,F,e1,e3,h,h1,h3⟩:=h;refine (oE h.ref h.lt n nm (by unfold maxLen at hs;omega) j).mono ?_;rintro e W' ⟨hR,x,he⟩;obtain ⟨F',mr',hD,-⟩:=h.refs hR;exact ⟨⟨x,he⟩,mr',F',e1,e3,hD,h1,h3⟩
theorem bK.list3 (h:bK w W s m c r mr F e1 e3 o u) (l3:e3.length<=60) (hu:u<=700000) :
  Calls Tryz.prog 12 #[.pointer (some ⟨s,0,none⟩),.int .i64 3] W fun e W'=>∃lv,e = .returned (.tuple #[lv,.int .i64 0])/\RdT W' lv ((iP e3).map fun l=>⟨l.toArray⟩)/\(∀ad n c,lv = .slice (some ad) n c->W.heap.size<=ad.block)/\bK w W' s m c r mr F e1 e3 o (u+3000)/\ac F W W':=by
 obtain ⟨Pg,Cm,fs,f1,f3,h0,g1,k1,d1,g3,k3,d3,ho⟩:=h.st;have hb:=d8 l3;refine (ou (s:=s) (i:=3) e3 h.ok3 h0 g3 k3 d3 (by omega)).mono ?_;rintro e W' ⟨⟨lv,he,hr,hl⟩,hk,U,hU,h2⟩;exact ⟨lv,he,hr,hl,⟨h.low.trans (hk.below h.low.size h.new),h.new,⟨Pg,Cm,fs,f1,f3,h2.more (by omega),g1,k1,d1,g3,k3,d3,ho⟩,h.ok1,h.ok3,h.ref.keep hk (fun _ e=>e) (fun _ e => .inl e),h.rge,h.mge⟩,hk⟩
structure wL (W:World) (r mr:Nat) (F:Nat->Prop) (v:Value) (xs:List ByteArray):Prop where
 row:RdT W v xs
 off:∀ad n c,v = .slice (some ad) n c->0<n->¬F ad.block/\ad.block≠r/\ad.block≠mr/\ad.block<W.heap.size
theorem RdT.keep {v:Value} {xs:List ByteArray} {G:Nat->Prop} (h:RdT W v xs) (k:ac G W W') (hG:∀ad n c,v = .slice (some ad) n c->0<n->¬G ad.block):RdT W' v xs:=by
 obtain ⟨a,c,h1,h2,h2',h3⟩:=h;refine ⟨a,c,h1,h2,h2',fun q hq => ?_⟩;obtain ⟨b,f,e,hb,hc⟩:=h3 q hq;exact ⟨b,f,e,Nat.lt_of_lt_of_le hb k.size,k.cell hc (hG ⟨b,f,none⟩ _ _ (by rw [h1,e]) (by omega))⟩
theorem wL.up {v:Value} {xs:List ByteArray} (h:wL W r mr F v xs) (hb:Below W.heap.size W W'):wL W' r mr F v xs :=
 ⟨h.row.up hb,fun ad n c e hn=>by
  obtain ⟨q1,q2,q3,q4⟩:=h.off ad n c e hn;exact ⟨q1,q2,q3,Nat.lt_of_lt_of_le q4 hb.size⟩⟩
def Ap7 (w W:World) (s m c r:Nat) (v:Value) (e3:List (Nat×List UInt8)) (k o u:Nat):Prop:=∃mr F e1,bK w W s m c r mr F e1 e3 o u/\e1.length<=k/\e3.length<=10/\wL W r mr F v ((iP e3).map fun l=>⟨l.toArray⟩)
theorem Ap7.step {v:Value} {a1:List (Nat×List UInt8)} {k o2 u2:Nat} (h3:e3.length<=10) (hw:wL W r mr F v ((iP e3).map fun l=>⟨l.toArray⟩)) (h:aG w W s m c r mr F a1 e3 o2 u2 W') (hk:a1.length<=k):Ap7 w W' s m c r v e3 k o2 u2:=by
 obtain ⟨F',mr',hD,kk,hf,hm⟩:=h;refine ⟨mr',F',a1,hD,hk,h3,hw.row.keep kk (fun ad n c e hn => ?_),fun ad n c e hn => ?_⟩
 ·obtain ⟨q1,q2,q3,q4⟩:=hw.off ad n c e hn;exact fun hh=>hh.elim q1 (fun hh=>hh.elim q2 q3)
 ·obtain ⟨q1,q2,q3,q4⟩:=hw.off ad n c e hn;refine ⟨fun hh => ?_,q2,?_,Nat.lt_of_lt_of_le q4 kk.size⟩
  ·rcases hf _ hh with hh | hh
   ·exact q1 hh
   ·omega
  ·rcases hm with e | e
   ·rw [e];exact q3
   ·omega
theorem Ap7.low {v:Value} {k:Nat} (h:Ap7 w W s m c r v e3 k o u):Below w.heap.size w W:=by
 obtain ⟨mr,F,e1,h,-⟩:=h;exact h.low
theorem Ap7.up {v:Value} {k:Nat} (h:Ap7 w W s m c r v e3 k o u) (hb:Below W.heap.size W W'):Ap7 w W' s m c r v e3 k o u:=by
 obtain ⟨mr,F,e1,h,h1,h3,hw⟩:=h;exact ⟨mr,F,e1,h.up hb,h1,h3,hw.up hb⟩
theorem Ap7.do_ {v:Value} {k:Nat} (h:Ap7 w W s m c r v e3 k o u) (l1:k<=60) (hu:u<=600000) (ho:o<=800000) (kd i:Int) (nm:ByteArray) (hs:nm.size<=maxLen):Calls Tryz.prog 7 #[.pointer (some ⟨s,0,none⟩),.pointer (some ⟨r,0,none⟩),.agg #[.int .i64 kd,.int .i64 1,.int .i64 i,.string nm]] W fun e W'=>(∃b:Bool,e = .returned (.bool b))/\Ap7 w W' s m c r v e3 (k+1) (o+206) (u+3000):=by
 obtain ⟨mr,F,e1,h,h1,h3,hw⟩:=h;refine (rh h (by omega) (by omega) hu ho kd 1 i nm (by unfold maxLen at hs;omega)).mono ?_;rintro e W' ⟨b,a1,a3,he,q1,q3,hn,hS⟩;obtain rfl:=hn rfl;exact ⟨⟨b,he⟩,.step h3 hw hS (by omega)⟩
theorem Ap7.commit {v:Value} {k:Nat} (h:Ap7 w W s m c r v e3 k o u) (ho:o<=800000):Calls Tryz.prog 15 #[.pointer (some ⟨c,0,none⟩)] W fun e W'=>e = .returned (.int .i64 0)/\Ap7 w W' s m c r v e3 k (o+206) u:=by
 obtain ⟨mr,F,e1,h,h1,h3,hw⟩:=h;refine (h.commit ho).mono ?_;rintro e W' ⟨he,hS⟩;exact ⟨he,.step h3 hw hS h1⟩
theorem Ap7.map {v:Value} {k:Nat} (h:Ap7 w W s m c r v e3 k o u):Calls Tryz.prog 13 #[.pointer (some ⟨s,0,none⟩)] W fun e w'=>e = .returned (.pointer (some ⟨m,0,none⟩))/\w'=W:=by
 obtain ⟨mr,F,e1,h,-⟩:=h;exact h.map
theorem Ap7.cache {v:Value} {k:Nat} (h:Ap7 w W s m c r v e3 k o u):Calls Tryz.prog 14 #[.pointer (some ⟨m,0,none⟩)] W fun e w'=>e = .returned (.pointer (some ⟨c,0,none⟩))/\w'=W:=by
 obtain ⟨mr,F,e1,h,-⟩:=h;exact h.cache
theorem fT.list3 (h:fT w W s m c r k1 10 o u) (hu:u<=600000) (h1:k1=0):Calls Tryz.prog 12 #[.pointer (some ⟨s,0,none⟩),.int .i64 3] W fun e W'=>∃a n cp e3,e = .returned (.tuple #[.slice a n cp,.int .i64 0])/\Ap7 w W' s m c r (.slice a n cp) e3 0 o (u+3000):=by
 obtain ⟨mr,F,e1,e3,h,q1,q3⟩:=h;refine (h.list3 (by omega) (by omega)).mono ?_;rintro e W' ⟨lv,he,hr,hl,hD,hk⟩;obtain ⟨a,cp,e4,-,-,hc⟩:=id hr;subst e4;refine ⟨a,_,cp,e3,he,mr,F,e1,hD,by omega,q3,hr,fun ad n c e hn => ?_⟩;have hg:=hl ad n c e;have h8:=h.ref.lt;simp only [Value.slice.injEq] at e;obtain ⟨rfl,rfl,-⟩:=e;obtain ⟨b,f,e5,hb,-⟩:=hc 0 hn;refine ⟨fun hh=>absurd (h.lt _ hh) (by omega),by omega,by omega,?_⟩;rw [Option.some.inj e5];exact hb
theorem Ap7.list3 {v:Value} {k:Nat} (h:Ap7 w W s m c r v e3 k o u) (hu:u<=600000):Calls Tryz.prog 12 #[.pointer (some ⟨s,0,none⟩),.int .i64 3] W fun e W'=>∃a n cp,e = .returned (.tuple #[.slice a n cp,.int .i64 0])/\RdT W' (.slice a n cp) ((iP e3).map fun l=>⟨l.toArray⟩)/\RdT W' v ((iP e3).map fun l=>⟨l.toArray⟩)/\Below w.heap.size w W':=by
 obtain ⟨mr,F,e1,h,h1,h3,hw⟩:=h;refine (h.list3 (by omega) (by omega)).mono ?_;rintro e W' ⟨lv,he,hr,hl,hD,hk⟩;obtain ⟨a,cp,e4,-⟩:=id hr;subst e4;exact ⟨a,_,cp,he,hr,hw.row.keep hk (fun ad n c e hn=>(hw.off ad n c e hn).1),hD.low⟩
end
end
section
set_option maxRecDepth 100000
set_option maxHeartbeats 8000000
open Go.RowKit
theorem RdT.at_ {w:World} {a:Option Addr} {n c:Nat} {xs:List ByteArray} (h:RdT w (.slice a n c) xs) {k:Nat} (hk:k<xs.length):∃b o,a=some ⟨b,o,none⟩/\w.cell? ⟨b,o+k,none⟩=some (.string xs[k]):=by
 obtain ⟨a',c',e1,-,-,f1⟩:=h;simp only [Value.slice.injEq] at e1;obtain ⟨rfl,-,rfl⟩:=e1;obtain ⟨b,o,e,-,hc⟩:=f1 k hk;exact ⟨b,o,e,hc⟩
theorem rZ (ds:List D7) (da:Option Addr) (dc:Nat) (v:Value) (xs:List ByteArray) (w:World) (hds:zP w da ds) (hr:RdT w v xs) (h9:∀x∈xs,x.size<=maxLen) (hV:∃m,w.cell? ⟨0,0,none⟩=some (.int .i64 m)):Calls Tryz.prog 4 #[.slice da ds.length dc,v] w fun e w'=>e = .returned (.bool true)/\Below w.heap.size w w':=by
 have HV:Hid (∀W,Below w.heap.size w W->∃m,W.cell? ⟨0,0,none⟩=some (.int .i64 m)):=fun W hb=>hV.imp fun m hm=>(World.cell?_of_block (w:=w) (hb.block 0 (World.block_lt_of_cell? w _ hm))).trans hm;have HDs:=hid hds;have HR:=hid hr;have H9:=hid h9;obtain ⟨na,nc,rfl,-,-⟩:=hr;clear hV hds h9;go_enter Tryz.func4,Tryz.ntmps4
 go_wp2_with fail
 refine (gR w).mono ?_;rintro e w1 ⟨s,m,c,F,r,Pg,mr,rfl,hF,hb1,hs1,hr,hm,hR⟩;have HM1:Hid (fT w w1 s m c r 0 0 206 9):=⟨mr,F,[],[],.start hF hb1 hs1 hr hm hR,Nat.le_refl _,Nat.le_refl _⟩;clear hF hb1 hs1 hr hm hR
 go_wp2_with fail
 refine (ny w1 (HV.out _ HM1.out.low)).mono ?_;rintro e w2 ⟨rfl,hb2⟩;have HM2:=hid (HM1.out.up hb2);clear hb2 HM1 HV
 go_wp2_with fail
 go_loopw [8] (fun i wr=>∃k:Nat,k<=xs.length/\k<=10/\i = .int .i64 k/\Hid (fT w wr s m c r 0 k 206 (9+3000*k))) (fun i _=>xs.length-(intOf i).toNat)
 case atStart=>exact ⟨0,by omega,by omega,rfl,HM2⟩
 case round =>
  obtain ⟨k,hk,hk30,rfl,HM⟩:=hrel;clear HM2;by_cases hlt:k<xs.length/\k<10
  ·obtain ⟨hlt,hk3⟩:=hlt;have hi0:(0:Int)<=(k:Int):=by omega
   have hi1:(k:Int)<(xs.length:Int):=by omega
   have hi2:(k:Int)<10:=by omega
   obtain ⟨b,o,rfl,x0⟩:=(HR.out.up HM.out.low).at_ hlt;obtain ⟨x,hx⟩:∃x,x=xs[k]:=⟨_,rfl⟩;have hx9:x.size<=maxLen:=by rw [hx];exact H9.out _ (List.getElem_mem hlt)
   have HX0:Hid (∀W,Below wr.heap.size wr W->W.cell? ⟨b,o+k,none⟩=some (.string x)):=fun W hb=>(hb.cell (World.block_lt_of_cell? wr _ x0)).trans (by rw [hx];exact x0);have HX1:Hid (∀W,Below w.heap.size w W->W.cell? ⟨b,o+k,none⟩=some (.string x)):=fun W hb=>by
    obtain ⟨b',o',e',h'⟩:=(HR.out.up hb).at_ hlt;cases e';rw [hx];exact h'
   rw [<- hx] at x0;have HA:=hid (HM.out.add3 (by omega) (by omega) (by omega) x 5);have HX9:=hid hx9;clear hx hx9 HM HX0
   go_wp2_with fail
   refine HA.out.mono ?_;clear HA;rintro e w3 ⟨⟨a3,rfl⟩,hM3⟩;have x1:=HX1.out w3 hM3.low;have HB:=hid (hM3.vadd 3 x HX9.out 5);clear hM3 x0
   go_wp2_with fail
   refine HB.out.mono ?_;clear HB;rintro e w4 ⟨⟨a4,rfl⟩,hM4⟩;have e2:9+3000*k+3000=9+3000*(k+1):=by omega
   rw [e2] at hM4;have HM4:=hid hM4;clear hM4 e2 x1;go_wp2
   go_roundw
   case rel=>exact ⟨k+1,by omega,by omega,by go_num,HM4⟩
   case measure=>simp [intOf];omega
  ·have HM5:Hid (fT w wr s m c r 0 10 206 40000):=by
    obtain ⟨mr,F,e1,e3,hD,q1,q3⟩:=HM.out;exact ⟨mr,F,e1,e3,hD.more (by omega),q1,by omega⟩
   have HLs:=hid (HM5.out.list3 (by omega) rfl);have hcs:(k=xs.length)\/(k=10/\10<xs.length):=by omega
   clear hlt HM HM5 HR H9;rcases hcs with hcs | hcs
   case' inl =>
    have q1:¬(k:Int)<(xs.length:Int):=by omega
    clear hcs
    go_wp2_with fail
   case' inr =>
    have q1:(k:Int)<(xs.length:Int):=by omega
    have q2:¬(k:Int)<10:=by omega
    clear hcs
    go_wp2_with fail
    clear q2
   all_goals
    clear q1 hk hk30;refine HLs.out.mono ?_;clear HLs;rintro e w5 ⟨wa,wn,wc,e3,rfl,hA5⟩;have HA5:=hid hA5;have HMp:=hid hA5.map;have HCa:=hid hA5.cache;have HCm:=hid (hA5.commit (by omega));clear hA5
    go_wp2_with fail
    refine HMp.out.mono ?_;clear HMp;rintro e w6 ⟨rfl,rfl⟩
    go_wp2_with fail
    refine HCa.out.mono ?_;clear HCa;rintro e w7 ⟨rfl,rfl⟩
    go_wp2_with fail
    refine HCm.out.mono ?_;clear HCm;rintro e w8 ⟨rfl,hA8⟩;have HA8:=hid hA8;clear hA8 HA5
    go_wp2_with fail
    go_loopw [11] (fun i wr=>∃k:Nat,k<=ds.length/\k<=25/\i = .int .i64 k/\Hid (Ap7 w wr s m c r (.slice wa wn wc) e3 k (412+206*k) (50000+3000*k))) (fun i _=>ds.length-(intOf i).toNat)
    case atStart =>
     refine ⟨0,by omega,by omega,rfl,?_⟩;obtain ⟨mr,F,e1,hD,q1,q3,hw⟩:=HA8.out;exact ⟨mr,F,e1,hD.more (by omega),q1,q3,hw⟩
    case round =>
     obtain ⟨k2,hk,hk30,rfl,HM⟩:=hrel;clear HA8;by_cases hlt:k2<ds.length/\k2<25
     ·obtain ⟨hlt,hk3⟩:=hlt;have hi0:(0:Int)<=(k2:Int):=by omega
      have hi1:(k2:Int)<(ds.length:Int):=by omega
      have hi2:(k2:Int)<25:=by omega
      obtain ⟨b,o,rfl,hdc⟩:=HDs.out k2 hlt;have hok:=(hdc k2 hlt).below HM.out.low;generalize ds[k2]=E at *;obtain ⟨ek,en,ei,em⟩:=E;have x0:wr.cell? ⟨b,o+k2*4,none⟩=some (.int .i64 ek):=hok.2 0 (show 0<4 by omega);have x1:wr.cell? ⟨b,o+k2*4+1,none⟩=some (.int .i64 en):=hok.2 1 (show 1<4 by omega);have x2:wr.cell? ⟨b,o+k2*4+2,none⟩=some (.int .i64 ei):=hok.2 2 (show 2<4 by omega);have x3:wr.cell? ⟨b,o+k2*4+3,none⟩=some (.string em):=hok.2 3 (show 3<4 by omega);have hsz:=hok.1;have HDo:=hid (fun ob=>(HM.out.up ((Below.refl _ wr).alloc (Nat.le_refl _) ob)).do_ (by omega) (by omega) (by omega) ek ei em hsz);clear hok hdc HM hsz
      go_wp2_with fail
      refine (HDo.out _).mono ?_;clear HDo;rintro e w9 ⟨⟨bb,rfl⟩,hM3⟩;have e1:412+206*k2+206=412+206*(k2+1):=by omega
      have e2:50000+3000*k2+3000=50000+3000*(k2+1):=by omega
      rw [e1,e2] at hM3;have HM3:=hid hM3;clear hM3 e1 e2 x0 x1 x2 x3;go_wp2
      go_roundw
      case rel=>exact ⟨k2+1,by omega,by omega,by go_num,HM3⟩
      case measure=>simp [intOf];omega
     ·have HL2:=hid (HM.out.list3 (by omega));have hcs:(k2=ds.length)\/(k2=25/\25<ds.length):=by omega
      clear hlt HM HDs;rcases hcs with hcs | hcs
      case' inl =>
       have q1:¬(k2:Int)<(ds.length:Int):=by omega
       clear hcs
       go_wp2_with fail
      case' inr =>
       have q1:(k2:Int)<(ds.length:Int):=by omega
       have q2:¬(k2:Int)<25:=by omega
       clear hcs
       go_wp2_with fail
       clear q2
      all_goals
       clear q1 hk hk30;refine HL2.out.mono ?_;clear HL2;rintro e w9 ⟨a9,n9,c9,rfl,hr9,hv9,hb9⟩;have HS:=hid (lY _ _ _ w9 hv9 hr9);have HB9:=hid hb9;clear hr9 hv9 hb9
       go_wp2_with fail
       refine HS.out.mono ?_;clear HS;rintro e w10 ⟨rfl,hb10⟩;have HB10:=hid (HB9.out.trans (hb10.mono HB9.out.size));clear hb10 HB9;go_wp2;go_ret;exact ⟨rfl,HB10.out⟩
end
section
open Go.RowKit
def fv (es:List (Nat×List UInt8)) (nm:List UInt8):Option Nat:=es.findSome? fun x=>if x.1≠0/\x.2=nm then some x.1 else none
theorem cU (a b:List (Nat×List UInt8)) (nm:List UInt8):fv (a ++ b) nm=(fv a nm).or (fv b nm):=by unfold fv;exact List.findSome?_append
theorem uE {x:Nat×List UInt8} (h:x.1=0) (l:List (Nat×List UInt8)) (nm:List UInt8):fv (x :: l) nm=fv l nm:=by unfold fv;rw [List.findSome?_cons,if_neg (fun e=>e.1 h)]
theorem xh {x:Nat×List UInt8} {nm:List UInt8} (h:x.2≠nm) (l:List (Nat×List UInt8)):fv (x :: l) nm=fv l nm:=by unfold fv;rw [List.findSome?_cons,if_neg (fun e=>h e.2)]
theorem uC {x:Nat×List UInt8} {nm:List UInt8} (h0:x.1≠0) (h:x.2=nm) (l:List (Nat×List UInt8)):fv (x :: l) nm=some x.1:=by unfold fv;rw [List.findSome?_cons,if_pos ⟨h0,h⟩]
theorem yQ {l:List (Nat×List UInt8)} (h:∀x∈l,x.1=0) (nm:List UInt8):fv l nm=none:=by
 unfold fv;rw [List.findSome?_eq_none_iff];exact fun x hx=>if_neg (fun e=>e.1 (h x hx))
theorem pI:∀(es:List (Nat×List UInt8)) (nm:List UInt8),fv es nm=(lookE es nm).map fun k=>(es.getD k (0,[])).1
 | [],nm=>rfl
 | x :: es,nm=>by
  have ih:=pI es nm;unfold lookE at ih ⊢;rw [List.findIdx?_cons];by_cases h:x.1≠0/\x.2=nm
  ·rw [uC h.1 h.2,if_pos (by simp [h.1,h.2])];rfl
  ·have e:fv (x :: es) nm=fv es nm:=by unfold fv;rw [List.findSome?_cons,if_neg h]
   rw [e,ih,if_neg (by simpa using h),Option.map_map]
   rfl
theorem iX (es:List (Nat×List UInt8)) (nm:List UInt8):kt es nm=if nameL nm=true then ((match fv es nm with | some k=>((k:Int),0) | none=>(0,4)):Int×Int) else (0,8):=by
 unfold kt
 split
 ·rw [pI];unfold vX uR;cases lookE es nm <;> rfl
 ·rfl
theorem rP {es:List (Nat×List UInt8)} (h:aR es<es.length):(es[aR es]).1=0:=by
 have:=List.findIdx_getElem (w:=h);exact eq_of_beq this
theorem tI (es:List (Nat×List UInt8)) (nm:List UInt8):fv es nm=fv (es.take (aR es) ++ es.drop (aR es+1)) nm:=by
 conv=>lhs;rw [<- List.take_append_drop (aR es) es]
 rw [cU,cU]
 congr 1
 by_cases h:aR es<es.length
 ·rw [List.drop_eq_getElem_cons h,uE (rP h)]
 ·rw [List.drop_of_length_le (by omega),List.drop_of_length_le (by omega)]
theorem nZ (es:List (Nat×List UInt8)) (j:Nat) {nm o:List UInt8} (h:nm≠o):fv (cq es j nm) o=fv es o:=by
 unfold cq;rw [cU,xh h, <- cU, <- tI]
theorem j8 {es:List (Nat×List UInt8)} {nm:List UInt8} (h:lookE es nm=none):fv es nm=none:=by rw [pI,h];rfl
theorem qe {es:List (Nat×List UInt8)} {j:Nat} {nm:List UInt8} (h:fv es nm=none) (hj:j≠0):fv (cq es j nm) nm=some j:=by
 rw [tI,cU] at h;unfold cq;rw [cU,(Option.or_eq_none_iff.1 h).1,uC hj rfl];rfl
theorem oo (es:List (Nat×List UInt8)) (g:Nat):∀n k,k<n->endN es g n<=64*k->k≠g->(es.getD k (0,[])).1=0
 | n+1,k,hk,he,hg=>by
  rw [endN] at he
  split at he
  ·omega
  ·rename_i hc;rcases Nat.lt_or_ge k n with h | h
   ·exact oo es g n k h he hg
   ·obtain rfl:k=n:=by omega
    by_cases h0:(es.getD k (0,[])).1=0
    ·exact h0
    ·exact absurd ⟨h0,hg⟩ hc
theorem zm (es:List (Nat×List UInt8)) {g:Nat} (hg:g<es.length) (o:List UInt8):fv (ii es g) o=fv (es.take g ++ es.drop (g+1)) o:=by
 have h2:fv (es.set g (0,[])) o=fv (es.take g ++ es.drop (g+1)) o:=by
  rw [List.set_eq_take_append_cons_drop,if_pos hg,cU,uE rfl, <- cU]
 unfold ii
 split
 ·rename_i he;obtain ⟨t,ht⟩:∃t,t=endN es g es.length / 64:=⟨_,rfl⟩;have hm:=(nr es g es.length).1;have htg:t<=g:=by omega
  rw [<- ht, <- h2]
  conv=>rhs;rw [<- List.take_append_drop t (es.set g (0,[]))]
  have h3:fv ((es.set g (0,[])).drop t) o=none:=yQ (fun x hx=>by
   obtain ⟨q,hq,rfl⟩:=List.mem_iff_getElem.1 hx;rw [List.length_drop,List.length_set] at hq;rw [List.getElem_drop,List.getElem_set]
   split
   ·rfl
   ·have h4:=oo es g es.length (t+q) (by omega) (by omega) (by omega);rw [List.getD_eq_getElem?_getD,List.getElem?_eq_getElem (by omega)] at h4;exact h4) o
  rw [cU,h3,Option.or_none]
  congr 1
  refine List.ext_getElem (by simp) fun q q1 q2 => ?_;rw [List.getElem_take,List.getElem_take,List.getElem_set_ne (by rw [List.length_take] at q1;omega)]
 ·exact h2
theorem rE (es:List (Nat×List UInt8)) (j:Nat) (nm:List UInt8):aR es<(cq es j nm).length:=by
 have:=d9 es;unfold cq;rw [List.length_append,List.length_cons,List.length_take];omega
theorem vK (es:List (Nat×List UInt8)) (j:Nat) (nm o:List UInt8):fv (ii (cq es j nm) (aR es)) o=fv es o:=by
 have hf:=d9 es;rw [zm _ (rE es j nm),tI es o];have e1:(cq es j nm).take (aR es)=es.take (aR es):=by
  unfold cq;rw [List.take_append_of_le_length (by rw [List.length_take];omega),List.take_take,Nat.min_self]
 have e2:(cq es j nm).drop (aR es+1)=es.drop (aR es+1):=by
  unfold cq;rw [List.drop_append,List.drop_of_length_le (by rw [List.length_take];omega),List.length_take,List.nil_append,Nat.min_eq_left hf,show aR es+1-aR es=1 by omega]
  rfl
 rw [e1,e2]
theorem wl {es:List (Nat×List UInt8)} {j:Nat} {nm:List UInt8} (h:lookE es nm=none) (hj:j≠0):lookE (cq es j nm) nm=some (aR es)/\((cq es j nm).getD (aR es) (0,[]))=(j,nm):=by
 have hf:=d9 es;have hl:=rE es j nm;have hg:∀k (hk:k<(cq es j nm).length),k<aR es->∃hk':k<es.length,(cq es j nm)[k]=es[k]:=fun k hk hlt=>⟨by omega,by
  have e:(cq es j nm)[k]? = es[k]? := by
   unfold cq;rw [List.getElem?_append_left (by rw [List.length_take];omega),List.getElem?_take_of_lt hlt]
  rw [List.getElem?_eq_getElem hk,List.getElem?_eq_getElem (show k<es.length by omega)] at e;exact Option.some.inj e⟩
 have hs:(cq es j nm)[aR es]=(j,nm):=by
  have e:(cq es j nm)[aR es]? = some (j,nm):=by
   unfold cq;rw [List.getElem?_append_right (by rw [List.length_take];omega),List.length_take,Nat.min_eq_left hf,Nat.sub_self]
   rfl
  rw [List.getElem?_eq_getElem hl] at e;exact Option.some.inj e
 refine ⟨rq hl (fun k hk hlt => ?_) (by rw [hs];exact hj) (by rw [hs]),by rw [List.getD_eq_getElem?_getD,List.getElem?_eq_getElem hl,hs];rfl⟩;obtain ⟨hk',e⟩:=hg k hk hlt;rw [e];unfold lookE at h;rw [List.findIdx?_eq_none_iff] at h;have:=h es[k] (List.getElem_mem hk');simpa using this
end
section
set_option maxRecDepth 100000
set_option maxHeartbeats 8000000
open Go.RowKit
theorem yz {a b:ByteArray} (h:(a.toList==b.toList)=false):b.data.toList≠a.data.toList:=fun e=>by
 have e2:b=a:=ByteArray.ext (Array.toList_inj.1 e);rw [e2] at h;exact beq_eq_false_iff_ne.1 h rfl
theorem vm {es:List (Nat×List UInt8)} {nm:List UInt8} (h:(gS es nm 7).1=0):nameL nm=true/\lookE es nm=none/\gF es nm 7=cq es 7 nm:=by
 have e:gF es nm 7=(gS es nm 7).2:=if_pos (by decide);rw [e];unfold gS at h ⊢
 split at h
 ·exact absurd h (show ¬(8:Int)=0 by decide)
 ·rename_i h1;rw [if_neg h1]
  split at h
  ·exact absurd h (show ¬(5:Int)=0 by decide)
  ·rename_i h2;rw [if_neg h2];exact ⟨by simpa using h1,by simpa using h2,rfl⟩
theorem pT {es:List (Nat×List UInt8)} {nm:List UInt8} (h1:nameL nm=true) (h2:lookE es nm=none):kt (cq es 7 nm) nm=(7,0):=by
 rw [iX,if_pos h1,qe (j8 h2) (by decide)];rfl
theorem nQ (es:List (Nat×List UInt8)) {nm o:List UInt8} (h:nm≠o):kt (cq es 7 nm) o=kt es o:=by
 rw [iX,iX,nZ es 7 h]
theorem mg (es:List (Nat×List UInt8)) (nm o:List UInt8):kt (ii (cq es 7 nm) (aR es)) o=kt es o:=by
 rw [iX,iX,vK]
theorem rl {es:List (Nat×List UInt8)} {nm:List UInt8} (h1:nameL nm=true) (h2:lookE es nm=none):kt es nm=(0,4):=by
 rw [iX,if_pos h1,j8 h2]
section
variable {w W:World} {s m c r mr:Nat} {F:Nat->Prop} {e1 e3:List (Nat×List UInt8)} {o u:Nat}
theorem bK.find1 (h:bK w W s m c r mr F e1 e3 o u) (nm:ByteArray) (l1:e1.length<=60) (l3:e3.length<=60) (hu:u<=600000) :
  Calls Tryz.prog 8 #[.pointer (some ⟨s,0,none⟩),.int .i64 1,.string nm] W fun e W'=>∃x y F' mr',e = .returned (.tuple #[.int .i64 x,.int .i64 y])/\(x,y)=kt e1 nm.data.toList/\bK w W' s m c r mr' F' e1 e3 o (u+3000):=by
 refine (h.find 1 nm l1 l3 hu).mono ?_;rintro e W' ⟨x,y,he,hv,F',mr',hD,-⟩;exact ⟨x,y,F',mr',he,hv rfl,hD⟩
theorem bK.add1 (h:bK w W s m c r mr F e1 e3 o u) (nm:ByteArray) (l1:e1.length<=60) (l3:e3.length<=60) (hu:u<=600000) :
  Calls Tryz.prog 9 #[.pointer (some ⟨s,0,none⟩),.int .i64 1,.string nm,.int .i64 7] W fun e W'=>∃x F' mr',e = .returned (.int .i64 x)/\x=(gS e1 nm.data.toList 7).1/\bK w W' s m c r mr' F' (gF e1 nm.data.toList 7) e3 o (u+3000):=by
 refine (h.add 1 nm 7 l1 l3 hu).mono ?_;rintro e W' ⟨x,he,hv,F',mr',hD,-⟩;rw [if_pos rfl,if_neg (by decide)] at hD;exact ⟨x,F',mr',he,hv rfl (by decide) (by decide),hD⟩
theorem bK.drop1 (h:bK w W s m c r mr F e1 e3 o u) (nm:ByteArray) (l1:e1.length<=60) (l3:e3.length<=60) (hu:u<=600000) {k:Nat} (h1:nameL nm.data.toList=true) (h2:lookE e1 nm.data.toList=some k) :
  Calls Tryz.prog 10 #[.pointer (some ⟨s,0,none⟩),.int .i64 1,.string nm] W fun e W'=>∃F' mr',e = .returned (.tuple #[.int .i64 ((e1.getD k (0,[])).1),.int .i64 0])/\bK w W' s m c r mr' F' (ii e1 k) e3 o (u+3000):=by
 refine (h.drop 1 nm l1 l3 hu).mono ?_;rintro e W' ⟨x,y,he,hv,F',mr',hD,-⟩;obtain ⟨rfl,rfl⟩:=hv rfl k h1 h2;have e2:im e1 nm.data.toList=ii e1 k:=by unfold im;rw [if_pos h1,h2]
 rw [if_pos rfl,if_neg (by decide),e2] at hD;exact ⟨F',mr',he,hD⟩
end
theorem r7 (ds:List D7) (da:Option Addr) (dc:Nat) (nm on:ByteArray) (w:World) (hds:zP w da ds) (hV:∃m,w.cell? ⟨0,0,none⟩=some (.int .i64 m)):Calls Tryz.prog 3 #[.slice da ds.length dc,.string nm,.string on] w fun e w'=>e = .returned (.bool true)/\Below w.heap.size w w':=by
 have HV:Hid (∀W,Below w.heap.size w W->∃m,W.cell? ⟨0,0,none⟩=some (.int .i64 m)):=fun W hb=>hV.imp fun m hm=>(World.cell?_of_block (w:=w) (hb.block 0 (World.block_lt_of_cell? w _ hm))).trans hm;have HDs:=hid hds;clear hV hds;go_enter Tryz.func3,Tryz.ntmps3
 go_wp2_with fail
 refine (gR w).mono ?_;rintro e w1 ⟨s,m,c,F,r,Pg,mr,rfl,hF,hb1,hs1,hr,hm,hR⟩;have HM1:Hid (fT w w1 s m c r 0 0 206 9):=⟨mr,F,[],[],.start hF hb1 hs1 hr hm hR,Nat.le_refl _,Nat.le_refl _⟩;clear hF hb1 hs1 hr hm hR
 go_wp2_with fail
 refine (ny w1 (HV.out _ HM1.out.low)).mono ?_;rintro e w2 ⟨rfl,hb2⟩;have HM2:=hid (HM1.out.up hb2);clear hb2 HM1 HV
 go_wp2_with fail
 go_loopw [10] (fun i wr=>∃k:Nat,k<=ds.length/\k<=30/\i = .int .i64 k/\Hid (fT w wr s m c r k k (206+206*k) (9+3000*k))) (fun i _=>ds.length-(intOf i).toNat)
 case atStart=>exact ⟨0,by omega,by omega,rfl,HM2⟩
 case round =>
  obtain ⟨k,hk,hk30,rfl,HM⟩:=hrel;clear HM2;by_cases hlt:k<ds.length/\k<30
  ·obtain ⟨hlt,hk3⟩:=hlt;have hi0:(0:Int)<=(k:Int):=by omega
   have hi1:(k:Int)<(ds.length:Int):=by omega
   have hi2:(k:Int)<30:=by omega
   obtain ⟨b,o,rfl,hdc⟩:=HDs.out k hlt;have hok:=(hdc k hlt).below HM.out.low;generalize ds[k]=E at *;obtain ⟨ek,en,ei,em⟩:=E;have x0:wr.cell? ⟨b,o+k*4,none⟩=some (.int .i64 ek):=hok.2 0 (show 0<4 by omega);have x1:wr.cell? ⟨b,o+k*4+1,none⟩=some (.int .i64 en):=hok.2 1 (show 1<4 by omega);have x2:wr.cell? ⟨b,o+k*4+2,none⟩=some (.int .i64 ei):=hok.2 2 (show 2<4 by omega);have x3:wr.cell? ⟨b,o+k*4+3,none⟩=some (.string em):=hok.2 3 (show 3<4 by omega);have HDo:=hid (HM.out.do_ (by omega) (by omega) (by omega) (by omega) ek en ei em hok.1);clear hok hdc HM
   go_wp2_with fail
   refine HDo.out.mono ?_;clear HDo;rintro e w3 ⟨⟨bb,rfl⟩,hM3⟩;have e1:206+206*k+206=206+206*(k+1):=by omega
   have e2:9+3000*k+3000=9+3000*(k+1):=by omega
   rw [e1,e2] at hM3;have HM3:=hid hM3;clear hM3 e1 e2 x0 x1 x2 x3;go_wp2
   go_roundw
   case rel=>exact ⟨k+1,by omega,by omega,by go_num,HM3⟩
   case measure=>simp [intOf];omega
  ·obtain ⟨mr,F,e1,e3,hD,hl1,hl3⟩:=HM.out;have HD1:=hid hD;have HL:=hid (And.intro hl1 hl3);have HK:=hid hk30;have hcs:(k=ds.length)\/(k=30/\30<ds.length):=by omega
   clear hlt HM hD hl1 hl3;rcases hcs with hcs | hcs
   case' inl =>
    have q1:¬(k:Int)<(ds.length:Int):=by omega
    clear hcs
    go_wp2_with fail
   case' inr =>
    have q1:(k:Int)<(ds.length:Int):=by omega
    have q2:¬(k:Int)<30:=by omega
    clear hcs
    go_wp2_with fail
    clear q2
   all_goals
    clear q1;have hk30:=HK.out;have HF4:=hid (HD1.out.find1 on (by have:=HL.out.1;omega) (by have:=HL.out.2;omega) (by omega));refine HF4.out.mono ?_;clear HF4;rintro e w4 ⟨a,ea,F4,m4,rfl,hv4,hD4⟩;have HV4:=hid hv4;have HD4:=hid hD4;have HA5:=hid (hD4.add1 nm (by have:=HL.out.1;omega) (by have:=HL.out.2;omega) (by omega));clear hv4 hD4 HD1
    go_wp2_with fail
    refine HA5.out.mono ?_;clear HA5;rintro e w5 ⟨x,F5,m5,rfl,hx,hD5⟩;by_cases hx0:x=0
    case' neg =>
     have HB5:=hid hD5.low;clear hD5 hx HV4 HD4;go_wp2;go_ret;exact ⟨rfl,HB5.out⟩
    subst hx0;obtain ⟨n1,n2,n3⟩:=vm hx.symm;rw [n3] at hD5;have hl5:(cq e1 7 nm.data.toList).length<=31:=by
     have h1:=(iV (nm:=nm.data.toList) (j:=7) HD4.out.ok1 (by have:=HL.out.1;omega)).2;rw [n3] at h1;have:=HL.out.1;omega
    have HN:=hid (And.intro n1 n2);have HL5:=hid hl5;have HD5:=hid hD5;have HF6:=hid (hD5.find1 nm (by omega) (by have:=HL.out.2;omega) (by omega));clear hx n1 n2 n3 hD5 hl5 HD4
    go_wp2_with fail
    refine HF6.out.mono ?_;clear HF6;rintro e w6 ⟨i6,f6,F6,m6,rfl,hv6,hD6⟩;rw [pT HN.out.1 HN.out.2] at hv6;obtain ⟨rfl,rfl⟩:=Prod.mk.inj hv6;have HD6:=hid hD6;have HF7:=hid (hD6.find1 on (by have:=HL5.out;omega) (by have:=HL.out.2;omega) (by omega));clear hv6 hD6 HD5
    go_wp2_with fail
    refine HF7.out.mono ?_;clear HF7;rintro e w7 ⟨b7,g7,F7,m7,rfl,hv7,hD7⟩;have HV7:=hid hv7;have HD7:=hid hD7;have hlk:=wl (j:=7) HN.out.2 (by decide);have hDr:=hD7.drop1 nm (by have:=HL5.out;omega) (by have:=HL.out.2;omega) (by omega) HN.out.1 hlk.1;rw [hlk.2] at hDr;have HDr:=hid hDr;have hl8:=(uc hD7.ok1 (aR e1)).2;have HL8:Hid ((ii (cq e1 7 nm.data.toList) (aR e1)).length<=31):=by have:=HL5.out;unfold Hid;omega
    clear hv7 hD7 HD6 HD7 hDr hlk hl8;have hon:(on.toList==nm.toList)=true\/((on.toList==nm.toList)=false/\b7=a/\g7=ea):=by
     cases hq:(on.toList==nm.toList)
     ·refine .inr ⟨rfl,?_⟩;have h7:=HV7.out;rw [nQ e1 (yz hq), <- HV4.out] at h7;exact Prod.mk.inj h7
     ·exact .inl rfl
    rcases hon with hq | ⟨hq,rfl,rfl⟩
    ·clear HV7
     go_wp2_with fail
     refine HDr.out.mono ?_;clear HDr;rintro e w8 ⟨F8,m8,rfl,hD8⟩;have HD8:=hid hD8;have HF9:=hid (hD8.find1 nm (by have:=HL8.out;omega) (by have:=HL.out.2;omega) (by omega));clear hD8
     go_wp2_with fail
     refine HF9.out.mono ?_;clear HF9;rintro e w9 ⟨i9,x9,F9,m9,rfl,hv9,hD9⟩;rw [mg,rl HN.out.1 HN.out.2] at hv9;obtain ⟨rfl,rfl⟩:=Prod.mk.inj hv9;have HF10:=hid (hD9.find1 on (by have:=HL8.out;omega) (by have:=HL.out.2;omega) (by omega));clear hv9 hD9 HD8
     go_wp2_with fail
     refine HF10.out.mono ?_;clear HF10;rintro e w10 ⟨c10,y10,F10,m10,rfl,hv10,hD10⟩;rw [mg, <- HV4.out] at hv10;obtain ⟨rfl,rfl⟩:=Prod.mk.inj hv10;have HB10:=hid hD10.low;clear hv10 hD10 HV4;go_wp2;go_ret;exact ⟨rfl,HB10.out⟩
    ·clear HV7
     go_wp2_with fail
     refine HDr.out.mono ?_;clear HDr;rintro e w8 ⟨F8,m8,rfl,hD8⟩;have HD8:=hid hD8;have HF9:=hid (hD8.find1 nm (by have:=HL8.out;omega) (by have:=HL.out.2;omega) (by omega));clear hD8
     go_wp2_with fail
     refine HF9.out.mono ?_;clear HF9;rintro e w9 ⟨i9,x9,F9,m9,rfl,hv9,hD9⟩;rw [mg,rl HN.out.1 HN.out.2] at hv9;obtain ⟨rfl,rfl⟩:=Prod.mk.inj hv9;have HF10:=hid (hD9.find1 on (by have:=HL8.out;omega) (by have:=HL.out.2;omega) (by omega));clear hv9 hD9 HD8
     go_wp2_with fail
     refine HF10.out.mono ?_;clear HF10;rintro e w10 ⟨c10,y10,F10,m10,rfl,hv10,hD10⟩;rw [mg, <- HV4.out] at hv10;obtain ⟨rfl,rfl⟩:=Prod.mk.inj hv10;have HB10:=hid hD10.low;clear hv10 hD10 HV4;go_wp2;go_ret;exact ⟨rfl,HB10.out⟩
end
end Go.Proofs.YtpiieilffkickaaGreatDoor
