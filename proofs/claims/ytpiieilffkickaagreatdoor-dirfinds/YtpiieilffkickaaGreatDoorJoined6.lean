/- Several of my texts in one: InRead, InStR, InStS, InModes, InReadV, DEnc, DDec, DEnts, DIter, DRange, ShelfD, DName, DFold, DPut, DTaken, DAddP, DApp, DFirst, DFind, DAdd, DAskN, DAny, DSame, DText, DAddK. -/
import Derived.Test.YtpiieilffkickaaGreatDoorJoined5
import Derived.Test.YtpiieilffkickaaGreatDoorJoined2
import Derived.Test.YtpiieilffkickaaGreatDoorJoined1
import Derived.Lib.BufferWrite
import Derived.Deep.Cut
import Derived.Test.YtpiieilffkickaaGreatDoorJoined4
import Derived.Lib.BufferRead
import Derived.RangeFuncNested
import Derived.RangeFuncBound
import Derived.RangeFuncCalls
import Derived.RangeFuncLeaves
import Derived.Shelf.Abstract
import Derived.Shelf.RegionOpen
import Derived.WalkKit
import Derived.OwnWalkIn
import Derived.TacticsInMore
import Derived.LoopNIn
import Derived.LoopIn
import Derived.Scope
import Derived.Shelf.Strings.Builder1
import Derived.Shelf.Strings.Builder2
import Derived.Shelf.Strings.OnBuilder
import Derived.Shelf.Small.Utf8
import Derived.Shelf.Small.Strs
import Derived.Shelf.Small.Wraps
import Derived.Shelf.Strings.BuilderF
import Derived.Shelf.Strings.BuilderK
import Derived.Shelf.Strings.Search1
import Derived.Shelf.Strings.Search2
import Derived.Shelf.Strings.Search3
import Derived.Shelf.Strings.Count
import Derived.Shelf.LaysM
import Derived.Shelf.Strings.Shaped
import Derived.Shelf.Sort.Plain
import Derived.Shelf.Strings.Prefix
import Derived.Shelf.Strings.Split
import Derived.Shelf.Strings.SplitShaped
import Derived.Shelf.Strings.Runes
import Derived.Shelf.Strings.IndexAny
import Derived.Shelf.Strings.AsciiSet
import Derived.Shelf.Strings.IndexAnyAll
import Derived.Shelf.Bits.Mul64
import Derived.Shelf.Strings.Repeat
import Derived.Shelf.Unicode.DecodeSlow
import Derived.Shelf.Slices.In.SortNone
import Derived.Ground.SlgnProg
import Derived.Shelf.SlicesG.SearchI
import Derived.Test.YtpiieilffkickaaGreatDoorProg
import Derived.Laws.RangeAny
import Derived.Laws.Runes
import Derived.Lib.Walk
import Derived.LoopTactic
import Derived.RangeFuncOwn
import Derived.Lib.Join
set_option maxRecDepth 100000
set_option maxHeartbeats 4000000
namespace Go.Proofs.YtpiieilffkickaaGreatDoor
section
open Go.RowKit Go.Shelf
attribute [local go_sem] Oper.semAt_some
def cV (w:World) (base:Nat) (v:Value) (xs:List UInt8):Prop:=w.ownsRow base 5 1 v xs.length (xs.map U8)
def z8 (w:World) (b base:Nat) (xs:List UInt8):Prop:=∃v,w.heap[b]? = some (.cells #[v] 76 (0,0))/\cV w base v xs
def gh (sl:List Nat) (a z:Nat) (Pg:Nat->List UInt8) (k:Nat):List UInt8:=((Pg (sl.getD (aC k) 0)).drop (a-k*512)).take (min (z-k*512) 512-(a-k*512))
def dL (sl:List Nat) (a z:Nat) (Pg:Nat->List UInt8) (ks:List Nat):List UInt8:=ks.flatMap (gh sl a z Pg)
theorem y7:(Tryz.prog.info? 5).map (fun i=>(i.zero,i.size,i.bytes))=some (some (.int .u8 0),1,1):=by kernel_rfl
theorem mf {w:World} {base:Nat} {v:Value} {xs:List UInt8} {o:Oper} {a:Act} {K:Act->World->Prop} {Q:Exit->Act->World->Prop} (s x:Operand)
  (ho:o.op = .call { callee := .builtin .append,args:=#[s,x],argTypes:=#[76,76] }) (hs:a.eval s=v) (ad:Addr) (m c:Nat) (hx:a.eval x = .slice (some ad) m c)
  (h:cV w base v xs) (news:List UInt8) (hl:news.length=m) (hb:az w ad news) (hn:xs.length+m<=100000) (hbase:base<=w.heap.size)
  (k:∀ag n cap w',cV w' base (.slice ag n cap) (xs ++ news)->w.grownBy w' v.ownBlock->K (a.put o.dst (.slice ag n cap)) w'):Oper.wp Tryz.prog o a w K Q:=by
 obtain ⟨i0,hi,hz0,hz1,hz2⟩:=info_parts y7;rcases Nat.eq_zero_or_pos m with rfl | h0
 ·obtain rfl:news=[]:=List.eq_nil_of_length_eq_zero hl;rw [List.append_nil] at k;have hrun:(Builtin.append_ #[76,76] o.type #[v,.slice (some ad) 0 c]).run Tryz.prog w = .ok v w/\∃ag n cap,v = .slice ag n cap:=by
   rcases h.2 with ⟨rfl,-⟩ | ⟨g,cap,cur,rfl,-,-,hle,-⟩
   ·exact ⟨gm 76 o.type 5 i0 Tryz.underlying76 hi _ c,_,_,_,rfl⟩
   ·exact ⟨gX 76 o.type 5 i0 Tryz.underlying76 hi _ _ cap hle _ c,_,_,_,rfl⟩
  obtain ⟨hrun,ag,n,cap,rfl⟩:=hrun;unfold Oper.wp;simp [execOp,ho,resolve,invoke,builtin,hs,hx,hrun,Result.andThen];exact k _ _ _ w h (ar _ _)
 ·have hnews:∀j y,(news.map U8)[j]? = some y->w.cell? (ad.add j)=some y:=fun j y hy=>by
   have hj:j<news.length:=by simpa using (List.getElem?_eq_some_iff.1 hy).1
   rw [List.getElem?_map,List.getElem?_eq_getElem hj] at hy;rw [hb j hj];exact hy
  have h1:∀y∈news.map U8,y.oneCell'=true:=fun y hy=>by
   obtain ⟨x,-,rfl⟩:=List.mem_map.1 hy
   rfl
  obtain ⟨g,cap,w',hr,h2,h3,-,-⟩:=run_append_lies (P:=Tryz.prog) w 76 o.type base 5 i0 (.int .u8 0) 1 1 Tryz.underlying76 hi hz0 hz1 hz2 rfl (by omega) v xs.length (xs.map U8) h ad m c (news.map U8) (by rw [List.length_map];omega) hnews h1 h0 (by unfold maxLen;omega) (by omega) hbase w.heap.size rfl;unfold Oper.wp;simp [execOp,ho,resolve,invoke,builtin,hs,hx,hr,Result.andThen];refine k _ _ cap w' ?_ h3;unfold cV;rw [List.length_append,hl,List.map_append];exact h2
theorem nM {w:World} {tmps:Array Value} {x:Value} (h1:tmps.getD 6 undef=x):(results Tryz.f205 tmps).run Tryz.prog w = .ok x w:=by
 have h1':tmps[6]?.getD undef=x:=by simpa using h1
 simp only [results,Tryz.results205];simp [go_sem,h1']
theorem cV.down {w:World} {base b':Nat} {v:Value} {xs:List UInt8} (h:cV w base v xs) (hb:b'<=base):cV w b' v xs:=by
 refine ⟨h.1,?_⟩;rcases h.2 with h1 | ⟨g0,cap0,cur,e,h1,h2⟩
 ·exact .inl h1
 ·exact .inr ⟨g0,cap0,cur,e,Nat.le_trans hb h1,h2⟩
theorem cV.ge {w:World} {base:Nat} {v:Value} {xs:List UInt8} (h:cV w base v xs) {g:Nat} (hg:v.ownBlock=some g):base<=g/\∃cs,w.heap[g]? = some (.cells cs 5 (0,0)):=by
 rcases h.2 with ⟨e,-⟩ | ⟨g0,cap0,cur,e,h1,h2,-⟩
 ·rw [e] at hg;cases hg
 ·rw [e] at hg;cases hg;exact ⟨h1,_,h2⟩
section
variable {w:World} {f m c ino:Nat} {F:Nat->Prop} {size N:Nat} {Pg Cm:Nat->List UInt8} {D:Int->Bool} {o u:Nat} {S:bD}
theorem tP (a z:Nat) (h:aT w m c ino) (hmF:¬F m) (hf:aD w f m S) (hfF:¬F f) (hS:S.slots.length=139) (haz:a<=z) (hz:z<=70656) (hu:u<990000) (hsl:∀k,a / 512<=k->k<fillN z->S.slots.getD (aC k) 0<N) (hp:Pc w c F size N Pg Cm D o u) :
  Calls Tryz.prog 205 #[.pointer (some ⟨f,0,none⟩),.int .i64 a,.int .i64 z] w fun e w'=>∃v,e = .returned v/\cV w' w.heap.size v (dL S.slots a z Pg (bC (a / 512) (fillN z)))/\ac F w w'/\Pc w' c F size N Pg Cm D o (u+138):=by
 refine (callsIn_wide (n:=8)).1 ?_;obtain ⟨wA,hA⟩:∃wA,wA=(w.alloc (.cells #[.pointer (some ⟨f,0,none⟩)] 157)).alloc (.cells #[.slice none 0 0] 76):=⟨_,rfl⟩;have hAB:Below w.heap.size w wA:=by rw [hA];exact ((Below.refl _ w).alloc (Nat.le_refl _) _).alloc (by simp) _
 have hA0:wA.heap[w.heap.size]? = some (.cells #[.pointer (some ⟨f,0,none⟩)] 157 (0,0)):=by rw [hA];exact aj (af w _) _
 have hA1:wA.heap[w.heap.size+1]? = some (.cells #[.slice none 0 0] 76 (0,0)):=by
  have h1:=af (w.alloc (.cells #[.pointer (some ⟨f,0,none⟩)] 157)) (.cells #[.slice none 0 0] 76);rw [World.size_alloc] at h1;rw [hA];exact h1
 have hAs:wA.heap.size=w.heap.size+2:=by rw [hA];simp
 have hfA:=hf.below hAB;have HF:=hid hfA;have HMp:=hid (h.below hAB);have HPc:=hid ((PcB.start hp).keep (ac.of_below hAB));have HFl:=hid hp.lt;have HA0:=hid hA0;have HA1:=hid hA1;have HAB:=hid hAB;have HAs:=hid hAs;have HS:=hid hS;have HSl:=hid hsl;have hfl:f<w.heap.size:=hf.lt;have hml:m<w.heap.size:=ae h;clear hf hfA hA0 hA1 hAB hAs hS h hp hsl;refine callsIn_of_wp_marks Tryz.func205 rfl trivial ?_ rfl;simp only [Tryz.ntmps205,List.size_toArray,List.length_cons,List.length_nil,Nat.reduceAdd,Nat.reduceSub,Array.replicate_succ,Array.replicate_zero,List.push_toArray,List.append_toArray,List.nil_append,List.cons_append];have hf2:Fence.wide.fn 146:=trivial;have hf4:Fence.wide.fn 131:=trivial
 gi_wp2
 rw [<- hA];clear hA;refine (callsIn_wide.2 (gM f a z wA)).mono ?_;rintro e wD ⟨rfl,hD⟩;have hDB:Below wA.heap.size wA wD:=by rw [hD];exact (((Below.refl _ wA).alloc (Nat.le_refl _) _).alloc (by simp) _).alloc (by simp;omega) _
 have hsD:wD.heap.size=wA.heap.size+3:=by rw [hD];simp
 have x0:wD.cell? ⟨wA.heap.size,0,none⟩=some (.pointer (some ⟨f,0,none⟩)):=by rw [hD];exact aa (aj (aj (af wA _) _) _) 0
 have x1:wD.cell? ⟨wA.heap.size+1,0,none⟩=some (.int .i64 a):=by
  have h1:=af (wA.alloc (.cells #[.pointer (some ⟨f,0,none⟩)] 157)) (.cells #[.int .i64 a] 3);rw [World.size_alloc] at h1;rw [hD];exact aa (aj h1 _) 0
 have x2:wD.cell? ⟨wA.heap.size+1+1,0,none⟩=some (.int .i64 z):=by
  have h1:=af ((wA.alloc (.cells #[.pointer (some ⟨f,0,none⟩)] 157)).alloc (.cells #[.int .i64 a] 3)) (.cells #[.int .i64 z] 3);rw [World.size_alloc,World.size_alloc] at h1;rw [hD];exact aa h1 0
 have HDB:=hid hDB;have HsD:=hid hsD;have hws:=HAs.out;have HFD:=hid (HF.out.below hDB);have HMD:=hid (HMp.out.below hDB);have HPD:=hid (HPc.out.keep (ac.of_below hDB));have HR0:=hid (ah hDB HA0.out (ae HA0.out));have HR1:=hid (ah hDB HA1.out (ae HA1.out));have HSt:=hid (eK 7 (by omega) wA.heap.size (wA.heap.size+1) (wA.heap.size+1+1) f m a z S HS.out (fun i=>F i\/i=w.heap.size+1\/wD.heap.size<=i) hz (by omega) wD
  (fun hh=>by rcases hh with hh | hh | hh;(have:=HFl.out _ hh;omega);omega;omega) (fun hh=>by rcases hh with hh | hh | hh;(have:=HFl.out _ hh;omega);omega;omega) (fun hh=>by rcases hh with hh | hh | hh;(have:=HFl.out _ hh;omega);omega;omega)
  (fun hh=>by rcases hh with hh | hh | hh;exact hfF hh;omega;omega) HFD.out x0 x1 x2 (fillN z-a / 512) rfl)
 clear hD hDB hsD x0 x1 x2 HF HMp HPc HA0 HA1 hws
 gi_wp2
 generalize hM:fillN z-a / 512=M at *;have HMM:=hid hM;clear hM;refine wpIn_rangeFunc_ownH rfl (by omega) (gf:=201) (lb:=#[.pointer (some ⟨wA.heap.size+1,0,none⟩),.pointer (some ⟨wA.heap.size+1+1,0,none⟩),.pointer (some ⟨wA.heap.size,0,none⟩)]) rfl trivial (enters_of Tryz.func201 (by kernel_rfl) rfl)
  HSt.out (fun h k=>dF h k) (dI (fun i h => .inr (.inr h))) (Below.refl _ _) (fun _=>rfl)
  (fun pre W=>Hid (aD W f m S)/\Hid (aT W m c ino)/\Hid (PcB W w.heap.size c F size N Pg Cm D o (u+pre.length)) /\
   Hid (z8 W (w.heap.size+1) wD.heap.size (dL S.slots a z Pg (pre.map (fun x:Fin M=>a / 512+x.val))))/\Hid (ac (fun i=>F i\/i=w.heap.size+1) wD W))
  (fun _ _ _=>False)
  (fun s A B row hs hgr hr=>⟨aw hgr hs.1.out (fun e=>by obtain ⟨-,ob,h1,h2⟩:=hr _ e;have h3:=hs.1.out;unfold aD at h3;rw [h3] at h1;cases h1;cases h2),aw hgr hs.2.1.out (fun e=>by obtain ⟨-,ob,h1,h2⟩:=hr _ e;have h3:=hs.2.1.out;unfold aT at h3;rw [h3] at h1;cases h1;cases h2), ?own1, ?own2, ?own3⟩)
  (fun cd s A B row hs hgr hr=>hs)
  ⟨HFD,HMD,HPD, ?st,ac.refl _ _⟩
  (fun x a' W=>∃pb,wD.heap.size<=pb/\a'={ tmps:=#[.pointer (some ⟨f,0,none⟩),.int .i64 a,.int .i64 z,.pointer (some ⟨w.heap.size,0,none⟩),undef,undef,.slice none 0 0,.pointer (some ⟨w.heap.size+1,0,none⟩),.int .i64 (S.slots.getD (aC (a / 512+x.val)) 0:Nat),.pointer (some ⟨pb,0,none⟩),.pointer (some ⟨f,0,none⟩),.int .i64 a,.int .i64 z,.func (.func 201) #[] #[.pointer (some ⟨wA.heap.size+1,0,none⟩),.pointer (some ⟨wA.heap.size+1+1,0,none⟩),.pointer (some ⟨wA.heap.size,0,none⟩)],.int .i64 (S.slots.getD (aC (a / 512+x.val)) 0:Nat),.agg #[.int .i64 (a-(a / 512+x.val)*512:Nat),.int .i64 (min (z-(a / 512+x.val)*512) 512:Nat)],undef,undef,undef,undef,undef,undef,undef,undef,undef,undef,undef,undef,undef,undef],defers:=[] }/\W.heap[pb]? = some (.cells #[.int .i64 (a-(a / 512+x.val)*512:Nat),.int .i64 (min (z-(a / 512+x.val)*512) 512:Nat)] 229 (0,0))) (fun x a' s A B row hs hgr hr => ?own4) ?assign ?body ?done ?stop
 case assign =>
  rintro l1 pre x W K hI hK;have HK:=hid hK;have HI:=hid hI;clear hK hI;unfold lA;obtain ⟨a1,ha1⟩:∃a1:Int,a1=((S.slots.getD (aC (a / 512+x.val)) 0:Nat):Int):=⟨_,rfl⟩;obtain ⟨a2,ha2⟩:∃a2:Int,a2=((a-(a / 512+x.val)*512:Nat):Int):=⟨_,rfl⟩;obtain ⟨a3,ha3⟩:∃a3:Int,a3=((min (z-(a / 512+x.val)*512) 512:Nat):Int):=⟨_,rfl⟩;rw [<- ha1, <- ha2, <- ha3];have HA123:=hid (And.intro ha1 (And.intro ha2 ha3));clear ha1 ha2 ha3
  gi_wp2
  obtain ⟨rfl,rfl,rfl⟩:=HA123.out;obtain ⟨i1,i2,i3,i4,i5⟩:=HI.out;have hwD:=i5.out.size;have hba:Below W.heap.size W (W.alloc (.cells #[.int .i64 (a-(a / 512+x.val)*512:Nat),.int .i64 (min (z-(a / 512+x.val)*512) 512:Nat)] 229)):=(Below.refl _ W).alloc (Nat.le_refl _) _;refine HK.out _ _ ⟨by simp,fun i ob hi ho _=>aj ho _⟩ (ac.of_below hba) ⟨i1.out.below hba,i2.out.below hba,i3.out.keep (ac.of_below hba),?_,i5.out.trans (ac.of_below hba:ac (fun _=>False) W _) (fun i e=>e.elim)⟩ ⟨W.heap.size,hwD,rfl,af W _⟩;obtain ⟨v,h1,h2⟩:=i4.out;exact ⟨v,ah hba h1 (ae h1),(ac.of_below hba:ac (fun _=>False) W _).row h2 (fun _ _ h=>h)⟩
 case body =>
  rintro l1 pre x a' W hl1 hrec ⟨HFw,HMw,HPw,HBw,HKw⟩ ⟨pb,hpb,rfl,hpW⟩ hlt;obtain ⟨v,hv1,hv2⟩:=HBw.out;have hsD:=HsD.out;have hsA:=HAs.out;have hx:=x.isLt;have hMM:=HMM.out;have hnw:∀i,w.heap.size<=i->¬F i:=fun i hi hh=>by have:=HFl.out i hh;omega
  have c0b:=HKw.out.heap HR0.out (fun hh=>hh.elim (hnw _ (Nat.le_refl _)) (fun e=>by omega));obtain ⟨pn,hpn⟩:∃pn,pn=S.slots.getD (aC (a / 512+x.val)) 0:=⟨_,rfl⟩;obtain ⟨fa,hfa⟩:∃fa,fa=a-(a / 512+x.val)*512:=⟨_,rfl⟩;obtain ⟨fz,hfz⟩:∃fz,fz=min (z-(a / 512+x.val)*512) 512:=⟨_,rfl⟩;have hpN:pn<N:=by rw [hpn];exact HSl.out _ (by omega) (by omega)
  have HNx:Hid (dL S.slots a z Pg ((pre ++ [x]).map (fun x:Fin M=>a / 512+x.val))=dL S.slots a z Pg (pre.map (fun x:Fin M=>a / 512+x.val)) ++ ((Pg pn).drop fa).take (fz-fa)):=by
   unfold Hid dL;rw [List.map_append,List.flatMap_append,List.map_singleton,List.flatMap_singleton];unfold gh;rw [hpn,hfa,hfz]
  obtain ⟨xs,hxs⟩:∃xs,xs=dL S.slots a z Pg (pre.map (fun x:Fin M=>a / 512+x.val)):=⟨_,rfl⟩;rw [<- hpn, <- hfa, <- hfz];rw [<- hfa, <- hfz] at hpW;rw [<- hxs] at HNx hv2;have hk1:(a / 512+x.val)*512<z:=by unfold fillN at hMM;omega
  have hq1:fa<=fz:=by omega
  have hq2:fz<=512:=by omega
  have hq3:(fz:Int)<=512:=by omega
  have hq4:¬(512=fa):=by omega
  have hxl:xs.length<=512*pre.length:=by
   rw [hxs];unfold dL;clear hxs hv2 HNx hlt HPw HBw hv1
   induction pre with
   | nil=>simp
   | cons y ys ih =>
    rw [List.map_cons,List.flatMap_cons,List.length_append,List.length_cons];have h1:(gh S.slots a z Pg (a / 512+y.val)).length<=512:=by unfold gh;rw [List.length_take];omega
    have h2:=ih;omega
  have hM1:M<=138:=by unfold fillN at hMM;omega
  have HPg:=hid (fun V (hV:Below W.heap.size W V)=>xT (HMw.out.below hV) pn hpN (show u+pre.length<1000000 by omega) (HPw.out.keep (ac.of_below hV)));have HLn:=hid (HPw.out.pc.len pn hpN);have HV1:=hid hv1;have HV2:=hid hv2;have HC0:=hid c0b;have HPW:=hid hpW;have HXl:=hid hxl;have HM1:=hid hM1;have HLt:=hid hlt;have hbd:Below W.heap.size W W.drew:=(Below.refl _ W).drew;have q0:W.drew.cell? ⟨w.heap.size+1,0,none⟩=some v:=aa (ah hbd hv1 (ae hv1)) 0;have q1:W.drew.cell? ⟨w.heap.size,0,none⟩=some (.pointer (some ⟨f,0,none⟩)):=aa (ah hbd c0b (ae c0b)) 0;obtain ⟨q2,-⟩:=(HFw.out.below hbd).head;have q3:W.drew.cell? ⟨pb,0,none⟩=some (.int .i64 fa):=aa (ah hbd hpW (ae hpW)) 0;have q4:W.drew.cell? ⟨pb,1,none⟩=some (.int .i64 fz):=aa (ah hbd hpW (ae hpW)) 1;have hpbW:=ae hpW;have HBd:=hid hbd;have HPg2:=hid (HPg.out W.drew hbd);unfold gV at HPg2;clear HPg hbd hpW c0b hv1 hv2 hxs hpn hfa hfz hMM hx hxl hM1 hk1 hsD hlt HBw;refine wpIn_block ?_;refine lR 13 (S:=fun V=>V.cell? ⟨w.heap.size+1,0,none⟩=some v/\V.cell? ⟨w.heap.size,0,none⟩=some (.pointer (some ⟨f,0,none⟩))/\V.cell? ⟨f,0,none⟩=some (.pointer (some ⟨m,0,none⟩))/\V.cell? ⟨pb,0,none⟩=some (.int .i64 fa)/\V.cell? ⟨pb,1,none⟩=some (.int .i64 fz)) (by kernel_rfl) (by kernel_rfl) ⟨q0,q1,q2,q3,q4⟩ (fun hHeld => ?_);generalize W.drew=wd at *;refine aP (hwt:=by kernel_rfl) (i:=0) (v:=?_) rfl (by kernel_rfl) (by kernel_rfl) (by kernel_rfl) (fun _ _ _ h=>h) (Or.inl ⟨by rfl,?_⟩) (by assumption) ?_
  rotate_left
  ·(intro W h;(try dsimp only at h);obtain ⟨s0,s1,s2,s3,s4⟩:=h;go_simp;try with_reducible rfl)
  try simp only [tS]
  refine aP (hwt:=by kernel_rfl) (i:=1) (v:=?_) rfl (by kernel_rfl) (by kernel_rfl) (by kernel_rfl) (fun _ _ _ h=>h) (Or.inl ⟨by rfl,?_⟩) (by assumption) ?_
  rotate_left
  ·(intro W h;(try dsimp only at h);obtain ⟨s0,s1,s2,s3,s4⟩:=h;go_simp;try with_reducible rfl)
  try simp only [tS]
  refine aP (hwt:=by kernel_rfl) (i:=2) (v:=?_) rfl (by kernel_rfl) (by kernel_rfl) (by kernel_rfl) (fun _ _ _ h=>h) (Or.inl ⟨by rfl,?_⟩) (by assumption) ?_
  rotate_left
  ·(intro W h;(try dsimp only at h);obtain ⟨s0,s1,s2,s3,s4⟩:=h;go_simp;try with_reducible rfl)
  try simp only [tS]
  refine aP (hwt:=by kernel_rfl) (i:=3) (v:=?_) rfl (by kernel_rfl) (by kernel_rfl) (by kernel_rfl) (fun _ _ _ h=>h) (Or.inl ⟨by rfl,?_⟩) (by assumption) ?_
  rotate_left
  ·(intro W h;(try dsimp only at h);obtain ⟨s0,s1,s2,s3,s4⟩:=h;go_simp;try with_reducible rfl)
  try simp only [tS]
  refine aP (hwt:=by kernel_rfl) (i:=4) (v:=?_) rfl (by kernel_rfl) (by kernel_rfl) (by kernel_rfl) (fun _ _ _ h=>h) (Or.inl ⟨by rfl,?_⟩) (by assumption) ?_
  rotate_left
  ·(intro W h;(try dsimp only at h);obtain ⟨s0,s1,s2,s3,s4⟩:=h;go_simp;try with_reducible rfl)
  try simp only [tS]
  refine aP (hwt:=by kernel_rfl) (i:=5) (v:=?_) rfl (by kernel_rfl) (by kernel_rfl) (by kernel_rfl) (fun _ _ _ h=>h) (Or.inl ⟨by rfl,?_⟩) (by assumption) ?_
  rotate_left
  ·(intro W h;(try dsimp only at h);obtain ⟨s0,s1,s2,s3,s4⟩:=h;go_simp;try with_reducible rfl)
  try simp only [tS]
  refine aP (hwt:=by kernel_rfl) (i:=7) (v:=?_) rfl (by kernel_rfl) (by kernel_rfl) (by kernel_rfl) (fun _ _ _ h=>h) (Or.inl ⟨by rfl,?_⟩) (by assumption) ?_
  rotate_left
  ·(intro W h;(try dsimp only at h);obtain ⟨s0,s1,s2,s3,s4⟩:=h;go_simp;try with_reducible rfl)
  try simp only [tS]
  refine aP (hwt:=by kernel_rfl) (i:=8) (v:=?_) rfl (by kernel_rfl) (by kernel_rfl) (by kernel_rfl) (fun _ _ _ h=>h) (Or.inl ⟨by rfl,?_⟩) (by assumption) ?_
  rotate_left
  ·(intro W h;(try dsimp only at h);obtain ⟨s0,s1,s2,s3,s4⟩:=h;go_simp;try with_reducible rfl)
  try simp only [tS]
  refine aP (hwt:=by kernel_rfl) (i:=9) (v:=?_) rfl (by kernel_rfl) (by kernel_rfl) (by kernel_rfl) (fun _ _ _ h=>h) (Or.inl ⟨by rfl,?_⟩) (by assumption) ?_
  rotate_left
  ·(intro W h;(try dsimp only at h);obtain ⟨s0,s1,s2,s3,s4⟩:=h;go_simp;try with_reducible rfl)
  try simp only [tS]
  refine aP (hwt:=by kernel_rfl) (i:=10) (v:=?_) rfl (by kernel_rfl) (by kernel_rfl) (by kernel_rfl) (fun _ _ _ h=>h) (Or.inl ⟨by rfl,?_⟩) (by assumption) ?_
  rotate_left
  ·(intro W h;(try dsimp only at h);obtain ⟨s0,s1,s2,s3,s4⟩:=h;go_simp;try with_reducible rfl)
  try simp only [tS]
  refine fh (i:=6) (by kernel_rfl) rfl (fun K hK => ?_);rw [if_pos (by rfl)];go_simp;refine HPg2.out.mono ?_;clear HPg2;rintro e W2 ⟨g,rfl,hg,ho2,hk2,hp2⟩;have hsD:=HsD.out;have hWD:=HKw.out.size;have hdW:=HBd.out.size;have kW2:ac F W W2:=(ac.of_below HBd.out:ac F W wd).trans hk2 (fun i e => .inl e);have v2:=kW2.heap HV1.out (hnw _ (by omega));have r0:W2.cell? ⟨w.heap.size+1,0,none⟩=some v:=aa v2 0;have r1:W2.cell? ⟨w.heap.size,0,none⟩=some (.pointer (some ⟨f,0,none⟩)):=aa (kW2.heap HC0.out (hnw _ (Nat.le_refl _))) 0;obtain ⟨r2,-⟩:=(HFw.out.keep kW2 hfF).head;have p2:=kW2.heap HPW.out (hnw _ (by omega));have r3:W2.cell? ⟨pb,0,none⟩=some (.int .i64 fa):=aa p2 0;have r4:W2.cell? ⟨pb,1,none⟩=some (.int .i64 fz):=aa p2 1;have hrow2:cV W2 wD.heap.size v xs:=kW2.row HV2.out (fun i e hh=>hnw i (by have:=(cV.ge HV2.out e).1;omega) hh);have HRo2:=hid hrow2;have HV2b:=hid v2;have HP2:=hid hp2;have HO2:=hid ho2;have HK2:=hid kW2;have HPb2:=hid p2;clear hk2 kW2 v2 p2 hrow2 ho2 hp2 q0 q1 q2 q3 q4
  go_wp2_with fail
  refine hK.out _ _ (fun _=>⟨r0,r1,r2,r3,r4⟩) (fun hHeld6 => ?_);have hHeld:=hHeld6 (by decide);clear hK K hHeld6
  try simp only [tS]
  refine aP (hwt:=by kernel_rfl) (i:=11) (v := .slice (some ⟨g,fa,none⟩) (fz-fa) (512-fa)) rfl (by kernel_rfl) (by kernel_rfl) (by kernel_rfl) (fun _ _ _ h=>h) (Or.inl ⟨by rfl,?_⟩) (by assumption) ?_
  ·(intro W h;(try dsimp only at h);obtain ⟨s0,s1,s2,s3,s4⟩:=h;go_simp;try first | with_reducible rfl | go_num | (rw [if_pos (by assumption)];simp only [*]) | simp only [*])
  try simp only [tS]
  refine fh (i:=12) (by kernel_rfl) rfl (fun K hK => ?_);rw [if_pos (by rfl)];have hby:az W2 ⟨g,fa,none⟩ (((Pg pn).drop fa).take (fz-fa)):=fun j hj=>by
   have hj1:j<fz-fa:=by rw [List.length_take] at hj;omega
   have h1:=HO2.out.cell (fa+j) (by rw [HLn.out];omega);rw [Addr.add_mid,h1,List.getElem_take,List.getElem_drop]
  refine mf (.tmp 16) (.tmp 27) rfl rfl ⟨g,fa,none⟩ (fz-fa) (512-fa) rfl HRo2.out _ (by rw [List.length_take,List.length_drop,HLn.out];omega) hby (by have h1:=HXl.out;have h2:=HM1.out;have h3:=HLt.out;omega) (by have:=HK2.out.size;omega) ?_;intro ag9 n9 cap9 w9 hr9 hg9;have k9:ac (fun i=>v.ownBlock=some i) W2 w9:=ac.of_grown hg9 (fun i e=>e);have hge:∀i,v.ownBlock=some i->wD.heap.size<=i:=fun i e=>(cV.ge HRo2.out e).1;have hv9:=k9.heap HV2b.out (fun e=>by have:=hge _ e;omega);have t0:w9.cell? ⟨w.heap.size+1,0,none⟩=some v:=aa hv9 0;have f9:w9.frozen? ⟨w.heap.size+1,0,none⟩=false:=ai hv9 0;have t1:=k9.cell r1 (fun e=>by have e':v.ownBlock=some w.heap.size:=e;have:=hge _ e';omega);have t2:=k9.cell r2 (fun e=>by have e':v.ownBlock=some f:=e;have:=hge _ e';omega);have hnpb:¬v.ownBlock=some pb:=fun e=>by
   obtain ⟨cs,h1⟩:=(cV.ge HRo2.out e).2;rw [HPb2.out] at h1;simp only [Option.some.injEq,Obj.cells.injEq] at h1;exact absurd h1.2.1 (by decide)
  have t3:=k9.cell r3 (fun e=>hnpb e);have t4:=k9.cell r4 (fun e=>hnpb e);have HV9:=hid hv9;have HR9:=hid hr9;have HK9:=hid k9;have HGe:=hid hge;clear hv9 hr9 hg9 k9 r0 r1 r2 r3 r4 hby hge;refine hK.out _ _ (fun _=>⟨t0,t1,t2,t3,t4⟩) (fun hHeld8 => ?_);have hHeld:=hHeld8 (by decide);clear hK K hHeld8
  try simp only [tS]
  refine fh (i:=13) (by kernel_rfl) rfl (fun K hK => ?_);rw [if_pos (by rfl)];go_simp;refine hK.out _ _ (fun hne=>absurd rfl hne) (fun _ => ?_);clear hK K;refine lL (by kernel_rfl) ?_ _;refine b9.normal ?_;have kb:ac (fun i=>i=w.heap.size+1) w9 (w9.setCell ⟨w.heap.size+1,0,none⟩ (.slice ag9 n9 cap9)):=(ac.refl _ _).grown (ak (ar _ _) _ _) (fun i e => .inl (Option.some.inj e).symm);have hvb:=ap HV9.out 0 (.slice ag9 n9 cap9);generalize w9.setCell ⟨w.heap.size+1,0,none⟩ (.slice ag9 n9 cap9)=wF at *;have k2F:ac (fun i=>v.ownBlock=some i\/i=w.heap.size+1) W2 wF:=(HK9.out.mono (fun i e => .inl e)).trans kb (fun i e => .inl (.inr e));have k2B:ac (fun i=>w.heap.size<=i) W2 wF:=k2F.mono (fun i e=>e.elim (fun e=>by have:=HGe.out i e;show w.heap.size<=i;omega) (fun e=>by show w.heap.size<=i;omega));have kWF:ac (fun i=>F i\/v.ownBlock=some i\/i=w.heap.size+1) W wF:=(HK2.out.mono (fun i e => .inl e)).trans k2F (fun i e => .inl (.inr e));have hnf:∀j,j<w.heap.size->¬F j->¬(F j\/v.ownBlock=some j\/j=w.heap.size+1):=fun j hj hF hh=>by
   rcases hh with hh | hh | hh
   ·exact hF hh
   ·have:=HGe.out j hh;omega
   ·omega
  refine ⟨⟨kWF.size,fun i ob hi ho hn => ?_⟩,kWF.mono (fun i e=>by rcases e with e | e | e;exact .inl e;exact .inr (.inr (HGe.out i e));exact .inr (.inl e)),HFw.out.keep kWF (hnf f hfl hfF),HMw.out.keep kWF (hnf m hml hmF),?_,?_,HKw.out.trans kWF (fun i e=>by rcases e with e | e | e;exact .inl (.inl e);exact .inr (HGe.out i e);exact .inl (.inr e))⟩
  ·refine kWF.heap ho (fun hh => ?_);rcases hh with hh | hh | hh
   ·exact hnw i (by omega) hh
   ·obtain ⟨cs,h1⟩:=(cV.ge HV2.out hh).2;rw [ho] at h1;cases h1;cases hn
   ·omega
  ·have h1:=HP2.out.keep k2B;rw [show u+(pre ++ [x]).length=u+pre.length+1 by rw [List.length_append,List.length_singleton,Nat.add_assoc]];exact h1
  ·unfold Hid z8;rw [HNx.out];exact ⟨_,hvb,kb.row HR9.out (fun i e=>by have h1:=(cV.ge HR9.out e).1;show ¬i=w.heap.size+1;omega)⟩
 case own1=>exact hs.2.2.1.out.keep (ac.of_grown hgr (fun i e=>by have h1:=(hr i e).1;have h2:=HsD.out;have h3:=HAs.out;show w.heap.size<=i;omega))
 case own2 =>
  obtain ⟨v,h1,h2⟩:=hs.2.2.2.1.out;have kk:ac (fun i=>row=some i) A B:=ac.of_grown hgr (fun i e=>e);have hne:∀ {i:Nat} {cs:Array Value} {t:TypeId} {fr:Nat×Nat},A.heap[i]? = some (.cells cs t fr)->¬row=some i:=fun {i cs t fr} hc e=>by
   obtain ⟨-,ob,h4,h5⟩:=hr _ e;rw [hc] at h4;cases h4;cases h5
  refine ⟨v,kk.heap h1 (hne h1),kk.row h2 (fun i hi => ?_)⟩;obtain ⟨cs,hb⟩:=(cV.ge h2 hi).2;exact hne hb
 case own3=>exact hs.2.2.2.2.out.trans (ac.of_grown hgr (F:=fun i=>row=some i) (fun i e=>e)) (fun i e => .inr (hr i e).1)
 case st=>exact ⟨_,HR1.out,World.ownsRow_nil _ _ _ _⟩
 case own4 =>
  obtain ⟨pb,h1,h2,h3⟩:=hs;exact ⟨pb,h1,h2,aw hgr h3 (fun e=>by obtain ⟨-,ob,h4,h5⟩:=hr _ e;rw [h3] at h4;cases h4;cases h5)⟩
 case done =>
  rintro D1 ys W hD1 hys ⟨HFw,HMw,HPw,HBw,HKw⟩ hK1;have hyl:ys.length=M:=by
   have h1:=congrArg List.length hys;rw [List.length_map,cJ,HMM.out] at h1;exact h1
  rw [hys] at HBw;rw [hyl] at HPw;obtain ⟨v,hv1,hv2⟩:=HBw.out;have c0:W.cell? ⟨w.heap.size+1,0,none⟩=some v:=aa hv1 0;have HV2:=hid hv2;have HKD:=hid hK1;have HHD:=hid hD1;clear hys hyl hv1 hv2 hK1 HBw HSt hD1
  gi_wp2
  have hD1:=HHD.out;have hWD:=HKw.out.size;have hsA:=HAs.out;have hsD:=HsD.out;have hM1:M<=138:=by have:=HMM.out;unfold fillN at this;omega
  have hg5:=grownBy_putObj' W D1 (.deferred none);have k5:ac (fun i=>some D1=some i) W (W.putObj D1 (.deferred none)):=ac.of_grown hg5 (fun i e=>e);have hb0:Below w.heap.size w wD:=HAB.out.trans (HDB.out.mono HAB.out.size);have hr5:=k5.row HV2.out (fun i e e2=>by
   cases e2;obtain ⟨cs,h1⟩:=(cV.ge HV2.out e).2;rw [HKD.out] at h1;cases h1)
  refine ⟨by simp,.inl ⟨_,_,rfl,run_takeDeferred HKD.out,?_⟩⟩;refine ⟨_,nM rfl,?_⟩;refine ⟨_,rfl,cV.down hr5 (by have h1:=hb0.size;omega),?_,?_⟩
  ·exact (((ac.of_below hb0:ac F w wD).trans HKw.out (fun i e=>e.elim .inl (fun e => .inr (by omega)))).trans k5 (fun i e => .inr (by cases e;omega)))
  ·exact (HPw.out.keep (k5.mono (fun i e=>by cases e;show w.heap.size<=D1;omega))).pc.more (Nat.le_refl _) (by omega)
 case stop =>
  intro D c pre W hD hpre hx;exact hx.elim
end
end
section
set_option maxRecDepth 100000
open Go.RowKit
theorem tQ {sl:List Nat} {a z k:Nat} {Pg:Nat->List UInt8} (j:Nat) (hj:j<min (z-k*512) 512-(a-k*512)):(gh sl a z Pg k).getD j 0=(Pg (sl.getD (aC k) 0)).getD (a-k*512+j) 0:=by
 unfold gh;rw [jd _ _ _ hj,kK]
theorem pF {sl:List Nat} {a z k:Nat} {Pg:Nat->List UInt8} (hL:(Pg (sl.getD (aC k) 0)).length=512):(gh sl a z Pg k).length=min (z-k*512) 512-(a-k*512):=by
 unfold gh;rw [List.length_take,List.length_drop,hL];omega
section
variable {sk:Nat->Prop} {N ino:Nat} {Pg:Nat->List UInt8} {fs:Nat->Option ao} {i:Nat} {f:ao}
theorem aF.parts (h:aF sk N ino Pg fs) (hf:fs i=some f) (a z:Nat) (haz:a<z) (hz:z<=f.data.length):∀d,a / 512+d<=fillN z->dL f.slots a z Pg (bC (a / 512) (a / 512+d))=(f.data.drop a).take (min z ((a / 512+d)*512)-a)
 | 0,_=>by
  rw [Nat.add_zero,dy,show min z (a / 512*512)-a=0 by omega,List.take_zero]
  rfl
 | d+1,hd=>by
  have ih:=aF.parts h hf a z haz hz d (by omega);have hok:=h.file i f hf;have hkz:(a / 512+d)*512<z:=by unfold fillN at hd;omega
  have hat:=h.at_ hf (k:=(a / 512+d)*512) (by omega);rw [Nat.mul_div_cancel _ (by omega)] at hat;have hL:(Pg (f.slots.getD (aC (a / 512+d)) 0)).length=512:=h.len _ (hok.in_ _ hat.1).2;rw [<- Nat.add_assoc,cW (by omega)];have e1:dL f.slots a z Pg (bC (a / 512) (a / 512+d) ++ [a / 512+d])=dL f.slots a z Pg (bC (a / 512) (a / 512+d)) ++ gh f.slots a z Pg (a / 512+d):=by
   unfold dL;rw [List.flatMap_append,List.flatMap_singleton]
  rw [e1,ih];have hl1:((f.data.drop a).take (min z ((a / 512+d)*512)-a)).length=(a / 512+d)*512-a:=by rw [List.length_take,List.length_drop];omega
  have hl2:=pF (z:=z) (a:=a) hL;refine List.ext_getElem (by rw [List.length_append,hl1,hl2,List.length_take,List.length_drop];omega) (fun j h1 h2 => ?_);have hj:j<min z ((a / 512+d+1)*512)-a:=by rw [List.length_take,List.length_drop] at h2;omega
  rw [List.getElem_take,List.getElem_drop];by_cases hc:j<(a / 512+d)*512-a
  ·rw [List.getElem_append_left (by rw [hl1];exact hc),List.getElem_take,List.getElem_drop]
  ·rw [List.getElem_append_right (by rw [hl1];omega)];have hq:j-((a / 512+d)*512-a)<min (z-(a / 512+d)*512) 512-(a-(a / 512+d)*512):=by omega
   have g1:=tQ (sl:=f.slots) (Pg:=Pg) (k:=a / 512+d) (z:=z) (a:=a) (j-((a / 512+d)*512-a)) hq;have hlt:j-((f.data.drop a).take (min z ((a / 512+d)*512)-a)).length<(gh f.slots a z Pg (a / 512+d)).length:=by rw [hl1,hl2];exact hq
   have g2:(gh f.slots a z Pg (a / 512+d))[j-((f.data.drop a).take (min z ((a / 512+d)*512)-a)).length]=(gh f.slots a z Pg (a / 512+d)).getD (j-((a / 512+d)*512-a)) 0:=by
    rw [List.getD_eq_getElem?_getD,List.getElem?_eq_getElem (by rw [hl2];exact hq)];simp only [hl1,Option.getD_some]
   rw [g2,g1];have hda:=h.data i f hf (a+j) (by omega);have e2:(a+j) / 512=a / 512+d:=by omega
   have e3:(a+j)%512=a-(a / 512+d)*512+(j-((a / 512+d)*512-a)):=by omega
   rw [e2,e3] at hda;unfold ao.slot at hda;rw [hda,List.getD_eq_getElem?_getD,List.getElem?_eq_getElem (by omega)]
   rfl
end
section
variable {w w':World} {s m c ino:Nat} {F:Nat->Prop} {N:Nat} {Pg Cm:Nat->List UInt8} {fs:Nat->Option ao} {o u:Nat} {i:Nat} {f:ao}
theorem tD (h:St w s m c F N ino Pg Cm fs o u) (hf:fs i=some f) (hu:u<900000) (a n:Nat) (ha:f.data.length<=a) :
  Calls Tryz.prog 149 #[.pointer (some ⟨s,0,none⟩),.int .i64 i,.int .i64 a,.int .i64 n] w fun e w'=>e = .returned (.tuple #[.slice none 0 0,.int .i64 0])/\ac F w w'/\St w' s m c F N ino Pg Cm fs o (u+2):=by
 have HGt:=hid (gJ h hf (by omega));have hok:=h.good.file i f hf;have hnf:=h.good.nf;have HNl:Hid ((nodeC f.node).length=15):=by unfold Hid nodeC;rw [List.length_append,List.length_map,(hok.node (by omega) h.good.n4).pages];rfl
 have HN3:Hid ((nodeC f.node)[3]? = some (.int .i64 f.data.length)):=rfl;have HFl:=hid h.lt;have ha0:¬((a:Int)<0):=by omega
 have hn0:¬((n:Int)<0):=by omega
 have hz:(f.data.length:Int)<=(a:Int):=by omega
 unfold ct at HGt;clear h hf hok hnf;have hnc1:=bE f.node;generalize nodeC f.node=nc at *;have HN1:=hid hnc1;clear hnc1;go_enter Tryz.func149,Tryz.ntmps149
 go_wp2_with fail
 refine HGt.out.mono ?_;clear HGt;rintro e w1 ⟨rfl,hk1,hs1⟩;have HS1:=hid hs1;have HK1:=hid hk1;clear hk1 hs1
 go_wp2_with (refine am rfl 142 (.tmp 10) (.tmp 16) rfl w1.heap.size nc.toArray rfl rfl _ _ (af w1 _) (by rw [List.size_toArray,HNl.out];rfl) (by rw [List.size_toArray,HNl.out];kernel_rfl) HN1.out ?_;intro w2 hg2 hb2 hz2;have c3:w2.cell? ⟨w1.heap.size,3,none⟩=some (.int .i64 f.data.length):=(by rw [aa hb2,List.getElem?_toArray];exact HN3.out);have hb12:Below w1.heap.size w1 w2:=((Below.refl _ w1).alloc (Nat.le_refl _) _).grown hg2 (by simp) (fun k e=>by cases e;exact Nat.le_refl _);have HB12:=hid hb12;have HR2:=hid hb2;clear hg2 hb2 hz2 hb12)
 go_returns;exact ⟨rfl,HK1.out.trans (ac.of_below HB12.out:ac F w1 w2) (fun i e => .inl e),HS1.out.below HB12.out⟩
theorem xS (h:St w s m c F N ino Pg Cm fs o u) (hf:fs i=some f) (hu:u<900000) (a n:Nat) (ha:a<f.data.length) :
  Calls Tryz.prog 149 #[.pointer (some ⟨s,0,none⟩),.int .i64 i,.int .i64 a,.int .i64 n] w fun e w'=>∃v,e = .returned (.tuple #[v,.int .i64 0])/\cV w' w.heap.size v ((f.data.drop a).take n)/\ac F w w'/\St w' s m c F N ino Pg Cm fs o (u+141):=by
 obtain ⟨z,hz⟩:∃z,z=a+min n (f.data.length-a):=⟨_,rfl⟩;have hok:=h.good.file i f hf;have hnf:=h.good.nf;have hsz:=hok.size;have hgp:dL f.slots a z Pg (bC (a / 512) (fillN z))=(f.data.drop a).take n:=by
  by_cases hn:n=0
  ·subst hn;rw [List.take_zero];unfold dL;refine List.flatMap_eq_nil_iff.2 (fun k _ => ?_);unfold gh;rw [hz,show min (a+min 0 (f.data.length-a)-k*512) 512-(a-k*512)=0 by omega,List.take_zero]
  ·have hgp:=h.good.parts hf a z (by omega) (by omega) (fillN z-a / 512) (by unfold fillN;omega);rw [show a / 512+(fillN z-a / 512)=fillN z by unfold fillN;omega,show min z (fillN z*512)-a=min n (f.data.length-a) by unfold fillN;omega] at hgp;have hgp2:(f.data.drop a).take (min n (f.data.length-a))=(f.data.drop a).take n:=by
    rw [show min n (f.data.length-a)=min n (f.data.drop a).length by rw [List.length_drop],List.take_eq_take_min.symm]
   rw [hgp2] at hgp;exact hgp
 have HGt:=hid (gJ h hf (by omega));have HOp:=hid (fun W D (hm:aT W m c ino) (hp:Pc W c F 100 N Pg Cm D o (u+2))=>jB hm hp h.good hf (by omega));have HRd:=hid (fun W p D (hm:aT W m c ino) (hW:aD W p m (f.S i f.data.length)) (hpF:¬F p) (hp:Pc W c F 100 N Pg Cm D o (u+3))=>tP a z hm h.mF hW hpF hok.len (by omega) (by omega) (by omega) (fun k _ hk=>hok.lt (by omega) (aC k)) hp);have HGp:Hid (dL (f.S i f.data.length).slots a z Pg (bC (a / 512) (fillN z))=(f.data.drop a).take n):=hgp;have HNl:Hid ((nodeC f.node).length=15):=by unfold Hid nodeC;rw [List.length_append,List.length_map,(hok.node (by omega) h.good.n4).pages];rfl
 have HN3:Hid ((nodeC f.node)[3]? = some (.int .i64 f.data.length)):=rfl;have HFl:=hid h.lt;have HGd:=hid h.good;have HFw:=hid h.few;have ha0:¬((a:Int)<0):=by omega
 have hn0:¬((n:Int)<0):=by omega
 obtain ⟨sz,hszd⟩:∃sz,sz=f.data.length:=⟨_,rfl⟩;rw [<- hszd] at HN3 ha hsz hz;have hlt:¬((sz:Int)<=(a:Int)):=by omega
 have hmn:min (n:Int) ((sz:Int)-(a:Int))=((min n (sz-a):Nat):Int):=by omega
 have hzz:(a:Int)+((min n (sz-a):Nat):Int)=(z:Int):=by omega
 have hsz7:(sz:Int)<=70656:=by omega
 have hz7:(z:Int)<=70656:=by omega
 have HMn:=hid hmn;have HZz:=hid hzz;unfold ct at HGt HOp;unfold gV at HOp;clear h hf hok hnf hgp hz hmn hzz hszd;have hnc1:=bE f.node;generalize nodeC f.node=nc at *;have HN1:=hid hnc1;clear hnc1;go_enter Tryz.func149,Tryz.ntmps149
 go_wp2_with fail
 refine HGt.out.mono ?_;clear HGt;rintro e w1 ⟨rfl,hk1,hs1⟩;have c1:=hs1.store.cell;have HS1:=hid hs1;have HK1:=hid hk1;clear hk1 hs1
 go_wp2_with (refine am rfl 142 (.tmp 10) (.tmp 16) rfl w1.heap.size nc.toArray rfl rfl _ _ (af w1 _) (by rw [List.size_toArray,HNl.out];rfl) (by rw [List.size_toArray,HNl.out];kernel_rfl) HN1.out ?_;intro w2 hg2 hb2 hz2;have c3:w2.cell? ⟨w1.heap.size,3,none⟩=some (.int .i64 sz):=(by rw [aa hb2,List.getElem?_toArray];exact HN3.out);have hb12:Below w1.heap.size w1 w2:=((Below.refl _ w1).alloc (Nat.le_refl _) _).grown hg2 (by simp) (fun k e=>by cases e;exact Nat.le_refl _);have HB12:=hid hb12;have HR2:=hid hb2;clear hg2 hb2 hz2 hb12)
 have hs2:=HS1.out.below HB12.out;have hbd:Below w2.heap.size w2 w2.drew:=(Below.refl _ w2).drew;have hs3:=hs2.below hbd;have hr3:=ah hbd HR2.out (ae HR2.out);have d0:=hs3.store.cell;have d3:=(hbd.cell (World.block_lt_of_cell? w2 _ c3)).trans c3;have HBd:=hid hbd;have HS3:=hid hs3;have HR3:=hid hr3;obtain ⟨D,hp3⟩:=hs3.pc;have HO3:=hid (HOp.out w2.drew D hs3.map hp3);clear hbd hs2 hs3 hp3 HOp c1 c3;refine wp_region_noPanic ?_;refine wp_region_held_drew (S:=fun W=>W.cell? ⟨s,0,none⟩=some (.pointer (some ⟨m,0,none⟩))/\W.heap[w1.heap.size]? = some (.cells nc.toArray 142 (0,0))/\W.cell? ⟨w1.heap.size,3,none⟩=some (.int .i64 sz)) (by kernel_rfl) ⟨d0,hr3,d3⟩ (fun hHeld => ?_);clear hr3;generalize w2.drew=wd at *;refine tq 0 _ ?_
 try simp only [tS]
 refine tq 1 _ ?_
 try simp only [tS]
 refine tq 2 _ ?_
 try simp only [tS]
 refine tq 3 _ ?_
 try simp only [tS]
 refine tq 4 _ ?_
 try simp only [tS]
 refine wpAnyH_take (i:=5) (v := .agg nc.toArray) rfl (by kernel_rfl) (by kernel_rfl) (by kernel_rfl) (fun _ _ _ h=>h) (yieldsIf_load_mid (by rfl) 142 (.tmp 10) rfl w1.heap.size 0 rfl nc _ (fun W hW=>by have:=aL hW.2.1;exact this) Tryz.underlying142 rfl (by rw [HNl.out];kernel_rfl)) (by assumption) ?_
 try simp only [tS]
 refine tq 7 _ ?_
 try simp only [tS]
 refine tq 8 _ ?_
 try simp only [tS]
 refine tq 9 _ ?_
 try simp only [tS]
 refine tq 10 _ ?_
 try simp only [tS]
 refine tq 11 _ ?_
 try simp only [tS]
 refine tq 12 _ ?_
 try simp only [tS]
 have hw1:IntKind.i64.wrap ((sz:Int)-(a:Int))=(sz:Int)-(a:Int):=IntWalk.i64_in _ (by omega);refine tq 13 (.int .i64 ((sz:Int)-(a:Int))) ?_
 try simp only [tS]
 have hmn:=HMn.out;refine tq 14 (.int .i64 (min n (sz-a):Nat)) ?_
 try simp only [tS]
 have hzz:=HZz.out;have hw2:IntKind.i64.wrap (z:Int)=(z:Int):=IntWalk.i64_in _ (by omega);refine tq 15 (.int .i64 (z:Int)) ?_
 try simp only [tS]
 clear hw1 hmn hzz hw2;refine tr 6 (fun K hK => ?_);go_simp;refine HO3.out.mono ?_;clear HO3;rintro e w4 ⟨p,rfl,hp4,hf4,hk4,hq4⟩;have hwl:=HB12.out.size;have hwk:=HK1.out.size;have hwd:=HBd.out.size;have kw4:ac F w w4:=((HK1.out.trans (ac.of_below HB12.out:ac F w1 w2) (fun i e => .inl e)).trans (ac.of_below HBd.out:ac F w2 wd) (fun i e => .inl e)).trans hk4 (fun i e => .inl e);have hnF:∀j,w.heap.size<=j->¬F j:=fun j hj hh=>by have:=HFl.out j hh;omega
 have HP4:=hid (HRd.out w4 p D (HS3.out.map.keep hk4 HS3.out.mF) hf4 (hnF p (by omega)) hq4);have hst4:=HS3.out.store.keep hk4 HS3.out.sF;have e0:=hst4.cell;have r4:=hk4.heap HR3.out (hnF _ (by omega));have e3:=hk4.cell d3 (hnF _ (by omega));have HST4:Hid (aT w4 m c ino/\bG w4 s m):=⟨HS3.out.map.keep hk4 HS3.out.mF,hst4⟩;have HR4:=hid r4;have HK4:=hid kw4;have HNF:=hid hnF;clear hf4 hk4 hq4 kw4 hst4 hnF HRd HR3 d0 d3
 go_wp2_with fail
 refine hK.out _ _ ⟨e0,r4,e3⟩ (fun hHeld => ?_);clear hK K r4
 try simp only [tS]
 refine tr 16 (fun K hK => ?_);go_simp;refine HP4.out.mono ?_;clear HP4;rintro e w5 ⟨v,rfl,hr5,hk5,hp5⟩;have r5:=hk5.heap HR4.out (HNF.out _ (by omega));have g3:=hk5.cell e3 (HNF.out _ (by omega));have hst5:St w5 s m c F N ino Pg Cm fs o (u+141):=⟨HST4.out.1.keep hk5 HS3.out.mF,HST4.out.2.keep hk5 HS3.out.sF,HS3.out.mF,HS3.out.sF,HFw.out,⟨D,hp5⟩,HGd.out⟩;have g0:=hst5.store.cell;have HST5:=hid hst5;rw [HGp.out] at hr5;have HR5:=hid (cV.down (b':=w.heap.size) hr5 HK4.out.size);have HK5:Hid (ac F w w5):=HK4.out.trans hk5 (fun i e => .inl e);clear hr5 hk5 hst5 e0 e3 hp5
 go_wp2_with fail
 refine hK.out _ _ ⟨g0,r5,g3⟩ (fun hHeld => ?_);clear hK K
 try simp only [tS]
 refine tq 17 _ ?_
 try simp only [tS]
 refine tq 18 _ ?_
 try simp only [tS]
 refine wpAnyH_done (by kernel_rfl) ?_ _;refine NoPanic.normal ?_;clear hHeld
 go_wp2_with fail
 go_returns;exact ⟨v,rfl,HR5.out,HK5.out,HST5.out⟩
end
end
section
open Go.RowKit
end
section
open Go.RowKit
section
variable {w w':World} {s m c ino:Nat} {F:Nat->Prop} {N:Nat} {Pg Cm:Nat->List UInt8} {fs:Nat->Option ao} {o u:Nat} {i:Nat} {f:ao}
theorem cV.in_ {base:Nat} {v:Value} {xs:List UInt8} (h:cV w base v xs):∃ad cp,v = .slice ad xs.length cp/\dN w ad xs:=by
 rcases h.2 with ⟨e,h0⟩ | ⟨g0,cap0,cur,e,h1,h2,h3,h4,h5,h6⟩
 ·exact ⟨none,0,by rw [e,h0],fun j hj=>by omega⟩
 ·refine ⟨some ⟨g0,0,none⟩,cap0,e,fun j hj=>⟨g0,0,rfl,fun i hi => ?_⟩⟩;rw [aa h2,Nat.zero_add];have h7:(cur.toList.take (xs.length*1))[i]? = (xs.map U8)[i]? := by rw [h6]
  rw [List.getElem?_take_of_lt (by omega),List.getElem?_map,List.getElem?_eq_getElem hi] at h7;rw [<- Array.getElem?_toList,h7]
  rfl
end
end
section
set_option maxRecDepth 100000
open Go.RowKit
theorem cV.bytes {w:World} {base:Nat} {ad:Option Addr} {n cp:Nat} {xs:List UInt8} (h:cV w base (.slice ad n cp) xs):dN w ad xs:=by
 obtain ⟨ad',cp',e,hb⟩:=cV.in_ h;simp only [Value.slice.injEq] at e;rw [e.1];exact hb
section
variable {w w':World} {s m c ino:Nat} {F:Nat->Prop} {N:Nat} {Pg Cm:Nat->List UInt8} {fs:Nat->Option ao} {o u:Nat} {i:Nat} {f:ao}
theorem vN (h:St w s m c F N ino Pg Cm fs o u) (hf:fs i=some f) (hu:u<900000) (a n:Int) (ha:a<0\/(¬a<0/\n<0)) :
  Calls Tryz.prog 149 #[.pointer (some ⟨s,0,none⟩),.int .i64 i,.int .i64 a,.int .i64 n] w fun e w'=>e = .returned (.tuple #[.slice none 0 0,.int .i64 2])/\ac F w w'/\St w' s m c F N ino Pg Cm fs o (u+2):=by
 have HGt:=hid (gJ h hf (by omega));have hok:=h.good.file i f hf;have hnf:=h.good.nf;have HNl:Hid ((nodeC f.node).length=15):=by unfold Hid nodeC;rw [List.length_append,List.length_map,(hok.node (by omega) h.good.n4).pages];rfl
 unfold ct at HGt;clear h hf hok hnf;have hnc1:=bE f.node;generalize nodeC f.node=nc at *;have HN1:=hid hnc1;clear hnc1;go_enter Tryz.func149,Tryz.ntmps149
 go_wp2_with fail
 refine HGt.out.mono ?_;clear HGt;rintro e w1 ⟨rfl,hk1,hs1⟩;have HS1:=hid hs1;have HK1:=hid hk1;clear hk1 hs1;rcases ha with ha | ⟨ha,hn⟩
 ·go_wp2_with (refine am rfl 142 (.tmp 10) (.tmp 16) rfl w1.heap.size nc.toArray rfl rfl _ _ (af w1 _) (by rw [List.size_toArray,HNl.out];rfl) (by rw [List.size_toArray,HNl.out];kernel_rfl) HN1.out ?_;intro w2 hg2 hb2 hz2;have hb12:Below w1.heap.size w1 w2:=((Below.refl _ w1).alloc (Nat.le_refl _) _).grown hg2 (by simp) (fun k e=>by cases e;exact Nat.le_refl _);have HB12:=hid hb12;clear hg2 hb2 hz2 hb12)
  go_returns;exact ⟨rfl,HK1.out.trans (ac.of_below HB12.out:ac F w1 w2) (fun i e => .inl e),HS1.out.below HB12.out⟩
 ·go_wp2_with (refine am rfl 142 (.tmp 10) (.tmp 16) rfl w1.heap.size nc.toArray rfl rfl _ _ (af w1 _) (by rw [List.size_toArray,HNl.out];rfl) (by rw [List.size_toArray,HNl.out];kernel_rfl) HN1.out ?_;intro w2 hg2 hb2 hz2;have hb12:Below w1.heap.size w1 w2:=((Below.refl _ w1).alloc (Nat.le_refl _) _).grown hg2 (by simp) (fun k e=>by cases e;exact Nat.le_refl _);have HB12:=hid hb12;clear hg2 hb2 hz2 hb12)
  go_returns;exact ⟨rfl,HK1.out.trans (ac.of_below HB12.out:ac F w1 w2) (fun i e => .inl e),HS1.out.below HB12.out⟩
theorem vT (h:St w s m c F N ino Pg Cm fs o u) (hf:fs i=some f) (hu:u<900000) (a n:Int) :
  Calls Tryz.prog 149 #[.pointer (some ⟨s,0,none⟩),.int .i64 i,.int .i64 a,.int .i64 n] w fun e w'=>∃(v:Value) (r:Int) (l:List UInt8),e = .returned (.tuple #[v,.int .i64 r])/\cV w' w.heap.size v l/\ac F w w'/\St w' s m c F N ino Pg Cm fs o (u+141)/\(((a<0\/n<0)/\r=2/\l=[])\/(0<=a/\0<=n/\r=0/\l=(f.data.drop a.toNat).take n.toNat)):=by
 by_cases h1:a<0\/(¬a<0/\n<0)
 ·refine (vN h hf hu a n h1).mono ?_;rintro e w' ⟨rfl,hk,hst⟩;exact ⟨_,2,[],rfl,World.ownsRow_nil _ _ _ _,hk,hst.more (by omega),.inl ⟨by omega,rfl,rfl⟩⟩
 ·obtain ⟨an,rfl⟩:∃an:Nat,a=(an:Int):=⟨a.toNat,by omega⟩;obtain ⟨nn,rfl⟩:∃nn:Nat,n=(nn:Int):=⟨n.toNat,by omega⟩;by_cases h0:f.data.length<=an
  ·refine (tD h hf hu an nn h0).mono ?_;rintro e w' ⟨rfl,hk,hst⟩;refine ⟨_,0,[],rfl,World.ownsRow_nil _ _ _ _,hk,hst.more (by omega),.inr ⟨by omega,by omega,rfl,?_⟩⟩;show []=(f.data.drop an).take nn;rw [List.drop_eq_nil_of_le h0,List.take_nil]
  ·refine (xS h hf hu an nn (by omega)).mono ?_;rintro e w' ⟨v,rfl,hr,hk,hst⟩;exact ⟨v,0,_,rfl,hr,hk,hst,.inr ⟨by omega,by omega,rfl,rfl⟩⟩
end
end
section
set_option maxRecDepth 100000
set_option maxHeartbeats 4000000
open Go.RowKit
def a8 (t:List UInt8):Value := .string ⟨t.toArray⟩
theorem eU (s:List UInt8):(⟨s.toArray⟩:ByteArray).size=s.length:=by simp [ByteArray.size]
def lj (i:Nat) (nm:List UInt8):Value := .agg #[.int .i64 i,a8 nm]
def eZ (i:Nat) (nm:List UInt8):List UInt8:=beS 4 i ++ [UInt8.ofNat nm.length] ++ nm ++ zN (59-nm.length)
theorem dE {i:Nat} {nm:List UInt8} (h:nm.length<=59):(eZ i nm).length=64:=by
 unfold eZ;rw [List.length_append,List.length_append,List.length_append,aA,aO];show 4+1+nm.length+(59-nm.length)=64;omega
theorem o5 {w:World} {op:Oper} {a:Act} {K:Act->World->Prop} {Q:Exit->Act->World->Prop} (d s:Operand)
  (hop:op.op = .call { callee := .builtin .copy,args:=#[d,s],argTypes:=#[76,9] }) (g o n c:Nat) (L t:List UInt8)
  (hd:a.eval d = .slice (some ⟨g,o,none⟩) n c) (hs:a.eval s=a8 t) (hb:aV w g L) (hle:t.length<=n) (ho:o+n<=L.length)
  (h:∀r w',aV w' g (L.take o ++ t ++ L.drop (o+t.length))->w.grownBy w' (some g)->K (a.put op.dst r) w'):Oper.wp Tryz.prog op a w K Q:=by
 have hsz:(Tryz.prog.info? 5).map (·.size)=some 1:=by kernel_rfl
 have hts:(⟨t.toArray⟩:ByteArray).size=t.length:=eU t;have hrun:=Lib.run_copy_row_string (P:=Tryz.prog) w 76 9 op.type 5 g o n c ⟨t.toArray⟩ (L.map U8).toArray 5 Tryz.underlying76 hsz (show w.heap[g]? = some (.cells (L.map U8).toArray 5 (0,0)) from hb) (by rw [hts];exact hle) (by rw [hts];simp;omega);rw [hts] at hrun;obtain ⟨cs,hcs⟩:∃cs,((L.map U8).toArray.toList.take o ++ Lib.byteCells t ++ (L.map U8).toArray.toList.drop (o+t.length))=cs:=⟨_,rfl⟩;have hrun':(Builtin.copy_ #[76,9] op.type #[.slice (some ⟨g,o,none⟩) n c,a8 t]).run Tryz.prog w = .ok (goInt t.length) (w.setRow g cs.toArray):=by rw [<- hcs];exact hrun
 have hce:cs=(L.take o ++ t ++ L.drop (o+t.length)).map U8:=by
  rw [<- hcs,List.map_append,List.map_append,List.map_take,List.map_drop];rfl
 have hblk:=setRow_heap w g (L.map U8).toArray cs.toArray 5 (0,0) hb;unfold Oper.wp;simp [execOp,hop,resolve,invoke,builtin,hd,hs,hrun',Result.andThen];refine h _ _ ?_ ⟨rfl,rfl,rfl,by simp,fun i _ hi=>setRow_other w g i _ (fun e=>hi (by rw [e]))⟩;unfold aV;rw [hblk,hce]
theorem gY {w:World} {ops:Array Oper} {rest:List Oper} {o:Oper} {a:Act} {Q:Exit->Act->World->Prop} (hg:o.guard=none) (l c:Operand) (hop:o.op=Op.makeSlice 76 l c)
  (n:Nat) (x:Int) (hx:x=n) (hl:a.eval l = .int .i64 x) (hc:a.eval c = .int .i64 x) (hm:n<=10000)
  (h:∀w1:World,Below w.heap.size w w1->w1.heap[w.heap.size]? = some (.cells (List.replicate n (Value.int .u8 0)).toArray 5 (0,0))->w1.heap.size=w.heap.size+1 ->
   wpList Tryz.prog ops Q rest (a.put o.dst (.slice (some ⟨w.heap.size,0,none⟩) n n)) w1):wpList Tryz.prog ops Q (o :: rest) a w:=by
 subst hx;obtain ⟨i,hi,hz,hs,hb⟩:=info_parts iE;refine wpList_plain hg fun K hK' => ?_;have hrun:=run_make (P:=Tryz.prog) w 76 5 i (.int .u8 0) Tryz.underlying76 hi hz .i64 .i64 n n (by omega) (by omega) (by rw [hb];omega) (by omega);unfold Oper.wp;simp only [Int.toNat_natCast,hs,sg] at hrun;generalize (List.replicate n (Value.int .u8 0)).toArray=Z at *;simp [execOp,hop,hl,hc,hrun,Result.andThen];exact hK' _ _ (h _ ((Below.refl _ _).alloc (Nat.le_refl _) _) (af _ _) (by simp))
theorem vU (i:Nat) (nm Z:List UInt8) (hl:nm.length<=59) (hZ:Z=zN 64):((Z.take 0 ++ beS 4 i ++ Z.drop (0+4)).set 4 (UInt8.ofNat nm.length)).take 5 ++ nm ++ ((Z.take 0 ++ beS 4 i ++ Z.drop (0+4)).set 4 (UInt8.ofNat nm.length)).drop (5+nm.length)=eZ i nm:=by
 subst hZ;have h4:=aA 4 i;have hd:(zN 64).drop (0+4)=0 :: zN 59:=by decide
 rw [List.take_zero,List.nil_append,hd];unfold eZ;generalize UInt8.ofNat nm.length=x;have hs:(beS 4 i ++ 0 :: zN 59).set 4 x=beS 4 i ++ x :: zN 59:=by
  rw [List.set_append_right _ _ (by omega),h4];rfl
 rw [hs];have ht:(beS 4 i ++ x :: zN 59).take 5=beS 4 i ++ [x]:=by
  rw [List.take_append,h4,List.take_of_length_le (by omega)];rfl
 have hdr:(beS 4 i ++ x :: zN 59).drop (5+nm.length)=zN (59-nm.length):=by
  rw [List.drop_append,h4,List.drop_eq_nil_of_le (by omega),List.nil_append,show 5+nm.length-4=nm.length+1 by omega,List.drop_succ_cons];unfold zN;rw [List.drop_replicate]
 rw [ht,hdr]
theorem o6 (nm:List UInt8) (w:World):(Builtin.len_ #[9] 3 #[a8 nm]).run Tryz.prog w = .ok (.int .i64 nm.length) w:=by
 have h:=eU nm;unfold a8;simp [Builtin.len_,run_underlying Tryz.underlying9,goInt,go_sem]
theorem xz (i:Nat) (nm:List UInt8) (hi:i<512) (hl:nm.length<=59) (w:World):Calls Tryz.prog 34 #[lj i nm] w fun e w'=>∃g,e = .returned (.slice (some ⟨g,0,none⟩) 64 64)/\w.heap.size<=g/\aV w' g (eZ i nm)/\Below w.heap.size w w':=by
 obtain ⟨wA,hA⟩:∃wA,wA=w.alloc (.cells #[.int .i64 i,a8 nm] 79):=⟨_,rfl⟩;have HBA:Hid (Below w.heap.size w wA):=by rw [hA];exact (Below.refl _ w).alloc (Nat.le_refl _) _
 have HXA:Hid (wA.heap[w.heap.size]? = some (.cells #[.int .i64 i,a8 nm] 79 (0,0))):=by rw [hA];exact af w _
 have HZA:Hid (wA.heap.size=w.heap.size+1):=by rw [hA];exact World.size_alloc _ _
 unfold lj;go_enter Tryz.func34,Tryz.ntmps34
 go_wp2_with (rw [<- hA];refine gY rfl _ _ rfl 64 64 rfl rfl rfl (by omega) ?_;intro w1 hb1 ho1 hz1;refine Hid.out ?_)
 clear hA;have HX1:=hid (ah hb1 HXA.out (ae HXA.out));have HB1:=hid (HBA.out.trans (hb1.mono HBA.out.size));have ho:aV w1 wA.heap.size (zN 64):=by unfold aV;rw [ho1,eX]
 obtain ⟨Z,hZ⟩:∃Z,Z=zN 64:=⟨_,rfl⟩;rw [<- hZ,HZA.out] at ho;have hZl:Z.length=64:=by rw [hZ,aO]
 have HZ:=hid hZ;clear hZ;have HO1:=hid ho;have HGx:Hid (w.heap.size+1≠w.heap.size/\w.heap.size<=w.heap.size+1):=⟨by omega,by omega⟩;clear hb1 ho1 hz1 ho HBA HXA HZA;refine hid ?_;generalize w.heap.size+1=g at *
 go_wp2_with fail
 have hbd:Below w1.heap.size w1 w1.drew:=(Below.refl _ w1).drew;have hxd:=ah hbd HX1.out (ae HX1.out);have hod:=HO1.out.below hbd;have HBd:=hid (HB1.out.trans (hbd.mono HB1.out.size));refine wp_region_noPanic ?_;refine wp_region_held_drew (S:=fun W=>W.cell? ⟨w.heap.size,0,none⟩=some (.int .i64 i)) (by kernel_rfl) (aa hxd 0) (fun hHeld => ?_);generalize w1.drew=wd at *;have HPu:=hid (ep g 0 4 64 i Z wd hod (by omega) (by omega) (by omega));have HXd:=hid hxd;clear hbd hod hxd HX1 HO1 HB1;refine tq 0 _ ?_
 try simp only [tS]
 refine tq 1 _ ?_
 try simp only [tS]
 refine tq 2 _ ?_
 try simp only [tS]
 refine tq 3 _ ?_
 try simp only [tS]
 refine tr 4 (fun K hK => ?_);go_simp;refine HPu.out.mono ?_;clear HPu;rintro e w2 ⟨rfl,ho2,hk2⟩;have hx2:=hk2.heap HXd.out (fun e=>HGx.out.1 e.symm);have e0:w2.cell? ⟨w.heap.size,0,none⟩=some (.int .i64 i):=aa hx2 0;have HX2:=hid hx2;have HO2:=hid ho2;have HK2:Hid (Below w.heap.size w w2):=HBd.out.trans (hk2.below HBd.out.size (fun i e=>by have h1:=HGx.out.2;have e':i=g:=e;omega));clear hx2 ho2 hk2 HXd HBd
 go_wp2_with fail
 refine hK.out _ _ e0 (fun hHeld => ?_);clear hK K
 try simp only [tS]
 refine wpAnyH_done (by kernel_rfl) ?_ _;refine NoPanic.normal ?_;clear hHeld e0;have x1:w2.cell? ⟨w.heap.size,1,none⟩=some (a8 nm):=aa HX2.out 1;have hln:=o6 nm;have hcv:IntKind.u8.wrap (nm.length:Int)=(nm.length:Int):=by rw [IntKind.wrap_u8];omega
 obtain ⟨old,c4⟩:∃v,w2.cell? ⟨g,4,none⟩=some v:=⟨_,HO2.out.cell 4 (by simp [aA];omega)⟩;have f4:=HO2.out.frozen 4;go_wp2;obtain ⟨W3,hW3⟩:∃W3,W3=w2.setCell ⟨g,4,none⟩ (.int .u8 nm.length):=⟨_,rfl⟩;rw [<- hW3];have ho3:=HO2.out.set 4 (UInt8.ofNat nm.length);have htn:((UInt8.ofNat nm.length).toNat:Int)=(nm.length:Int):=by rw [UInt8.toNat_ofNat'];omega
 rw [htn, <- hW3] at ho3;have hk3:ac (fun j=>j=g) w2 W3:=by
  rw [hW3];exact (ac.refl _ w2).grown (ak (ar _ _) _ _) (fun i e => .inl (Option.some.inj e).symm)
 have hx3:=hk3.heap HX2.out (fun e=>HGx.out.1 e.symm);have hbd:Below W3.heap.size W3 W3.drew:=(Below.refl _ W3).drew;have hxd:=ah hbd hx3 (ae hx3);have hod:=ho3.below hbd;have hb3:Below w.heap.size w W3:=HK2.out.trans (hk3.below HK2.out.size (fun i e=>by have h1:=HGx.out.2;have e':i=g:=e;omega));have HB3:=hid (hb3.trans (hbd.mono hb3.size));have HOd:=hid hod;have HXd:=hid hxd;refine wp_region_noPanic ?_;refine wp_region_held_drew (S:=fun W=>W.cell? ⟨w.heap.size,1,none⟩=some (a8 nm)) (by kernel_rfl) (aa hxd 1) (fun hHeld => ?_);clear hW3 ho3 hk3 hx3 hbd hxd hod hb3 HX2 HO2 HK2 x1 c4 f4;generalize W3.drew=wd at *;refine tq 0 _ ?_
 try simp only [tS]
 refine tq 1 _ ?_
 try simp only [tS]
 refine tq 2 _ ?_
 try simp only [tS]
 refine tq 3 _ ?_
 try simp only [tS]
 refine tr 4 (fun K hK => ?_);have hlL:(((Z.take 0 ++ beS 4 i ++ Z.drop (0+4)).set 4 (UInt8.ofNat nm.length))).length=64:=by
  rw [List.length_set,List.length_append,List.length_append,aA,List.length_take,List.length_drop];omega
 refine o5 (.tmp 17) (.tmp 19) rfl g 5 59 59 _ nm rfl rfl HOd.out (by omega) (by rw [hlL];decide) ?_;intro r w5 ho5 hg5;rw [vU i nm Z hl HZ.out] at ho5;have k5:ac (fun j=>j=g) wd w5:=ac.of_grown hg5 (fun i e=>(Option.some.inj e).symm);have hx5:=k5.heap HXd.out (fun e=>HGx.out.1 e.symm);have HE:Hid (w.heap.size<=g/\aV w5 g (eZ i nm)/\Below w.heap.size w w5):=⟨HGx.out.2,ho5,HB3.out.trans (k5.below HB3.out.size (fun i e=>by have h1:=HGx.out.2;have e':i=g:=e;omega))⟩;refine hK.out _ _ (aa hx5 1) (fun hHeld => ?_);clear hK K ho5 hg5 k5 hx5
 try simp only [tS]
 refine wpAnyH_done (by kernel_rfl) ?_ _;refine NoPanic.normal ?_;clear hHeld;go_wp2;go_ret;exact ⟨g,rfl,HE.out⟩
end
section
set_option maxRecDepth 100000
set_option maxHeartbeats 4000000
open Go.RowKit
theorem u9 (i:Nat) (nm:List UInt8):(eZ i nm).take 4=beS 4 i:=by
 unfold eZ;rw [List.append_assoc,List.append_assoc,List.take_left' (aA 4 i)]
theorem xl (i:Nat) (nm:List UInt8) (_:nm.length<=59):(eZ i nm)[4]? = some (UInt8.ofNat nm.length):=by
 unfold eZ;rw [List.append_assoc,List.append_assoc,List.getElem?_append_right (by rw [aA];exact Nat.le_refl _),aA]
 rfl
theorem vq (i:Nat) (nm:List UInt8) (j:Nat) (hj:j<nm.length):(eZ i nm)[5+j]? = some nm[j]:=by
 unfold eZ;rw [List.append_assoc,List.append_assoc,List.getElem?_append_right (by rw [aA];omega),aA,show 5+j-4=j+1 by omega];show (nm ++ zN (59-nm.length))[j]? = _;rw [List.getElem?_append_left hj,List.getElem?_eq_getElem hj]
theorem rK {w:World} {g o c:Nat} {nm:List UInt8} (h:∀j (hj:j<nm.length),w.cell? ⟨g,o+j,none⟩=some (.int .u8 (nm[j].toNat:Int))):(convert 76 9 (.slice (some ⟨g,o,none⟩) nm.length c)).run Tryz.prog w = .ok (a8 nm) w:=by
 refine run_convert_bytes_back w _ _ _ ⟨g,o,none⟩ c nm Tryz.underlying76 Tryz.underlying5 Tryz.underlying9 (fun j hj => ?_);rw [Addr.add_mid];exact h j hj
theorem qf {w:World} {tmps:Array Value} {b:Nat} {cs:List Value} (h1:tmps.getD 2 undef = .pointer (some ⟨b,0,none⟩)) (r:w.heap[b]? = some (.cells cs.toArray 79 (0,0))) (hl:cs.length=2) :
  (results Tryz.f150 tmps).run Tryz.prog w = .ok (.agg cs.toArray) w:=by
 have h1':tmps[2]?.getD undef = .pointer (some ⟨b,0,none⟩):=by simpa using h1
 have hr:=run_loadVar_mid (P:=Tryz.prog) w b 0 79 cs _ (by have:=aL r;exact this) Tryz.underlying79 rfl (by rw [hl];kernel_rfl);simp only [results,Tryz.results150];simp [h1',asAddr,hr]
theorem x7 (i:Nat) (nm:List UInt8) (hi:i<512) (hl:nm.length<=59) (g o c:Nat) (hc:64<=c) (hcm:c<=9223372036854775807) (w:World) (hb:az w ⟨g,o,none⟩ (eZ i nm)):Calls Tryz.prog 150 #[.slice (some ⟨g,o,none⟩) 64 c] w fun e w'=>e = .returned (lj i nm)/\Below w.heap.size w w':=by
 obtain ⟨wA,hA⟩:∃wA,wA=w.alloc (.cells #[.int .i64 0,.string ⟨#[]⟩] 79):=⟨_,rfl⟩;have hba:Below w.heap.size w wA:=by rw [hA];exact (Below.refl _ w).alloc (Nat.le_refl _) _
 have hra:wA.heap[w.heap.size]? = some (.cells #[.int .i64 0,.string ⟨#[]⟩] 79 (0,0)):=by rw [hA];exact af w _
 have hL:=dE (i:=i) hl;have hcell:∀W,Below w.heap.size w W->∀j x,(eZ i nm)[j]? = some x->W.cell? ⟨g,o+j,none⟩=some (.int .u8 (x.toNat:Int)):=fun W hW j x hx=>by
  obtain ⟨hj,e⟩:=List.getElem?_eq_some_iff.1 hx;have h1:=hb j hj;rw [Addr.add_mid,e] at h1;rw [hW.cell (World.block_lt_of_cell? w _ h1),h1]
 have HCe:=hid hcell;have c4:wA.cell? ⟨g,o+4,none⟩=some (.int .u8 nm.length):=by
  rw [hcell wA hba 4 _ (xl i nm hl),UInt8.toNat_ofNat']
  congr 2
  omega
 have hmn:min (5+(nm.length:Int)) 64=5+(nm.length:Int):=by omega
 have HBA:=hid hba;have HRA:=hid hra;clear hb hba hra hcell;go_enter Tryz.func150,Tryz.ntmps150;rw [hA] at c4
 go_wp2_with fail
 rw [<- hA];clear hA c4;have hbd:Below wA.heap.size wA wA.drew:=(Below.refl _ wA).drew;have hrd:=ah hbd HRA.out (ae HRA.out);have hbw:=HBA.out.trans (hbd.mono HBA.out.size);have hby:∀W,Below w.heap.size w W->dN W (some ⟨g,o,none⟩) (beS 4 i):=fun W hW j hj=>⟨g,o,rfl,fun q hq=>by
  refine HCe.out W hW q _ ?_;have h1:((eZ i nm).take 4)[q]? = (beS 4 i)[q]? := by rw [u9]
  rw [aA] at hq;rw [List.getElem?_take_of_lt hq,List.getElem?_eq_getElem (l:=beS 4 i) (by rw [aA];exact hq)] at h1;exact h1⟩
 have hst:∀W,Below w.heap.size w W->(convert 76 9 (.slice (some ⟨g,o+5,none⟩) nm.length (c-5))).run Tryz.prog W = .ok (a8 nm) W:=fun W hW=>rK (fun j hj=>by
  rw [Nat.add_assoc];exact HCe.out W hW (5+j) _ (vq i nm j hj))
 have hnum:∀W,Below w.heap.size w W->Calls Tryz.prog 108 #[.slice (some ⟨g,o,none⟩) 4 c] W fun e w'=>e = .returned (.int .i64 i)/\w'=W:=fun W hW=>by
  have h1:=jP (beS 4 i) (some ⟨g,o,none⟩) c W (hby W hW) (by rw [aA];decide);rw [aA,gL,Nat.mod_eq_of_lt (by omega)] at h1;exact h1
 have HNu:=hid hnum;have HSt:=hid hst;have HBw:=hid hbw;have HRd:=hid hrd;have hc4:(4:Int)<=(c:Int):=by omega
 have hc5:¬(c=5):=by omega
 have he5:(5:Int)+(nm.length:Int)<=(c:Int):=by omega
 have he0:(0:Int)<=5+(nm.length:Int):=by omega
 have hmx:max (5+(nm.length:Int)) 0=5+(nm.length:Int):=by omega
 have h55:(5:Int)<=5+(nm.length:Int):=by omega
 have ht5:(5+(nm.length:Int)).toNat-5=nm.length:=by omega
 clear hnum hst hbw hrd hbd hby HRA HBA;refine wp_region_noPanic ?_;refine wp_region_held_drew (S:=fun W=>(convert 76 9 (.slice (some ⟨g,o+5,none⟩) nm.length (c-5))).run Tryz.prog W = .ok (a8 nm) W) (by kernel_rfl) (HSt.out _ HBw.out) (fun hHeld => ?_);generalize wA.drew=wd at *;refine tq 0 _ ?_
 try simp only [tS]
 refine tq 1 _ ?_
 try simp only [tS]
 refine tq 3 _ ?_
 try simp only [tS]
 refine tq 4 _ ?_
 try simp only [tS]
 refine tq 5 (.slice (some ⟨g,o+5,none⟩) nm.length (c-5)) ?_
 try simp only [tS]
 refine tq 6 _ ?_
 try simp only [tS]
 refine tr 2 (fun K hK => ?_);go_simp;refine (HNu.out wd HBw.out).mono ?_;clear HNu;rintro e w2 ⟨rfl,h2⟩;obtain rfl:=h2.symm;clear h2
 go_wp2_with fail
 refine hK.out _ _ (HSt.out _ HBw.out) (fun hHeld => ?_);clear hK K
 try simp only [tS]
 refine tq 7 _ ?_
 try simp only [tS]
 refine tr 8 (fun K hK => ?_);refine cQ 79 (.tmp 2) (.tmp 17) rfl w.heap.size #[.int .i64 i,a8 nm] rfl rfl _ _ HRd.out rfl (by kernel_rfl) (by simp [a8,Value.oneCell']) ?_;intro w3 hg3 hb3 hz3;have hb03:Below w.heap.size w w3:=HBw.out.trans (dW hg3 HBw.out.size (fun i e=>by have:=Option.some.inj e;omega));have HB3:=hid hb3;have HE:=hid hb03;refine hK.out _ _ (HSt.out _ hb03) (fun hHeld => ?_);clear hK K hg3 hb3 hz3 hb03
 try simp only [tS]
 refine wpAnyH_done (by kernel_rfl) ?_ _;refine NoPanic.normal ?_;clear hHeld;go_wp2;exact bodyPost_ret (qf rfl HB3.out rfl) rfl ⟨rfl,HE.out⟩
end
section
open Go.RowKit
def aI (es:List (Nat×List UInt8)):List UInt8:=es.flatMap fun x=>eZ x.1 x.2
def aZ (es:List (Nat×List UInt8)):Prop:=es.length<=1112/\∀x∈es,x.1<512/\x.2.length<=59
def ubE (es:List (Nat×List UInt8)):Nat:=141*(es.length / 8+1)
theorem aN {es:List (Nat×List UInt8)} (h:∀x∈es,x.1<512/\x.2.length<=59):(aI es).length=64*es.length:=by
 induction es with
 | nil=>rfl
 | cons x es ih =>
  have h1:=ih (fun y hy=>h y (List.mem_cons_of_mem _ hy));unfold aI at h1 ⊢;rw [List.flatMap_cons,List.length_append,dE (h x List.mem_cons_self).2,h1,List.length_cons];omega
theorem yk {es:List (Nat×List UInt8)} (h:∀x∈es,x.1<512/\x.2.length<=59) (k:Nat) (hk:k<es.length):((aI es).drop (64*k)).take 64=eZ es[k].1 es[k].2:=by
 induction es generalizing k with
 | nil=>cases hk
 | cons x es ih =>
  have hl:=dE (i:=x.1) (h x List.mem_cons_self).2;have e:aI (x :: es)=eZ x.1 x.2 ++ aI es:=by unfold aI;rw [List.flatMap_cons]
  rw [e];cases k with
  | zero =>
   rw [Nat.mul_zero,List.drop_zero,List.take_append_of_le_length (by omega),List.take_of_length_le (by omega)]
   rfl
  | succ k =>
   have h2:=ih (fun y hy=>h y (List.mem_cons_of_mem _ hy)) k (by simpa using hk);rw [List.drop_append,List.drop_of_length_le (by omega),List.nil_append,hl,show 64*(k+1)-64=64*k by omega,h2]
   rfl
theorem tT {es:List (Nat×List UInt8)} (h:∀x∈es,x.1<512/\x.2.length<=59) (p j:Nat) (hj:j<8) (hk:8*p+j<es.length):((((aI es).drop (512*p)).take 512).drop (64*j)).take 64=eZ es[8*p+j].1 es[8*p+j].2:=by
 rw [<- yk h (8*p+j) hk,List.drop_take,List.take_take,List.drop_drop,Nat.min_eq_left (by omega),show 512*p+64*j=64*(8*p+j) by omega]
theorem n8 {es:List (Nat×List UInt8)} (h:∀x∈es,x.1<512/\x.2.length<=59) (p:Nat):(((aI es).drop (512*p)).take 512).length=min 512 (64*es.length-512*p):=by
 rw [List.length_take,List.length_drop,aN h]
end
section
set_option maxRecDepth 100000
set_option maxHeartbeats 4000000
open Go.RowKit Go.Shelf
attribute [local go_sem] Oper.semAt_some
theorem ms {Q:Exit->Act->World->Prop} {a:Act} {w:World} (h:Q .normal a w):Exit.noGoto Q .normal a w:=h
theorem xE {w:World} {base g n cap:Nat} {L X:List UInt8} (h:cV w base (.slice (some ⟨g,0,none⟩) n cap) L) (k:Nat) (hX:(L.drop k).take 64=X):az w ⟨g,k,none⟩ X:=fun j hj=>by
 have hkj:k+j<L.length:=by rw [<- hX,List.length_take,List.length_drop] at hj;omega
 obtain ⟨b,o,e,hcs⟩:=h.bytes (k+j) hkj;simp only [Option.some.injEq,Addr.mk.injEq,and_true] at e;obtain ⟨rfl,rfl⟩:=e;have h5:=hcs (k+j) hkj;rw [Nat.zero_add] at h5;have e:X[j]=L[k+j]:=by subst hX;simp
 rw [Addr.add_mid,e];exact h5
structure aW (H:Nat->Prop) (w w':World):Prop where
 size:w.heap.size<=w'.heap.size
 block:∀k ob,w.heap[k]? = some ob->¬H k->(∀cs fr,ob ≠ .cells cs 9 fr)->w'.heap[k]? = some ob
theorem aW.refl (H:Nat->Prop) (w:World):aW H w w:=⟨Nat.le_refl _,fun _ _ h _ _=>h⟩
theorem aW.trans {H:Nat->Prop} {a b c:World} (h:aW H a b) (k:aW H b c):aW H a c:=⟨Nat.le_trans h.size k.size,fun i ob h1 h2 h3=>k.block i ob (h.block i ob h1 h2 h3) h2 h3⟩
theorem ac.toS {F H:Nat->Prop} {a b:World} (h:ac F a b) (hF:∀i,F i->H i):aW H a b:=⟨h.size,fun _ _ h1 h2 _=>h.heap h1 (fun hf=>h2 (hF _ hf))⟩
theorem aW.cells {H:Nat->Prop} {a b:World} (h:aW H a b) {k:Nat} {cs:Array Value} {t:TypeId} {fr:Nat×Nat} (hk:a.heap[k]? = some (.cells cs t fr)) (hH:¬H k) (ht:t≠9):b.heap[k]? = some (.cells cs t fr):=h.block k _ hk hH (fun cs' fr' e=>by cases e;exact ht rfl)
theorem cV.keepS {w w':World} {base:Nat} {v:Value} {xs:List UInt8} {H:Nat->Prop} (h:cV w base v xs) (k:aW H w w') (hF:∀i,H i->i<base):cV w' base v xs:=by
 refine ⟨h.1,?_⟩;rcases h.2 with hn | ⟨g,cap,cur,rfl,hb,hg,rest⟩
 ·exact .inl hn
 ·exact .inr ⟨g,cap,cur,rfl,hb,k.cells hg (fun hh=>by have:=hF _ hh;omega) (by decide),rest⟩
section
variable {w w':World} {s m c ino:Nat} {F:Nat->Prop} {N:Nat} {Pg Cm:Nat->List UInt8} {fs:Nat->Option ao} {o u:Nat} {i:Nat} {f:ao}
theorem j4 (n:Nat) (hn:2<=n) (l bb:Nat) (es:List (Nat×List UInt8)) (hes:aZ es) (H:Nat->Prop) (J Jx:Nat->World->Prop) (W:World)
  (h:St W s m c F N ino Pg Cm fs o u) (hf:fs i=some f) (hd:f.data=aI es) (hu:u+ubE es<=900000) (hHW:∀j,H j->j<W.heap.size) (hFH:∀j,F j->H j) (hbH:¬H bb)
  (hbb:W.heap[bb]? = some (.cells #[.pointer (some ⟨s,0,none⟩),.int .i64 i,.int .i64 (64*es.length:Nat)] 69 (0,0)))
  (hJ:∀k V V',J k V->ac F V V'->J k V')
  (hY:∀k U V,(hk:k<es.length)->U<=u+ubE es->St V s m c F N ino Pg Cm fs o U->J k V->YieldAt Fence.wide (n-1) Tryz.prog l #[.int .i64 (64*k:Nat),lj es[k].1 es[k].2] V fun e V' =>
   (e = .returned (.bool true)/\J (k+1) V'/\St V' s m c F N ino Pg Cm fs o U/\aW H V V')\/(e = .returned (.bool false)/\Jx k V'))
  (h0:J 0 W) :
  CallsIn Fence.wide n Tryz.prog 148 #[.func (.yield l) #[] #[],.pointer (some ⟨bb,0,none⟩)] W fun e W'=>(∃v,e = .returned v) /\
   ((J es.length W'/\∃U,U<=u+ubE es/\St W' s m c F N ino Pg Cm fs o U)\/∃k,k<es.length/\Jx k W'):=by
 have HY:=hid hY;have HJ:=hid hJ;have HC:Hid (∀wr,aW H W wr->wr.cell? ⟨bb,0,none⟩=some (.pointer (some ⟨s,0,none⟩))/\wr.cell? ⟨bb,1,none⟩=some (.int .i64 i)/\wr.cell? ⟨bb,2,none⟩=some (.int .i64 (64*es.length:Nat))):=fun wr hb=>by
  have h1:=hb.cells hbb hbH (by decide);exact ⟨aa h1 0,aa h1 1,aa h1 2⟩
 have HJ0:=hid h0;have HS0:=hid h;have HHW:=hid hHW;have HFH:=hid hFH;have HF:=hid hf;have HD:=hid hd;have HEs:=hid hes;clear hY hJ hbb h0 h hHW hFH hf hd hes;have hf9:Fence.wide.fn 149:=trivial;have hf10:Fence.wide.fn 150:=trivial;have h1n:1<=n:=by omega
 have hlen:es.length<=1112:=HEs.out.1;refine callsIn_of_wp Tryz.func148 rfl trivial ?_ rfl;simp only [Tryz.ntmps148,List.size_toArray,List.length_cons,List.length_nil,Nat.reduceAdd,Nat.reduceSub,Array.replicate_succ,Array.replicate_zero,List.push_toArray,List.append_toArray,List.nil_append,List.cons_append];refine wpIn_wide.2 (wp_scope_straight ((wpIn_wide (n:=n)).1 ?_))
 gi_wp2
 refine wpIn_label ?_
 gi_wp2
 gi_loopw [3] (fun i wr=>∃p pg:Nat,pg=512*p/\i = .int .i64 pg/\p<=140/\p<=es.length / 8+1/\Hid (J (min (8*p) es.length) wr)/\Hid (aW H W wr)/\Hid (St wr s m c F N ino Pg Cm fs o (u+141*p))) (fun i _=>100000-(intOf i).toNat)
 case atStart=>exact ⟨0,0,rfl,rfl,by omega,by omega,by rw [Nat.mul_zero,Nat.zero_min];exact HJ0,aW.refl _ _,HS0⟩
 case round =>
  obtain ⟨p,pg,hpg,rfl,hp,hpe,HJp,HB,HS⟩:=hrel;have HUb:Hid (ubE es=141*(es.length / 8+1)):=rfl;clear HJ0 HS0;obtain ⟨c0,c1,c2⟩:=HC.out wr HB.out;have HPg:=hid hpg;by_cases hlt:pg<64*es.length
  ·have hlt':(pg:Int)<((64*es.length:Nat):Int):=by omega
   have hp139:p<=139:=by omega
   have hpe1:p+1<=es.length / 8+1:=by omega
   have hub:u+141*(p+1)<=u+ubE es:=by rw [HUb.out];omega
   have HR:=hid (callsIn_wide.2 (vT HS.out HF.out (by have:=hub;omega) pg 512):CallsIn Fence.wide (n-1) _ _ _ _ _);clear hpg
   gi_wp2
   refine HR.out.mono ?_;rintro e w2 ⟨v,r,L,rfl,hrow,hk,hst,hcase⟩;obtain ⟨rfl,rfl⟩:r=0/\L=((aI es).drop (512*p)).take 512:=by
    rcases hcase with ⟨hc,-⟩ | ⟨-,-,h1,h2⟩
    ·omega
    ·exact ⟨h1,by rw [h2,HD.out, <- HPg.out];rfl⟩
   have hpl:=n8 HEs.out.2 p;obtain ⟨g,cap,hg,hcap,rfl⟩:∃g cap,(((aI es).drop (512*p)).take 512).length<=cap/\cap<=9223372036854775807/\v = .slice (some ⟨g,0,none⟩) (((aI es).drop (512*p)).take 512).length cap:=by
    rcases hrow.2 with ⟨-,h0⟩ | ⟨g0,cap0,cur,e,-,-,h4,h5,-⟩
    ·have:=HPg.out;omega
    ·exact ⟨g0,cap0,h4,Nat.le_trans h5 (by unfold maxLen;omega),e⟩
   obtain ⟨ln,hln⟩:∃ln,ln=(((aI es).drop (512*p)).take 512).length:=⟨_,rfl⟩;have HRow:=hid hrow;have HPl:=hid (hln.trans hpl);rw [<- hln] at HRow hg;have HJ3:Hid (J (8*p+0) w2):=by have h1:=HJ.out _ _ _ HJp.out hk;have:=HPg.out;rw [Nat.min_eq_left (by omega)] at h1;exact h1
   have HLn:=hid hln;have HB2:=hid (HB.out.trans (hk.toS HFH.out));have HS2:Hid (St w2 s m c F N ino Pg Cm fs o (u+141*(p+1))):=by have:=hst.more (u':=u+141*(p+1)) (by omega);exact this
   have HWr:=hid HB.out.size;have hlnb:ln<=512:=by have:=HPl.out;omega
   clear hrow hk hst hcase hpl hln HR c0 c1 c2 HJp HS HB;rw [<- HLn.out]
   gi_wp2
   have HRow2:=hid ((HRow.out.down HWr.out:cV w2 W.heap.size _ _));clear HRow HWr
   gi_loopw [6] (fun i wi=>∃q at_:Nat,at_=64*q/\q<=8/\i = .int .i64 at_/\Hid (8*p+q<=es.length)/\Hid (J (8*p+q) wi)/\Hid (St wi s m c F N ino Pg Cm fs o (u+141*(p+1)))/\Hid (aW H W wi)/\Hid (cV wi W.heap.size (.slice (some ⟨g,0,none⟩) ln cap) (((aI es).drop (512*p)).take 512))) (fun i _=>1000-(intOf i).toNat)
   case atStart=>exact ⟨0,0,rfl,by omega,rfl,by have:=HPg.out;unfold Hid;omega,HJ3,HS2,HB2,HRow2⟩
   case round =>
    obtain ⟨q,at_,hat,hq,rfl,HQl,HJq,HSq,HBq,HRq⟩:=hrel;clear HJ3 HS2 HB2 HRow2;have HAt:=hid hat;have hatb:at_<=512:=by omega
    have hpgb:pg<=71168:=by have:=HPg.out;omega
    by_cases hin:at_+64<=ln
    ·have hin':(at_:Int)+64<=(ln:Int):=by omega
     have hql:q<8:=by omega
     have hs1:at_<=ln:=by omega
     have hs2:¬cap=at_:=by omega
     have hs3:64<=cap-at_:=by omega
     have hkl:8*p+q<es.length:=by have:=HPl.out;have:=HPg.out;omega
     have HKl:=hid hkl;have HDec:Hid (CallsIn Fence.wide (n-1) Tryz.prog 150 #[.slice (some ⟨g,at_,none⟩) 64 (cap-at_)] wr fun e w'=>e = .returned (lj es[8*p+q].1 es[8*p+q].2)/\Below wr.heap.size wr w') :=
      callsIn_wide.2 (x7 _ _ (HEs.out.2 _ (List.getElem_mem hkl)).1 (HEs.out.2 _ (List.getElem_mem hkl)).2 g at_ (cap-at_) (by omega) (by omega) wr (xE HRq.out at_ (by rw [HAt.out];exact tT HEs.out.2 p q hql hkl)))
     have HYW:Hid (∀V,Below wr.heap.size wr V->YieldAt Fence.wide (n-1) Tryz.prog l #[.int .i64 ((pg:Int)+(at_:Int)),lj es[8*p+q].1 es[8*p+q].2] V fun e V'=>(e = .returned (.bool true)/\J (8*p+q+1) V'/\St V' s m c F N ino Pg Cm fs o (u+141*(p+1))/\aW H V V')\/(e = .returned (.bool false)/\Jx (8*p+q) V')):=fun V hV=>by
      have h1:=HY.out (8*p+q) (u+141*(p+1)) V hkl hub (HSq.out.below hV) (HJ.out _ _ _ HJq.out (ac.of_below hV));have e1:((64*(8*p+q):Nat):Int)=(pg:Int)+(at_:Int):=by have:=HPg.out;have:=HAt.out;omega
      rw [e1] at h1;exact h1
     clear hat HY hkl
     gi_wp2_with (gi_at_call 150;refine HDec.out.mono ?_;rintro e w9 ⟨rfl,h9⟩;obtain ⟨fn,tmps,assign,body,hy,hR⟩:=HYW.out w9 h9;have HR:=hid hR;have H9:=hid h9;clear hR h9)
     refine HR.out.mono ?_;rintro e W3 (⟨rfl,hJ3,hS3,hk3⟩ | ⟨rfl,hJx3⟩)
     ·have HJ3:=hid hJ3;have HS3:=hid hS3;have hkk:aW H wr W3:=((ac.of_below H9.out:ac H wr w9).toS (fun _ e=>e)).trans hk3;have HB3:=hid (HBq.out.trans hkk);have HR3:=hid (cV.keepS HRq.out hkk HHW.out);clear hJ3 hS3 hk3 hkk hy HR HYW HDec
      gi_wp2
      go_roundw
      case rel=>exact ⟨q+1,at_+64,by have:=HAt.out;omega,by omega,by go_num,by have:=HKl.out;unfold Hid;omega,HJ3,HS3,HB3,HR3⟩
      case measure=>simp [intOf];omega
     ·have HX:=hid hJx3;clear hJx3 hy HR HYW HDec
      gi_wp2
      refine ms ?_
      go_end0
      exact ⟨⟨_,rfl⟩,.inr ⟨_,HKl.out,HX.out⟩⟩
    ·have hin':¬((at_:Int)+64<=(ln:Int)):=by omega
     have hqe:Hid (8*p+q=min (8*(p+1)) es.length):=by have:=HPl.out;have:=HPg.out;have:=HQl.out;unfold Hid;omega
     clear hat
     gi_wp2
     go_roundw
     case rel=>exact ⟨p+1,pg+512,by have:=HPg.out;omega,by go_num,by omega,hpe1,by rw [<- hqe.out];exact HJq,HBq,HSq⟩
     case measure=>simp [intOf];omega
  ·have hlt':¬((pg:Int)<((64*es.length:Nat):Int)):=by omega
   have HLe:=hid (by omega:es.length<=8*p);clear hpg
   gi_wp2
   go_end0
   exact ⟨⟨_,rfl⟩,.inl ⟨by have h1:=HJp.out;rwa [Nat.min_eq_right HLe.out] at h1,_,by rw [HUb.out];omega,HS.out⟩⟩
end
end
section
open Go.RowKit Go.Shelf
section
variable {P:Program} {n:Nat}
abbrev gA (fn:FuncId) (tmps:Array Value) (ps:Array Tmp) (assign body:Code) (d:Nat) (st:LoopState) (pe:Option Code):Loop:={ state:=st,pending:=pe,fn,tmps,params:=ps,assign,body,defers:=d }
def zC (n:Nat) (P:Program) (Q:Exit->Act->World->Prop) (a:Act) (W:World):Option Code->Prop
 | none=>Q .normal a W
 | some c=>c.wpIn Fence.wide n P Q a W
theorem ey {g:Operand} {ps:Array Tmp} {assign body:Code} {Q:Exit->Act->World->Prop} {a:Act} {w:World} (h1:1<=n) {gf:Nat} {lb:Array Value} (hg:a.eval g = .func (.func gf) #[] lb)
  (eg:∀args w,(callFunc gf args).run P w = .ok (.enter gf args) w)
  (h:∀fn,CallsIn Fence.wide (n-1) P gf (#[.func (.yield (w.heap.size+1)) #[] #[]] ++ lb) ((w.alloc (.deferred (some []))).alloc (.loop (gA fn a.tmps ps assign body w.heap.size .ready none))) fun e W2=>(∃v,e = .returned v) /\
   ∃st pe,st ≠ .busy/\W2.heap[w.heap.size+1]? = some (.loop (gA fn a.tmps ps assign body w.heap.size st pe))/\zC n P Q { a with defers:={ target := .collected w.heap.size,args:=#[] } :: a.defers } (W2.putObj (w.heap.size+1) (.loop (gA fn a.tmps ps assign body w.heap.size .exhausted pe))) pe) :
  (Code.rangeFunc g ps assign body).wpIn Fence.wide n P Q a w:=by
 refine wpIn_rangeFunc fun fn hfn => ?_;obtain ⟨W1,hW1⟩:∃W1,W1=(w.alloc (.deferred (some []))).alloc (.loop (gA fn a.tmps ps assign body w.heap.size .ready none)):=⟨_,rfl⟩;have hf:=h fn;rw [<- hW1] at hf;refine ⟨w.heap.size+1,[{ target := .collected w.heap.size,args:=#[] }],W1,{ target := .fn (.func gf) lb,args:=#[.func (.yield (w.heap.size+1)) #[] #[]] },W1,gf,#[.func (.yield (w.heap.size+1)) #[] #[]] ++ lb,W1,?_,?_,?_,?_,?_,?_⟩
 ·rw [hW1];exact run_enterLoop_outer _ _ _ _ _
 ·simp only [resolve,hg];simp [go_sem]
 ·intro f' hf';trivial
 ·simp [invoke,go_sem,eg]
 ·intro _;exact h1
 ·refine hf.mono ?_;rintro e W2 ⟨⟨v,rfl⟩,st,pe,hst,hl,hb⟩;have he:=run_endLoop (P:=P) hl hst;refine ⟨pe,_,he,?_⟩;cases pe with
  | none=>exact hb
  | some c=>exact hb
def wP (l:Nat) (rc:LoopState->Option Code->Loop) (R:Ending->World->Prop):Exit->Act->World->Prop
 | .normal,_,W=>W.heap[l]? = some (.loop (rc .busy none))/\R (.returned (.bool true)) (W.putObj l (.loop (rc .ready none)))
 | .ret,_,W=>W.heap[l]? = some (.loop (rc .busy none))/\R (.returned (.bool false)) (W.putObj l (.loop (rc .done (some .ret))))
 | _,_,_=>False
theorem eB {l d:Nat} {fn:FuncId} {tmps:Array Value} {ps:Array Tmp} {assign body:Code} {args:Array Value} {W:World} {R:Ending->World->Prop} (hl:W.heap[l]? = some (.loop (gA fn tmps ps assign body d .ready none))) (hs:args.size=ps.size)
  (h:assign.wpIn (Fence.wide.inRound l) n P (Exit.then (fun a1 W1=>W1.heap[l]? = some (.loop (gA fn tmps ps assign body d .ready none))/\body.wpIn (Fence.wide.inRound l) n P (wP l (gA fn tmps ps assign body d) R) a1 (W1.putObj l (.loop (gA fn tmps ps assign body d .busy none)))) (fun _ _ _=>False))
   { tmps:=(ps.zip args).foldl (fun t (p,v)=>t.setIfInBounds p v) tmps,defers:=[] } W):YieldAt Fence.wide n P l args W R:=by
 refine ⟨_,_,_,_,run_yield hl hs,roundIn_of_wpIn trivial (wpIn_mono h ?_)⟩;rintro e a1 W1 he;cases e with
 | normal =>
  obtain ⟨hl1,hb⟩:=he;refine ⟨_,run_beginRound hl1 rfl,wpIn_mono hb ?_⟩;rintro e a3 W3 hp;cases e with
  | normal =>
   obtain ⟨hl3,hR⟩:=hp;exact ⟨_,_,run_endRound none hl3,hR⟩
  | ret =>
   obtain ⟨hl3,hR⟩:=hp;exact ⟨_,_,run_endRound (some .ret) hl3,hR⟩
  | exit id=>exact hp.elim
  | goto t=>exact hp.elim
  | panic ch=>exact hp.elim
  | outgrown=>exact hp.elim
 | ret=>exact he.elim
 | exit id=>exact he.elim
 | goto t=>exact he.elim
 | panic ch=>exact he.elim
 | outgrown=>exact he.elim
end
end
end Go.Proofs.YtpiieilffkickaaGreatDoor
namespace Go.Proofs
open Go.Shelf
def Tryz.lays156_ren:Go.Shelf.Ren:=⟨fun | 156=>138 | 165=>99 | 166=>100 | 169=>102 | 240=>173 | 241=>174 | 276=>215 | 277=>216 | n=>n,fun | 31=>36 | 9=>9 | 3=>3 | 4=>4 | 0=>0 | 20=>20 | 72=>178 | 76=>182 | 70=>176 | 37=>76 | 75=>181 | 127=>249 | 164=>281 | 5=>5 | 80=>184 | n=>n,fun | n=>n⟩
theorem Tryz.lays156:Go.Proofs.Lays.n156 Tryz.prog Tryz.lays156_ren:={
 mixed:=by kernel_rfl
 f156:=Tryz.func138.trans (congrArg some (by kernel_rfl))
 f165:=Tryz.func99.trans (congrArg some (by kernel_rfl))
 f166:=Tryz.func100.trans (congrArg some (by kernel_rfl))
 f169:=Tryz.func102.trans (congrArg some (by kernel_rfl))
 f240:=Tryz.func173.trans (congrArg some (by kernel_rfl))
 f241:=Tryz.func174.trans (congrArg some (by kernel_rfl))
 f276:=Tryz.func215.trans (congrArg some (by kernel_rfl))
 f277:=Tryz.func216.trans (congrArg some (by kernel_rfl))
 t0:=Tryz.underlying0
 a0:=Tryz.isAgg0
 z0:=Tryz.sizeOf0
 v0:=Tryz.zeroValue0
 t3:=Tryz.underlying3
 a3:=Tryz.isAgg3
 z3:=Tryz.sizeOf3
 v3:=Tryz.zeroValue3
 t4:=Tryz.underlying4
 a4:=Tryz.isAgg4
 z4:=Tryz.sizeOf4
 v4:=Tryz.zeroValue4
 t9:=Tryz.underlying9
 a9:=Tryz.isAgg9
 z9:=Tryz.sizeOf9
 v9:=Tryz.zeroValue9
 t20:=Tryz.underlying20
 a20:=Tryz.isAgg20
 z20:=Tryz.sizeOf20
 v20:=Tryz.zeroValue20
 t31:=Tryz.underlying36
 a31:=Tryz.isAgg36
 z31:=Tryz.sizeOf36
 v31:=Tryz.zeroValue36
 t37:=Tryz.underlying76
 a37:=Tryz.isAgg76
 z37:=Tryz.sizeOf76
 v37:=Tryz.zeroValue76
 t70:=Tryz.underlying176
 a70:=Tryz.isAgg176
 z70:=Tryz.sizeOf176
 v70:=Tryz.zeroValue176
 t72:=Tryz.underlying178
 a72:=Tryz.isAgg178
 z72:=Tryz.sizeOf178
 v72:=Tryz.zeroValue178
 t75:=Tryz.underlying181
 a75:=Tryz.isAgg181
 z75:=Tryz.sizeOf181
 v75:=Tryz.zeroValue181
 t76:=Tryz.underlying182
 a76:=Tryz.isAgg182
 z76:=Tryz.sizeOf182
 v76:=Tryz.zeroValue182
 t127:=Tryz.underlying249
 a127:=Tryz.isAgg249
 z127:=Tryz.sizeOf249
 v127:=Tryz.zeroValue249
 t164:=Tryz.underlying281
 a164:=Tryz.isAgg281
 z164:=Tryz.sizeOf281
 v164:=Tryz.zeroValue281 }
theorem Tryz.Builder_Extra_156:Builder.Extra Tryz.prog Tryz.lays156_ren:={
 sizeBuilder:=by kernel_rfl
 liesBuilder:=by kernel_rfl
 t5:=Tryz.underlying5
 a5:=Tryz.isAgg5
 z5:=Tryz.sizeOf5
 v5:=Tryz.zeroValue5
 infoByte:=by kernel_rfl
 cellsByte:=by kernel_rfl
 sizeByte:=by kernel_rfl
 neB5:=by decide }
open Go.RowKit in
theorem Tryz.strings_Join_none (a:Option Addr) (c:Nat) (sep:ByteArray) (w:World) :
  Calls Tryz.prog 138 #[.slice a 0 c,.string sep] w fun e w'=>e = .returned (.string ⟨#[]⟩)/\w'=w:=Any.strings_Join_none Tryz.lays156 Tryz.Builder_Extra_156 a c sep w
open Go.RowKit in
theorem Tryz.strings_Join (bk o c:Nat) (xs:List ByteArray) (sep:ByteArray) (w:World) (hcells:∀(j:Nat) x,xs[j]? = some x->w.cell? ⟨bk,o+j,none⟩=some (.string x)) (hbk:bk<w.heap.size) (hN:xs.length<=140737488355328) (hcap:xs.length<=c) (hlen:(Lib.join (xs.map (·.data.toList)) sep.data.toList).length<=140737488355328) :
  Calls Tryz.prog 138 #[.slice (some ⟨bk,o,none⟩) xs.length c,.string sep] w fun e w'=>e = .returned (.string ⟨(Lib.join (xs.map (·.data.toList)) sep.data.toList).toArray⟩)/\Below w.heap.size w w':=Any.strings_Join Tryz.lays156 Tryz.Builder_Extra_156 bk o c xs sep w hcells hbk hN hcap hlen
def Tryz.lays103_ren:Go.Shelf.Ren:=⟨fun | 103=>72 | 210=>136 | 206=>172 | n=>n,fun | 9=>9 | 4=>4 | 24=>148 | 3=>3 | n=>n,fun | n=>n⟩
theorem Tryz.lays103:Go.Proofs.Lays.n103 Tryz.prog Tryz.lays103_ren:={
 mixed:=by kernel_rfl
 f103:=Tryz.func72.trans (congrArg some (by kernel_rfl))
 f206:=Tryz.func172.trans (congrArg some (by kernel_rfl))
 f210:=Tryz.func136.trans (congrArg some (by kernel_rfl))
 t3:=Tryz.underlying3
 a3:=Tryz.isAgg3
 z3:=Tryz.sizeOf3
 v3:=Tryz.zeroValue3
 t4:=Tryz.underlying4
 a4:=Tryz.isAgg4
 z4:=Tryz.sizeOf4
 v4:=Tryz.zeroValue4
 t9:=Tryz.underlying9
 a9:=Tryz.isAgg9
 z9:=Tryz.sizeOf9
 v9:=Tryz.zeroValue9
 t24:=Tryz.underlying148
 a24:=Tryz.isAgg148
 z24:=Tryz.sizeOf148
 v24:=Tryz.zeroValue148 }
open Go.RowKit in
theorem Tryz.strings_CutPrefix (s p:ByteArray) (w:World) :
  Calls Tryz.prog 72 #[.string s,.string p] w fun e w'=>e = .returned (.tuple #[.string ⟨(Lib.trimPrefix s.data.toList p.data.toList).toArray⟩,.bool (Lib.hasPrefix s.data.toList p.data.toList)])/\w'=w:=Any.strings_CutPrefix Tryz.lays103 s p w
open Go.RowKit Go.Lib in
def Tryz.lays190_ren:Go.Shelf.Ren:=⟨fun | 190=>43 | 125=>91 | 258=>90 | 128=>165 | 129=>166 | 302=>156 | 303=>157 | 304=>158 | 305=>159 | 306=>160 | 307=>161 | 308=>162 | 309=>163 | 310=>164 | 333=>207 | 329=>208 | 330=>209 | 334=>210 | 335=>211 | 336=>212 | 344=>236 | n=>n,fun | 31=>36 | 9=>9 | 3=>3 | 46=>163 | 0=>0 | 51=>240 | 53=>242 | 4=>4 | 183=>234 | 182=>233 | 131=>202 | 5=>5 | 218=>274 | 222=>269 | 228=>299 | 229=>300 | n=>n,fun | n=>n⟩
theorem Tryz.lays190:Go.Proofs.Lays.n190 Tryz.prog Tryz.lays190_ren:={
 mixed:=by kernel_rfl
 f125:=Tryz.func91.trans (congrArg some (by kernel_rfl))
 f128:=Tryz.func165.trans (congrArg some (by kernel_rfl))
 f129:=Tryz.func166.trans (congrArg some (by kernel_rfl))
 f190:=Tryz.func43.trans (congrArg some (by kernel_rfl))
 f258:=Tryz.func90.trans (congrArg some (by kernel_rfl))
 f302:=Tryz.func156.trans (congrArg some (by kernel_rfl))
 f303:=Tryz.func157.trans (congrArg some (by kernel_rfl))
 f304:=Tryz.func158.trans (congrArg some (by kernel_rfl))
 f305:=Tryz.func159.trans (congrArg some (by kernel_rfl))
 f306:=Tryz.func160.trans (congrArg some (by kernel_rfl))
 f307:=Tryz.func161.trans (congrArg some (by kernel_rfl))
 f308:=Tryz.func162.trans (congrArg some (by kernel_rfl))
 f309:=Tryz.func163.trans (congrArg some (by kernel_rfl))
 f310:=Tryz.func164.trans (congrArg some (by kernel_rfl))
 f329:=Tryz.func208.trans (congrArg some (by kernel_rfl))
 f330:=Tryz.func209.trans (congrArg some (by kernel_rfl))
 f333:=Tryz.func207.trans (congrArg some (by kernel_rfl))
 f334:=Tryz.func210.trans (congrArg some (by kernel_rfl))
 f335:=Tryz.func211.trans (congrArg some (by kernel_rfl))
 f336:=Tryz.func212.trans (congrArg some (by kernel_rfl))
 f344:=Tryz.func236.trans (congrArg some (by kernel_rfl))
 t0:=Tryz.underlying0
 a0:=Tryz.isAgg0
 z0:=Tryz.sizeOf0
 v0:=Tryz.zeroValue0
 t3:=Tryz.underlying3
 a3:=Tryz.isAgg3
 z3:=Tryz.sizeOf3
 v3:=Tryz.zeroValue3
 t4:=Tryz.underlying4
 a4:=Tryz.isAgg4
 z4:=Tryz.sizeOf4
 v4:=Tryz.zeroValue4
 t5:=Tryz.underlying5
 a5:=Tryz.isAgg5
 z5:=Tryz.sizeOf5
 v5:=Tryz.zeroValue5
 t9:=Tryz.underlying9
 a9:=Tryz.isAgg9
 z9:=Tryz.sizeOf9
 v9:=Tryz.zeroValue9
 t31:=Tryz.underlying36
 a31:=Tryz.isAgg36
 z31:=Tryz.sizeOf36
 v31:=Tryz.zeroValue36
 t46:=Tryz.underlying163
 a46:=Tryz.isAgg163
 z46:=Tryz.sizeOf163
 v46:=Tryz.zeroValue163
 t51:=Tryz.underlying240
 a51:=Tryz.isAgg240
 z51:=Tryz.sizeOf240
 v51:=Tryz.zeroValue240
 t53:=Tryz.underlying242
 a53:=Tryz.isAgg242
 z53:=Tryz.sizeOf242
 v53:=Tryz.zeroValue242
 t131:=Tryz.underlying202
 a131:=Tryz.isAgg202
 z131:=Tryz.sizeOf202
 v131:=Tryz.zeroValue202
 t182:=Tryz.underlying233
 a182:=Tryz.isAgg233
 z182:=Tryz.sizeOf233
 v182:=Tryz.zeroValue233
 t183:=Tryz.underlying234
 a183:=Tryz.isAgg234
 z183:=Tryz.sizeOf234
 v183:=Tryz.zeroValue234
 t218:=Tryz.underlying274
 a218:=Tryz.isAgg274
 z218:=Tryz.sizeOf274
 v218:=Tryz.zeroValue274
 t222:=Tryz.underlying269
 a222:=Tryz.isAgg269
 z222:=Tryz.sizeOf269
 v222:=Tryz.zeroValue269
 t228:=Tryz.underlying299
 a228:=Tryz.isAgg299
 z228:=Tryz.sizeOf299
 v228:=Tryz.zeroValue299
 t229:=Tryz.underlying300
 a229:=Tryz.isAgg300
 z229:=Tryz.sizeOf300
 v229:=Tryz.zeroValue300 }
open Go.Sort Go.RowKit in
theorem Tryz.slices_Sort_string (blk off cap:Nat) (ss:List (List UInt8)) (w:World) (hH:Holds encStr w blk off ss.toArray) (hblk:blk<w.heap.size) (hsz:ss.length<4611686018427387904) :
  Calls Tryz.prog 43 #[.slice (some ⟨blk,off,none⟩) ss.length cap] w fun e w' =>
   e = .returned (.tuple #[])/\∃n os,w'=grow (putRow encStr (Sort.ahead w n) blk off (ss.mergeSort fun x y=>decide (x<=y)).toArray) os:=Any.slices_Sort_string Tryz.lays190 blk off cap ss w hH hblk hsz
open Go.RowKit Go.Lib in
open Go.RowKit Go.Lib in
def Tryz.lays146_ren:Go.Shelf.Ren:=⟨fun | 146=>73 | 221=>137 | 268=>189 | 138=>190 | 143=>191 | 195=>224 | 197=>225 | 218=>226 | 219=>227 | 260=>246 | 217=>247 | 225=>248 | 224=>249 | 267=>250 | 266=>256 | 314=>257 | n=>n,fun | 9=>9 | 31=>36 | 3=>3 | 4=>4 | 0=>0 | 105=>288 | 21=>21 | 5=>5 | 46=>163 | 119=>311 | 139=>314 | 138=>313 | 146=>245 | 51=>240 | n=>n,fun | 1=>0 | 3=>1 | 4=>2 | n=>n⟩
theorem Tryz.lays146:Go.Proofs.Lays.n146 Tryz.prog Tryz.lays146_ren:={
 mixed:=by kernel_rfl
 f138:=Tryz.func190.trans (congrArg some (by kernel_rfl))
 f143:=Tryz.func191.trans (congrArg some (by kernel_rfl))
 f146:=Tryz.func73.trans (congrArg some (by kernel_rfl))
 f195:=Tryz.func224.trans (congrArg some (by kernel_rfl))
 f197:=Tryz.func225.trans (congrArg some (by kernel_rfl))
 f217:=Tryz.func247.trans (congrArg some (by kernel_rfl))
 f218:=Tryz.func226.trans (congrArg some (by kernel_rfl))
 f219:=Tryz.func227.trans (congrArg some (by kernel_rfl))
 f221:=Tryz.func137.trans (congrArg some (by kernel_rfl))
 f224:=Tryz.func249.trans (congrArg some (by kernel_rfl))
 f225:=Tryz.func248.trans (congrArg some (by kernel_rfl))
 f260:=Tryz.func246.trans (congrArg some (by kernel_rfl))
 f266:=Tryz.func256.trans (congrArg some (by kernel_rfl))
 f267:=Tryz.func250.trans (congrArg some (by kernel_rfl))
 f268:=Tryz.func189.trans (congrArg some (by kernel_rfl))
 f314:=Tryz.func257.trans (congrArg some (by kernel_rfl))
 t0:=Tryz.underlying0
 a0:=Tryz.isAgg0
 z0:=Tryz.sizeOf0
 v0:=Tryz.zeroValue0
 t3:=Tryz.underlying3
 a3:=Tryz.isAgg3
 z3:=Tryz.sizeOf3
 v3:=Tryz.zeroValue3
 t4:=Tryz.underlying4
 a4:=Tryz.isAgg4
 z4:=Tryz.sizeOf4
 v4:=Tryz.zeroValue4
 t5:=Tryz.underlying5
 a5:=Tryz.isAgg5
 z5:=Tryz.sizeOf5
 v5:=Tryz.zeroValue5
 t9:=Tryz.underlying9
 a9:=Tryz.isAgg9
 z9:=Tryz.sizeOf9
 v9:=Tryz.zeroValue9
 t21:=Tryz.underlying21
 a21:=Tryz.isAgg21
 z21:=Tryz.sizeOf21
 v21:=Tryz.zeroValue21
 t31:=Tryz.underlying36
 a31:=Tryz.isAgg36
 z31:=Tryz.sizeOf36
 v31:=Tryz.zeroValue36
 t46:=Tryz.underlying163
 a46:=Tryz.isAgg163
 z46:=Tryz.sizeOf163
 v46:=Tryz.zeroValue163
 t51:=Tryz.underlying240
 a51:=Tryz.isAgg240
 z51:=Tryz.sizeOf240
 v51:=Tryz.zeroValue240
 t105:=Tryz.underlying288
 a105:=Tryz.isAgg288
 z105:=Tryz.sizeOf288
 v105:=Tryz.zeroValue288
 t119:=Tryz.underlying311
 a119:=Tryz.isAgg311
 z119:=Tryz.sizeOf311
 t138:=Tryz.underlying313
 a138:=Tryz.isAgg313
 z138:=Tryz.sizeOf313
 v138:=Tryz.zeroValue313
 t139:=Tryz.underlying314
 a139:=Tryz.isAgg314
 z139:=Tryz.sizeOf314
 v139:=Tryz.zeroValue314
 t146:=Tryz.underlying245
 a146:=Tryz.isAgg245
 z146:=Tryz.sizeOf245
 v146:=Tryz.zeroValue245
 g1:=by kernel_rfl
 g3:=by kernel_rfl
 g4:=by kernel_rfl }
open Go.RowKit Go.Lib in
theorem Tryz.strings_Split (s sep:ByteArray) (m:Int) (w:World) (hs:s.size<4294967281) (hm:w.cell? ⟨0,0,none⟩=some (.int .i64 m)) (h1:1<=sep.size) :
  Calls Tryz.prog 73 #[.string s,.string sep] w fun e w' =>
   e = .returned (.slice (some ⟨w.heap.size,0,none⟩) (Lib.countB s sep+1) (Lib.countB s sep+1))/\w'=w.alloc (.cells ((Lib.splitB sep 0 (Lib.countB s sep) s).map Value.string).toArray 9):=Any.strings_Split Tryz.lays146 (by kernel_rfl) s sep m w hs hm h1
open Go.RowKit Go.Lib in
def Tryz.lays150_ren:Go.Shelf.Ren:=⟨fun | 150=>139 | 153=>192 | 152=>228 | 226=>229 | 227=>230 | 228=>231 | 137=>251 | 119=>252 | 224=>249 | 225=>248 | 217=>247 | 266=>256 | n=>n,fun | 9=>9 | 4=>4 | 3=>3 | 5=>5 | 21=>21 | 117=>294 | 116=>293 | 0=>0 | 46=>163 | 124=>308 | n=>n,fun | n=>n⟩
theorem Tryz.lays150:Go.Proofs.Lays.n150 Tryz.prog Tryz.lays150_ren:={
 mixed:=by kernel_rfl
 f119:=Tryz.func252.trans (congrArg some (by kernel_rfl))
 f137:=Tryz.func251.trans (congrArg some (by kernel_rfl))
 f150:=Tryz.func139.trans (congrArg some (by kernel_rfl))
 f152:=Tryz.func228.trans (congrArg some (by kernel_rfl))
 f153:=Tryz.func192.trans (congrArg some (by kernel_rfl))
 f217:=Tryz.func247.trans (congrArg some (by kernel_rfl))
 f224:=Tryz.func249.trans (congrArg some (by kernel_rfl))
 f225:=Tryz.func248.trans (congrArg some (by kernel_rfl))
 f226:=Tryz.func229.trans (congrArg some (by kernel_rfl))
 f227:=Tryz.func230.trans (congrArg some (by kernel_rfl))
 f228:=Tryz.func231.trans (congrArg some (by kernel_rfl))
 f266:=Tryz.func256.trans (congrArg some (by kernel_rfl))
 t0:=Tryz.underlying0
 a0:=Tryz.isAgg0
 z0:=Tryz.sizeOf0
 v0:=Tryz.zeroValue0
 t3:=Tryz.underlying3
 a3:=Tryz.isAgg3
 z3:=Tryz.sizeOf3
 v3:=Tryz.zeroValue3
 t4:=Tryz.underlying4
 a4:=Tryz.isAgg4
 z4:=Tryz.sizeOf4
 v4:=Tryz.zeroValue4
 t5:=Tryz.underlying5
 a5:=Tryz.isAgg5
 z5:=Tryz.sizeOf5
 v5:=Tryz.zeroValue5
 t9:=Tryz.underlying9
 a9:=Tryz.isAgg9
 z9:=Tryz.sizeOf9
 v9:=Tryz.zeroValue9
 t21:=Tryz.underlying21
 a21:=Tryz.isAgg21
 z21:=Tryz.sizeOf21
 v21:=Tryz.zeroValue21
 t46:=Tryz.underlying163
 a46:=Tryz.isAgg163
 z46:=Tryz.sizeOf163
 v46:=Tryz.zeroValue163
 t116:=Tryz.underlying293
 a116:=Tryz.isAgg293
 z116:=Tryz.sizeOf293
 t117:=Tryz.underlying294
 a117:=Tryz.isAgg294
 z117:=Tryz.sizeOf294
 v117:=Tryz.zeroValue294
 t124:=Tryz.underlying308
 a124:=Tryz.isAgg308
 z124:=Tryz.sizeOf308
 v124:=Tryz.zeroValue308 }
open Go.RowKit Go.Lib in
open Go.RowKit Go.Sort in
theorem Tryz.slices_Sort_string_none (p:Option Addr) (cap:Nat) (w:World) :
  Calls Tryz.prog 43 #[.slice p 0 cap] w fun e w'=>e = .returned (.tuple #[])/\w'=w:=Any.slices_Sort_string_none Tryz.lays190 p cap w
end Go.Proofs
set_option maxRecDepth 100000
set_option maxHeartbeats 1000000
namespace Go.Proofs.YtpiieilffkickaaGreatDoor
section
open Go.RowKit
def cY (s i sz:Nat):Value := .agg #[.pointer (some ⟨s,0,none⟩),.int .i64 i,.int .i64 sz]
theorem eG {w:World} {tmps:Array Value} {b:Nat} {cs:List Value} {t:Value} (h1:tmps.getD 4 undef = .pointer (some ⟨b,0,none⟩)) (h2:tmps.getD 5 undef=t) (r:w.heap[b]? = some (.cells cs.toArray 69 (0,0))) (hl:cs.length=3) :
  (results Tryz.f41 tmps).run Tryz.prog w = .ok (.tuple #[.agg cs.toArray,t]) w:=by
 have h1':tmps[4]?.getD undef = .pointer (some ⟨b,0,none⟩):=by simpa using h1
 have h2':tmps[5]?.getD undef=t:=by simpa using h2
 have hr:=run_loadVar_mid (P:=Tryz.prog) w b 0 69 cs _ (by have:=aL r;exact this) Tryz.underlying69 rfl (by rw [hl];kernel_rfl);simp only [results,Tryz.results41];simp [h1',h2',asAddr,hr]
section
variable {w w':World} {s m c ino:Nat} {F:Nat->Prop} {N:Nat} {Pg Cm:Nat->List UInt8} {fs:Nat->Option ao} {o u:Nat} {i:Nat} {f:ao}
theorem St.keepD {b:Nat} {cs:Array Value} (h:St w s m c F N ino Pg Cm fs o u) (hb:w.heap[b]? = some (.cells cs 69 (0,0))) (ho:∀v∈cs.toList,(∃n,v = .int .i64 n)\/(∃x,v = .bool x)\/(∃a n c,v = .slice a n c)\/(∃a,v = .pointer a)\/∃s:ByteArray,v = .string s/\s.size≠512) (hF:¬F b) (k:ac (fun i=>i=b) w w'):St w' s m c F N ino Pg Cm fs o u:=by
 obtain ⟨D,hp⟩:=h.pc;have hm:¬m=b:=fun e=>by
  have h1:=h.map;unfold aT at h1;rw [e,hb] at h1;simp only [Option.some.injEq,Obj.cells.injEq] at h1;exact absurd h1.2.1 (by decide)
 have hs:¬s=b:=fun e=>by
  have h1:=h.store;unfold bG at h1;rw [e,hb] at h1;simp only [Option.some.injEq,Obj.cells.injEq] at h1;exact absurd h1.2.1 (by decide)
 exact ⟨h.map.keep k hm,h.store.keep k hs,h.mF,h.sF,h.few,⟨D,hp.keepY ⟨_,_,_,hb,by decide,ho⟩ hF k⟩,h.good⟩
theorem ja {a:Option Addr} {p q:Int}:∀v∈(#[Value.pointer a,.int .i64 p,.int .i64 q]:Array Value).toList,(∃n,v = .int .i64 n)\/(∃x,v = .bool x)\/(∃a n c,v = .slice a n c)\/(∃a,v = .pointer a)\/∃s:ByteArray,v = .string s/\s.size≠512:=fun v hv=>by
 simp only [List.mem_cons,List.not_mem_nil,or_false] at hv;rcases hv with rfl | rfl | rfl
 ·exact .inr (.inr (.inr (.inl ⟨_,rfl⟩)))
 ·exact .inl ⟨_,rfl⟩
 ·exact .inl ⟨_,rfl⟩
theorem ir (h:St w s m c F N ino Pg Cm fs o u) (hf:fs i=some f) (hk:f.kind=2) (hu:u<900000):Calls Tryz.prog 41 #[.pointer (some ⟨s,0,none⟩),.int .i64 i] w fun e w'=>e = .returned (.tuple #[cY s i f.data.length,.int .i64 0])/\ac F w w'/\St w' s m c F N ino Pg Cm fs o (u+2):=by
 obtain ⟨wA,hA⟩:∃wA,wA=w.alloc (.cells #[.pointer none,.int .i64 0,.int .i64 0] 69):=⟨_,rfl⟩;have hba:Below w.heap.size w wA:=by rw [hA];exact (Below.refl _ w).alloc (Nat.le_refl _) _
 have hra:wA.heap[w.heap.size]? = some (.cells #[.pointer none,.int .i64 0,.int .i64 0] 69 (0,0)):=by rw [hA];exact af w _
 have HGt:=hid (gJ (h.below hba) hf (by omega));have hok:=h.good.file i f hf;have hnf:=h.good.nf;have HNl:Hid ((nodeC f.node).length=15):=by unfold Hid nodeC;rw [List.length_append,List.length_map,(hok.node (by omega) h.good.n4).pages];rfl
 have HN3:Hid ((nodeC f.node)[3]? = some (.int .i64 f.data.length)):=rfl;have HN0:Hid ((nodeC f.node)[0]? = some (.int .i64 2)):=by unfold Hid;rw [show (nodeC f.node)[0]? = some (.int .i64 (f.kind:Nat)) from rfl,hk];rfl
 have HFl:=hid h.lt;have HBA:=hid hba;have HRA:=hid hra;unfold ct at HGt;clear h hf hok hnf hk hba hra;have hnc1:=bE f.node;generalize nodeC f.node=nc at *;have HN1:=hid hnc1;clear hnc1;go_enter Tryz.func41,Tryz.ntmps41
 go_wp2_with fail
 rw [<- hA];clear hA;refine HGt.out.mono ?_;clear HGt;rintro e w1 ⟨rfl,hk1,hs1⟩;have HR1:=hid (hk1.heap HRA.out (fun hh=>Nat.lt_irrefl _ (HFl.out _ hh)));have HS1:=hid hs1;have HK1:Hid (ac F w w1):=(ac.of_below HBA.out:ac F w wA).trans hk1 (fun i e => .inl e);clear hk1 hs1
 go_wp2_with (refine am rfl 142 (.tmp 6) (.tmp 12) rfl w1.heap.size nc.toArray rfl rfl _ _ (af w1 _) (by rw [List.size_toArray,HNl.out];rfl) (by rw [List.size_toArray,HNl.out];kernel_rfl) HN1.out ?_;intro w2 hg2 hb2 hz2;refine Hid.out ?_)
 have hb12:Below w1.heap.size w1 w2:=((Below.refl _ w1).alloc (Nat.le_refl _) _).grown hg2 (by simp) (fun k e=>by cases e;exact Nat.le_refl _);have c3:w2.cell? ⟨w1.heap.size,3,none⟩=some (.int .i64 f.data.length):=by rw [aa hb2,List.getElem?_toArray];exact HN3.out
 have c0:w2.cell? ⟨w1.heap.size,0,none⟩=some (.int .i64 2):=by rw [aa hb2,List.getElem?_toArray];exact HN0.out
 have hr2:=ah hb12 HR1.out (ae HR1.out);have HS2:=hid (HS1.out.below hb12);have HK2:Hid (ac F w w2):=HK1.out.trans (ac.of_below hb12:ac F w1 w2) (fun i e => .inl e);have HR2:=hid hr2;clear hg2 hb2 hz2 hb12 hr2;refine hid ?_
 go_wp2_with (refine am rfl 69 (.tmp 4) (.tmp 26) rfl w.heap.size #[.pointer (some ⟨s,0,none⟩),.int .i64 i,.int .i64 f.data.length] rfl rfl _ _ HR2.out rfl (by kernel_rfl) (by simp [Value.oneCell']) ?_;intro w3 hg3 hb3 hz3;refine Hid.out ?_)
 have HB3:=hid hb3;have hk3:ac (fun j=>j=w.heap.size) w2 w3:=ac.of_grown hg3 (fun i e=>(Option.some.inj e).symm);have HS3:Hid (∀W,W=w3->ac F w W/\St W s m c F N ino Pg Cm fs o (u+2)):=fun W e=>by
  subst e;exact ⟨HK2.out.trans hk3 (fun i e => .inr (by have e':i=w.heap.size:=e;omega)),HS2.out.keepD HR2.out ja (fun hh=>Nat.lt_irrefl _ (HFl.out _ hh)) hk3⟩
 clear hg3 hb3 hz3 hk3 HS2 HK2 HR2 HS1 HK1 HR1 HRA HBA c0 c3;refine hid ?_;go_wp2;exact bodyPost_ret (eG rfl rfl HB3.out rfl) rfl ⟨rfl,(HS3.out _ rfl).1,(HS3.out _ rfl).2⟩
theorem e8 {w:World} {tmps:Array Value} {b:Nat} {cs:List Value} {t:Value} (h1:tmps.getD 6 undef = .pointer (some ⟨b,0,none⟩)) (h2:tmps.getD 7 undef=t) (r:w.heap[b]? = some (.cells cs.toArray 69 (0,0))) (hl:cs.length=3) :
  (results Tryz.f30 tmps).run Tryz.prog w = .ok (.tuple #[.agg cs.toArray,t]) w:=by
 have h1':tmps[6]?.getD undef = .pointer (some ⟨b,0,none⟩):=by simpa using h1
 have h2':tmps[7]?.getD undef=t:=by simpa using h2
 have hr:=run_loadVar_mid (P:=Tryz.prog) w b 0 69 cs _ (by have:=aL r;exact this) Tryz.underlying69 rfl (by rw [hl];kernel_rfl);simp only [results,Tryz.results30];simp [h1',h2',asAddr,hr]
theorem eT (h:St w s m c F N ino Pg Cm fs o u) (hf:fs i=some f) (hk:f.kind=2) (hu:u<900000) (nm:ByteArray) (hN:∀W,Calls Tryz.prog 77 #[.string nm] W fun e W'=>e = .returned (.bool true)/\Below W.heap.size W W'):Calls Tryz.prog 30 #[.pointer (some ⟨s,0,none⟩),.int .i64 i,.string nm] w fun e w'=>e = .returned (.tuple #[cY s i f.data.length,.int .i64 0])/\ac F w w'/\St w' s m c F N ino Pg Cm fs o (u+2):=by
 obtain ⟨wA,hA⟩:∃wA,wA=w.alloc (.cells #[.pointer none,.int .i64 0,.int .i64 0] 69):=⟨_,rfl⟩;have hba:Below w.heap.size w wA:=by rw [hA];exact (Below.refl _ w).alloc (Nat.le_refl _) _
 have hra:wA.heap[w.heap.size]? = some (.cells #[.pointer none,.int .i64 0,.int .i64 0] 69 (0,0)):=by rw [hA];exact af w _
 have HOp:=hid (ir (h.below hba) hf hk hu);have HNm:=hid hN;have HFl:=hid h.lt;have HBA:=hid hba;have HRA:=hid hra;unfold cY at HOp ⊢;clear h hf hk hba hra hN;go_enter Tryz.func30,Tryz.ntmps30
 go_wp2_with fail
 rw [<- hA];clear hA;refine HOp.out.mono ?_;clear HOp;rintro e w1 ⟨rfl,hk1,hs1⟩;have HR1:=hid (hk1.heap HRA.out (fun hh=>Nat.lt_irrefl _ (HFl.out _ hh)));have HS1:=hid hs1;have HK1:Hid (ac F w w1):=(ac.of_below HBA.out:ac F w wA).trans hk1 (fun i e => .inl e);clear hk1 hs1
 go_wp2_with fail
 have hba:=(Below.refl w1.heap.size w1).alloc (Nat.le_refl _) (.cells #[.pointer (some ⟨s,0,none⟩),.int .i64 i,.int .i64 f.data.length] 69);have hxa:=af w1 (.cells #[.pointer (some ⟨s,0,none⟩),.int .i64 i,.int .i64 f.data.length] 69);refine (HNm.out _).mono ?_;clear HNm;rintro e w2 ⟨rfl,hb2⟩;have hb12:=hba.trans (hb2.mono hba.size);have hx2:=ah hb2 hxa (ae hxa);have f0:w2.cell? ⟨w1.heap.size,0,none⟩=some (.pointer (some ⟨s,0,none⟩)):=aa hx2 0;have f1:w2.cell? ⟨w1.heap.size,1,none⟩=some (.int .i64 i):=aa hx2 1;have f2:w2.cell? ⟨w1.heap.size,2,none⟩=some (.int .i64 f.data.length):=aa hx2 2;have HR2:=hid (ah hb12 HR1.out (ae HR1.out));have HS2:=hid (HS1.out.below hb12);have HK2:Hid (ac F w w2):=HK1.out.trans (ac.of_below hb12:ac F w1 w2) (fun i e => .inl e);clear hba hxa hb2 hb12 hx2 HS1 HK1 HR1
 go_wp2_with (refine am rfl 69 (.tmp 6) (.tmp 24) rfl w.heap.size #[.pointer (some ⟨s,0,none⟩),.int .i64 i,.int .i64 f.data.length] rfl rfl _ _ HR2.out rfl (by kernel_rfl) (by simp [Value.oneCell']) ?_;intro w3 hg3 hb3 hz3;refine Hid.out ?_)
 have HB3:=hid hb3;have hk3:ac (fun j=>j=w.heap.size) w2 w3:=ac.of_grown hg3 (fun i e=>(Option.some.inj e).symm);have HS3:=hid (HS2.out.keepD HR2.out ja (fun hh=>Nat.lt_irrefl _ (HFl.out _ hh)) hk3);have HK3:Hid (ac F w w3):=HK2.out.trans hk3 (fun i e => .inr (by have e':i=w.heap.size:=e;omega));clear hg3 hb3 hz3 hk3 HS2 HK2 HR2 f0 f1 f2;refine hid ?_;go_wp2;exact bodyPost_ret (e8 rfl rfl HB3.out rfl) rfl ⟨rfl,HK3.out,HS3.out⟩
end
end
section
set_option maxRecDepth 100000
open Go.RowKit
theorem kA (s i sz:Nat) (w:World):Calls Tryz.prog 81 #[cY s i sz] w fun e w'=>e = .returned (.func (.func 148) #[] #[.pointer (some ⟨w.heap.size,0,none⟩)])/\Below w.heap.size w w'/\w'.heap[w.heap.size]? = some (.cells #[.pointer (some ⟨s,0,none⟩),.int .i64 i,.int .i64 sz] 69 (0,0)):=by
 unfold cY;have hb:=(Below.refl w.heap.size w).alloc (Nat.le_refl _) (.cells #[.pointer (some ⟨s,0,none⟩),.int .i64 i,.int .i64 sz] 69);have hn:=af w (.cells #[.pointer (some ⟨s,0,none⟩),.int .i64 i,.int .i64 sz] 69);have HB:=hid hb;have HN:=hid hn;clear hb hn;go_enter Tryz.func81,Tryz.ntmps81
 go_wp2_with fail
 go_ret;exact ⟨rfl,HB.out,HN.out⟩
theorem jz (s i sz:Nat) (w:World):Calls Tryz.prog 42 #[cY s i sz] w fun e w'=>e = .returned (.func (.func 89) #[] #[.pointer (some ⟨w.heap.size,0,none⟩)])/\Below w.heap.size w w'/\w'.heap[w.heap.size]? = some (.cells #[.pointer (some ⟨s,0,none⟩),.int .i64 i,.int .i64 sz] 69 (0,0)):=by
 unfold cY;have hb:=(Below.refl w.heap.size w).alloc (Nat.le_refl _) (.cells #[.pointer (some ⟨s,0,none⟩),.int .i64 i,.int .i64 sz] 69);have hn:=af w (.cells #[.pointer (some ⟨s,0,none⟩),.int .i64 i,.int .i64 sz] 69);have HB:=hid hb;have HN:=hid hn;clear hb hn;go_enter Tryz.func42,Tryz.ntmps42
 go_wp2_with fail
 go_ret;exact ⟨rfl,HB.out,HN.out⟩
end
section
open Go.RowKit
theorem bn (w:World) (l:Nat) (ob':Obj):ac (fun i=>i=l) w (w.putObj l ob'):=ac.of_grown (grownBy_putObj' w l ob') (fun _ e=>(Option.some.inj e).symm)
theorem St.put {w:World} {s m c ino:Nat} {F:Nat->Prop} {N:Nat} {Pg Cm:Nat->List UInt8} {fs:Nat->Option ao} {o u B l:Nat} {ob:Obj} (h:St w s m c F N ino Pg Cm fs o u) (hF:∀i,F i->i<B) (hB:B<=l) (hl:w.heap[l]? = some ob) (hc:ob.isCells=false) (ob':Obj):St (w.putObj l ob') s m c F N ino Pg Cm fs o u:=by
 obtain ⟨D,hp⟩:=h.pc;have hm:¬m=l:=fun e=>by
  have h1:=h.map;unfold aT at h1;rw [e,hl] at h1;rw [Option.some.inj h1] at hc;cases hc
 have hs:¬s=l:=fun e=>by
  have h1:=h.store;unfold bG at h1;rw [e,hl] at h1;rw [Option.some.inj h1] at hc;cases hc
 exact ⟨h.map.keep (bn w l ob') hm,h.store.keep (bn w l ob') hs,h.mF,h.sF,h.few,⟨D,hp.own hF (grownBy_putObj' w l ob') (fun r e=>by cases e;exact ⟨hB,_,hl,hc⟩)⟩,h.good⟩
end
section
set_option maxRecDepth 100000
set_option maxHeartbeats 4000000
open Go.RowKit Go.Shelf
attribute [local go_sem] Oper.semAt_some
theorem aW.mono {H G:Nat->Prop} {a b:World} (h:aW H a b) (hG:∀i,H i->G i):aW G a b:=⟨h.size,fun k ob h1 h2 h3=>h.block k ob h1 (fun hh=>h2 (hG _ hh)) h3⟩
def zZ (B:Nat) (J:Nat->World->Prop):Prop:=∀k V q ob ob',J k V->B<=q->V.heap[q]? = some ob->ob.isCells=false->J k (V.putObj q ob')
section
variable {w w':World} {s m c ino:Nat} {F:Nat->Prop} {N:Nat} {Pg Cm:Nat->List UInt8} {fs:Nat->Option ao} {o u:Nat} {i:Nat} {f:ao}
theorem jQ (l bb:Nat) (es:List (Nat×List UInt8)) (hes:aZ es) (H:Nat->Prop) (J Jx:Nat->World->Prop) (W:World)
  (h:St W s m c F N ino Pg Cm fs o u) (hf:fs i=some f) (hd:f.data=aI es) (hu:u+ubE es<=900000) (hHW:∀j,H j->j<W.heap.size) (hFH:∀j,F j->H j) (hbH:¬H bb)
  (hbb:W.heap[bb]? = some (.cells #[.pointer (some ⟨s,0,none⟩),.int .i64 i,.int .i64 (64*es.length:Nat)] 69 (0,0)))
  (hJ:∀k V V',J k V->ac F V V'->J k V') (hJp:zZ W.heap.size J) (hXp:zZ W.heap.size Jx)
  (hZ:∀k V,(hk:k<es.length)->es[k].1=0->J k V->J (k+1) V)
  (hY:∀k U V,(hk:k<es.length)->es[k].1≠0->U<=u+ubE es->St V s m c F N ino Pg Cm fs o U->J k V->YieldAt Fence.wide 5 Tryz.prog l #[.int .i64 (64*k:Nat),lj es[k].1 es[k].2] V fun e V' =>
   (e = .returned (.bool true)/\J (k+1) V'/\St V' s m c F N ino Pg Cm fs o U/\aW H V V')\/(e = .returned (.bool false)/\Jx k V'/\aW H V V'))
  (h0:J 0 W) :
  CallsIn Fence.wide 8 Tryz.prog 89 #[.func (.yield l) #[] #[],.pointer (some ⟨bb,0,none⟩)] W fun e W'=>(∃v,e = .returned v) /\
   ((J es.length W'/\∃U,U<=u+ubE es/\St W' s m c F N ino Pg Cm fs o U)\/∃k,k<es.length/\Jx k W'):=by
 have HY:=hid hY;have HZ:=hid hZ;have HJ:=hid hJ;have HJp:=hid hJp;have HXp:=hid hXp;obtain ⟨wA,hA⟩:∃wA,wA=W.alloc (.cells #[.func (.yield l) #[] #[]] 164):=⟨_,rfl⟩;have hBA:Below W.heap.size W wA:=by rw [hA];exact (Below.refl _ W).alloc (Nat.le_refl _) _
 have hA0:wA.heap[W.heap.size]? = some (.cells #[.func (.yield l) #[] #[]] 164 (0,0)):=by rw [hA];exact af W _
 have hAs:wA.heap.size=W.heap.size+1:=by rw [hA];simp
 have hbbA:=ah hBA hbb (ae hbb);have d0:wA.cell? ⟨bb,0,none⟩=some (.pointer (some ⟨s,0,none⟩)):=aa hbbA 0;have d1:wA.cell? ⟨bb,1,none⟩=some (.int .i64 i):=aa hbbA 1;have d2:wA.cell? ⟨bb,2,none⟩=some (.int .i64 (64*es.length:Nat)):=aa hbbA 2;have HJ0:=hid (hJ 0 W wA h0 (ac.of_below hBA));have HSA:=hid (h.below hBA);have HHW:=hid hHW;have HFH:=hid hFH;have HF:=hid hf;have HD:=hid hd;have HEs:=hid hes;have HbH:=hid hbH;have HA0:=hid hA0;have HAs:=hid hAs;clear hY hZ hJ hJp hXp h0 h hHW hFH hf hd hes hbH hA0 hAs hbbA hbb hBA;have hf2:Fence.wide.fn 81:=trivial;have HEn:=hid (kA s i (64*es.length) wA);refine callsIn_of_wp_marks Tryz.func89 rfl trivial ?_ rfl;simp only [Tryz.ntmps89,List.size_toArray,List.length_cons,List.length_nil,Nat.reduceAdd,Nat.reduceSub,Array.replicate_succ,Array.replicate_zero,List.push_toArray,List.append_toArray,List.nil_append,List.cons_append];rw [hA] at d0 d1 d2
 gi_wp2_with fail
 rw [<- hA];rw [<- hA] at d0 d1 d2;clear hA;refine (callsIn_wide.2 HEn.out).mono ?_;clear HEn;rintro e wD ⟨rfl,hbD,hfD⟩;have HSD:=hid (HSA.out.below hbD);have HJD:=hid (HJ.out 0 wA wD HJ0.out (ac.of_below hbD));have HyD:=hid (ah hbD HA0.out (ae HA0.out));have HfD:=hid hfD;have HsD:Hid (W.heap.size+1<wD.heap.size):=by have:=ae hfD;have:=HAs.out;unfold Hid;omega
 clear hbD hfD d0 d1 d2 HSA HJ0 HA0 hf2
 gi_wp2
 refine ey (gf:=148) (lb:=#[.pointer (some ⟨wA.heap.size,0,none⟩)]) (by omega) rfl (enters_of Tryz.func148 (by kernel_rfl) rfl) (fun fn => ?_);generalize hrc:gA fn _ _ _ _ _=rc;have HSP:Hid (∀U V q ob,St V s m c F N ino Pg Cm fs o U->∀ob',W.heap.size<=q->V.heap[q]? = some ob->ob.isCells=false->St (V.putObj q ob') s m c F N ino Pg Cm fs o U):=fun U V q ob hS ob' hq hb hc=>hS.put (fun j hj=>HHW.out j (HFH.out j hj)) hq hb hc ob';have hb0:=(Below.refl wD.heap.size wD).alloc (Nat.le_refl _) (.deferred (some []));have hb1:=hb0.alloc (by simp) (.loop (rc .ready none));have y0:=af wD (.deferred (some []));have y1:=af (wD.alloc (.deferred (some []))) (.loop (rc .ready none));rw [World.size_alloc] at y1;have hsz:((wD.alloc (.deferred (some []))).alloc (.loop (rc .ready none))).heap.size=wD.heap.size+2:=by simp
 have hge:=HsD.out;have hAs:=HAs.out;have hHH:∀j,(H j\/j=wD.heap.size+1)->j<((wD.alloc (.deferred (some []))).alloc (.loop (rc .ready none))).heap.size:=fun j hj=>by
  rw [hsz];rcases hj with hj | hj
  ·have:=HHW.out j hj;omega
  ·omega
 have hbb1:¬(H wA.heap.size\/wA.heap.size=wD.heap.size+1):=fun hh=>by
  rcases hh with hh | hh
  ·have:=HHW.out _ hh;omega
  ·omega
 refine (j4 7 (by omega) (wD.heap.size+1) wA.heap.size es HEs.out (fun j=>H j\/j=wD.heap.size+1)
  (fun k V=>J k V/\V.heap[wD.heap.size+1]? = some (.loop (rc .ready none))/\V.heap[wD.heap.size]? = some (.deferred (some []))/\V.heap[W.heap.size]? = some (.cells #[.func (.yield l) #[] #[]] 164 (0,0)))
  (fun k V=>Jx k V/\V.heap[wD.heap.size+1]? = some (.loop (rc .done (some .ret)))/\V.heap[wD.heap.size]? = some (.deferred (some []))) _
  (HSD.out.below hb1) HF.out HD.out hu hHH (fun j hj => .inl (HFH.out j hj)) hbb1
  (aj (aj HfD.out _) _) (fun k V V' hJk hk => ?keep) (fun k U V hk hU hS hJk => ?round) ⟨HJ.out 0 _ _ HJD.out (ac.of_below hb1),y1,aj y0 _,aj (aj HyD.out _) _⟩).mono ?_
 case keep =>
  obtain ⟨h1,h2,h3,h4⟩:=hJk;exact ⟨HJ.out k V V' h1 hk,hk.heap h2 (fun hh=>by have:=HHW.out _ (HFH.out _ hh);omega),hk.heap h3 (fun hh=>by have:=HHW.out _ (HFH.out _ hh);omega),hk.heap h4 (fun hh=>by have:=HHW.out _ (HFH.out _ hh);omega)⟩
 case round =>
  obtain ⟨hj,hl,hdf,hyb⟩:=hJk;have hl':=hl;rw [<- hrc] at hl';refine eB hl' rfl ?_;rw [hrc];clear hl' y0 y1 hb0 hb1 hsz;have HYk:=hid (fun hz U V=>HY.out k U V hk hz);have HZk:=hid (fun V=>HZ.out k V hk);obtain ⟨xi,hxi⟩:∃xi,xi=es[k].1:=⟨_,rfl⟩;obtain ⟨xn,hxn⟩:∃xn,xn=es[k].2:=⟨_,rfl⟩;rw [<- hxi] at HYk HZk ⊢;rw [<- hxn] at HYk ⊢;unfold lj a8 at HYk ⊢;clear hxi hxn HY HZ;have HSV:=hid hS;have HJV:=hid hj;have HL:=hid hl;have HDF:=hid hdf;have HYB:=hid hyb;have HU:=hid hU;obtain ⟨kk,hkk⟩:∃kk:Int,kk=((64*k:Nat):Int):=⟨_,rfl⟩;rw [<- hkk] at HYk ⊢;clear hS hj hl hdf hyb hU hkk;have hbx:=af V (.cells #[.int .i64 xi,.string ⟨xn.toArray⟩] 79);have hBx:=(Below.refl V.heap.size V).alloc (Nat.le_refl _) (.cells #[.int .i64 xi,.string ⟨xn.toArray⟩] 79)
  gi_wp2
  have hl2:=(hBx.block _ (ae HL.out)).trans HL.out;have hd2:=(hBx.block _ (ae HDF.out)).trans HDF.out;have hy2:=(hBx.block _ (ae HYB.out)).trans HYB.out;have hj2:=HJ.out k _ _ HJV.out (ac.of_below hBx);have hs2:=HSV.out.below hBx;refine ⟨hl2,?_⟩;have hKV:aW (fun j=>H j\/j=wD.heap.size+1) V (World.alloc V (.cells #[.int .i64 xi,.string ⟨xn.toArray⟩] 79)):=(ac.of_below hBx:ac H V _).toS (fun _ e => .inl e);generalize V.alloc _=V1 at *;have hlV:=ae hl2;have hne:V.heap.size≠wD.heap.size+1:=by have:=ae HL.out;omega
  have hl3:(V1.putObj (wD.heap.size+1) (.loop (rc .busy none))).heap[wD.heap.size+1]? = some (.loop (rc .busy none)):=World.putObj_heap_same hlV;have hd3:(V1.putObj (wD.heap.size+1) (.loop (rc .busy none))).heap[wD.heap.size]? = some (.deferred (some [])):=(World.putObj_heap_other (by omega)).trans hd2;have hy3:(V1.putObj (wD.heap.size+1) (.loop (rc .busy none))).heap[W.heap.size]? = some (.cells #[.func (.yield l) #[] #[]] 164 (0,0)):=(World.putObj_heap_other (by omega)).trans hy2;have hx3:(V1.putObj (wD.heap.size+1) (.loop (rc .busy none))).heap[V.heap.size]? = some (.cells #[.int .i64 xi,.string ⟨xn.toArray⟩] 79 (0,0)):=(World.putObj_heap_other hne).trans hbx;have hj3:=HJp.out k V1 _ _ (.loop (rc .busy none)) hj2 (by omega) hl2 rfl;have hs3:=HSP.out U V1 _ _ hs2 (.loop (rc .busy none)) (by omega) hl2 rfl;have hK3:aW (fun j=>H j\/j=wD.heap.size+1) V (V1.putObj (wD.heap.size+1) (.loop (rc .busy none))):=hKV.trans ((bn V1 _ _).toS (fun _ e => .inr e));generalize V1.putObj _ _=V2 at *;have c0:V2.cell? ⟨V.heap.size,0,none⟩=some (.int .i64 xi):=aa hx3 0;have c1:V2.cell? ⟨V.heap.size,1,none⟩=some (.string ⟨xn.toArray⟩):=aa hx3 1;have cy:V2.cell? ⟨W.heap.size,0,none⟩=some (.func (.yield l) #[] #[]):=aa hy3 0;have HL3:=hid hl3;have HD3:=hid hd3;have HY3:=hid hy3;have HJ3:=hid hj3;have HS3:=hid hs3;have HK3:=hid hK3;have HFin:Hid (∀V3,V3.heap[wD.heap.size+1]? = some (.loop (rc .busy none))->V3.heap[wD.heap.size]? = some (.deferred (some []))->V3.heap[W.heap.size]? = some (.cells #[.func (.yield l) #[] #[]] 164 (0,0))->J (k+1) V3->St V3 s m c F N ino Pg Cm fs o U->aW (fun j=>H j\/j=wD.heap.size+1) V V3 ->
    (J (k+1) (V3.putObj (wD.heap.size+1) (.loop (rc .ready none)))/\(V3.putObj (wD.heap.size+1) (.loop (rc .ready none))).heap[wD.heap.size+1]? = some (.loop (rc .ready none))/\(V3.putObj (wD.heap.size+1) (.loop (rc .ready none))).heap[wD.heap.size]? = some (.deferred (some []))/\(V3.putObj (wD.heap.size+1) (.loop (rc .ready none))).heap[W.heap.size]? = some (.cells #[.func (.yield l) #[] #[]] 164 (0,0)))/\St (V3.putObj (wD.heap.size+1) (.loop (rc .ready none))) s m c F N ino Pg Cm fs o U/\aW (fun j=>H j\/j=wD.heap.size+1) V (V3.putObj (wD.heap.size+1) (.loop (rc .ready none)))):=fun V3 a1 a2 a3 a4 a5 a6 =>
   ⟨⟨HJp.out (k+1) V3 _ _ _ a4 (by omega) a1 rfl,World.putObj_heap_same (ae a1),(World.putObj_heap_other (by omega)).trans a2,(World.putObj_heap_other (by omega)).trans a3⟩,HSP.out U V3 _ _ a5 _ (by omega) a1 rfl,a6.trans ((bn V3 _ _).toS (fun _ e => .inr e))⟩
  clear hl2 hd2 hy2 hj2 hs2 hKV hlV hne hl3 hd3 hy3 hx3 hj3 hs3 hK3 hbx hBx;by_cases hz:xi=0
  ·have hz0:((xi:Int) != 0)=false:=by rw [hz];rfl
   have HJn:=hid (HZk.out V2 hz HJ3.out);clear HZk HYk hz
   gi_wp2
   refine ⟨fun _ h=>(by cases h),?_⟩
   gi_wp2
   exact ⟨HL3.out,.inl ⟨rfl,HFin.out V2 HL3.out HD3.out HY3.out HJn.out HS3.out HK3.out⟩⟩
  ·have hz0:((xi:Int) != 0)=true:=bne_iff_ne.2 (by omega);obtain ⟨fn',tmps',assign',body',hy,hR⟩:=HYk.out hz U V2 HU.out HS3.out HJ3.out;have HR:=hid hR;clear hR HZk HYk hz
   gi_wp2
   refine RoundIn.mono (F:=Fence.wide.inRound (wD.heap.size+1)) HR.out ?_;rintro e V3 (⟨rfl,hj3,hs3,hk3⟩ | ⟨rfl,hx3,hk3⟩)
   ·have HJ4:=hid hj3;have HS4:=hid hs3;have HK4:=hid hk3;clear hj3 hs3 hk3 hy HR
    gi_wp2
    have a1:=HK4.out.block _ _ HL3.out (fun hh=>by have:=HHW.out _ hh;omega) (fun cs fr e=>by cases e);have a2:=HK4.out.block _ _ HD3.out (fun hh=>by have:=HHW.out _ hh;omega) (fun cs fr e=>by cases e);have a3:=HK4.out.cells HY3.out (fun hh=>by have:=HHW.out _ hh;omega) (by decide);exact ⟨a1,.inl ⟨rfl,HFin.out V3 a1 a2 a3 HJ4.out HS4.out (HK3.out.trans (HK4.out.mono fun _ e => .inl e))⟩⟩
   ·have HX4:=hid hx3;have HK4:=hid hk3;clear hx3 hk3 hy HR
    gi_wp2
    have a1:=HK4.out.block _ _ HL3.out (fun hh=>by have:=HHW.out _ hh;omega) (fun cs fr e=>by cases e);have a2:=HK4.out.block _ _ HD3.out (fun hh=>by have:=HHW.out _ hh;omega) (fun cs fr e=>by cases e);exact ⟨a1,.inr ⟨rfl,HXp.out k V3 _ _ _ HX4.out (by omega) a1 rfl,World.putObj_heap_same (ae a1),(World.putObj_heap_other (by omega)).trans a2⟩⟩
 rintro e W2 ⟨⟨v,rfl⟩,hE⟩;refine ⟨⟨_,rfl⟩,?_⟩;rcases hE with ⟨⟨hj,hl,hdf,hyb⟩,U,hU,hS⟩ | ⟨k,hk,hX,hl,hdf⟩
 ·refine ⟨_,_,?_,hl,?_⟩
  ·intro h;cases h
  have HJ9:=hid (HJp.out _ W2 _ _ (.loop (rc .exhausted none)) hj (by omega) hl rfl);have HS9:=hid (HSP.out U W2 _ _ hS (.loop (rc .exhausted none)) (by omega) hl rfl);have hd9:(W2.putObj (wD.heap.size+1) (.loop (rc .exhausted none))).heap[wD.heap.size]? = some (.deferred (some [])):=(World.putObj_heap_other (by omega)).trans hdf;have HD9:=hid hd9;have HU:=hid hU;subst hrc;clear hj hl hdf hyb hS hd9 hU;generalize W2.putObj _ _=W3 at *;show Exit.inBlock 0 _ .normal _ _
  gi_wp2
  refine ⟨by simp,.inl ⟨_,_,rfl,run_takeDeferred HD9.out,?_⟩⟩;refine ⟨_,results_none rfl _ _ _,⟨_,rfl⟩,.inl ⟨HJp.out _ W3 _ _ _ HJ9.out (by omega) HD9.out rfl,U,HU.out,HSP.out U W3 _ _ HS9.out _ (by omega) HD9.out rfl⟩⟩
 ·refine ⟨_,_,?_,hl,?_⟩
  ·intro h;cases h
  have HX9:=hid (HXp.out _ W2 _ _ (.loop (rc .exhausted (some .ret))) hX (by omega) hl rfl);have hd9:(W2.putObj (wD.heap.size+1) (.loop (rc .exhausted (some .ret)))).heap[wD.heap.size]? = some (.deferred (some [])):=(World.putObj_heap_other (by omega)).trans hdf;have HD9:=hid hd9;have HKk:=hid hk;subst hrc;clear hX hl hdf hd9 hk;generalize W2.putObj _ _=W3 at *;show Code.wpIn Fence.wide 8 _ .ret _ _ _
  gi_wp2
  refine ⟨by simp,.inl ⟨_,_,rfl,run_takeDeferred HD9.out,?_⟩⟩;exact ⟨_,results_none rfl _ _ _,⟨_,rfl⟩,.inr ⟨k,HKk.out,HXp.out _ W3 _ _ _ HX9.out (by omega) HD9.out rfl⟩⟩
end
end
section
open Go.RowKit
def aR (es:List (Nat×List UInt8)):Nat:=es.findIdx fun x=>x.1==0
theorem d9 (es:List (Nat×List UInt8)):aR es<=es.length:=List.findIdx_le_length
theorem vi {es:List (Nat×List UInt8)} {k:Nat} (hk:k<es.length) (hlo:∀j (hj:j<es.length),j<k->es[j].1≠0) (h0:es[k].1=0):aR es=k:=by
 unfold aR;rw [List.findIdx_eq hk];refine ⟨by simp [h0],fun j hj => ?_⟩;simp [hlo j (by omega) hj]
theorem rz {es:List (Nat×List UInt8)} (hlo:∀j (hj:j<es.length),es[j].1≠0):aR es=es.length:=by
 unfold aR;rw [List.findIdx_eq_length];intro x hx;obtain ⟨j,hj,rfl⟩:=List.getElem_of_mem hx;simp [hlo j hj]
def cq (es:List (Nat×List UInt8)) (j:Nat) (nm:List UInt8):List (Nat×List UInt8):=es.take (aR es) ++ (j,nm) :: es.drop (aR es+1)
theorem ud {d l:List UInt8} {a:Nat} (ha:a<=d.length):wrD d a l=d.take a ++ l ++ d.drop (a+l.length):=by
 refine List.ext_getElem ?_ fun k h1 h2 => ?_
 ·rw [cP,List.length_append,List.length_append,List.length_take,List.length_drop];omega
 ·rw [cP] at h1;have e:=jR d a l k h1;rw [List.getD_eq_getElem?_getD,List.getElem?_eq_getElem (by rw [cP];exact h1),Option.getD_some] at e;rw [e];rw [List.length_append,List.length_append,List.length_take,List.length_drop] at h2;by_cases q1:k<a
  ·rw [if_neg (by omega),List.getElem_append_left (by rw [List.length_append,List.length_take];omega),List.getElem_append_left (by rw [List.length_take];omega),List.getElem_take,List.getD_eq_getElem?_getD,List.getElem?_eq_getElem (by omega),Option.getD_some]
  ·by_cases q2:k<a+l.length
   ·rw [if_pos ⟨by omega,q2⟩,List.getElem_append_left (by rw [List.length_append,List.length_take];omega),List.getElem_append_right (by rw [List.length_take];omega),List.getD_eq_getElem?_getD,List.getElem?_eq_getElem (by omega),Option.getD_some]
    congr 1
    rw [List.length_take];omega
   ·rw [if_neg (by omega),List.getElem_append_right (by rw [List.length_append,List.length_take];omega),List.getElem_drop,List.getD_eq_getElem?_getD,List.getElem?_eq_getElem (by omega),Option.getD_some]
    congr 1
    rw [List.length_append,List.length_take];omega
theorem eN (xs ys:List (Nat×List UInt8)):aI (xs ++ ys)=aI xs ++ aI ys:=List.flatMap_append
theorem mT (x:Nat×List UInt8) (ys:List (Nat×List UInt8)):aI (x :: ys)=eZ x.1 x.2 ++ aI ys:=List.flatMap_cons
theorem jM {es:List (Nat×List UInt8)} (h:∀x∈es,x.1<512/\x.2.length<=59) (k:Nat) (hk:k<=es.length):(aI es).take (64*k)=aI (es.take k):=by
 have e:aI es=aI (es.take k) ++ aI (es.drop k):=by rw [<- eN,List.take_append_drop]
 have hl:(aI (es.take k)).length=64*k:=by rw [aN (fun x hx=>h x (List.mem_of_mem_take hx)),List.length_take,Nat.min_eq_left hk]
 rw [e,List.take_left' hl]
theorem nE {es:List (Nat×List UInt8)} (h:∀x∈es,x.1<512/\x.2.length<=59) (k:Nat):(aI es).drop (64*k)=aI (es.drop k):=by
 by_cases hk:k<=es.length
 ·have e:aI es=aI (es.take k) ++ aI (es.drop k):=by rw [<- eN,List.take_append_drop]
  have hl:(aI (es.take k)).length=64*k:=by rw [aN (fun x hx=>h x (List.mem_of_mem_take hx)),List.length_take,Nat.min_eq_left hk]
  rw [e,List.drop_left' hl]
 ·rw [List.drop_of_length_le (by rw [aN h];omega),List.drop_of_length_le (by omega)]
  rfl
theorem vY {es:List (Nat×List UInt8)} (h:∀x∈es,x.1<512/\x.2.length<=59) (j:Nat) (nm:List UInt8) (hn:nm.length<=59):wrD (aI es) (64*aR es) (eZ j nm)=aI (cq es j nm):=by
 have h1:=d9 es;unfold cq;rw [ud (by rw [aN h];omega),dE hn,show 64*aR es+64=64*(aR es+1) by omega,jM h _ h1,nE h,eN,mT,List.append_assoc]
theorem yZ {es:List (Nat×List UInt8)} (h:∀x∈es,x.1<512/\x.2.length<=59) {j:Nat} {nm:List UInt8} (hj:j<512) (hn:nm.length<=59):∀x∈cq es j nm,x.1<512/\x.2.length<=59:=fun x hx=>by
 unfold cq at hx;rcases List.mem_append.1 hx with hx | hx
 ·exact h x (List.mem_of_mem_take hx)
 ·rcases List.mem_cons.1 hx with rfl | hx
  ·exact ⟨hj,hn⟩
  ·exact h x (List.mem_of_mem_drop hx)
theorem qq (es:List (Nat×List UInt8)) (j:Nat) (nm:List UInt8):(cq es j nm).length<=es.length+1:=by
 have:=d9 es;unfold cq;rw [List.length_append,List.length_cons,List.length_take,List.length_drop];omega
end
section
open Go.RowKit
theorem uq:(Tryz.prog.info? 9).map (fun i=>(i.zero,i.size,i.bytes))=some (some (.string ByteArray.empty),1,16):=by kernel_rfl
def j1 (xs:List (List UInt8)):List Value:=xs.map a8
def ig (w:World) (base:Nat) (v:Value) (xs:List (List UInt8)):Prop:=w.ownsRow base 9 1 v xs.length (j1 xs)/\(∀g,v.ownBlock=some g->fW w g)/\∀x∈xs,x.length<=59
theorem lW (n:Nat):∀v∈(Builtin.zeroCells (Value.string ByteArray.empty).cells n).toList,∃k:ByteArray,v = .string k/\k.size≠512:=by
 intro v hv;simp only [Builtin.zeroCells,Value.cells,Array.toList_map,List.mem_map] at hv;obtain ⟨i,-,rfl⟩:=hv;exact ⟨ByteArray.empty,by simp [Nat.mod_one],by decide⟩
theorem wh {xs:List (List UInt8)} (h9:∀x∈xs,x.length<=59):∀v∈j1 xs,∃k:ByteArray,v = .string k/\k.size≠512:=fun v hv=>by
 obtain ⟨n,hn,rfl⟩:=List.mem_map.1 hv;exact ⟨⟨n.toArray⟩,rfl,by have:=h9 n hn;rw [eU];omega⟩
section
variable {w w':World} {base:Nat} {v:Value} {xs:List (List UInt8)} {F:Nat->Prop}
theorem ig.keep (h:ig w base v xs) (k:ac F w w') (hF:∀i,v.ownBlock=some i->¬F i):ig w' base v xs:=by
 refine ⟨k.row h.1 hF,fun g hg => ?_,h.2.2⟩;obtain ⟨cs,t,fr,hb,ht,hk⟩:=h.2.1 g hg;exact ⟨cs,t,fr,k.heap hb (hF g hg),ht,hk⟩
theorem xI (w:World) (base:Nat):ig w base (.slice none 0 0) []:=⟨World.ownsRow_nil _ _ _ _,fun g hg=>(by cases hg),fun x hx=>(by cases hx)⟩
theorem ig.form (h:ig w base v xs):∃a cap,v = .slice a xs.length cap:=by
 rcases h.1.2 with ⟨e,h0⟩ | ⟨g,cap,cur,e,-⟩
 ·exact ⟨none,0,by rw [e,h0]⟩
 ·exact ⟨_,cap,e⟩
theorem nG (h:ig w base v xs) (x:List UInt8) (hx9:x.length<=59) (ab:Nat) (hc:w.cell? ⟨ab,0,none⟩=some (a8 x)) (hn:xs.length<4096) (hbase:base<=w.heap.size) (ty:TypeId) (c:Nat) :
  ∃g cap w',(Builtin.append_ #[36,36] ty #[v,.slice (some ⟨ab,0,none⟩) 1 c]).run Tryz.prog w = .ok (.slice (some ⟨g,0,none⟩) (xs.length+1) cap) w'/\ig w' base (.slice (some ⟨g,0,none⟩) (xs.length+1) cap) (xs ++ [x])/\w.grownBy w' v.ownBlock/\(v.ownBlock=some g\/g=w.heap.size):=by
 obtain ⟨i0,hi,hz0,hz1,hz2⟩:=info_parts uq;have hnews:∀j u,[a8 x][j]? = some u->w.cell? ((⟨ab,0,none⟩:Addr).add j)=some u:=fun j u hu=>by
  obtain ⟨h1,h2⟩:=List.getElem?_eq_some_iff.1 hu;have h0:j=0:=by simp at h1;omega
  subst h0;rw [<- h2];rw [Addr.add_mid];exact hc
 have h1:∀u∈[a8 x],u.oneCell'=true:=fun u hu=>by
  rw [List.mem_singleton.1 hu];rfl
 obtain ⟨g,cap,w',hr,h2,h3,h4,h5⟩:=run_append_lies (P:=Tryz.prog) w 36 ty base 9 i0 (.string ByteArray.empty) 1 16 Tryz.underlying36 hi hz0 hz1 hz2 rfl (by omega) v xs.length (j1 xs) h.1 ⟨ab,0,none⟩ 1 c [a8 x] rfl hnews h1 (by omega) (by unfold maxLen;omega) (by omega) hbase w.heap.size rfl;refine ⟨g,cap,w',hr,⟨?_,fun g' hg' => ?_,fun y hy=>(List.mem_append.1 hy).elim (h.2.2 y) (fun e=>by rw [List.mem_singleton.1 e];exact hx9)⟩,h3,h4⟩
 ·have e:j1 (xs ++ [x])=j1 xs ++ [a8 x]:=by simp [j1]
  rw [e,List.length_append];exact h2
 ·obtain rfl:g=g':=by simpa [Value.ownBlock] using hg'
  have hnew:∀(cs:List Value),(∀v∈cs,∃k:ByteArray,v = .string k/\k.size≠512)->w'.heap[g]? = some (.cells cs.toArray 9 (0,0))->fW w' g:=fun cs hcs hb=>⟨_,_,_,hb,by decide,fun v hv => .inr (.inr (.inr (.inr (hcs v (by simpa using hv)))))⟩;have hxn:∀v∈[a8 x],∃k:ByteArray,v = .string k/\k.size≠512:=fun v hv=>⟨⟨x.toArray⟩,List.mem_singleton.1 hv,by rw [eU];omega⟩;rcases h.1.2 with ⟨e,h0⟩ | ⟨g0,cap0,cur,e,-,hg,hnc,-,hcs,-⟩
  ·subst e;have hr':=run_append_nil (P:=Tryz.prog) w 36 ty 9 i0 (.string ByteArray.empty) Tryz.underlying36 hi hz0 ⟨ab,0,none⟩ 1 c [a8 x] (by rw [hz1];rfl) hnews (by omega) (by omega) (by rw [hz2];omega);rw [hr'] at hr;simp only [Result.ok.injEq,Value.slice.injEq] at hr;obtain ⟨⟨e1,-⟩,e2⟩:=hr;have e3:w.heap.size=g:=by simpa using e1
   refine hnew ([a8 x] ++ (Builtin.zeroCells (Value.string ByteArray.empty).cells (grownCap w 1 0 9-1)).toList) (fun v hv => ?_) ?_
   ·rcases List.mem_append.1 hv with hv | hv
    ·exact hxn v hv
    ·exact lW _ v hv
   ·rw [<- e2, <- e3];refine (af w.drew _).trans ?_;simp
  ·subst e;by_cases hroom:xs.length+1<=cap0
   ·have hr':=run_append_room (P:=Tryz.prog) w 36 ty 9 i0 Tryz.underlying36 hi g0 xs.length cap0 cur hg ⟨ab,0,none⟩ 1 c [a8 x] (by rw [hz1];rfl) hnews h1 hroom (by rw [hz1];simp;omega);rw [hr'] at hr;simp only [Result.ok.injEq,Value.slice.injEq] at hr;obtain ⟨⟨e1,-⟩,e2⟩:=hr;have e3:g0=g:=by simpa using e1
    obtain ⟨cs1,t1,fr1,hb1,-,hk1⟩:=h.2.1 g0 rfl;rw [hg] at hb1;simp only [Option.some.injEq,Obj.cells.injEq] at hb1;obtain ⟨rfl,rfl,-⟩:=hb1;refine ⟨_,_,_,by rw [<- e2, <- e3];exact setRow_heap w g0 cur _ _ _ hg,by decide,fun v hv => ?_⟩;simp only [List.append_assoc,List.mem_append] at hv;rcases hv with hv | hv | hv
    ·exact hk1 v (List.mem_of_mem_take hv)
    ·exact .inr (.inr (.inr (.inr (hxn v hv))))
    ·exact hk1 v (List.mem_of_mem_drop hv)
   ·have holds:∀j u,(j1 xs)[j]? = some u->w.cell? ((⟨g0,0,none⟩:Addr).add j)=some u:=h.1.cells (g:=g0) rfl;have hr':=run_append_grow (P:=Tryz.prog) w 36 ty 9 i0 (.string ByteArray.empty) Tryz.underlying36 hi hz0 ⟨g0,0,none⟩ xs.length cap0 (j1 xs) (by rw [hz1];exact h.1.1) holds ⟨ab,0,none⟩ 1 c [a8 x] (by rw [hz1];rfl) hnews (by omega) (by omega) (growslice_fits (by omega) (by rw [hz2];omega));rw [hr'] at hr;simp only [Result.ok.injEq,Value.slice.injEq] at hr;obtain ⟨⟨e1,-⟩,e2⟩:=hr;have e3:w.heap.size=g:=by simpa using e1
    refine hnew (j1 xs ++ [a8 x] ++ (Builtin.zeroCells (Value.string ByteArray.empty).cells (grownCap w (xs.length+1) cap0 9-(xs.length+1))).toList) (fun v hv => ?_) ?_
    ·rcases List.mem_append.1 hv with hv | hv
     ·rcases List.mem_append.1 hv with hv | hv
      ·exact wh h.2.2 v hv
      ·exact hxn v hv
     ·exact lW _ v hv
    ·rw [<- e2, <- e3];refine (af w.drew _).trans ?_;simp
theorem kF {ops:Array Oper} {rest:List Oper} {o:Oper} {a:Act} {Q:Exit->Act->World->Prop} (hgd:o.guard=none) (s x:Operand)
  (ho:o.op = .call { callee := .builtin .append,args:=#[s,x],argTypes:=#[36,36] }) (hs:a.eval s=v) (y:List UInt8) (hy9:y.length<=59) (ab c:Nat) (hx:a.eval x = .slice (some ⟨ab,0,none⟩) 1 c)
  (h:ig w base v xs) (hc:w.cell? ⟨ab,0,none⟩=some (a8 y)) (hn:xs.length<4096) (hbase:base<=w.heap.size)
  (k:∀g cap w',ig w' base (.slice (some ⟨g,0,none⟩) (xs.length+1) cap) (xs ++ [y])->w.grownBy w' v.ownBlock->(v.ownBlock=some g\/g=w.heap.size)->wpList Tryz.prog ops Q rest (a.put o.dst (.slice (some ⟨g,0,none⟩) (xs.length+1) cap)) w'):wpList Tryz.prog ops Q (o :: rest) a w:=by
 obtain ⟨g,cap,w',hr,h1,h2,h3⟩:=nG h y hy9 ab hc hn hbase o.type c;refine wpList_plain hgd fun K hK => ?_;unfold Oper.wp;simp [execOp,ho,resolve,invoke,builtin,hs,hx,hr,Result.andThen];exact hK _ _ (k g cap w' h1 h2 h3)
end
theorem St.keepN {w w':World} {s m c ino b:Nat} {F:Nat->Prop} {N:Nat} {Pg Cm:Nat->List UInt8} {fs:Nat->Option ao} {o u:Nat} {cs:Array Value} {t:TypeId} {fr:Nat×Nat} (h:St w s m c F N ino Pg Cm fs o u) (hb:w.heap[b]? = some (.cells cs t fr)) (ht:t≠100/\t≠98) (ho:fW w b) (hF:¬F b) (k:ac (fun i=>i=b) w w'):St w' s m c F N ino Pg Cm fs o u:=by
 obtain ⟨D,hp⟩:=h.pc;have hm:¬m=b:=fun e=>by
  have h1:=h.map;unfold aT at h1;rw [e,hb] at h1;simp only [Option.some.injEq,Obj.cells.injEq] at h1;exact ht.1 h1.2.1
 have hs:¬s=b:=fun e=>by
  have h1:=h.store;unfold bG at h1;rw [e,hb] at h1;simp only [Option.some.injEq,Obj.cells.injEq] at h1;exact ht.2 h1.2.1
 exact ⟨h.map.keep k hm,h.store.keep k hs,h.mF,h.sF,h.few,⟨D,hp.keepY ho hF k⟩,h.good⟩
theorem St.growT {w w':World} {s m c ino base:Nat} {F:Nat->Prop} {N:Nat} {Pg Cm:Nat->List UInt8} {fs:Nat->Option ao} {o u:Nat} {v:Value} {xs:List (List UInt8)} (h:St w s m c F N ino Pg Cm fs o u) (hr:ig w base v xs) (hF:∀i,F i->i<base) (hg:w.grownBy w' v.ownBlock):St w' s m c F N ino Pg Cm fs o u:=by
 rcases hr.1.2 with ⟨e,-⟩ | ⟨g,cap,cur,e,hbs,hb,-⟩
 ·subst e;exact h.below ⟨hg.os,hg.tape,hg.output,hg.size,fun k hk=>hg.block k hk (by simp [Value.ownBlock])⟩
 ·have ho:=hr.2.1 g (by rw [e];rfl);subst e;exact h.keepN hb (by decide) ho (fun hh=>by have:=hF _ hh;omega) (ac.of_grown hg (fun _ e=>(Option.some.inj e).symm))
theorem ej (V:World) (b:Nat) (v:Value):ac (fun i=>i=b) V (V.setCell ⟨b,0,none⟩ v):=(ac.refl _ _).grown (ak (ar _ _) _ _) (fun _ e => .inl (Option.some.inj e).symm)
theorem St.setI {V:World} {s m c ino b:Nat} {F:Nat->Prop} {N:Nat} {Pg Cm:Nat->List UInt8} {fs:Nat->Option ao} {o u:Nat} {x:Value} {t:TypeId} (h:St V s m c F N ino Pg Cm fs o u) (hb:V.heap[b]? = some (.cells #[x] t (0,0))) (hx:(∃n,x = .int .i64 n)\/∃a n c,x = .slice a n c) (ht:t≠100/\t≠98/\t≠128/\t≠109) (hF:¬F b) (v:Value):St (V.setCell ⟨b,0,none⟩ v) s m c F N ino Pg Cm fs o u :=
 h.keepN hb ⟨ht.1,ht.2.1⟩ ⟨_,_,_,hb,⟨ht.2.2.1,ht.2.2.2,ht.1⟩,fun v hv=>by
  obtain rfl:v=x:=by simpa using hv
  rcases hx with hx | hx
  ·exact .inl hx
  ·exact .inr (.inr (.inl hx))⟩ hF (ej V b v)
end
section
set_option maxRecDepth 100000
set_option maxHeartbeats 4000000
open Go.RowKit Go.Shelf
attribute [local go_sem] Oper.semAt_some
theorem iB {w:World} {tmps:Array Value} {b:Nat} {x:Value} (h1:tmps.getD 2 undef = .pointer (some ⟨b,0,none⟩)) (r:w.heap[b]? = some (.cells #[x] 3 (0,0))) :
  (results Tryz.f33 tmps).run Tryz.prog w = .ok x w:=by
 have c1:w.cell? ⟨b,0,none⟩=some x:=aa r 0;have h1':tmps[2]?.getD undef = .pointer (some ⟨b,0,none⟩):=by simpa using h1
 simp only [results,Tryz.results33];simp [go_sem,h1',asAddr,c1]
structure kJ (w W:World) (L:List Obj):Prop where
 own:∀k ob,L[k]? = some ob->W.heap[w.heap.size+k]? = some ob
 size:W.heap.size=w.heap.size+L.length
 below:Below w.heap.size w W
theorem kJ.nil (w:World):kJ w w []:=⟨fun k ob h=>by simp at h,rfl,Below.refl _ _⟩
theorem kJ.alloc {w W:World} {L:List Obj} (h:kJ w W L) (ob:Obj):kJ w (W.alloc ob) (L ++ [ob]):=by
 refine ⟨fun k ob' hk => ?_,by rw [World.size_alloc,h.size,List.length_append];rfl,h.below.alloc h.below.size ob⟩;by_cases e:k<L.length
 ·rw [List.getElem?_append_left e] at hk;exact aj (h.own k ob' hk) ob
 ·rw [List.getElem?_append_right (by omega)] at hk;obtain ⟨h1,h2⟩:=List.getElem?_eq_some_iff.1 hk;simp only [List.length_singleton] at h1;obtain rfl:k=L.length:=by omega
  simp only [Nat.sub_self,List.getElem_cons_zero] at h2;subst h2;rw [<- h.size];exact af W ob
structure cA (w V:World) (F:Nat->Prop) (d:Nat) (L:List Obj) (lp:Loop):Prop where
 low:ac F w V
 len:w.heap.size+L.length<=d
 own:∀k ob,L[k]? = some ob->V.heap[w.heap.size+k]? = some ob
 df:V.heap[d]? = some (.deferred (some []))
 lp:V.heap[d+1]? = some (.loop lp)
theorem ac.newer {w V V':World} {F:Nat->Prop} (h:ac F w V) (k:Below w.heap.size V V'):ac F w V' :=
 h.trans (G:=fun i=>w.heap.size<=i) ⟨k.os,k.tape,k.output,k.size,fun i _ hn=>k.block i (by omega)⟩ (fun _ e => .inr e)
theorem ac.putNew {w V:World} {F:Nat->Prop} (h:ac F w V) {l:Nat} (hl:w.heap.size<=l) (ob:Obj):ac F w (V.putObj l ob) :=
 h.newer ((Below.refl _ V |>.mono h.size).grown (grownBy_putObj' V l ob) h.size (fun k e=>by cases e;exact hl))
theorem ac.setNew {w V:World} {F:Nat->Prop} (h:ac F w V) {b:Nat} (hb:w.heap.size<=b) (v:Value):ac F w (V.setCell ⟨b,0,none⟩ v) :=
 h.newer ((Below.refl _ V |>.mono h.size).setCell (show w.heap.size<=Addr.block ⟨b,0,none⟩ from hb) v)
section
variable {w V V':World} {F:Nat->Prop} {d:Nat} {L:List Obj} {lp lp':Loop}
theorem cA.keep (h:cA w V F d L lp) (hF:∀j,F j->j<w.heap.size) (k:ac F V V'):cA w V' F d L lp :=
 have hn:=h.len
 ⟨h.low.trans k (fun _ e => .inl e),h.len,fun j ob hj=>k.heap (h.own j ob hj) (fun hh=>by have:=hF _ hh;omega),k.heap h.df (fun hh=>by have:=hF _ hh;omega),k.heap h.lp (fun hh=>by have:=hF _ hh;omega)⟩
theorem cA.put (h:cA w V F d L lp):cA w (V.putObj (d+1) (.loop lp')) F d L lp' :=
 have hn:=h.len
 ⟨h.low.putNew (by omega) _,h.len,fun j ob hj=>(World.putObj_heap_other (by have:=(List.getElem?_eq_some_iff.1 hj).1;omega)).trans (h.own j ob hj),(World.putObj_heap_other (by omega)).trans h.df,World.putObj_heap_same (ae h.lp)⟩
theorem cA.off (h:cA w V F d L lp) {q:Nat} {ob:Obj} (hq:d+2<=q) (_:V.heap[q]? = some ob) (ob':Obj):cA w (V.putObj q ob') F d L lp :=
 have hn:=h.len
 ⟨h.low.putNew (by omega) _,h.len,fun j o2 hj=>(World.putObj_heap_other (by have:=(List.getElem?_eq_some_iff.1 hj).1;omega)).trans (h.own j o2 hj),(World.putObj_heap_other (by omega)).trans h.df,(World.putObj_heap_other (by omega)).trans h.lp⟩
theorem cA.set (h:cA w V F d L lp) {k b:Nat} {x y:Value} {t:TypeId} (hb:b=w.heap.size+k) (hk:L[k]? = some (.cells #[x] t (0,0))):cA w (V.setCell ⟨b,0,none⟩ y) F d (L.set k (.cells #[y] t (0,0))) lp:=by
 have hn:=h.len;have hkl:=(List.getElem?_eq_some_iff.1 hk).1;subst hb;refine ⟨h.low.setNew (by omega) _,by rw [List.length_set];exact hn,fun j ob hj => ?_,(al _ _ (by omega)).trans h.df,(al _ _ (by omega)).trans h.lp⟩;rw [List.getElem?_set] at hj;by_cases e:k=j
 ·subst e;rw [if_pos rfl,if_pos hkl] at hj;rw [<- Option.some.inj hj];exact ap (h.own k _ hk) 0 _
 ·rw [if_neg e] at hj;exact (al _ _ (by omega)).trans (h.own j ob hj)
end
section
variable {w w':World} {s m c ino:Nat} {F:Nat->Prop} {N:Nat} {Pg Cm:Nat->List UInt8} {fs:Nat->Option ao} {o u:Nat} {i:Nat} {f:ao}
theorem tj (es:List (Nat×List UInt8)) (hes:aZ es) (h:St w s m c F N ino Pg Cm fs o u) (hf:fs i=some f) (hd:f.data=aI es) (hu:u+ubE es<=900000) :
  Calls Tryz.prog 33 #[cY s i (64*es.length)] w fun e w'=>e = .returned (.int .i64 (64*aR es:Nat))/\ac F w w'/\∃U,U<=u+ubE es/\St w' s m c F N ino Pg Cm fs o U:=by
 refine (callsIn_wide (n:=8)).1 ?_;obtain ⟨zz,hzz⟩:∃zz:Int,zz=((64*es.length:Nat):Int):=⟨_,rfl⟩;obtain ⟨wA,hA⟩:∃wA,wA=(w.alloc (.cells #[.pointer (some ⟨s,0,none⟩),.int .i64 i,.int .i64 zz] 69)).alloc (.cells #[.int .i64 0] 3):=⟨_,rfl⟩;have hOwn:kJ w wA [.cells #[.pointer (some ⟨s,0,none⟩),.int .i64 i,.int .i64 zz] 69 (0,0),.cells #[.int .i64 0] 3 (0,0)]:=by rw [hA];exact ((kJ.nil w).alloc _).alloc _
 have hBA:=hOwn.below;have hA0:=hOwn.own;have hAs:wA.heap.size=w.heap.size+2:=hOwn.size;have HSA:=hid (h.below hBA);have HF:=hid hf;have HD:=hid hd;have HEs:=hid hes;have HA0:=hid hA0;have HAs:=hid hAs;have HBA:=hid hBA;have HFl:=hid h.lt;clear h hf hd hes hA0 hAs hBA hOwn;have hf2:Fence.wide.fn 81:=trivial;have HEn:=hid (kA s i (64*es.length) wA);unfold cY at HEn ⊢;refine callsIn_of_wp_marks Tryz.func33 rfl trivial ?_ rfl;simp only [Tryz.ntmps33,List.size_toArray,List.length_cons,List.length_nil,Nat.reduceAdd,Nat.reduceSub,Array.replicate_succ,Array.replicate_zero,List.push_toArray,List.append_toArray,List.nil_append,List.cons_append];rw [<- hzz] at HEn ⊢;have HZ:=hid hzz;have hz0:0<=zz:=by omega
 have hz1:zz<=100000:=by have:=HEs.out.1;omega
 clear hzz
 gi_wp2_with fail
 rw [<- hA];clear hA;refine (callsIn_wide.2 HEn.out).mono ?_;clear HEn;rintro e wD ⟨rfl,hbD,hfD⟩;rw [HZ.out] at hfD;have HKD:Hid (ac F w wD):=ac.of_below (HBA.out.trans (hbD.mono HBA.out.size));have HSD:=hid (HSA.out.below hbD);have HrD:=hid (fun k ob hk=>ah hbD (HA0.out k ob hk) (ae (HA0.out k ob hk)));have HfD:=hid hfD;have HsD:Hid (w.heap.size+2<wD.heap.size):=by have:=ae hfD;have:=HAs.out;unfold Hid;omega
 clear hbD hfD HSA HA0 hf2 HBA
 gi_wp2
 refine ey (gf:=148) (lb:=#[.pointer (some ⟨wA.heap.size,0,none⟩)]) (by omega) rfl (enters_of Tryz.func148 (by kernel_rfl) rfl) (fun fn => ?_);generalize hrc:gA fn _ _ _ _ _=rc;have hb0:=(Below.refl wD.heap.size wD).alloc (Nat.le_refl _) (.deferred (some []));have hb1:=hb0.alloc (by simp) (.loop (rc .ready none));have y0:=af wD (.deferred (some []));have y1:=af (wD.alloc (.deferred (some []))) (.loop (rc .ready none));rw [World.size_alloc] at y1;have hsz:((wD.alloc (.deferred (some []))).alloc (.loop (rc .ready none))).heap.size=wD.heap.size+2:=by simp
 have hge:=HsD.out;have hAs:=HAs.out;have hHH:∀j,(F j\/j=wD.heap.size+1)->j<((wD.alloc (.deferred (some []))).alloc (.loop (rc .ready none))).heap.size:=fun j hj=>by
  rw [hsz];rcases hj with hj | hj
  ·have:=HFl.out j hj;omega
  ·omega
 have hbb1:¬(F wA.heap.size\/wA.heap.size=wD.heap.size+1):=fun hh=>by
  rcases hh with hh | hh
  ·have:=HFl.out _ hh;omega
  ·omega
 have hg0:cA w ((wD.alloc (.deferred (some []))).alloc (.loop (rc .ready none))) F wD.heap.size [.cells #[.pointer (some ⟨s,0,none⟩),.int .i64 i,.int .i64 zz] 69 (0,0),.cells #[.int .i64 0] 3 (0,0)] (rc .ready none) :=
  ⟨HKD.out.andBelow hb1,by simp;omega,fun k ob hk=>aj (aj (HrD.out k ob hk) _) _,aj y0 _,y1⟩
 have HHW:Hid (∀j,F j->j<wD.heap.size):=fun j hj=>by have:=HFl.out j hj;omega
 refine (j4 7 (by omega) (wD.heap.size+1) wA.heap.size es HEs.out (fun j=>F j\/j=wD.heap.size+1)
  (fun k V=>cA w V F wD.heap.size [.cells #[.pointer (some ⟨s,0,none⟩),.int .i64 i,.int .i64 zz] 69 (0,0),.cells #[.int .i64 0] 3 (0,0)] (rc .ready none)/\∀j (hj:j<es.length),j<k->es[j].1≠0)
  (fun k V=>(cA w V F wD.heap.size [.cells #[.pointer (some ⟨s,0,none⟩),.int .i64 i,.int .i64 zz] 69 (0,0),.cells #[.int .i64 (64*k:Nat)] 3 (0,0)] (rc .done (some .ret))/\∃U,U<=u+ubE es/\St V s m c F N ino Pg Cm fs o U)/\aR es=k) _
  (HSD.out.below hb1) HF.out HD.out hu hHH (fun j hj => .inl hj) hbb1
  (aj (aj HfD.out _) _) (fun k V V' hJk hk=>⟨hJk.1.keep HFl.out hk,hJk.2⟩) (fun k U V hk hU hS hJk => ?round) ⟨hg0,fun j hj h0=>by omega⟩).mono ?_
 case round =>
  obtain ⟨hj,hlo⟩:=hJk;have hl':=hj.lp;rw [<- hrc] at hl';refine eB hl' rfl ?_;rw [hrc];clear hl' y0 y1 hb0 hb1 hsz hg0 hHH hbb1;have HNx:Hid (es[k].1≠0->∀j (hj:j<es.length),j<k+1->es[j].1≠0):=fun h0 j hj hjk=>by
   by_cases e:j=k
   ·subst e;exact h0
   ·exact hlo j hj (by omega)
  have HIs:Hid (es[k].1=0->aR es=k):=fun h0=>vi hk hlo h0;obtain ⟨xi,hxi⟩:∃xi,xi=es[k].1:=⟨_,rfl⟩;obtain ⟨xn,hxn⟩:∃xn,xn=es[k].2:=⟨_,rfl⟩;rw [<- hxi] at HNx HIs ⊢;rw [<- hxn];unfold lj a8;clear hxi hxn hlo;have HSV:=hid hS;have HJV:=hid hj;have HU:=hid hU;obtain ⟨kk,hkk⟩:∃kk:Int,kk=((64*k:Nat):Int):=⟨_,rfl⟩;rw [<- hkk];have HKK:=hid hkk;clear hS hj hU hkk;have hbx:=af V (.cells #[.int .i64 xi,.string ⟨xn.toArray⟩] 79);have hBx:=(Below.refl V.heap.size V).alloc (Nat.le_refl _) (.cells #[.int .i64 xi,.string ⟨xn.toArray⟩] 79)
  gi_wp2
  have hj2:=HJV.out.keep HFl.out (ac.of_below hBx:ac F V _);have hs2:=HSV.out.below hBx;refine ⟨hj2.lp,?_⟩;have hKV:aW (fun j=>F j\/j=wD.heap.size+1) V (World.alloc V (.cells #[.int .i64 xi,.string ⟨xn.toArray⟩] 79)):=(ac.of_below hBx:ac F V _).toS (fun _ e => .inl e);generalize V.alloc _=V1 at *;have hne:V.heap.size≠wD.heap.size+1:=by have:=ae HJV.out.lp;omega
  have hj3:cA w (V1.putObj (wD.heap.size+1) (.loop (rc .busy none))) F wD.heap.size [.cells #[.pointer (some ⟨s,0,none⟩),.int .i64 i,.int .i64 zz] 69 (0,0),.cells #[.int .i64 0] 3 (0,0)] (rc .busy none):=hj2.put;have hx3:(V1.putObj (wD.heap.size+1) (.loop (rc .busy none))).heap[V.heap.size]? = some (.cells #[.int .i64 xi,.string ⟨xn.toArray⟩] 79 (0,0)):=(World.putObj_heap_other hne).trans hbx;have hs3:St (V1.putObj (wD.heap.size+1) (.loop (rc .busy none))) s m c F N ino Pg Cm fs o U:=hs2.put HHW.out (by omega) hj2.lp rfl _;have hK3:aW (fun j=>F j\/j=wD.heap.size+1) V (V1.putObj (wD.heap.size+1) (.loop (rc .busy none))):=hKV.trans ((bn V1 _ _).toS (fun _ e => .inr e));generalize V1.putObj _ _=V2 at *;have c0:V2.cell? ⟨V.heap.size,0,none⟩=some (.int .i64 xi):=aa hx3 0;have HJ3:=hid hj3;have HS3:=hid hs3;have HK3:=hid hK3;clear hj2 hs2 hKV hne hx3 hj3 hs3 hK3 hbx hBx;by_cases hz:xi=0
  ·have hz0:((xi:Int)==0)=true:=by rw [hz];rfl
   have HIx:=hid (HIs.out hz);have cr:V2.cell? ⟨w.heap.size+1,0,none⟩=some (.int .i64 0):=aa (HJ3.out.own 1 _ rfl) 0;have fr:V2.frozen? ⟨w.heap.size+1,0,none⟩=false:=ai (HJ3.out.own 1 _ rfl) 0;clear HIs HNx hz
   gi_wp2
   have hS4:=HJ3.out.set (k:=1) (b:=w.heap.size+1) (y := .int .i64 kk) rfl rfl;have hs4:=HS3.out.setI (HJ3.out.own 1 _ rfl) (.inl ⟨_,rfl⟩) (by decide) (fun hh=>by have:=HFl.out _ hh;omega) (.int .i64 kk);exact ⟨hS4.lp,.inr ⟨rfl,⟨hS4.put,U,HU.out,hs4.put HHW.out (by omega) hS4.lp rfl _⟩,HIx.out⟩⟩
  ·have hz0:((xi:Int)==0)=false:=beq_false_of_ne (by omega);have HNn:=hid (HNx.out hz);clear HIs HNx hz
   gi_wp2
   exact ⟨HJ3.out.lp,.inl ⟨rfl,⟨HJ3.out.put,HNn.out⟩,HS3.out.put HHW.out (by omega) HJ3.out.lp rfl _,HK3.out.trans ((bn V2 _ _).toS (fun _ e => .inr e))⟩⟩
 rintro e W2 ⟨⟨v,rfl⟩,hE⟩;refine ⟨⟨_,rfl⟩,?_⟩;rcases hE with ⟨⟨hj,hlo⟩,U,hU,hS⟩ | ⟨k,hk,⟨hX,U,hU,hS⟩,hIx⟩
 ·refine ⟨_,_,?_,hj.lp,?_⟩
  ·intro h;cases h
  have HIx:=hid (rz fun j hj=>hlo j hj hj);have HJ9:Hid (cA w (W2.putObj (wD.heap.size+1) (.loop (rc .exhausted none))) F wD.heap.size [.cells #[.pointer (some ⟨s,0,none⟩),.int .i64 i,.int .i64 zz] 69 (0,0),.cells #[.int .i64 0] 3 (0,0)] (rc .exhausted none)):=hj.put;have HS9:Hid (St (W2.putObj (wD.heap.size+1) (.loop (rc .exhausted none))) s m c F N ino Pg Cm fs o U):=hS.put HHW.out (by omega) hj.lp rfl _;have HU:=hid hU;subst hrc;clear hj hS hU hlo;generalize W2.putObj _ _=W3 at *;show Exit.inBlock 0 _ .normal _ _;have cr:W3.cell? ⟨w.heap.size+1,0,none⟩=some (.int .i64 0):=aa (HJ9.out.own 1 _ rfl) 0;have fr:W3.frozen? ⟨w.heap.size+1,0,none⟩=false:=ai (HJ9.out.own 1 _ rfl) 0;have cs:W3.cell? ⟨w.heap.size,2,none⟩=some (.int .i64 zz):=aa (HJ9.out.own 0 _ rfl) 2
  gi_wp2
  have hS4:=HJ9.out.set (k:=1) (b:=w.heap.size+1) (y := .int .i64 (zz / 64*64)) rfl rfl;have hs4:=HS9.out.setI (HJ9.out.own 1 _ rfl) (.inl ⟨_,rfl⟩) (by decide) (fun hh=>by have:=HFl.out _ hh;omega) (.int .i64 (zz / 64*64));refine ⟨by simp,.inl ⟨_,_,rfl,run_takeDeferred hS4.df,?_⟩⟩;refine ⟨_,iB rfl ((World.putObj_heap_other (by omega)).trans (hS4.own 1 _ rfl)),?_,hS4.low.putNew (by omega) _,U,HU.out,hs4.put HHW.out (Nat.le_refl _) hS4.df rfl _⟩;rw [HIx.out,show zz / 64*64=64*(es.length:Int) from by have:=HZ.out;omega]
 ·refine ⟨_,_,?_,hX.lp,?_⟩
  ·intro h;cases h
  have HX9:Hid (cA w (W2.putObj (wD.heap.size+1) (.loop (rc .exhausted (some .ret)))) F wD.heap.size [.cells #[.pointer (some ⟨s,0,none⟩),.int .i64 i,.int .i64 zz] 69 (0,0),.cells #[.int .i64 (64*k:Nat)] 3 (0,0)] (rc .exhausted (some .ret))):=hX.put;have HS9:Hid (St (W2.putObj (wD.heap.size+1) (.loop (rc .exhausted (some .ret)))) s m c F N ino Pg Cm fs o U):=hS.put HHW.out (by omega) hX.lp rfl _;have HU:=hid hU;have HIx:=hid hIx;subst hrc;clear hX hS hU hIx hk;generalize W2.putObj _ _=W3 at *;show Code.wpIn Fence.wide 8 _ .ret _ _ _
  gi_wp2
  refine ⟨by simp,.inl ⟨_,_,rfl,run_takeDeferred HX9.out.df,?_⟩⟩;refine ⟨_,iB rfl ((World.putObj_heap_other (by omega)).trans (HX9.out.own 1 _ rfl)),?_,HX9.out.low.putNew (by omega) _,U,HU.out,HS9.out.put HHW.out (Nat.le_refl _) HX9.out.df rfl _⟩;rw [HIx.out]
  rfl
end
end
section
set_option maxRecDepth 100000
set_option maxHeartbeats 4000000
open Go.RowKit Go.Shelf
attribute [local go_sem] Oper.semAt_some
def lookE (es:List (Nat×List UInt8)) (nm:List UInt8):Option Nat:=es.findIdx? fun x=>x.1 != 0&&x.2==nm
theorem rq {es:List (Nat×List UInt8)} {nm:List UInt8} {k:Nat} (hk:k<es.length) (hlo:∀j (hj:j<es.length),j<k->¬(es[j].1≠0/\es[j].2=nm)) (h0:es[k].1≠0) (h1:es[k].2=nm):lookE es nm=some k:=by
 unfold lookE;rw [List.findIdx?_eq_some_iff_getElem];refine ⟨hk,by simp [h0,h1],fun j hj => ?_⟩;have:=hlo j (by omega) hj;simp only [ne_eq,not_and] at this;simp only [Bool.and_eq_true,bne_iff_ne,ne_eq,beq_iff_eq,not_and];exact this
theorem sC {es:List (Nat×List UInt8)} {nm:List UInt8} (hlo:∀j (hj:j<es.length),¬(es[j].1≠0/\es[j].2=nm)):lookE es nm=none:=by
 unfold lookE;rw [List.findIdx?_eq_none_iff];intro x hx;obtain ⟨j,hj,rfl⟩:=List.getElem_of_mem hx;have:=hlo j hj;cases h:(es[j].1 != 0&&es[j].2==nm) with
 | false=>rfl
 | true=>simp only [Bool.and_eq_true,bne_iff_ne,ne_eq,beq_iff_eq] at h;exact absurd h this
def eb (es:List (Nat×List UInt8)) (nm:List UInt8):Value:=match lookE es nm with
 | some k => .tuple #[.int .i64 (64*k:Nat),.int .i64 (es.getD k (0,[])).1,.int .i64 0]
 | none => .tuple #[.int .i64 0,.int .i64 0,.int .i64 4]
theorem jr {w:World} {tmps:Array Value} {b1 b2 b3:Nat} {x y z:Value} (h1:tmps.getD 4 undef = .pointer (some ⟨b1,0,none⟩)) (h2:tmps.getD 5 undef = .pointer (some ⟨b2,0,none⟩)) (h3:tmps.getD 6 undef = .pointer (some ⟨b3,0,none⟩))
  (r1:w.heap[b1]? = some (.cells #[x] 3 (0,0))) (r2:w.heap[b2]? = some (.cells #[y] 3 (0,0))) (r3:w.heap[b3]? = some (.cells #[z] 31 (0,0))) :
  (results Tryz.f31 tmps).run Tryz.prog w = .ok (.tuple #[x,y,z]) w:=by
 have c1:w.cell? ⟨b1,0,none⟩=some x:=aa r1 0;have c2:w.cell? ⟨b2,0,none⟩=some y:=aa r2 0;have c3:w.cell? ⟨b3,0,none⟩=some z:=aa r3 0;have h1':tmps[4]?.getD undef = .pointer (some ⟨b1,0,none⟩):=by simpa using h1
 have h2':tmps[5]?.getD undef = .pointer (some ⟨b2,0,none⟩):=by simpa using h2
 have h3':tmps[6]?.getD undef = .pointer (some ⟨b3,0,none⟩):=by simpa using h3
 simp only [results,Tryz.results31];simp [go_sem,h1',h2',h3',asAddr,c1,c2,c3]
def fdL (s i:Nat) (zz:Int) (nm:List UInt8) (x y z:Value):List Obj:=[.cells #[.pointer (some ⟨s,0,none⟩),.int .i64 i,.int .i64 zz] 69 (0,0),.cells #[.string ⟨nm.toArray⟩] 9 (0,0),.cells #[x] 3 (0,0),.cells #[y] 3 (0,0),.cells #[z] 31 (0,0)]
section
variable {w w':World} {s m c ino:Nat} {F:Nat->Prop} {N:Nat} {Pg Cm:Nat->List UInt8} {fs:Nat->Option ao} {o u:Nat} {i:Nat} {f:ao}
theorem gB (es:List (Nat×List UInt8)) (nm:List UInt8) (hes:aZ es) (h:St w s m c F N ino Pg Cm fs o u) (hf:fs i=some f) (hd:f.data=aI es) (hu:u+ubE es<=900000) :
  Calls Tryz.prog 31 #[cY s i (64*es.length),a8 nm] w fun e w'=>e = .returned (eb es nm)/\ac F w w'/\∃U,U<=u+ubE es/\St w' s m c F N ino Pg Cm fs o U:=by
 refine (callsIn_wide (n:=9)).1 ?_;obtain ⟨zz,hzz⟩:∃zz:Int,zz=((64*es.length:Nat):Int):=⟨_,rfl⟩;obtain ⟨wA,hA⟩:∃wA,wA=((((w.alloc (.cells #[.pointer (some ⟨s,0,none⟩),.int .i64 i,.int .i64 zz] 69)).alloc (.cells #[.string ⟨nm.toArray⟩] 9)).alloc (.cells #[.int .i64 0] 3)).alloc (.cells #[.int .i64 0] 3)).alloc (.cells #[.int .i64 0] 31):=⟨_,rfl⟩;have hOwn:kJ w wA (fdL s i zz nm (.int .i64 0) (.int .i64 0) (.int .i64 0)):=by rw [hA];exact (((((kJ.nil w).alloc _).alloc _).alloc _).alloc _).alloc _
 have HSA:=hid (h.below hOwn.below);have HF:=hid hf;have HD:=hid hd;have HEs:=hid hes;have HA0:=hid hOwn.own;have HAs:Hid (wA.heap.size=w.heap.size+5):=hOwn.size;have HBA:=hid hOwn.below;have HFl:=hid h.lt;clear h hf hd hes hOwn;have hf2:Fence.wide.fn 42:=trivial;have HEn:=hid (jz s i (64*es.length) wA);unfold cY at HEn ⊢;unfold a8;refine callsIn_of_wp_marks Tryz.func31 rfl trivial ?_ rfl;simp only [Tryz.ntmps31,List.size_toArray,List.length_cons,List.length_nil,Nat.reduceAdd,Nat.reduceSub,Array.replicate_succ,Array.replicate_zero,List.push_toArray,List.append_toArray,List.nil_append,List.cons_append];rw [<- hzz] at HEn ⊢;have HZ:=hid hzz;clear hzz
 gi_wp2_with fail
 rw [<- hA];clear hA;refine (callsIn_wide.2 HEn.out).mono ?_;clear HEn;rintro e wD ⟨rfl,hbD,hfD⟩;rw [HZ.out] at hfD;have HKD:Hid (ac F w wD):=ac.of_below (HBA.out.trans (hbD.mono HBA.out.size));have HSD:=hid (HSA.out.below hbD);have HrD:=hid (fun k ob hk=>ah hbD (HA0.out k ob hk) (ae (HA0.out k ob hk)));have HfD:=hid hfD;have HsD:Hid (w.heap.size+5<wD.heap.size):=by have:=ae hfD;have:=HAs.out;unfold Hid;omega
 clear hbD hfD HSA HA0 hf2 HBA
 gi_wp2
 refine ey (gf:=89) (lb:=#[.pointer (some ⟨wA.heap.size,0,none⟩)]) (by omega) rfl (enters_of Tryz.func89 (by kernel_rfl) rfl) (fun fn => ?_);generalize hrc:gA fn _ _ _ _ _=rc;have hb0:=(Below.refl wD.heap.size wD).alloc (Nat.le_refl _) (.deferred (some []));have hb1:=hb0.alloc (by simp) (.loop (rc .ready none));have y0:=af wD (.deferred (some []));have y1:=af (wD.alloc (.deferred (some []))) (.loop (rc .ready none));rw [World.size_alloc] at y1;have hsz:((wD.alloc (.deferred (some []))).alloc (.loop (rc .ready none))).heap.size=wD.heap.size+2:=by simp
 have hge:=HsD.out;have hAs:=HAs.out;have hHH:∀j,(F j\/j=wD.heap.size+1\/(w.heap.size<=j/\j<w.heap.size+5))->j<((wD.alloc (.deferred (some []))).alloc (.loop (rc .ready none))).heap.size:=fun j hj=>by
  rw [hsz];rcases hj with hj | hj | hj
  ·have:=HFl.out j hj;omega
  ·omega
  ·omega
 have hbb1:¬(F wA.heap.size\/wA.heap.size=wD.heap.size+1\/(w.heap.size<=wA.heap.size/\wA.heap.size<w.heap.size+5)):=fun hh=>by
  rcases hh with hh | hh | hh
  ·have:=HFl.out _ hh;omega
  ·omega
  ·omega
 have hg0:cA w ((wD.alloc (.deferred (some []))).alloc (.loop (rc .ready none))) F wD.heap.size (fdL s i zz nm (.int .i64 0) (.int .i64 0) (.int .i64 0)) (rc .ready none) :=
  ⟨HKD.out.andBelow hb1,by show w.heap.size+5<=_;omega,fun k ob hk=>aj (aj (HrD.out k ob hk) _) _,aj y0 _,y1⟩
 have HHW:Hid (∀j,F j->j<wD.heap.size):=fun j hj=>by have:=HFl.out j hj;omega
 refine (jQ (wD.heap.size+1) wA.heap.size es HEs.out (fun j=>F j\/j=wD.heap.size+1\/(w.heap.size<=j/\j<w.heap.size+5))
  (fun k V=>cA w V F wD.heap.size (fdL s i zz nm (.int .i64 0) (.int .i64 0) (.int .i64 0)) (rc .ready none)/\∀j (hj:j<es.length),j<k->¬(es[j].1≠0/\es[j].2=nm))
  (fun k V=>(cA w V F wD.heap.size (fdL s i zz nm (.int .i64 (64*k:Nat)) (.int .i64 (es.getD k (0,[])).1) (.int .i64 0)) (rc .done (some .ret))/\∃U,U<=u+ubE es/\St V s m c F N ino Pg Cm fs o U)/\lookE es nm=some k) _
  (HSD.out.below hb1) HF.out HD.out hu hHH (fun j hj => .inl hj) hbb1
  (aj (aj HfD.out _) _) (fun k V V' hJk hk=>⟨hJk.1.keep HFl.out hk,hJk.2⟩)
  (fun k V q ob ob' hJk hq hb hc=>⟨hJk.1.off (by rw [hsz] at hq;omega) hb _,hJk.2⟩)
  (fun k V q ob ob' hJk hq hb hc=>⟨⟨hJk.1.1.off (by rw [hsz] at hq;omega) hb _,hJk.1.2.imp fun U hU=>⟨hU.1,hU.2.put HHW.out (by rw [hsz] at hq;omega) hb hc _⟩⟩,hJk.2⟩)
  (fun k V hk hz hJk=>⟨hJk.1,fun j hj hjk=>by
   by_cases e:j=k
   ·subst e;exact fun hh=>hh.1 hz
   ·exact hJk.2 j hj (by omega)⟩)
  (fun k U V hk hk0 hU hS hJk => ?round) ⟨hg0,fun j hj h0=>by omega⟩).mono ?_
 case round =>
  obtain ⟨hj,hlo⟩:=hJk;have hl':=hj.lp;rw [<- hrc] at hl';refine eB hl' rfl ?_;rw [hrc];clear hl' y0 y1 hb0 hb1 hsz hg0 hHH hbb1;have HNx:Hid (es[k].2≠nm->∀j (hj:j<es.length),j<k+1->¬(es[j].1≠0/\es[j].2=nm)):=fun h0 j hj hjk=>by
   by_cases e:j=k
   ·subst e;exact fun hh=>h0 hh.2
   ·exact hlo j hj (by omega)
  have HIs:Hid (es[k].2=nm->lookE es nm=some k):=fun h0=>rq hk hlo hk0 h0;have hgd:es.getD k (0,[])=es[k]:=by rw [List.getD_eq_getElem?_getD,List.getElem?_eq_getElem hk,Option.getD_some]
  rw [hgd];obtain ⟨xi,hxi⟩:∃xi,xi=es[k].1:=⟨_,rfl⟩;obtain ⟨xn,hxn⟩:∃xn,xn=es[k].2:=⟨_,rfl⟩;rw [<- hxn] at HNx HIs ⊢;rw [<- hxi];unfold lj a8;clear hxi hxn hlo hgd hk0;have HSV:=hid hS;have HJV:=hid hj;have HU:=hid hU;obtain ⟨kk,hkk⟩:∃kk:Int,kk=((64*k:Nat):Int):=⟨_,rfl⟩;rw [<- hkk];have HKK:=hid hkk;clear hS hj hU hkk;have hbx:=af V (.cells #[.int .i64 xi,.string ⟨xn.toArray⟩] 79);have hBx:=(Below.refl V.heap.size V).alloc (Nat.le_refl _) (.cells #[.int .i64 xi,.string ⟨xn.toArray⟩] 79)
  gi_wp2
  have hj2:=HJV.out.keep HFl.out (ac.of_below hBx:ac F V _);have hs2:=HSV.out.below hBx;refine ⟨hj2.lp,?_⟩;have hKV:aW (fun j=>F j\/j=wD.heap.size+1\/(w.heap.size<=j/\j<w.heap.size+5)) V (World.alloc V (.cells #[.int .i64 xi,.string ⟨xn.toArray⟩] 79)):=(ac.of_below hBx:ac F V _).toS (fun _ e => .inl e);generalize V.alloc _=V1 at *;have hne:V.heap.size≠wD.heap.size+1:=by have:=ae HJV.out.lp;omega
  have hj3:cA w (V1.putObj (wD.heap.size+1) (.loop (rc .busy none))) F wD.heap.size (fdL s i zz nm (.int .i64 0) (.int .i64 0) (.int .i64 0)) (rc .busy none):=hj2.put;have hx3:(V1.putObj (wD.heap.size+1) (.loop (rc .busy none))).heap[V.heap.size]? = some (.cells #[.int .i64 xi,.string ⟨xn.toArray⟩] 79 (0,0)):=(World.putObj_heap_other hne).trans hbx;have hs3:St (V1.putObj (wD.heap.size+1) (.loop (rc .busy none))) s m c F N ino Pg Cm fs o U:=hs2.put HHW.out (by omega) hj2.lp rfl _;have hK3:aW (fun j=>F j\/j=wD.heap.size+1\/(w.heap.size<=j/\j<w.heap.size+5)) V (V1.putObj (wD.heap.size+1) (.loop (rc .busy none))):=hKV.trans ((bn V1 _ _).toS (fun _ e => .inr (.inl e)));have hge3:wD.heap.size+1<V.heap.size:=ae HJV.out.lp;generalize V1.putObj _ _=V2 at *;have c0:V2.cell? ⟨V.heap.size,0,none⟩=some (.int .i64 xi):=aa hx3 0;have c1:V2.cell? ⟨V.heap.size,1,none⟩=some (.string ⟨xn.toArray⟩):=aa hx3 1;have cn:V2.cell? ⟨w.heap.size+1,0,none⟩=some (.string ⟨nm.toArray⟩):=aa (hj3.own 1 _ rfl) 0;have HJ3:=hid hj3;have HS3:=hid hs3;have HK3:=hid hK3;have HX3:=hid hx3;clear hj2 hs2 hKV hne hx3 hj3 hs3 hK3 hbx hBx;by_cases hz:xn=nm
  ·have HIx:=hid (HIs.out hz);subst hz;obtain ⟨B,hB⟩:∃B:ByteArray,B=⟨xn.toArray⟩:=⟨_,rfl⟩;rw [<- hB] at c1 cn;have hq:(B.toList==B.toList)=true:=by simp
   clear HIs HNx hB
   gi_wp2
   have hbd:=(Below.refl V2.heap.size V2).drew;have hj4:=HJ3.out.keep HFl.out (ac.of_below hbd:ac F V2 _);have hs4:=HS3.out.below hbd;have hk4:=HK3.out.trans ((ac.of_below hbd:ac F V2 _).toS (H:=fun j=>F j\/j=wD.heap.size+1\/(w.heap.size<=j/\j<w.heap.size+5)) (fun _ e => .inl e));have hx4:=ah hbd HX3.out (ae HX3.out);refine nD (S:=fun W=>W.cell? ⟨V.heap.size,0,none⟩=some (.int .i64 xi)) (by kernel_rfl) (by kernel_rfl) (aa hx4 0) (fun hHeld => ?_);clear HJ3 HS3 HK3 HX3 c0 c1 cn hq;generalize V2.drew=V4 at *;have c2:V4.cell? ⟨w.heap.size+1+1,0,none⟩=some (.int .i64 0):=aa (hj4.own 2 _ rfl) 0;have f2:V4.frozen? ⟨w.heap.size+1+1,0,none⟩=false:=ai (hj4.own 2 _ rfl) 0;have HJ4:=hid hj4;have HS4:=hid hs4;have HK4:=hid hk4;have HX4:=hid hx4;clear hj4 hs4 hk4 hx4 hbd;refine tq 0 _ ?_
   try simp only [tS]
   refine tq 1 _ ?_
   try simp only [tS]
   refine tq 2 _ ?_
   try simp only [tS]
   refine tr 3 (fun K hK => ?_);go_simp;have hj5:=HJ4.out.set (k:=2) (b:=w.heap.size+1+1) (y := .int .i64 kk) rfl rfl;have hs5:=HS4.out.setI (HJ4.out.own 2 _ rfl) (.inl ⟨_,rfl⟩) (by decide) (fun hh=>by have:=HFl.out _ hh;omega) (.int .i64 kk);have hx5:=(al (w:=V4) (b:=w.heap.size+1+1) 0 (.int .i64 kk) (show V.heap.size≠_ by omega)).trans HX4.out;have hk5:=HK4.out.trans ((ej V4 (w.heap.size+1+1) (.int .i64 kk)).toS (H:=fun j=>F j\/j=wD.heap.size+1\/(w.heap.size<=j/\j<w.heap.size+5)) (fun _ e => .inr (.inr (by have e':=e;subst e';omega))));refine hK.out _ _ (aa hx5 0) (fun hHeld => ?_);clear hHeld hK K;generalize V4.setCell _ _=V5 at *;have HJ5:=hid hj5;have HS5:=hid hs5;have HK5:=hid hk5;have HX5:=hid hx5;have S5:=aa hx5 0;have c5:V5.cell? ⟨w.heap.size+1+1+1,0,none⟩=some (.int .i64 0):=aa (hj5.own 3 _ rfl) 0;have f5:V5.frozen? ⟨w.heap.size+1+1+1,0,none⟩=false:=ai (hj5.own 3 _ rfl) 0;clear hj5 hs5 hk5 hx5
   try simp only [tS]
   refine tr 4 (fun K hK => ?_);go_simp;have hj6:=HJ5.out.set (k:=3) (b:=w.heap.size+1+1+1) (y := .int .i64 xi) rfl rfl;have hs6:=HS5.out.setI (HJ5.out.own 3 _ rfl) (.inl ⟨_,rfl⟩) (by decide) (fun hh=>by have:=HFl.out _ hh;omega) (.int .i64 xi);have hx6:=(al (w:=V5) (b:=w.heap.size+1+1+1) 0 (.int .i64 xi) (show V.heap.size≠_ by omega)).trans HX5.out;have hk6:=HK5.out.trans ((ej V5 (w.heap.size+1+1+1) (.int .i64 xi)).toS (H:=fun j=>F j\/j=wD.heap.size+1\/(w.heap.size<=j/\j<w.heap.size+5)) (fun _ e => .inr (.inr (by have e':=e;subst e';omega))));refine hK.out _ _ (aa hx6 0) (fun hHeld => ?_);clear hHeld hK K;generalize V5.setCell _ _=V6 at *;have HJ6:=hid hj6;have HS6:=hid hs6;have HK6:=hid hk6;have HX6:=hid hx6;have S6:=aa hx6 0;have c6:V6.cell? ⟨w.heap.size+1+1+1+1,0,none⟩=some (.int .i64 0):=aa (hj6.own 4 _ rfl) 0;have f6:V6.frozen? ⟨w.heap.size+1+1+1+1,0,none⟩=false:=ai (hj6.own 4 _ rfl) 0;clear hj6 hs6 hk6 hx6
   try simp only [tS]
   refine tr 5 (fun K hK => ?_);go_simp;have hj7:=HJ6.out.set (k:=4) (b:=w.heap.size+1+1+1+1) (y := .int .i64 0) rfl rfl;have hs7:=HS6.out.setI (HJ6.out.own 4 _ rfl) (.inl ⟨_,rfl⟩) (by decide) (fun hh=>by have:=HFl.out _ hh;omega) (.int .i64 0);have hx7:=(al (w:=V6) (b:=w.heap.size+1+1+1+1) 0 (.int .i64 0) (show V.heap.size≠_ by omega)).trans HX6.out;have hk7:=HK6.out.trans ((ej V6 (w.heap.size+1+1+1+1) (.int .i64 0)).toS (H:=fun j=>F j\/j=wD.heap.size+1\/(w.heap.size<=j/\j<w.heap.size+5)) (fun _ e => .inr (.inr (by have e':=e;subst e';omega))));refine hK.out _ _ (aa hx7 0) (fun hHeld => ?_);clear hHeld hK K;generalize V6.setCell _ _=V7 at *;have HJ7:=hid hj7;have HS7:=hid hs7;have HK7:=hid hk7;clear hj7 hs7 hk7 hx7;refine wpAnyH_done (by kernel_rfl) ?_ _;refine b9.normal ?_
   gi_wp2
   exact ⟨HJ7.out.lp,.inr ⟨rfl,⟨⟨HJ7.out.put,U,HU.out,HS7.out.put HHW.out (by omega) HJ7.out.lp rfl _⟩,HIx.out⟩,HK7.out.trans ((bn V7 _ _).toS (fun _ e => .inr (.inl e)))⟩⟩
  ·have hzb:¬((⟨xn.toArray⟩:ByteArray).toList=(⟨nm.toArray⟩:ByteArray).toList):=fun e=>hz (by rw [Lib.toList_data,Lib.toList_data] at e;exact e);obtain ⟨B,hB⟩:∃B:ByteArray,B=⟨xn.toArray⟩:=⟨_,rfl⟩;obtain ⟨B2,hB2⟩:∃B:ByteArray,B=⟨nm.toArray⟩:=⟨_,rfl⟩;rw [<- hB, <- hB2] at hzb;rw [<- hB] at c1;rw [<- hB2] at cn;have hq:(B.toList==B2.toList)=false:=beq_false_of_ne hzb;have HNn:=hid (HNx.out hz);clear HIs HNx hz hB hB2
   gi_wp2
   exact ⟨HJ3.out.lp,.inl ⟨rfl,⟨HJ3.out.put,fun j hj hjk h0 h1=>HNn.out j hj hjk ⟨h0,h1⟩⟩,HS3.out.put HHW.out (by omega) HJ3.out.lp rfl _,HK3.out.trans ((bn V2 _ _).toS (fun _ e => .inr (.inl e)))⟩⟩
 rintro e W2 ⟨⟨v,rfl⟩,hE⟩;refine ⟨⟨_,rfl⟩,?_⟩;rcases hE with ⟨⟨hj,hlo⟩,U,hU,hS⟩ | ⟨k,hk,⟨hX,U,hU,hS⟩,hIx⟩
 ·refine ⟨_,_,?_,hj.lp,?_⟩
  ·intro h;cases h
  have HIx:=hid (sC fun j hj=>hlo j hj hj);have HJ9:Hid (cA w (W2.putObj (wD.heap.size+1) (.loop (rc .exhausted none))) F wD.heap.size (fdL s i zz nm (.int .i64 0) (.int .i64 0) (.int .i64 0)) (rc .exhausted none)):=hj.put;have HS9:Hid (St (W2.putObj (wD.heap.size+1) (.loop (rc .exhausted none))) s m c F N ino Pg Cm fs o U):=hS.put HHW.out (by omega) hj.lp rfl _;have HU:=hid hU;subst hrc;clear hj hS hU hlo;generalize W2.putObj _ _=W3 at *;show Exit.inBlock 0 _ .normal _ _;have c2:W3.cell? ⟨w.heap.size+2,0,none⟩=some (.int .i64 0):=aa (HJ9.out.own 2 _ rfl) 0;have c3:W3.cell? ⟨w.heap.size+3,0,none⟩=some (.int .i64 0):=aa (HJ9.out.own 3 _ rfl) 0;have c4:W3.cell? ⟨w.heap.size+4,0,none⟩=some (.int .i64 0):=aa (HJ9.out.own 4 _ rfl) 0;have f2:W3.frozen? ⟨w.heap.size+2,0,none⟩=false:=ai (HJ9.out.own 2 _ rfl) 0;have f3:W3.frozen? ⟨w.heap.size+3,0,none⟩=false:=ai (HJ9.out.own 3 _ rfl) 0;have f4:W3.frozen? ⟨w.heap.size+4,0,none⟩=false:=ai (HJ9.out.own 4 _ rfl) 0
  gi_wp2
  have hj4:=HJ9.out.set (k:=2) (b:=w.heap.size+1+1) (y := .int .i64 0) rfl rfl;have hs4:=HS9.out.setI (HJ9.out.own 2 _ rfl) (.inl ⟨_,rfl⟩) (by decide) (fun hh=>by have:=HFl.out _ hh;omega) (.int .i64 0);have hs5:=hs4.setI (hj4.own 3 _ rfl) (.inl ⟨_,rfl⟩) (by decide) (fun hh=>by have:=HFl.out _ hh;omega) (.int .i64 0);have hj5:=hj4.set (k:=3) (b:=w.heap.size+1+1+1) (y := .int .i64 0) rfl rfl;have hs6:=hs5.setI (hj5.own 4 _ rfl) (.inl ⟨_,rfl⟩) (by decide) (fun hh=>by have:=HFl.out _ hh;omega) (.int .i64 4);have hj6:=hj5.set (k:=4) (b:=w.heap.size+1+1+1+1) (y := .int .i64 4) rfl rfl;refine ⟨by simp,.inl ⟨_,_,rfl,run_takeDeferred hj6.df,?_⟩⟩;refine ⟨_,jr rfl rfl rfl ((World.putObj_heap_other (by omega)).trans (hj6.own 2 _ rfl)) ((World.putObj_heap_other (by omega)).trans (hj6.own 3 _ rfl)) ((World.putObj_heap_other (by omega)).trans (hj6.own 4 _ rfl)),?_,hj6.low.putNew (by omega) _,U,HU.out,hs6.put HHW.out (Nat.le_refl _) hj6.df rfl _⟩;unfold eb;rw [HIx.out]
 ·refine ⟨_,_,?_,hX.lp,?_⟩
  ·intro h;cases h
  have HX9:Hid (cA w (W2.putObj (wD.heap.size+1) (.loop (rc .exhausted (some .ret)))) F wD.heap.size (fdL s i zz nm (.int .i64 (64*k:Nat)) (.int .i64 (es.getD k (0,[])).1) (.int .i64 0)) (rc .exhausted (some .ret))):=hX.put;have HS9:Hid (St (W2.putObj (wD.heap.size+1) (.loop (rc .exhausted (some .ret)))) s m c F N ino Pg Cm fs o U):=hS.put HHW.out (by omega) hX.lp rfl _;have HU:=hid hU;have HIx:=hid hIx;subst hrc;clear hX hS hU hIx hk;generalize W2.putObj _ _=W3 at *;show Code.wpIn Fence.wide 9 _ .ret _ _ _
  gi_wp2
  refine ⟨by simp,.inl ⟨_,_,rfl,run_takeDeferred HX9.out.df,?_⟩⟩;refine ⟨_,jr rfl rfl rfl ((World.putObj_heap_other (by omega)).trans (HX9.out.own 2 _ rfl)) ((World.putObj_heap_other (by omega)).trans (HX9.out.own 3 _ rfl)) ((World.putObj_heap_other (by omega)).trans (HX9.out.own 4 _ rfl)),?_,HX9.out.low.putNew (by omega) _,U,HU.out,HS9.out.put HHW.out (Nat.le_refl _) HX9.out.df rfl _⟩;unfold eb;rw [HIx.out]
end
end
section
set_option maxRecDepth 100000
set_option maxHeartbeats 4000000
open Go.RowKit
section
variable {w w':World} {s m c ino:Nat} {F:Nat->Prop} {N:Nat} {Pg Cm:Nat->List UInt8} {fs:Nat->Option ao} {o u:Nat} {i:Nat} {f:ao}
theorem kS (es:List (Nat×List UInt8)) (nm:List UInt8) (j:Nat) (hes:aZ es) (h:St w s m c F N ino Pg Cm fs o u) (hf:fs i=some f) (hd:f.data=aI es) (hu:u+(400+2*ubE es)<=800000)
  (hA:Calls Tryz.prog 30 #[.pointer (some ⟨s,0,none⟩),.int .i64 i,a8 nm] w fun e w'=>e = .returned (.tuple #[cY s i f.data.length,.int .i64 0])/\ac F w w'/\St w' s m c F N ino Pg Cm fs o (u+2))
  (hn:nm.length<=59) (hj1:1<=j) (hj:j<512) (hlk:lookE es nm=none) (hl:es.length<1104) (hfr:au (max (64*aR es+64) f.data.length)-f.cnt<=(ax (Pg 2) (3+ino / 8) N 4096).length) :
  Calls Tryz.prog 9 #[.pointer (some ⟨s,0,none⟩),.int .i64 i,a8 nm,.int .i64 j] w fun e w'=>e = .returned (.int .i64 0)/\ac F w w' /\
   ∃Pg' f' U,U<=u+(400+2*ubE es)/\f'.kind=f.kind/\f'.mode=f.mode/\f'.links=f.links/\f'.data=aI (cq es j nm)/\St w' s m c F N ino Pg' Cm (bj fs i (some f')) o U:=by
 have hlen:=aN hes.2;rw [hd,hlen] at hA hfr;have HA:=hid hA;have HF:=hid hf;have HD:=hid hd;have HEs:=hid hes;have HFl:=hid h.lt;have HFr:=hid hfr;have HLk:=hid hlk;have hq1:¬(j:Int)<1:=by omega
 have hq2:¬(512:Int)<=(j:Int):=by omega
 unfold cY a8 at HA;unfold a8;obtain ⟨zz,hzz⟩:∃zz:Int,zz=((64*es.length:Nat):Int):=⟨_,rfl⟩;rw [<- hzz] at HA;have HZ:=hid hzz;clear hA h hf hd hes hfr hlk hlen hzz;go_enter Tryz.func9,Tryz.ntmps9
 go_wp2_with fail
 refine HA.out.mono ?_;clear HA;rintro e w1 ⟨rfl,hk1,hs1⟩;have hba:=(Below.refl w1.heap.size w1).alloc (Nat.le_refl _) (.cells #[.pointer (some ⟨s,0,none⟩),.int .i64 i,.int .i64 zz] 69);have hxa:=af w1 (.cells #[.pointer (some ⟨s,0,none⟩),.int .i64 i,.int .i64 zz] 69);have HK1:=hid hk1;have HSa:=hid (hs1.below hba);have HXa:=hid hxa;have HBa:=hid hba;clear hk1 hs1 hba hxa;have HFd:=hid (fun W (hS:St W s m c F N ino Pg Cm fs o (u+2))=>gB es nm HEs.out hS HF.out HD.out (by omega));unfold cY a8 at HFd;rw [<- HZ.out] at HFd;have hfv:eb es nm = .tuple #[.int .i64 0,.int .i64 0,.int .i64 4]:=by unfold eb;rw [HLk.out]
 rw [hfv] at HFd;clear hfv
 go_wp2_with fail
 refine (HFd.out _ HSa.out).mono ?_;clear HFd;rintro e w2 ⟨rfl,hk2,U2,hU2,hs2⟩;have HK2:=hid hk2;have HS2:=hid hs2;have HU2:=hid hU2;have HX2:=hid (hk2.heap HXa.out (fun hh=>by have:=HFl.out _ hh;have:=HK1.out.size;omega));have c0:=aa HX2.out 0;clear hk2 hs2 hU2 HSa
 go_wp2_with fail
 have hbd:=(Below.refl w2.heap.size w2).drew;have hs3:=HS2.out.below hbd;have hx3:=ah hbd HX2.out (ae HX2.out);have hk3:ac F w w2.drew:=((HK1.out.andBelow HBa.out).trans HK2.out (fun _ e => .inl e)).andBelow hbd;clear c0;refine wp_region_held_drew (S:=fun W=>W.cell? ⟨w1.heap.size,0,none⟩=some (.pointer (some ⟨s,0,none⟩))/\W.cell? ⟨w1.heap.size,1,none⟩=some (.int .i64 i)/\W.cell? ⟨w1.heap.size,2,none⟩=some (.int .i64 zz)) (by kernel_rfl) ⟨aa hx3 0,aa hx3 1,aa hx3 2⟩ (fun hHeld => ?_);clear HS2 HX2 HXa HK2 HBa hbd;generalize w2.drew=w3 at *;have hw13:w1.heap.size<w3.heap.size:=ae hx3;have hF1:∀i,F i->i<w1.heap.size:=fun i hi=>Nat.lt_of_lt_of_le (HFl.out i hi) HK1.out.size;have HFi:=hid (tj es HEs.out hs3 HF.out HD.out (by have:=HU2.out;omega));unfold cY at HFi;rw [<- HZ.out] at HFi;have hql:=d9 es;have HAd:=hid (vY HEs.out.2 j nm hn);obtain ⟨q,hq⟩:∃q,q=64*aR es:=⟨_,rfl⟩;rw [<- hq] at HFi HAd HFr;have hq7:q+64<=70656:=by omega
 have HX3:=hid hx3;have HK3:=hid hk3;have HF1:=hid hF1;have HQ7:=hid hq7;clear hs3 hx3 hk3 hq hql hF1 hq7;refine tq 0 _ ?_
 try simp only [tS]
 refine tq 1 _ ?_
 try simp only [tS]
 refine tq 2 _ ?_
 try simp only [tS]
 refine tq 3 _ ?_
 try simp only [tS]
 refine tq 4 _ ?_
 try simp only [tS]
 refine tq 6 _ ?_
 try simp only [tS]
 refine tq 7 _ ?_
 try simp only [tS]
 refine tq 8 _ ?_
 try simp only [tS]
 refine tr 5 (fun K hK => ?_);go_simp;refine HFi.out.mono ?_;clear HFi;rintro e w4 ⟨rfl,hk4,U4,hU4,hs4⟩;have hx4:=hk4.heap HX3.out (fun hh=>by have:=HF1.out _ hh;omega);have HK4:Hid (ac F w w4):=HK3.out.trans hk4 (fun _ e => .inl e);have HS4:=hid hs4;have HU4:=hid hU4;have hw14:w1.heap.size<w4.heap.size:=ae hx4;have e0:=aa hx4 0;have e1:=aa hx4 1;have e2:=aa hx4 2;have HX4:=hid hx4;clear hk4 hs4 hU4 hx4 HX3 HK3 hw13
 go_wp2_with fail
 refine hK.out _ _ ⟨e0,e1,e2⟩ (fun hHeld => ?_);clear hK K e0 e1 e2
 try simp only [tS]
 have HEn:=hid (xz j nm hj hn w4);unfold lj a8 at HEn;refine tr 9 (fun K hK => ?_);go_simp;refine HEn.out.mono ?_;clear HEn;rintro e w5 ⟨g,rfl,hg,hown,hb5⟩;have hx5:=ah hb5 HX4.out (ae HX4.out);have HK5:=hid (HK4.out.andBelow hb5);have HS5:=hid (HS4.out.below hb5);have hlE:=dE (i:=j) hn;have HWr:=hid (ly HS5.out HF.out (by have:=HU4.out;have:=HU2.out;omega) q (q+64) (eZ j nm) g 0 64 (fun k hk=>by rw [Addr.add_mid,Nat.zero_add];exact hown.cell k hk) (by rw [hlE];exact Nat.le_refl _) (fun hh=>by have:=HF1.out _ hh;omega) (ae hown) (by rw [hlE]) (by rw [hlE];omega) HQ7.out (by rw [HD.out,aN HEs.out.2];exact HFr.out));rw [hlE,HD.out,HAd.out] at HWr;have e0:=aa hx5 0;have e1:=aa hx5 1;have e2:=aa hx5 2;have HX5:=hid hx5;clear hb5 hown hg hx5 HX4 HK4 HS4 HAd hlE hw14
 go_wp2_with fail
 refine hK.out _ _ ⟨e0,e1,e2⟩ (fun hHeld => ?_);clear hK K e0 e1 e2
 try simp only [tS]
 refine tr 10 (fun K hK => ?_);go_simp;refine HWr.out.mono ?_;clear HWr;rintro e w6 ⟨rfl,hk6,Pg',f',h61,h62,h63,h64,hs6⟩;have hx6:=hk6.heap HX5.out (fun hh=>by have:=HF1.out _ hh;omega);have e0:=aa hx6 0;have e1:=aa hx6 1;have e2:=aa hx6 2;have HE:Hid (ac F w w6/\∃Pg' f' U,U<=u+(400+2*ubE es)/\f'.kind=f.kind/\f'.mode=f.mode/\f'.links=f.links/\f'.data=aI (cq es j nm)/\St w6 s m c F N ino Pg' Cm (bj fs i (some f')) o U) :=
  ⟨HK5.out.trans hk6 (fun _ e => .inl e),Pg',f',_,by have:=HU4.out;have:=HU2.out;omega,h61,h62,h63,h64,hs6⟩
 clear hk6 h61 h62 h63 h64 hs6 hx6 HX5 HK5 HS5
 go_wp2_with fail
 refine hK.out _ _ ⟨e0,e1,e2⟩ (fun hHeld => ?_);clear hK K
 try simp only [tS]
 refine tq 11 _ ?_
 try simp only [tS]
 refine wpAnyH_done (by kernel_rfl) ?_ _;clear hHeld e0 e1 e2;go_wp2;go_ret;exact ⟨rfl,HE.out⟩
end
end
section
set_option maxRecDepth 100000
set_option maxHeartbeats 1000000
open Go.RowKit
def io:Value := .agg #[.pointer none,.int .i64 0,.int .i64 0]
section
variable {w w':World} {s m c ino:Nat} {F:Nat->Prop} {N:Nat} {Pg Cm:Nat->List UInt8} {fs:Nat->Option ao} {o u:Nat} {i:Nat} {f:ao}
theorem jb (h:St w s m c F N ino Pg Cm fs o u) (hf:fs i=some f) (hk:f.kind=2) (hu:u<900000) (nm:ByteArray) (hN:∀W,Calls Tryz.prog 77 #[.string nm] W fun e W'=>e = .returned (.bool false)/\Below W.heap.size W W'):Calls Tryz.prog 30 #[.pointer (some ⟨s,0,none⟩),.int .i64 i,.string nm] w fun e w'=>e = .returned (.tuple #[io,.int .i64 8])/\ac F w w'/\St w' s m c F N ino Pg Cm fs o (u+2):=by
 obtain ⟨wA,hA⟩:∃wA,wA=w.alloc (.cells #[.pointer none,.int .i64 0,.int .i64 0] 69):=⟨_,rfl⟩;have hba:Below w.heap.size w wA:=by rw [hA];exact (Below.refl _ w).alloc (Nat.le_refl _) _
 have hra:wA.heap[w.heap.size]? = some (.cells #[.pointer none,.int .i64 0,.int .i64 0] 69 (0,0)):=by rw [hA];exact af w _
 have HOp:=hid (ir (h.below hba) hf hk hu);have HNm:=hid hN;have HFl:=hid h.lt;have HBA:=hid hba;have HRA:=hid hra;unfold cY at HOp;unfold io;clear h hf hk hba hra hN;go_enter Tryz.func30,Tryz.ntmps30
 go_wp2_with fail
 rw [<- hA];clear hA;refine HOp.out.mono ?_;clear HOp;rintro e w1 ⟨rfl,hk1,hs1⟩;have HR1:=hid (hk1.heap HRA.out (fun hh=>Nat.lt_irrefl _ (HFl.out _ hh)));have HS1:=hid hs1;have HK1:Hid (ac F w w1):=(ac.of_below HBA.out:ac F w wA).trans hk1 (fun i e => .inl e);clear hk1 hs1
 go_wp2_with fail
 have hba:=(Below.refl w1.heap.size w1).alloc (Nat.le_refl _) (.cells #[.pointer (some ⟨s,0,none⟩),.int .i64 i,.int .i64 f.data.length] 69);have hxa:=af w1 (.cells #[.pointer (some ⟨s,0,none⟩),.int .i64 i,.int .i64 f.data.length] 69);refine (HNm.out _).mono ?_;clear HNm;rintro e w2 ⟨rfl,hb2⟩;have hb12:=hba.trans (hb2.mono hba.size);have HR2:=hid (ah hb12 HR1.out (ae HR1.out));have HS2:=hid (HS1.out.below hb12);have HK2:Hid (ac F w w2):=HK1.out.trans (ac.of_below hb12:ac F w1 w2) (fun i e => .inl e);clear hba hxa hb2 hb12 HS1 HK1 HR1
 go_wp2_with (refine am rfl 69 (.tmp 6) (.tmp 23) rfl w.heap.size #[.pointer none,.int .i64 0,.int .i64 0] rfl rfl _ _ HR2.out rfl (by kernel_rfl) (by simp [Value.oneCell']) ?_;intro w3 hg3 hb3 hz3;refine Hid.out ?_)
 have HB3:=hid hb3;have hk3:ac (fun j=>j=w.heap.size) w2 w3:=ac.of_grown hg3 (fun i e=>(Option.some.inj e).symm);have HS3:=hid (HS2.out.keepD HR2.out ja (fun hh=>Nat.lt_irrefl _ (HFl.out _ hh)) hk3);have HK3:Hid (ac F w w3):=HK2.out.trans hk3 (fun i e => .inr (by have e':i=w.heap.size:=e;omega));clear hg3 hb3 hz3 hk3 HS2 HK2 HR2;refine hid ?_;go_wp2;exact bodyPost_ret (e8 rfl rfl HB3.out rfl) rfl ⟨rfl,HK3.out,HS3.out⟩
end
end
section
set_option maxRecDepth 100000
set_option maxHeartbeats 4000000
open Go.RowKit
def fA:ByteArray:=⟨#[0,47]⟩
theorem uS (w:World):Calls Tryz.prog 228 #[.string fA,.int .i32 65533] w fun e w'=>e = .returned (.int .i64 (-1))/\Below w.heap.size w w':=by
 have hs:fA.size=2:=rfl;go_enter Tryz.func228,Tryz.ntmps228;go_wp2
 go_loopw [5,6] (fun _ _ w'=>∃i:Nat,i<=2/\w'=w.iter fA i) (fun _ _ w'=>2-w'.iterPos w.heap.size)
 case atStart=>exact ⟨0,by omega,rfl⟩
 case round =>
  obtain ⟨i,hi,rfl⟩:=hrel;rcases (show i=0\/i=1\/i=2 by omega) with rfl | rfl | rfl
  ·have hnx:=fun ty=>run_next_ascii (P:=Tryz.prog) w fA 0 ty (by decide) (by decide);rw [show ((fA[0]'(by decide)).toNat:Int)=0 from rfl] at hnx;go_wp2
   go_roundw
   case rel=>exact ⟨1,by omega,rfl⟩
   case measure=>simp
  ·have hnx:=fun ty=>run_next_ascii (P:=Tryz.prog) w fA 1 ty (by decide) (by decide);rw [show ((fA[1]'(by decide)).toNat:Int)=47 from rfl] at hnx;go_wp2
   go_roundw
   case rel=>exact ⟨2,by omega,rfl⟩
   case measure=>simp
  ·have hnx:=fun ty=>run_next_end (P:=Tryz.prog) w fA 2 ty (by decide);go_wp2;go_ret;exact ⟨rfl,(Below.refl _ w).alloc (Nat.le_refl _) _⟩
theorem si (r:Int) (h0:128<=r) (h1:r<=2147483647) (h2:r≠65533) (w:World):Calls Tryz.prog 228 #[.string fA,.int .i32 r] w fun e w'=>e = .returned (.int .i64 (-1))/\Below w.heap.size w w':=by
 have hs:fA.size=2:=rfl;have q1:(0:Int)<=r:=by omega
 have q2:¬r<128:=by omega
 have q3:(r==65533)=false:=beq_false_of_ne h2;have HV:=hid (Any.utf8_ValidRune { Tryz.lays150 with } r);cases hv:Lib.validRune r
 ·rw [hv] at HV;go_enter Tryz.func228,Tryz.ntmps228
  go_wp2_with fail
  refine (HV.out _).mono ?_;rintro e w1 ⟨rfl,rfl⟩;go_wp2;go_ret;exact ⟨rfl,Below.refl _ _⟩
 ·rw [hv] at HV;have hen:=encode_facts r (by rw [validRune_eq];exact hv) h0;obtain ⟨x,hx⟩:∃x,x=Utf8.encode r:=⟨_,rfl⟩;rw [<- hx] at hen;obtain ⟨e1,e2,e3⟩:=hen;have HX:=hid hx;clear hx;go_enter Tryz.func228,Tryz.ntmps228
  go_wp2_with fail
  refine (HV.out _).mono ?_;rintro e w1 ⟨rfl,rfl⟩;go_wp2;refine wp_scope_straight ?_;have e4:(x.size:Int)-1=((x.size-1:Nat):Int):=by omega
  have HE3:=hid e3;have hdx:(Utf8.encode r).size=x.size:=by rw [HX.out]
  clear e3;go_wp2;rw [<- HX.out];clear hdx
  go_loopw [9] (fun n w'=>n = .int .i64 (x.size-1:Nat)/\w'=w1) (fun _ _=>0)
  case atStart=>exact ⟨rfl,rfl⟩
  case round =>
   obtain ⟨rfl,rfl⟩:=hrel;by_cases h3:x.size=2
   ·have h3':((x.size-1:Nat):Int)=1:=by omega
    rw [h3'];have y1:fA[1]'(by decide)=47:=rfl;have hy8:128<=(x[1]'(by rw [h3];decide)).toNat:=by have:=HE3.out (by omega);simp only [h3] at this;exact this
    have hne:((47:Int) != ((x[1]'(by rw [h3];decide)).toNat:Int))=true:=bne_iff_ne.2 (by omega);have HIB:=hid (fun s c W=>Any.strings_IndexByte { Tryz.lays150 with } (P:=Tryz.prog) s c W);clear h3' e4;go_wp2;refine wp_scope_straight ?_;go_wp2
    go_quiet (fail)
    go_wp2;have hw9:Below wr.heap.size wr (wr.drewN nq):=by first | exact (Below.refl _ _).drew | exact cX (Below.refl _ _) _
    generalize wr.drewN nq=wq at *;have HW9:=hid hw9;clear hw9;refine wp_region_held_drew (S:=fun _=>True) (by kernel_rfl) trivial (fun hHeld => ?_);have HD9:=hid (HW9.out.drew);generalize wq.drew=wd at *;have hw2:IntKind.i64.wrap 2=2:=rfl;refine tq 0 _ ?_
    try simp only [tS]
    refine tq 1 _ ?_
    try simp only [tS]
    refine tk 2 (.int .i64 2) rfl (by kernel_rfl) (fun _ _ _ h=>h) (by rfl) (by assumption) ?_ ?_
    ·(intro W hSw;go_simp)
    try simp only [tS]
    refine tq 3 _ ?_
    try simp only [tS]
    refine tq 4 _ ?_
    try simp only [tS]
    refine tq 5 _ ?_
    try simp only [tS]
    refine tq 6 _ ?_
    try simp only [tS]
    refine tr 7 (fun K hK => ?_);go_simp;refine (HIB.out ByteArray.empty _ wd).mono ?_;rintro e w2 ⟨rfl,rfl⟩;rw [show Lib.indexByte ByteArray.empty.data.toList _ = -1 from rfl]
    go_wp2_with fail
    refine hK.out _ _ trivial (fun hHeld => ?_);clear hK K
    try simp only [tS]
    refine tq 8 _ ?_
    try simp only [tS]
    refine wpAnyH_done (by kernel_rfl) ?_ _;clear hHeld;go_wp2;rw [Exit.noGoto_ret];go_wp2;rw [Exit.noGoto_ret];go_wp2;go_ret;exact ⟨rfl,HD9.out⟩
   ·have h3':¬((x.size-1:Nat):Int)<(fA.size:Int):=by rw [hs];omega
    go_wp2;go_ret;exact ⟨rfl,Below.refl _ _⟩
theorem s8 (s:ByteArray) (p:Nat) (hp:p<s.size) (ha:128<=(s[p]'hp).toNat):∀j,p<=j->j<p+(Utf8.decode s p).2->j<s.size->∀x,s.data.toList[j]? = some x->128<=x.toNat:=by
 intro j h1 h2 h3 x hx;have hg:∀k (hk:k<s.size),s.get! (k+0)=s[k]'hk:=fun k hk=>get_at s k hk;have hxj:x=s[j]'h3:=by
  have:=Lib.data_getElem? s j h3;rw [this] at hx;exact (Option.some.inj hx).symm
 by_cases e:j=p
 ·subst e;rw [hxj];exact ha
 ·have hgj:=hg j h3;rw [Nat.add_zero] at hgj;have hc:(s.get! j).toNat / 64=2:=by
   unfold Utf8.decode at h2;simp only [Bool.and_eq_true,beq_iff_eq,decide_eq_true_eq] at h2;have hk:j=p+1\/j=p+2\/j=p+3\/p+4<=j:=by omega
   split at h2
   ·omega
   ·split at h2
    ·rename_i h4
     split at h2
     ·rcases hk with rfl | rfl | rfl | hk
      ·exact h4.2.2
      all_goals (simp only at h2;omega)
     ·simp only at h2;omega
    ·split at h2
     ·rename_i h4
      split at h2
      ·rcases hk with rfl | rfl | rfl | hk
       ·exact h4.1.2.2
       ·exact h4.2.2
       all_goals (simp only at h2;omega)
      ·simp only at h2;omega
     ·split at h2
      ·rename_i h4
       split at h2
       ·rcases hk with rfl | rfl | rfl | hk
        ·exact h4.1.1.2.2
        ·exact h4.1.2.2
        ·exact h4.2.2
        ·simp only at h2;omega
       ·simp only at h2;omega
      ·simp only at h2;omega
  rw [hgj] at hc;rw [hxj];omega
theorem qj {W:World} {b:Nat} {s:ByteArray} {pos:Nat} (ty:TypeId) (hb:W.heap[b]? = some (.stringIter s pos)) (h:pos<s.size) :
  (Instr.next (.pointer (some ⟨b,0,none⟩)) true ty).run Tryz.prog W = .ok (.tuple #[.bool true,.int .i64 pos,.int .i32 (Utf8.decode s pos).1]) (W.putObj b (.stringIter s (pos+(Utf8.decode s pos).2))):=by
 simp only [Instr.next,getObj,setObj,Sem.run_bind,Sem.run,hb,Result.andThen,h,if_true];simp [goInt,World.putObj]
theorem me {W:World} {b:Nat} {s:ByteArray} {pos:Nat} (ty:TypeId) (hb:W.heap[b]? = some (.stringIter s pos)) (h:¬pos<s.size) :
  (Instr.next (.pointer (some ⟨b,0,none⟩)) true ty).run Tryz.prog W = .ok (.tuple #[.bool false]) W:=by
 simp [Instr.next,getObj,Sem.run,hb,h]
theorem tM (s:ByteArray) (h8:s.size<=8) (w:World):Calls Tryz.prog 192 #[.string s,.string fA] w fun e w'=>e = .returned (.int .i64 (Lib.indexAny s.data.toList [0,47]))/\Below w.heap.size w w':=by
 have hs:fA.size=2:=rfl;have hemp:fA.toList.isEmpty=false:=by rw [Lib.toList_data];rfl
 have h8z:decide ((8:Int)<(s.size:Int))=false:=decide_eq_false (by omega);have HU:=hid (fun n W=>Any.strings_shouldUseASCIISet { Tryz.lays150 with } (P:=Tryz.prog) n W);go_enter Tryz.func192,Tryz.ntmps192
 go_wp2_with fail
 refine (HU.out _ _).mono ?_;rintro e w1 ⟨rfl,rfl⟩;rw [h8z];clear HU;have HB:=hid (fun W=>uS W);have HG:=hid (fun r h0 h1 h2 W=>si r h0 h1 h2 W);have HA:=hid (fun s r W h0 h1=>Any.strings_IndexRune_ascii { Tryz.lays150 with } (P:=Tryz.prog) s r W h0 h1);go_wp2
 go_loopw [9,10] (fun _ _ wx=>∃i:Nat,Hid (wx.heap[w1.heap.size]? = some (.stringIter s i))/\Hid (Below w1.heap.size w1 wx)/\Hid (Lib.NoAny s.data.toList [0,47] i)) (fun _ _ wx=>s.size-wx.iterPos w1.heap.size)
 case atStart=>exact ⟨0,World.iter_heap w1 s 0,(Below.refl _ w1).alloc (Nat.le_refl _) _,Lib.NoAny.zero _ _⟩
 case round =>
  obtain ⟨i,hit,hbl,hno⟩:=hrel;have HPos:=hid (iterPos_of hit.out);by_cases hi:i<s.size
  ·obtain ⟨x,hx⟩:∃x:UInt8,s[i]'hi=x:=⟨_,rfl⟩;have hxl:s.data.toList[i]? = some x:=by rw [<- hx];exact Lib.data_getElem? s i hi
   have HXL:=hid hxl;clear hxl;have hnx:=fun ty=>qj (b:=w1.heap.size) ty hit.out hi;have HN1:Hid (∀q,(wr.putObj w1.heap.size (.stringIter s q)).heap[w1.heap.size]? = some (.stringIter s q)/\Below w1.heap.size w1 (wr.putObj w1.heap.size (.stringIter s q))):=fun q=>⟨World.putObj_heap_same (ae hit.out),hbl.out.grown (grownBy_putObj' wr _ _) hbl.out.size (fun k e=>by cases e;exact Nat.le_refl _)⟩;by_cases hx8:x.toNat<128
   ·rw [decode_ascii s i hi (by rw [hx];exact hx8),hx] at hnx;clear hx;simp only at hnx;have hcon:=Lib.contains_iff_indexByte [0,47] x;have hback:((x.toNat:Int)).toNat.toUInt8=x:=by simp
    have HAx:=hid (fun W=>HA.out fA (x.toNat:Int) W (by omega) (by omega));rw [hback,show fA.data.toList=[0,47] from rfl] at HAx;obtain ⟨hq1,hq2⟩:=HN1.out (i+1);generalize wr.putObj w1.heap.size _=wq at *;have HQ1:=hid hq1;have HQ2:=hid hq2;clear hback HA HB HG HN1 hq1 hq2;cases hin:([0,47]:List UInt8).contains x
    ·rw [hin] at hcon;have hlt:¬((0:Int)<=Lib.indexByte [0,47] x):=of_decide_eq_false hcon.symm;clear hcon
     go_wp2_with fail
     refine (HAx.out _).mono ?_;rintro e w2 ⟨rfl,rfl⟩;go_wp2
     go_roundw
     case rel=>exact ⟨i+1,HQ1,HQ2,hno.out.succ HXL.out hin⟩
     case measure=>rw [iterPos_of HQ1.out,HPos.out];omega
    ·rw [hin] at hcon;have hge:(0:Int)<=Lib.indexByte [0,47] x:=of_decide_eq_true hcon.symm;clear hcon
     go_wp2_with fail
     refine (HAx.out _).mono ?_;rintro e w2 ⟨rfl,rfl⟩;go_wp2;go_ret;exact ⟨by rw [Lib.indexAny_hit hno.out HXL.out hin];rfl,HQ2.out⟩
   ·have hd:=decode_high s i hi (by rw [hx];omega);have hle:=decode_le s i;have HR:=hid (s8 s i hi (by rw [hx];omega));clear hx;generalize Utf8.decode s i=d at *;obtain ⟨r,q⟩:=d;simp only at hnx hd hle HR;have HIR:Hid (∀W,Calls Tryz.prog 228 #[.string fA,.int .i32 r] W fun e w'=>e = .returned (.int .i64 (-1))/\Below W.heap.size W w'):=fun W=>by
     by_cases e:r=65533
     ·subst e;exact HB.out W
     ·exact HG.out r (by omega) (by omega) (by omega) W
    obtain ⟨hq1,hq2⟩:=HN1.out (i+q);generalize wr.putObj w1.heap.size _=wq at *;have HQ1:=hid hq1;have HQ2:=hid hq2;have HD:=hid hd;clear HA HB HG HN1 hq1 hq2 hd hle
    go_wp2_with fail
    refine (HIR.out _).mono ?_;rintro e w2 ⟨rfl,hb2⟩;have HQ3:=hid (ah hb2 HQ1.out (ae HQ1.out));have HB3:=hid (HQ2.out.trans (hb2.mono HQ2.out.size));clear hb2;go_wp2
    go_roundw
    case rel =>
     refine ⟨i+q,HQ3,HB3,fun j b hj hb => ?_⟩;by_cases e:j<i
     ·exact hno.out j b e hb
     ·have hjs:j<s.size:=by rw [Lib.size_eq];exact (List.getElem?_eq_some_iff.1 hb).1
      have h1:=HR.out j (by omega) hj hjs b hb;have h2:b≠0:=fun e=>by subst e;exact absurd h1 (by decide)
      have h3:b≠47:=fun e=>by subst e;exact absurd h1 (by decide)
      simp [h2,h3]
    case measure=>rw [iterPos_of HQ3.out,HPos.out];have:=HD.out;omega
  ·have hnx:=fun ty=>me (b:=w1.heap.size) ty hit.out hi;go_wp2;go_ret;refine ⟨by rw [Lib.indexAny_none (fun j b hj hb=>hno.out j b (by rw [<- Lib.size_eq] at hj;omega) hb)];rfl,hbl.out⟩
theorem jU:(Tryz.prog.info? (Tryz.lays150_ren.t 116)).map (fun i=>(i.zero,i.size))=some (some (.agg (Array.replicate 256 (.bool false))),256):=by kernel_rfl
theorem xw (s:ByteArray) (hs:s.size<4294967281) (w:World):Calls Tryz.prog 192 #[.string s,.string fA] w fun e w'=>e = .returned (.int .i64 (Lib.indexAny s.data.toList [0,47]))/\Below w.heap.size w w':=by
 by_cases h8:s.size<=8
 ·exact tM s h8 w
 ·refine (Any.strings_IndexAny_long { Tryz.lays150 with } (P:=Tryz.prog) (zero_of_info jU).1 (zero_of_info jU).2 s fA w (by decide) (by omega) hs (by decide) (fun j b hb => ?_)).mono fun e w' ⟨h1,h2⟩=>⟨h1,?_⟩
  ·match j,hb with
   | 0,hb=>cases hb;decide
   | 1,hb=>cases hb;decide
  ·rw [h2];exact ((Below.refl _ _).alloc (Nat.le_refl _) _).alloc (by simp) _
theorem xa (s:ByteArray) (hs:s.size<4294967281) (w:World):Calls Tryz.prog 139 #[.string s,.string fA] w fun e w'=>e = .returned (.bool (Lib.containsAny s.data.toList [0,47]))/\Below w.heap.size w w':=by
 have HI:=hid (xw s hs w);go_enter Tryz.func139,Tryz.ntmps139
 go_wp2_with fail
 refine HI.out.mono ?_;rintro e w1 ⟨rfl,hb⟩;have HB:=hid hb;clear hb;go_wp2;go_ret;exact ⟨rfl,HB.out⟩
def kM (s:ByteArray):Bool:=decide (1<=s.size)&&decide (s.size<=59) && !(s.toList==[46]) && !(s.toList==[46,46]) && !Lib.containsAny s.data.toList [0,47]
theorem cH (s:ByteArray) (w:World):Calls Tryz.prog 77 #[.string s] w fun e w'=>e = .returned (.bool (kM s))/\Below w.heap.size w w':=by
 unfold kM;by_cases h1:s.size<1
 ·have q1:(s.size:Int)<1:=by omega
  go_enter Tryz.func77,Tryz.ntmps77;go_wp2;go_ret;exact ⟨by rw [decide_eq_false (by omega)];rfl,Below.refl _ _⟩
 ·have q1:¬(s.size:Int)<1:=by omega
  by_cases h2:s.size<=59
  ·have q2:¬(59:Int)<(s.size:Int):=by omega
   have HC:=hid (xa s (by omega) w);unfold fA at HC;rw [decide_eq_true (by omega:1<=s.size),decide_eq_true h2];simp only [Bool.true_and];cases e1:(s.toList==[46])
   ·have f1:¬s.toList=[46]:=fun e=>by rw [e] at e1;exact absurd e1 (by decide)
    cases e2:(s.toList==[46,46])
    ·have f2:¬s.toList=[46,46]:=fun e=>by rw [e] at e2;exact absurd e2 (by decide)
     generalize Lib.containsAny s.data.toList [0,47]=y at *;go_enter Tryz.func77,Tryz.ntmps77
     go_wp2_with fail
     refine HC.out.mono ?_;rintro e w1 ⟨rfl,hb⟩;have HB:=hid hb;clear hb;go_wp2;go_ret;exact ⟨by simp,HB.out⟩
    ·have f2:s.toList=[46,46]:=by simpa using e2
     go_enter Tryz.func77,Tryz.ntmps77;go_wp2;go_ret;exact ⟨rfl,Below.refl _ _⟩
   ·have f1:s.toList=[46]:=by simpa using e1
    go_enter Tryz.func77,Tryz.ntmps77;go_wp2;go_ret;exact ⟨rfl,Below.refl _ _⟩
  ·have q2:(59:Int)<(s.size:Int):=by omega
   go_enter Tryz.func77,Tryz.ntmps77;go_wp2;go_ret;exact ⟨rfl,Below.refl _ _⟩
end
section
set_option maxHeartbeats 1000000
open Go.RowKit
def RdT (w:World) (v:Value) (xs:List ByteArray):Prop:=∃a c,v = .slice a xs.length c/\xs.length<=c/\((c:Int)<=9223372036854775807)/\∀k (h:k<xs.length),∃b o,a=some ⟨b,o,none⟩/\b<w.heap.size/\w.cell? ⟨b,o+k,none⟩=some (.string xs[k])
theorem RdT.up {w w':World} {v:Value} {xs:List ByteArray} (h:RdT w v xs) (hB:Below w.heap.size w w'):RdT w' v xs:=by
 obtain ⟨a,c,h1,h2,h2',h3⟩:=h;refine ⟨a,c,h1,h2,h2',fun k hk => ?_⟩;obtain ⟨b,o,e,hb,hc⟩:=h3 k hk;exact ⟨b,o,e,Nat.lt_of_lt_of_le hb hB.size,(World.cell?_of_block (w:=w) (hB.block b hb)).trans hc⟩
theorem lY (xs:List ByteArray) (u v:Value) (w:World) (ha:RdT w u xs) (hb:RdT w v xs) :
  Calls Tryz.prog 16 #[u,v] w fun e w'=>e = .returned (.bool true)/\Below w.heap.size w w':=by
 have HA:=hid ha;have HB:=hid hb;obtain ⟨pa,ca,rfl,q1,q1',-⟩:=ha;obtain ⟨pb,cb,rfl,-⟩:=hb;have hne:((xs.length:Int) != (xs.length:Int))=false:=by rw [bne_eq_false_iff_eq]
 go_enter Tryz.func16,Tryz.ntmps16;go_wp2
 go_loopw [5] (fun i wr=>∃k:Nat,k<=xs.length/\i = .int .i64 k/\Below w.heap.size w wr) (fun i _=>xs.length-(intOf i).toNat)
 case atStart=>exact ⟨0,by omega,rfl,Below.refl _ _⟩
 case round =>
  obtain ⟨k,hk,rfl,hB⟩:=hrel;by_cases hlt:k<xs.length
  ·obtain ⟨a',c',e1,-,-,f1⟩:=HA.out.up hB;obtain ⟨a2,c2,e2,-,-,f2⟩:=HB.out.up hB;simp only [Value.slice.injEq] at e1 e2;obtain ⟨rfl,-,rfl⟩:=e1;obtain ⟨rfl,-,rfl⟩:=e2;obtain ⟨b0,o0,rfl,-,d0⟩:=f1 k hlt;obtain ⟨b1,o1,rfl,-,d1⟩:=f2 k hlt;clear f1 f2;have hi0:(0:Int)<=(k:Int):=by omega
   have hi1:(k:Int)<(xs.length:Int):=by omega
   generalize xs[k]=x at *;have hq:(x.toList==x.toList)=true:=by simp
   go_wp2
   go_quiet (fail)
   go_wp2
   go_roundw
   case rel=>exact ⟨k+1,by omega,by go_num,by first | exact hB.drew | exact cX hB _⟩
   case measure=>simp [intOf];omega
  ·have hge:¬((k:Int)<(xs.length:Int)):=by omega
   go_wp2;go_ret;exact ⟨rfl,hB⟩
end
section
set_option maxRecDepth 100000
set_option maxHeartbeats 2000000
open Go.RowKit
def dp:List UInt8->List (List UInt8)
 | []=>[[]]
 | x :: l=>if x=47 then [] :: dp l else match dp l with
  | []=>[[x]]
  | y :: ys=>(x :: y) :: ys
theorem t7:∀l,dp l≠[]
 | []=>by simp [dp]
 | x :: l=>by
  rw [dp]
  split
  ·simp
  ·split <;> simp
theorem sG (x:UInt8) (l:List UInt8) (h:x≠47):Lib.index (x :: l) [47]=if Lib.index l [47] == -1 then -1 else Lib.index l [47]+1:=by
 have hp:([47]:List UInt8).isPrefixOf (x :: l)=false:=by simp [List.isPrefixOf,Ne.symm h]
 rw [Lib.index,hp];simp
theorem lX:∀l:List UInt8,Lib.splitK [47] 0 (l.count 47) l=dp l
 | []=>rfl
 | x :: l=>by
  have ih:=lX l;rw [dp];by_cases h:x=47
  ·subst h;rw [if_pos rfl,List.count_cons_self,Lib.splitK];have hi:Lib.index (47 :: l) [47]=0:=by rw [Lib.index];simp [List.isPrefixOf]
   rw [hi];simpa using ih
  ·rw [if_neg h,List.count_cons_of_ne (by simpa using h), <- ih];cases hk:l.count 47 with
   | zero=>rfl
   | succ k =>
    rw [Lib.splitK,Lib.splitK,sG x l h];by_cases hm:Lib.index l [47] = -1
    ·rw [hm];simp
    ·have hge:=Lib.index_ge l [47];obtain ⟨j,hj⟩:∃j:Nat,Lib.index l [47]=j:=⟨(Lib.index l [47]).toNat,by omega⟩;rw [hj];have e1:((j:Int) == -1)=false:=beq_false_of_ne (by omega);have e2:(((j:Int)+1) == -1)=false:=beq_false_of_ne (by omega);have e3:((j:Int)+1).toNat=j+1:=by omega
     simp only [e1,e2,e3,Bool.false_eq_true,if_false,Int.toNat_natCast,Nat.add_zero,List.take_succ_cons,List.length_singleton];rw [show j+1+1=(j+1)+1 from rfl,List.drop_succ_cons]
theorem oM:∀l:List UInt8,Lib.join (dp l) [47]=l
 | []=>rfl
 | x :: l=>by
  have ih:=oM l;rw [dp];by_cases h:x=47
  ·subst h;rw [if_pos rfl];cases hs:dp l with
   | nil=>exact absurd hs (t7 l)
   | cons y ys =>
    rw [hs,Lib.join_cons] at ih;rw [Lib.join_cons, <- ih];simp [Lib.joinTail]
  ·rw [if_neg h];cases hs:dp l with
   | nil=>exact absurd hs (t7 l)
   | cons y ys =>
    rw [hs,Lib.join_cons] at ih;rw [Lib.join_cons, <- ih]
    rfl
def nameL (l:List UInt8):Bool:=decide (1<=l.length)&&decide (l.length<=59) && !(l==[46]) && !(l==[46,46]) && !Lib.containsAny l [0,47]
theorem bU (s:ByteArray):kM s=nameL s.data.toList:=by
 unfold kM nameL;rw [Lib.toList_data,Lib.size_eq]
theorem je {l:List UInt8} (h:nameL l=true):1<=l.length/\l.length<=59:=by
 unfold nameL at h;simp only [Bool.and_eq_true,decide_eq_true_eq] at h;exact ⟨h.1.1.1.1,h.1.1.1.2⟩
theorem xQ (ns:List (List UInt8)) (h:∀x∈ns,x.length<=59):(Lib.join ns [47]).length<=60*ns.length:=by
 cases ns with
 | nil=>simp [Lib.join_nil]
 | cons x r =>
  have hx:=h x List.mem_cons_self;have hr:(Lib.joinTail [47] r).length<=60*r.length:=by
   have h':∀y∈r,y.length<=59:=fun y hy=>h y (List.mem_cons_of_mem _ hy);clear h hx
   induction r with
   | nil=>simp [Lib.joinTail]
   | cons y r ih =>
    have h1:=ih (fun z hz=>h' z (List.mem_cons_of_mem _ hz));have h2:=h' y List.mem_cons_self;unfold Lib.joinTail at h1 ⊢;rw [List.map_cons,List.flatten_cons,List.length_append,List.length_append,List.length_cons,List.length_cons];simp only [List.length_nil];omega
  rw [Lib.join_cons,List.length_append,List.length_cons];omega
def gv (ns:List (List UInt8)):Option (List UInt8):=if ns.length<=16/\(∀x∈ns,nameL x=true)/\(Lib.join ns [47]).length<=254 then some (47 :: Lib.join ns [47]) else none
def fV (l:List UInt8):Option (List (List UInt8)):=match l with
 | 47 :: r=>if 254<r.length then none else if r=[] then some [] else if (dp r).length<=16/\∀x∈dp r,nameL x=true then some (dp r) else none
 | _=>none
def xf:Option (List UInt8)->Value
 | none => .tuple #[.string ⟨#[]⟩,.int .i64 8]
 | some p => .tuple #[.string ⟨p.toArray⟩,.int .i64 0]
theorem vo (xs:List ByteArray) (v:Value) (w:World) (h:RdT w v xs):Calls Tryz.prog 74 #[v] w fun e w'=>e = .returned (xf (gv (xs.map (·.data.toList))))/\Below w.heap.size w w':=by
 have HR:=hid h;obtain ⟨a,c,rfl,hc,hcm,hx⟩:=h;clear hx;by_cases h16:16<xs.length
 ·have hn:gv (xs.map (·.data.toList))=none:=by unfold gv;rw [if_neg (by simp;omega)]
  have HNn:=hid hn;clear hn;have q:(16:Int)<(xs.length:Int):=by omega
  go_enter Tryz.func74,Tryz.ntmps74;go_wp2;go_returns;exact ⟨by rw [HNn.out];rfl,Below.refl _ _⟩
 ·have q:¬(16:Int)<(xs.length:Int):=by omega
  go_enter Tryz.func74,Tryz.ntmps74;go_wp2
  go_loopw [12] (fun i wr=>∃k:Nat,k<=xs.length/\i = .int .i64 k/\Hid (Below w.heap.size w wr)/\Hid (∀j (hj:j<xs.length),j<k->nameL xs[j].data.toList=true)) (fun i _=>xs.length-(intOf i).toNat)
  case atStart=>exact ⟨0,by omega,rfl,Below.refl _ _,fun j hj h0=>by omega⟩
  case round =>
   obtain ⟨k,hk,rfl,HB,HO⟩:=hrel;by_cases hlt:k<xs.length
   ·obtain ⟨a',c',e1,-,-,f1⟩:=HR.out.up HB.out;simp only [Value.slice.injEq] at e1;obtain ⟨rfl,-,rfl⟩:=e1;obtain ⟨b0,o0,rfl,-,d0⟩:=f1 k hlt;clear f1;have hi0:(0:Int)<=(k:Int):=by omega
    have hi1:(k:Int)<(xs.length:Int):=by omega
    have HN:=hid (cH xs[k] wr);rw [bU] at HN;have HOk:Hid (nameL xs[k].data.toList=true->∀j (hj:j<xs.length),j<k+1->nameL xs[j].data.toList=true):=fun h0 j hj hjk=>by
     by_cases e:j=k
     ·subst e;exact h0
     ·exact HO.out j hj (by omega)
    have HNo:Hid (nameL xs[k].data.toList=false->gv (xs.map (·.data.toList))=none):=fun h0=>by
     unfold gv;rw [if_neg];rintro ⟨-,h2,-⟩;have:=h2 xs[k].data.toList (List.mem_map.2 ⟨xs[k],List.getElem_mem hlt,rfl⟩);rw [h0] at this;cases this
    generalize nameL xs[k].data.toList=y at *;generalize xs[k]=x at *
    go_wp2_with fail
    refine HN.out.mono ?_;rintro e w1 ⟨rfl,hb1⟩;have HB1:=hid (HB.out.trans (hb1.mono HB.out.size));clear hb1 HN d0;cases y
    ·have HNn:=hid (HNo.out rfl);clear HOk HNo;go_wp2;go_returns;exact ⟨by rw [HNn.out];rfl,HB1.out⟩
    ·have HO1:=hid (HOk.out rfl);clear HOk HNo;go_wp2
     go_roundw
     case rel=>exact ⟨k+1,by omega,by go_num,HB1,HO1⟩
     case measure=>simp [intOf];omega
   ·obtain rfl:k=xs.length:=by omega
    have hge:¬((xs.length:Int)<(xs.length:Int)):=by omega
    have hall:∀x∈xs.map (·.data.toList),nameL x=true:=fun x hx=>by
     obtain ⟨y,hy,rfl⟩:=List.mem_map.1 hx;obtain ⟨j,hj,rfl⟩:=List.getElem_of_mem hy;exact HO.out j hj hj
    have hjl:(Lib.join (xs.map (·.data.toList)) [47]).length<=1000:=by
     have:=xQ (xs.map (·.data.toList)) (fun x hx=>(je (hall x hx)).2);rw [List.length_map] at this;omega
    have HJn:Hid (Calls Tryz.prog 138 #[.slice a xs.length c,.string ⟨#[47]⟩] wr fun e w'=>e = .returned (.string ⟨(Lib.join (xs.map (·.data.toList)) [47]).toArray⟩)/\Below wr.heap.size wr w'):=by
     by_cases h0:xs.length=0
     ·have e0:xs=[]:=List.eq_nil_of_length_eq_zero h0;subst e0;refine (Tryz.strings_Join_none a c ⟨#[47]⟩ wr).mono ?_;rintro e w1 ⟨rfl,rfl⟩;exact ⟨rfl,Below.refl _ _⟩
     ·obtain ⟨a',c',e1,-,-,f1⟩:=HR.out.up HB.out;simp only [Value.slice.injEq] at e1;obtain ⟨rfl,-,rfl⟩:=e1;obtain ⟨b0,o0,rfl,hb0,-⟩:=f1 0 (by omega);exact Tryz.strings_Join b0 o0 c xs ⟨#[47]⟩ wr (fun j x hj=>by
       obtain ⟨h1,h2⟩:=List.getElem?_eq_some_iff.1 hj;obtain ⟨b1,o1,e1,-,d1⟩:=f1 j h1;cases e1;rw [<- h2];exact d1) hb0 (by omega) hc (by show (Lib.join (xs.map (·.data.toList)) [47]).length<=_;omega)
    have HJ1:Hid ((Lib.join (xs.map (·.data.toList)) [47]).length<=254->gv (xs.map (·.data.toList))=some (47 :: Lib.join (xs.map (·.data.toList)) [47])):=fun h2=>by unfold gv;rw [if_pos ⟨by simp;omega,hall,h2⟩]
    have HJ2:Hid (¬(Lib.join (xs.map (·.data.toList)) [47]).length<=254->gv (xs.map (·.data.toList))=none):=fun h2=>by unfold gv;rw [if_neg (fun hh=>h2 hh.2.2)]
    clear hall;generalize Lib.join (xs.map (·.data.toList)) [47]=p at *
    go_wp2_with fail
    refine HJn.out.mono ?_;rintro e w1 ⟨rfl,hb1⟩;have HB1:=hid (HB.out.trans (hb1.mono HB.out.size));clear hb1 HJn;by_cases h2:p.length<=254
    ·have HNn:=hid (HJ1.out h2);clear HJ1 HJ2;have hq:¬(255:Int)<((1+p.length:Nat):Int):=by omega
     go_wp2;go_returns;exact ⟨by rw [HNn.out];rfl,HB1.out⟩
    ·have HNn:=hid (HJ2.out h2);clear HJ1 HJ2;have hq:(255:Int)<((1+p.length:Nat):Int):=by omega
     go_wp2;go_returns;exact ⟨by rw [HNn.out];rfl,HB1.out⟩
end
section
set_option maxRecDepth 100000
set_option maxHeartbeats 4000000
open Go.RowKit
section
variable {w w':World} {s m c ino:Nat} {F:Nat->Prop} {N:Nat} {Pg Cm:Nat->List UInt8} {fs:Nat->Option ao} {o u:Nat} {i:Nat} {f:ao}
theorem xb (nm:ByteArray) (j:Int) {r:Int} (hr:r≠0) {fv:Value} {Q:World->Prop} (hfv:fv=io)
  (hA:Calls Tryz.prog 30 #[.pointer (some ⟨s,0,none⟩),.int .i64 i,.string nm] w fun e w'=>e = .returned (.tuple #[fv,.int .i64 r])/\Q w') (hQ:∀V V',Q V->Below V.heap.size V V'->Q V') :
  Calls Tryz.prog 9 #[.pointer (some ⟨s,0,none⟩),.int .i64 i,.string nm,.int .i64 j] w fun e w'=>e = .returned (.int .i64 r)/\Q w':=by
 subst hfv;have hr0:(r != 0)=true:=bne_iff_ne.2 hr;have hr1:(r==0)=false:=beq_false_of_ne hr;have HA:=hid hA;unfold io at HA;clear hA;go_enter Tryz.func9,Tryz.ntmps9
 go_wp2_with fail
 refine HA.out.mono ?_;clear HA;rintro e w1 ⟨rfl,hq⟩;have HE:=hid (hQ _ _ hq ((Below.refl w1.heap.size w1).alloc (Nat.le_refl _) (.cells #[.pointer none,.int .i64 0,.int .i64 0] 69)));clear hq
 go_wp2_with fail
 go_ret;exact ⟨rfl,HE.out⟩
theorem tu (es:List (Nat×List UInt8)) (nm:List UInt8) (j:Nat) (hes:aZ es) (h:St w s m c F N ino Pg Cm fs o u) (hf:fs i=some f) (hd:f.data=aI es) (hu:u+(400+2*ubE es)<=800000)
  (hA:Calls Tryz.prog 30 #[.pointer (some ⟨s,0,none⟩),.int .i64 i,a8 nm] w fun e w'=>e = .returned (.tuple #[cY s i f.data.length,.int .i64 0])/\ac F w w'/\St w' s m c F N ino Pg Cm fs o (u+2))
  (hj1:1<=j) (hj:j<512) {k:Nat} (hlk:lookE es nm=some k) :
  Calls Tryz.prog 9 #[.pointer (some ⟨s,0,none⟩),.int .i64 i,a8 nm,.int .i64 j] w fun e w'=>e = .returned (.int .i64 5)/\ac F w w'/\∃U,U<=u+(400+2*ubE es)/\St w' s m c F N ino Pg Cm fs o U:=by
 have hlen:=aN hes.2;rw [hd,hlen] at hA;have HA:=hid hA;have HF:=hid hf;have HD:=hid hd;have HEs:=hid hes;have HFl:=hid h.lt;have HLk:=hid hlk;have hq1:¬(j:Int)<1:=by omega
 have hq2:¬(512:Int)<=(j:Int):=by omega
 unfold cY a8 at HA;unfold a8;obtain ⟨zz,hzz⟩:∃zz:Int,zz=((64*es.length:Nat):Int):=⟨_,rfl⟩;rw [<- hzz] at HA;have HZ:=hid hzz;clear hA h hf hd hes hlk hlen hzz;go_enter Tryz.func9,Tryz.ntmps9
 go_wp2_with fail
 refine HA.out.mono ?_;clear HA;rintro e w1 ⟨rfl,hk1,hs1⟩;have hba:=(Below.refl w1.heap.size w1).alloc (Nat.le_refl _) (.cells #[.pointer (some ⟨s,0,none⟩),.int .i64 i,.int .i64 zz] 69);have HK1:=hid hk1;have HSa:=hid (hs1.below hba);have HBa:=hid hba;clear hk1 hs1 hba;have HFd:=hid (fun W (hS:St W s m c F N ino Pg Cm fs o (u+2))=>gB es nm HEs.out hS HF.out HD.out (by omega));unfold cY a8 at HFd;rw [<- HZ.out] at HFd;have hfv:eb es nm = .tuple #[.int .i64 (64*k:Nat),.int .i64 (es.getD k (0,[])).1,.int .i64 0]:=by unfold eb;rw [HLk.out]
 rw [hfv] at HFd;generalize ((64*k:Nat):Int)=k1 at *;generalize (((es.getD k (0,[])).1:Nat):Int)=k2 at *;clear hfv
 go_wp2_with fail
 refine (HFd.out _ HSa.out).mono ?_;clear HFd;rintro e w2 ⟨rfl,hk2,U2,hU2,hs2⟩;have HE:Hid (ac F w w2/\∃U,U<=u+(400+2*ubE es)/\St w2 s m c F N ino Pg Cm fs o U):=⟨(HK1.out.andBelow HBa.out).trans hk2 (fun _ e => .inl e),U2,by omega,hs2⟩;clear hk2 hs2 hU2 HSa;go_wp2;go_ret;exact ⟨rfl,HE.out⟩
end
def zA (w:World) (s m c:Nat) (F:Nat->Prop) (N ino:Nat) (Pg Cm:Nat->List UInt8) (fs:Nat->Option ao) (o u i:Nat) (f:ao) (es:List (Nat×List UInt8)) (nm:List UInt8) (j:Nat) (e:Ending) (w':World):Prop :=
 ac F w w'/\((nameL nm=false/\e = .returned (.int .i64 8)/\St w' s m c F N ino Pg Cm fs o (u+(400+2*ubE es))) \/
  (nameL nm=true/\(∃k,lookE es nm=some k)/\e = .returned (.int .i64 5)/\St w' s m c F N ino Pg Cm fs o (u+(400+2*ubE es))) \/
  (nameL nm=true/\lookE es nm=none/\e = .returned (.int .i64 0)/\∃Pg' f',f'.kind=f.kind/\f'.data=aI (cq es j nm)/\St w' s m c F N ino Pg' Cm (bj fs i (some f')) o (u+(400+2*ubE es))))
theorem ye {w:World} {s m c ino:Nat} {F:Nat->Prop} {N:Nat} {Pg Cm:Nat->List UInt8} {fs:Nat->Option ao} {o u:Nat} {i:Nat} {f:ao} (es:List (Nat×List UInt8)) (nm:ByteArray) (j:Nat) (hes:aZ es) (h:St w s m c F N ino Pg Cm fs o u) (hf:fs i=some f) (hk:f.kind=2) (hd:f.data=aI es) (hu:u+(400+2*ubE es)<=800000)
  (hj1:1<=j) (hj:j<512) (hl:es.length<1104) (hfr:au (max (64*aR es+64) f.data.length)-f.cnt<=(ax (Pg 2) (3+ino / 8) N 4096).length) :
  Calls Tryz.prog 9 #[.pointer (some ⟨s,0,none⟩),.int .i64 i,.string nm,.int .i64 j] w (zA w s m c F N ino Pg Cm fs o u i f es nm.data.toList j):=by
 have hN:=fun W=>cH nm W;have hnm:a8 nm.data.toList = .string nm:=by unfold a8;simp
 cases hok:nameL nm.data.toList with
 | false =>
  rw [bU,hok] at hN;refine (xb nm j (r:=8) (by decide) rfl (Q:=fun W=>ac F w W/\St W s m c F N ino Pg Cm fs o (u+2)) (jb h hf hk (by omega) nm hN) (fun V V' hq hb=>⟨hq.1.andBelow hb,hq.2.below hb⟩)).mono ?_;rintro e w' ⟨rfl,h1,h2⟩;exact ⟨h1,.inl ⟨hok,rfl,h2.more (by omega)⟩⟩
 | true =>
  rw [bU,hok] at hN;have hA:=eT h hf hk (by omega) nm hN;rw [<- hnm] at hA ⊢;cases hlk:lookE es nm.data.toList with
  | some k =>
   refine (tu es nm.data.toList j hes h hf hd hu hA hj1 hj hlk).mono ?_;rintro e w' ⟨rfl,h1,U,hU,h2⟩;exact ⟨h1,.inr (.inl ⟨hok,⟨k,hlk⟩,rfl,h2.more hU⟩)⟩
  | none =>
   refine (kS es nm.data.toList j hes h hf hd hu hA (je hok).2 hj1 hj hlk hl hfr).mono ?_;rintro e w' ⟨rfl,h1,Pg',f',U,hU,h3,-,-,h4,h2⟩;exact ⟨h1,.inr (.inr ⟨hok,hlk,rfl,Pg',f',h3,h4,h2.more hU⟩)⟩
end
end Go.Proofs.YtpiieilffkickaaGreatDoor
