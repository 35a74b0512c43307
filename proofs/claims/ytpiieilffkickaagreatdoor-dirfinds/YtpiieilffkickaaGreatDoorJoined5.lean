/- Several of my texts in one: InGood, InTake, InOver, InTailP, InRound, InTail, InCut, InHoldD, InHoldG, InLast, InWrite, InSt, R6Kit, R6Look, R6Set, R6Com, R6New, R6Map, R6First, InStW, AlApp, InPgs, InStP, InLive, InMake, InLive2, InBytes, InRd. -/
import Derived.Test.YtpiieilffkickaaGreatDoorJoined4
import Derived.RangeFuncNested
import Derived.RangeFuncBound
import Derived.RangeFuncCalls
import Derived.RangeFuncLeaves
import Derived.Deep.RegionHeld3
import Derived.OrdersIn
import Derived.OrdersHeld
import Derived.OwnWalkIn
import Derived.TacticsInMore
import Derived.Test.YtpiieilffkickaaGreatDoorJoined3
import Derived.Test.YtpiieilffkickaaGreatDoorJoined2
namespace Go.Proofs.YtpiieilffkickaaGreatDoor
section
open Go.RowKit
structure ao where
 kind:Nat
 mode:Nat
 links:Nat
 slots:List Nat
 cnt:Nat
 data:List UInt8
def ao.slot (f:ao) (j:Nat):Nat:=f.slots.getD j 0
def ao.S (f:ao) (i size:Nat):bD:=⟨i,f.kind,f.mode,f.links,size,f.slots⟩
def ao.node (f:ao):bu:=⟨f.kind,f.mode,f.links,f.data.length,f.slots.take 11⟩
structure ao.ok (f:ao) (a N:Nat):Prop where
 kind:f.kind<=3
 mode:f.mode<=4095
 links:f.links<=65535
 size:f.data.length<=70656
 len:f.slots.length=139
 cnt:f.cnt<=139
 need:au f.data.length<=f.cnt
 in_:∀j,j<f.cnt->a<=f.slot j/\f.slot j<N
 zero:∀j,f.cnt<=j->f.slot j=0
theorem ao.ok.lt {f:ao} {a N:Nat} (h:f.ok a N) (ha:0<N) (j:Nat):f.slot j<N:=by
 by_cases hj:j<f.cnt
 ·exact (h.in_ j hj).2
 ·rw [h.zero j (by omega)];exact ha
theorem ao.ok.each {f:ao} {a N:Nat} (h:f.ok a N) (ha:0<N) (hN:N<=4096):∀p∈f.slots,p<4294967296:=fun p hp=>by
 obtain ⟨j,hj,rfl⟩:=List.getElem_of_mem hp;have h1:=h.lt ha j;unfold ao.slot at h1;rw [List.getD_eq_getElem?_getD,List.getElem?_eq_getElem hj] at h1;have h2:f.slots[j]<N:=h1;omega
theorem ao.ok.node {f:ao} {a N:Nat} (h:f.ok a N) (ha:0<N) (hN:N<=4096):f.node.ok :=
 ⟨by show f.kind<256;have:=h.kind;omega,by show f.mode<65536;have:=h.mode;omega,by show f.links<65536;have:=h.links;omega,by show f.data.length<4294967296;have:=h.size;omega,by show (f.slots.take 11).length=11;rw [List.length_take,h.len];rfl,fun p hp=>h.each ha hN p (List.mem_of_mem_take hp)⟩
theorem ec {k z:Nat} (h:k<z) (hz:z<=70656):aC (k / 512)<au z/\aC (k / 512)≠10:=by
 unfold aC au fillN;have h2:¬70656<z:=by omega
 simp only [h2,if_false];constructor
 ·split <;> split <;> omega
 ·split <;> omega
theorem ew {z:Nat} (h:5120<z) (hz:z<=70656):11<au z:=by
 unfold au fillN;rw [if_neg (by omega),if_pos h];omega
theorem ll {j k:Nat} (h:aC j=aC k):j=k:=by
 unfold aC at h
 split at h <;> split at h <;> omega
def bj (fs:Nat->Option ao) (i:Nat) (f:Option ao):Nat->Option ao:=fun k=>if k=i then f else fs k
theorem updA_cases {fs:Nat->Option ao} {i:Nat} {f:Option ao} {k:Nat} {g:ao} (h:bj fs i f k=some g):(k=i/\f=some g)\/(k≠i/\fs k=some g):=by
 unfold bj at h
 split at h
 ·exact .inl ⟨by assumption,h⟩
 ·exact .inr ⟨by assumption,h⟩
theorem aK (fs:Nat->Option ao) (i:Nat) (f:Option ao):bj fs i f i=f:=if_pos rfl
theorem eu {fs:Nat->Option ao} {i k:Nat} {f:Option ao} (h:k≠i):bj fs i f k=fs k:=if_neg h
structure aF (sk:Nat->Prop) (N ino:Nat) (Pg:Nat->List UInt8) (fs:Nat->Option ao):Prop where
 n4:N<=4096
 nf:3+ino / 8<=N
 h8:ino%8=0
 i5:ino<=512
 len:∀p,p<N->(Pg p).length=512
 ibit:∀i,i<ino->(de (Pg 1) i=true ↔ i=0\/(fs i).isSome=true)
 out:∀i f,fs i=some f->0<i/\i<ino
 file:∀i f,fs i=some f->f.ok (3+ino / 8) N
 tab:∀i f,fs i=some f->fJ Pg i
 node:∀i f,fs i=some f->¬sk i->cT (Pg (3+i / 8)) i=dr f.node/\f.cnt=au f.data.length/\(5120<f.data.length->Pg (f.slot 10)=bg (f.slots.drop 11) 128)
 data:∀i f,fs i=some f->∀k,k<f.data.length->(Pg (f.slot (aC (k / 512)))).getD (k%512) 0=f.data.getD k 0
 pbit:∀p,3+ino / 8<=p->p<N->(de (Pg 2) p=true ↔ ∃i f j,fs i=some f/\j<f.cnt/\f.slot j=p)
 apart:∀i f j i' f' j',fs i=some f->fs i'=some f'->j<f.cnt->j'<f'.cnt->f.slot j=f'.slot j'->i=i'/\j=j'
def gq:Nat->Prop:=fun _=>False
section
variable {sk:Nat->Prop} {N ino:Nat} {Pg Pg':Nat->List UInt8} {fs:Nat->Option ao} {i:Nat} {f:ao}
theorem aF.weak (h:aF gq N ino Pg fs):aF sk N ino Pg fs :=
 ⟨h.n4,h.nf,h.h8,h.i5,h.len,h.ibit,h.out,h.file,h.tab,fun i f hf _=>h.node i f hf (fun e=>e),h.data,h.pbit,h.apart⟩
theorem aF.tabLt (h:aF sk N ino Pg fs) {i:Nat} (hi:i<ino):3+i / 8<3+ino / 8:=by have:=h.h8;omega
theorem aF.at_ (h:aF sk N ino Pg fs) {i:Nat} {f:ao} (hf:fs i=some f) {k:Nat} (hk:k<f.data.length):aC (k / 512)<f.cnt/\aC (k / 512)≠10:=by
 have h1:=h.file i f hf;have h2:=ec hk h1.size;exact ⟨Nat.lt_of_lt_of_le h2.1 h1.need,h2.2⟩
theorem aF.pages (h:aF sk N ino Pg fs) (hf:fs i=some f) (hs:sk i) (hl:∀p,p<N->(Pg' p).length=512) (hp:∀p,(∀j,j<f.cnt->f.slot j≠p)->Pg' p=Pg p)
  (d:List UInt8) (hd:d.length<=70656) (hn:au d.length<=f.cnt) (hdt:∀k,k<d.length->(Pg' (f.slot (aC (k / 512)))).getD (k%512) 0=d.getD k 0) :
  aF sk N ino Pg' (bj fs i (some { f with data:=d })):=by
 have hok:=h.file i f hf;have hlow:∀p,p<3+ino / 8->Pg' p=Pg p:=fun p hp'=>hp p (fun j hj e=>by have:=(hok.in_ j hj).1;omega);have hoth:∀i' f' j',fs i'=some f'->i'≠i->j'<f'.cnt->Pg' (f'.slot j')=Pg (f'.slot j'):=fun i' f' j' hf' hne hj'=>hp _ (fun j hj e=>hne (h.apart i f j i' f' j' hf hf' hj hj' e).1.symm);have hi:=h.out i f hf;refine ⟨h.n4,h.nf,h.h8,h.i5,hl,fun k hk => ?_,fun k g hg => ?_,fun k g hg => ?_,fun k g hg => ?_,fun k g hg hns => ?_,fun k g hg x hx => ?_,fun p hp1 hp2 => ?_,fun k g j k' g' j' hg hg' hj hj' e => ?_⟩
 ·rw [hlow 1 (by omega),h.ibit k hk];by_cases e:k=i
  ·subst e;rw [aK,hf];simp
  ·rw [eu e]
 ·rcases updA_cases hg with ⟨rfl,-⟩ | ⟨-,hg⟩
  ·exact hi
  ·exact h.out k g hg
 ·rcases updA_cases hg with ⟨rfl,e⟩ | ⟨-,hg⟩
  ·cases e;exact ⟨hok.kind,hok.mode,hok.links,hd,hok.len,hok.cnt,hn,hok.in_,hok.zero⟩
  ·exact h.file k g hg
 ·have hk:k<ino/\fJ Pg k:=by
   rcases updA_cases hg with ⟨rfl,-⟩ | ⟨-,hg⟩
   ·exact ⟨hi.2,h.tab k f hf⟩
   ·exact ⟨(h.out k g hg).2,h.tab k g hg⟩
  unfold fJ;rw [hlow _ (h.tabLt hk.1)];exact hk.2
 ·rcases updA_cases hg with ⟨rfl,-⟩ | ⟨hne,hg⟩
  ·exact absurd hs hns
  ·obtain ⟨h1,h2,h3⟩:=h.node k g hg hns;rw [hlow _ (h.tabLt (h.out k g hg).2)];refine ⟨h1,h2,fun hb => ?_⟩;rw [hoth k g 10 hg hne (by rw [h2];have:=ew hb (h.file k g hg).size;omega)];exact h3 hb
 ·rcases updA_cases hg with ⟨rfl,e⟩ | ⟨hne,hg⟩
  ·cases e;exact hdt x hx
  ·rw [hoth k g _ hg hne (h.at_ hg hx).1];exact h.data k g hg x hx
 ·rw [hlow 2 (by omega),h.pbit p hp1 hp2];constructor
  ·rintro ⟨k,g,j,hg,hj,e⟩;by_cases hk:k=i
   ·subst hk;rw [hf] at hg;cases hg;exact ⟨k,_,j,aK _ _ _,hj,e⟩
   ·exact ⟨k,g,j,(eu hk).trans hg,hj,e⟩
  ·rintro ⟨k,g,j,hg,hj,e⟩;rcases updA_cases hg with ⟨rfl,e'⟩ | ⟨-,hg⟩
   ·cases e';exact ⟨k,f,j,hf,hj,e⟩
   ·exact ⟨k,g,j,hg,hj,e⟩
 ·have t:∀ {k:Nat} {g:ao},bj fs i (some { f with data:=d }) k=some g->∃g0,fs k=some g0/\g0.cnt=g.cnt/\g0.slots=g.slots:=fun {k g} hg=>by
   rcases updA_cases hg with ⟨rfl,e'⟩ | ⟨-,hg⟩
   ·cases e';exact ⟨f,hf,rfl,rfl⟩
   ·exact ⟨g,hg,rfl,rfl⟩
  obtain ⟨g0,a1,a2,a3⟩:=t hg;obtain ⟨g1,b1,b2,b3⟩:=t hg';exact h.apart k g0 j k' g1 j' a1 b1 (by rw [a2];exact hj) (by rw [b2];exact hj') (by unfold ao.slot;rw [a3,b3];exact e)
end
end
section
open Go.RowKit
theorem pB (n j:Nat):(zN n).getD j 0=0:=by
 unfold zN;rw [List.getD_eq_getElem?_getD];by_cases h:j<n
 ·rw [List.getElem?_eq_getElem (by simpa using h)];simp
 ·rw [List.getElem?_eq_none (by simpa using h)];rfl
def nB (Pg:Nat->List UInt8) (f:ao):Prop:=∀k,f.data.length<=k->aC (k / 512)<f.cnt->(Pg (f.slot (aC (k / 512)))).getD (k%512) 0=0
def ao.grow (f:ao) (q:Nat):ao:={ f with slots:=f.slots.set f.cnt q,cnt:=f.cnt+1 }
theorem gD {f:ao} {q j:Nat} (h:j≠f.cnt):(f.grow q).slot j=f.slot j:=by
 unfold ao.grow ao.slot;rw [List.getD_eq_getElem?_getD,List.getElem?_set_ne (fun e=>h e.symm), <- List.getD_eq_getElem?_getD]
theorem ky {f:ao} {q:Nat} (h:f.cnt<f.slots.length):(f.grow q).slot f.cnt=q:=by
 unfold ao.grow ao.slot;rw [List.getD_eq_getElem?_getD,List.getElem?_set_self h];rfl
section
variable {sk:Nat->Prop} {N ino:Nat} {Pg Pg':Nat->List UInt8} {fs:Nat->Option ao} {i:Nat} {f:ao}
theorem uF {q p:Nat} (h2:p≠2) (hq:p≠q):tkP Pg q p=Pg p:=by
 unfold tkP bf;rw [if_neg hq,if_neg h2]
theorem yY {q:Nat}:tkP Pg q q=zN 512:=by unfold tkP bf;rw [if_pos rfl]
theorem za {q:Nat} (h:q≠2):tkP Pg q 2=flipL (Pg 2) q:=by unfold tkP bf;rw [if_neg (fun e=>h e.symm),if_pos rfl]
theorem aF.take1 (h:aF sk N ino Pg fs) (hf:fs i=some f) (hs:sk i) (hc:f.cnt<139) {q:Nat} {rest:List Nat} (hq:ax (Pg 2) (3+ino / 8) N 4096=q :: rest) (hz:nB Pg f) :
  aF sk N ino (tkP Pg q) (bj fs i (some (f.grow q)))/\nB (tkP Pg q) (f.grow q):=by
 obtain ⟨q1,q2,q3⟩:=bN hq;have hok:=h.file i f hf;have hi:=h.out i f hf;have hnf:=h.nf;have hn4:=h.n4;have hl2:=h.len 2 (by omega);have hno:∀k g j,fs k=some g->j<g.cnt->g.slot j≠q:=fun k g j hg hj e=>by
  have:=(h.pbit q q1 q2).2 ⟨k,g,j,hg,hj,e⟩;rw [q3] at this;cases this
 have hcl:f.cnt<f.slots.length:=by rw [hok.len];exact hc
 have hold:∀k g j,fs k=some g->j<g.cnt->tkP Pg q (g.slot j)=Pg (g.slot j):=fun k g j hg hj=>uF (by have:=((h.file k g hg).in_ j hj).1;omega) (hno k g j hg hj);have hlow:∀p,p<3+ino / 8->p≠2->tkP Pg q p=Pg p:=fun p hp h2=>uF h2 (by omega);have hsl:∀ {k:Nat} {g:ao} {j:Nat},bj fs i (some (f.grow q)) k=some g->j<g.cnt->(k=i/\g=f.grow q/\j=f.cnt/\g.slot j=q)\/∃g0,fs k=some g0/\j<g0.cnt/\g.slot j=g0.slot j:=fun {k g j} hg hj=>by
  rcases updA_cases hg with ⟨rfl,e⟩ | ⟨-,hg⟩
  ·cases e;by_cases e2:j=f.cnt
   ·exact .inl ⟨rfl,rfl,e2,by rw [e2];exact ky hcl⟩
   ·have hj':j<f.cnt+1:=hj;exact .inr ⟨f,hf,by omega,gD e2⟩
  ·exact .inr ⟨g,hg,hj,rfl⟩
 refine ⟨⟨h.n4,h.nf,h.h8,h.i5,fun p hp => ?_,fun k hk => ?_,fun k g hg => ?_,fun k g hg => ?_,fun k g hg => ?_,fun k g hg hns => ?_,fun k g hg x hx => ?_,fun p hp1 hp2 => ?_,fun k g j k' g' j' hg hg' hj hj' e => ?_⟩,fun k hk1 hk2 => ?_⟩
 ·unfold tkP bf
  split
  ·exact aO 512
  ·split
   ·rw [bO];exact hl2
   ·exact h.len p hp
 ·rw [hlow 1 (by omega) (by omega),h.ibit k hk];by_cases e:k=i
  ·subst e;rw [aK,hf];simp
  ·rw [eu e]
 ·rcases updA_cases hg with ⟨rfl,-⟩ | ⟨-,hg⟩
  ·exact hi
  ·exact h.out k g hg
 ·rcases updA_cases hg with ⟨rfl,e⟩ | ⟨-,hg⟩
  ·cases e;refine ⟨hok.kind,hok.mode,hok.links,hok.size,by show (f.slots.set _ _).length=139;rw [List.length_set];exact hok.len,hc,by show au f.data.length<=f.cnt+1;have:=hok.need;omega,fun j hj => ?_,fun j hj => ?_⟩
   ·by_cases e2:j=f.cnt
    ·rw [e2,ky hcl];exact ⟨q1,q2⟩
    ·have hj':j<f.cnt+1:=hj;rw [gD e2];exact hok.in_ j (by omega)
   ·have hj':f.cnt+1<=j:=hj;rw [gD (by omega)];exact hok.zero j (by omega)
  ·exact h.file k g hg
 ·have hk:k<ino/\fJ Pg k:=by
   rcases updA_cases hg with ⟨rfl,-⟩ | ⟨-,hg⟩
   ·exact ⟨hi.2,h.tab k f hf⟩
   ·exact ⟨(h.out k g hg).2,h.tab k g hg⟩
  unfold fJ;rw [hlow _ (h.tabLt hk.1) (by omega)];exact hk.2
 ·rcases updA_cases hg with ⟨rfl,-⟩ | ⟨-,hg⟩
  ·exact absurd hs hns
  ·obtain ⟨h1,h2,h3⟩:=h.node k g hg hns;rw [hlow _ (h.tabLt (h.out k g hg).2) (by omega)];refine ⟨h1,h2,fun hb => ?_⟩;rw [hold k g 10 hg (by rw [h2];have:=ew hb (h.file k g hg).size;omega)];exact h3 hb
 ·rcases updA_cases hg with ⟨rfl,e⟩ | ⟨-,hg⟩
  ·cases e;have ha:=(h.at_ hf hx).1;rw [gD (by omega),hold k f _ hf ha];exact h.data k f hf x hx
  ·rw [hold k g _ hg (h.at_ hg hx).1];exact h.data k g hg x hx
 ·rw [za (by omega),fj _ _ _ (by omega)];by_cases e:p=q
  ·subst e;rw [if_pos rfl,q3];exact ⟨fun _=>⟨i,_,f.cnt,aK _ _ _,Nat.lt_succ_self _,ky hcl⟩,fun _=>rfl⟩
  ·rw [if_neg e,h.pbit p hp1 hp2];constructor
   ·rintro ⟨k,g,j,hg,hj,hp⟩;by_cases hk:k=i
    ·subst hk;rw [hf] at hg;cases hg;exact ⟨k,_,j,aK _ _ _,Nat.lt_succ_of_lt hj,by rw [gD (by omega)];exact hp⟩
    ·exact ⟨k,g,j,(eu hk).trans hg,hj,hp⟩
   ·rintro ⟨k,g,j,hg,hj,hp⟩;rcases hsl hg hj with ⟨-,-,-,h1⟩ | ⟨g0,h1,h2,h3⟩
    ·exact absurd (hp.symm.trans h1) e
    ·exact ⟨k,g0,j,h1,h2,h3.symm.trans hp⟩
 ·rcases hsl hg hj with ⟨rfl,rfl,rfl,h1⟩ | ⟨g0,h1,h2,h3⟩
  ·rcases hsl hg' hj' with ⟨rfl,rfl,rfl,-⟩ | ⟨g1,h4,h5,h6⟩
   ·exact ⟨rfl,rfl⟩
   ·exact absurd (h6.symm.trans (e.symm.trans h1)) (hno k' g1 j' h4 h5)
  ·rcases hsl hg' hj' with ⟨rfl,rfl,rfl,h4⟩ | ⟨g1,h4,h5,h6⟩
   ·exact absurd (h3.symm.trans (e.trans h4)) (hno k g0 j h1 h2)
   ·exact h.apart k g0 j k' g1 j' h1 h4 h2 h5 (h3.symm.trans (e.trans h6))
 ·by_cases e:aC (k / 512)=f.cnt
  ·rw [e,ky hcl,yY];exact pB _ _
  ·have hk3:aC (k / 512)<f.cnt+1:=hk2;rw [gD e,hold i f _ hf (by omega)];exact hz k hk1 (by omega)
theorem fg (fs:Nat->Option ao) (i:Nat) (a b:Option ao):bj (bj fs i a) i b=bj fs i b:=by
 funext k;unfold bj;split <;> rfl
theorem fF {fs:Nat->Option ao} {i:Nat} {f:ao} (h:fs i=some f):bj fs i (some f)=fs:=by
 funext k;unfold bj;split
 ·rename_i e;rw [e,h]
 ·rfl
def ao.grows (f:ao) (ks:List Nat):ao:={ f with slots:=ol f.slots (bC f.cnt (f.cnt+ks.length)) ks,cnt:=f.cnt+ks.length }
theorem uM (f:ao):f.grows []=f:=by
 unfold ao.grows;simp only [List.length_nil,Nat.add_zero,dy]
 rfl
theorem sS (f:ao) (ks:List Nat) (q:Nat):(f.grows ks).grow q=f.grows (ks ++ [q]):=by
 unfold ao.grow ao.grows;simp only [List.length_append,List.length_singleton, <- Nat.add_assoc];rw [cW (by omega),ow _ _ _ _ _ (by rw [cJ];omega)]
theorem aF.takes (h:aF sk N ino Pg fs) (hf:fs i=some f) (hs:sk i) (hz:nB Pg f):∀n,f.cnt+n<=139->n<=(ax (Pg 2) (3+ino / 8) N 4096).length ->
  aF sk N ino (jh Pg ((ax (Pg 2) (3+ino / 8) N 4096).take n)) (bj fs i (some (f.grows ((ax (Pg 2) (3+ino / 8) N 4096).take n))))/\nB (jh Pg ((ax (Pg 2) (3+ino / 8) N 4096).take n)) (f.grows ((ax (Pg 2) (3+ino / 8) N 4096).take n))
 | 0,_,_=>by
  rw [List.take_zero,uM,fF hf];exact ⟨h,hz⟩
 | n+1,hc,hl=>by
  obtain ⟨h1,h2⟩:=aF.takes h hf hs hz n (by omega) (by omega);have hnf:=h.nf;obtain ⟨h3,-⟩:=kD (Pg:=Pg) (a:=3+ino / 8) (z:=N) (by omega) h.n4 (h.len 2 (by omega)) n (by omega);have hlt:n<(ax (Pg 2) (3+ino / 8) N 4096).length:=by omega
  rw [List.drop_eq_getElem_cons hlt] at h3;have hln:((ax (Pg 2) (3+ino / 8) N 4096).take n).length=n:=by rw [List.length_take];omega
  have hg:=h1.take1 (aK _ _ _) hs (by show f.cnt+_<139;rw [hln];omega) h3 h2;rw [fg,sS] at hg;rw [List.take_add_one,List.getElem?_eq_getElem hlt,Option.toList_some,lh];exact hg
theorem wK {L e:List UInt8} {k i:Nat} (hL:L.length=512) (he:e.length=64):cT (jF L i e) k=if k%8=i%8 then e else cT L k:=by
 unfold cT jF;have hi:(L.take (i%8*64)).length=i%8*64:=by rw [List.length_take];omega
 by_cases hk:k%8=i%8
 ·rw [if_pos hk,hk,List.append_assoc,List.drop_left' hi,List.take_left' he]
 ·rw [if_neg hk];rcases Nat.lt_or_gt_of_ne hk with hlt | hgt
  ·rw [List.append_assoc,List.drop_append_of_le_length (by rw [hi];omega),List.take_append_of_le_length (by rw [List.length_drop,hi];omega),List.drop_take,List.take_take]
   congr 1
   omega
  ·rw [List.drop_append,List.drop_of_length_le (by rw [List.length_append,hi,he];omega),List.nil_append,List.drop_drop,List.length_append,hi,he]
   congr 2
   omega
theorem bZ {n:bu} {p:Nat} (h:p≠3+i / 8):ij Pg i n p=Pg p:=by unfold ij bf;rw [if_neg h]
theorem ls {n:bu}:ij Pg i n (3+i / 8)=jF (Pg (3+i / 8)) i (dr n):=by unfold ij bf;rw [if_pos rfl]
theorem rA {n:bu} {k:Nat} (hn:n.ok) (hL:(Pg (3+i / 8)).length=512):cT (ij Pg i n (3+k / 8)) k=if k=i then dr n else cT (Pg (3+k / 8)) k:=by
 by_cases e:k / 8=i / 8
 ·rw [e,ls,wK hL (show (dr n).length=64 from dO n 11 (Nat.le_refl _) hn.pages)];by_cases e2:k=i
  ·rw [if_pos e2,if_pos (by rw [e2])]
  ·rw [if_neg e2,if_neg (by omega)]
 ·rw [bZ (by omega),if_neg (fun e2=>e (by rw [e2]))]
theorem aF.put {sk':Nat->Prop} (h:aF sk N ino Pg fs) (hf:fs i=some f) (f':ao) (hsl:f'.slots=f.slots) (hc:f'.cnt=f.cnt) (hd:f'.data=f.data) (hk:f'.kind<=3) (hm:f'.mode<=4095) (hli:f'.links<=65535)
  (hcn:f.cnt=au f.data.length) (hfar:5120<f.data.length->Pg (f.slot 10)=bg (f.slots.drop 11) 128) (hsk:∀k,k≠i->sk k->sk' k):aF sk' N ino (ij Pg i f'.node) (bj fs i (some f')):=by
 have hok:=h.file i f hf;have hi:=h.out i f hf;have hnf:=h.nf;have hn4:=h.n4;have hti:=h.tabLt hi.2;have hsl2:∀j,f'.slot j=f.slot j:=fun j=>by unfold ao.slot;rw [hsl]
 have hok':f'.ok (3+ino / 8) N:=⟨hk,hm,hli,by rw [hd];exact hok.size,by rw [hsl];exact hok.len,by rw [hc];exact hok.cnt,by rw [hc,hd];exact hok.need,fun j hj=>by rw [hsl2];exact hok.in_ j (by rw [<- hc];exact hj),fun j hj=>by rw [hsl2];exact hok.zero j (by rw [<- hc];exact hj)⟩;have hno:=hok'.node (by omega) hn4;have hL:=h.len (3+i / 8) (by omega);have hup:∀p,3+ino / 8<=p->ij Pg i f'.node p=Pg p:=fun p hp=>bZ (by omega);have hino:∀k,cT (ij Pg i f'.node (3+k / 8)) k=if k=i then dr f'.node else cT (Pg (3+k / 8)) k:=fun k=>rA hno hL
 have old:∀ {k:Nat} {g:ao},bj fs i (some f') k=some g->∃g0,fs k=some g0/\g0.cnt=g.cnt/\g0.slots=g.slots/\g0.data=g.data:=fun {k g} hg=>by
  rcases updA_cases hg with ⟨rfl,e⟩ | ⟨-,hg⟩
  ·cases e;exact ⟨f,hf,hc.symm,hsl.symm,hd.symm⟩
  ·exact ⟨g,hg,rfl,rfl,rfl⟩
 refine ⟨h.n4,h.nf,h.h8,h.i5,fun p hp => ?_,fun k hk => ?_,fun k g hg => ?_,fun k g hg => ?_,fun k g hg => ?_,fun k g hg hns => ?_,fun k g hg x hx => ?_,fun p hp1 hp2 => ?_,fun k g j k' g' j' hg hg' hj hj' e => ?_⟩
 ·by_cases e:p=3+i / 8
  ·rw [e,ls];exact iy hL i (dO _ 11 (Nat.le_refl _) hno.pages)
  ·rw [bZ e];exact h.len p hp
 ·rw [bZ (by omega),h.ibit k hk];by_cases e:k=i
  ·subst e;rw [aK,hf];simp
  ·rw [eu e]
 ·obtain ⟨g0,h1,-⟩:=old hg;exact h.out k g0 h1
 ·rcases updA_cases hg with ⟨rfl,e⟩ | ⟨-,hg⟩
  ·cases e;exact hok'
  ·exact h.file k g hg
 ·unfold fJ;rw [hino k];rcases updA_cases hg with ⟨rfl,e⟩ | ⟨hne,hg⟩
  ·rw [if_pos rfl];exact ⟨_,hno,rfl⟩
  ·rw [if_neg hne];exact h.tab k g hg
 ·rw [hino k];rcases updA_cases hg with ⟨rfl,e⟩ | ⟨hne,hg⟩
  ·cases e;rw [if_pos rfl];refine ⟨rfl,by rw [hc,hd];exact hcn,fun hb => ?_⟩;rw [hd] at hb;have:=ew hb hok.size;rw [hsl2,hsl,hup _ (hok.in_ 10 (by omega)).1];exact hfar hb
  ·obtain ⟨h1,h2,h3⟩:=h.node k g hg (fun hh=>hns (hsk k hne hh));rw [if_neg hne];refine ⟨h1,h2,fun hb => ?_⟩;have:=ew hb (h.file k g hg).size;rw [hup _ ((h.file k g hg).in_ 10 (by omega)).1];exact h3 hb
 ·obtain ⟨g0,h1,h2,h3,h4⟩:=old hg;have ha:=(h.at_ h1 (by rw [h4];exact hx:x<g0.data.length)).1;have hs0:∀j,g.slot j=g0.slot j:=fun j=>by unfold ao.slot;rw [h3]
  rw [hs0,hup _ ((h.file k g0 h1).in_ _ ha).1, <- h4];exact h.data k g0 h1 x (by rw [h4];exact hx)
 ·rw [bZ (by omega),h.pbit p hp1 hp2];constructor
  ·rintro ⟨k,g,j,hg,hj,e⟩;by_cases hk:k=i
   ·subst hk;rw [hf] at hg;cases hg;exact ⟨k,f',j,aK _ _ _,by rw [hc];exact hj,by rw [hsl2];exact e⟩
   ·exact ⟨k,g,j,(eu hk).trans hg,hj,e⟩
  ·rintro ⟨k,g,j,hg,hj,e⟩;obtain ⟨g0,h1,h2,h3,-⟩:=old hg;exact ⟨k,g0,j,h1,by rw [h2];exact hj,by unfold ao.slot at e ⊢;rw [h3];exact e⟩
 ·obtain ⟨g0,h1,h2,h3,-⟩:=old hg;obtain ⟨g1,h4,h5,h6,-⟩:=old hg';exact h.apart k g0 j k' g1 j' h1 h4 (by rw [h2];exact hj) (by rw [h5];exact hj') (by unfold ao.slot at e ⊢;rw [h3,h6];exact e)
theorem aF.save (h:aF (fun k=>k=i) N ino Pg fs) (hf:fs i=some f) (hcn:f.cnt=au f.data.length):aF gq N ino (ij (ji Pg (f.S i f.data.length)) i f.node) fs:=by
 have hok:=h.file i f hf;have h10:5120<f.data.length->10<f.cnt:=fun hb=>by have:=ew hb hok.size;omega
 have hfp:∀p,(∀j,j<f.cnt->f.slot j≠p)->ji Pg (f.S i f.data.length) p=Pg p:=fun p hp=>by
  unfold ji
  split
  ·rfl
  ·rename_i hs;have hs':¬f.data.length<=5120:=hs;unfold bf;rw [if_neg (fun e=>hp 10 (h10 (by omega)) e.symm)]
 have hg:=h.pages (Pg':=ji Pg (f.S i f.data.length)) hf rfl (fun p hp=>by
  unfold ji
  split
  ·exact h.len p hp
  ·unfold bf
   split
   ·exact dM (by show (f.slots.drop 11).length=128;rw [List.length_drop,hok.len]) 128 (Nat.le_refl _)
   ·exact h.len p hp) hfp f.data hok.size hok.need (fun k hk=>by
  have ha:=h.at_ hf hk;have e:ji Pg (f.S i f.data.length) (f.slot (aC (k / 512)))=Pg (f.slot (aC (k / 512))):=by
   unfold ji
   split
   ·rfl
   ·rename_i hs;have hs':¬f.data.length<=5120:=hs;exact if_neg (fun e=>ha.2 (h.apart i f _ i f 10 hf hf ha.1 (h10 (by omega)) e).2)
  rw [e];exact h.data i f hf k hk)
 rw [fF hf] at hg;have:=hg.put (sk':=gq) hf f rfl rfl rfl hok.kind hok.mode hok.links hcn (fun hb=>by
  unfold ji;rw [if_neg (show ¬(f.S i f.data.length).size<=5120 from fun hh=>absurd hb (Nat.not_lt.2 hh))];exact if_pos rfl) (fun k hne hk=>absurd hk hne)
 rwa [fF hf] at this
end
end
section
open Go.RowKit
def wrD (d:List UInt8) (a:Nat) (l:List UInt8):List UInt8:=(List.range (max d.length (a+l.length))).map fun k=>if a<=k/\k<a+l.length then l.getD (k-a) 0 else d.getD k 0
theorem cP (d:List UInt8) (a:Nat) (l:List UInt8):(wrD d a l).length=max d.length (a+l.length):=by simp [wrD]
theorem jR (d:List UInt8) (a:Nat) (l:List UInt8) (k:Nat) (hk:k<max d.length (a+l.length)):(wrD d a l).getD k 0=if a<=k/\k<a+l.length then l.getD (k-a) 0 else d.getD k 0:=by
 have h:k<(wrD d a l).length:=by rw [cP];exact hk
 rw [List.getD_eq_getElem?_getD,List.getElem?_eq_getElem h];simp [wrD]
theorem kL {k z:Nat} (h:k<fillN z) (hz:z<=70656):aC k<au z:=by
 unfold fillN at h;have:=ec (k:=k*512) (z:=z) (by omega) hz;rw [Nat.mul_div_cancel _ (by omega)] at this;exact this.1
section
variable {sk:Nat->Prop} {N ino:Nat} {Pg Pg':Nat->List UInt8} {fs:Nat->Option ao} {i:Nat} {f:ao}
theorem aF.over (h:aF sk N ino Pg fs) (hf:fs i=some f) (hs:sk i) (a z:Nat) (hz:f.data.length<z->nB Pg f) (l:List UInt8) (hl:l.length=z-a) (haz:a<z) (hz7:z<=70656) (hn:au (max f.data.length z)<=f.cnt) :
  aF sk N ino (wPs f.slots a z Pg l (bC (a / 512) (fillN z))).1 (bj fs i (some { f with data:=wrD f.data a l })):=by
 have hok:=h.file i f hf;have hal:a+l.length=z:=by omega
 have hlen:(wrD f.data a l).length=max f.data.length z:=by rw [cP,hal]
 have hm7:max f.data.length z<=70656:=Nat.max_le.2 ⟨hok.size,hz7⟩;have hnz:au z<=f.cnt:=Nat.le_trans (bS (Nat.le_max_right _ _) hm7) hn;have hds:∀k,k<fillN z->aC k<f.cnt:=fun k hk=>Nat.lt_of_lt_of_le (kL hk hz7) hnz;have hq:a / 512+(fillN z-a / 512)=fillN z:=by unfold fillN;omega
 obtain ⟨w1,w2⟩:=xU f.slots a z Pg l hl haz (fun k k' _ hk _ hk' e=>ll (h.apart i f _ i f _ hf hf (hds k hk) (hds k' hk') e).2) (fillN z-a / 512) (by omega);rw [hq] at w1 w2;refine h.pages hf hs (fun p hp => ?_) (fun p hp=>w2 p (fun k _ hk=>hp _ (hds k hk))) _ (by rw [hlen];exact hm7) (by rw [hlen];exact hn) (fun k hk => ?_)
 ·by_cases hx:∃k,a / 512<=k/\k<fillN z/\f.slots.getD (aC k) 0=p
  ·obtain ⟨k,k1,k2,rfl⟩:=hx;rw [w1 k k1 k2];exact qg (h.len _ hp) hl haz k1 k2
  ·rw [w2 p (fun k k1 k2 e=>hx ⟨k,k1,k2,e⟩)];exact h.len p hp
 ·rw [hlen] at hk;rw [jR _ _ _ _ (by rw [hal];exact hk),hal];have hold:(Pg (f.slot (aC (k / 512)))).getD (k%512) 0=f.data.getD k 0:=by
   by_cases hkd:k<f.data.length
   ·exact h.data i f hf k hkd
   ·have hd0:f.data.getD k 0=0:=by rw [List.getD_eq_getElem?_getD,List.getElem?_eq_none (by omega)];rfl
    rw [hd0];exact hz (by omega) k (by omega) (Nat.lt_of_lt_of_le (ec hk hm7).1 hn)
  by_cases hr:a / 512<=k / 512/\k / 512<fillN z
  ·have hsl:f.slot (aC (k / 512))<N:=(hok.in_ _ (hds _ hr.2)).2;have e1:=w1 (k / 512) hr.1 hr.2;unfold ao.slot at hsl hold ⊢;rw [e1,wN (h.len _ hsl) hl haz hr.1 hr.2 _ (Nat.mod_lt _ (by omega)),show k / 512*512+k%512=k by omega,hold]
  ·have e1:=w2 (f.slot (aC (k / 512))) (fun k' k1 k2 e=>hr (by
    have h3:aC (k / 512)<f.cnt:=Nat.lt_of_lt_of_le (ec hk hm7).1 hn;have h4:=ll (h.apart i f _ i f _ hf hf (hds k' k2) h3 e).2;rw [<- h4];exact ⟨k1,k2⟩))
   rw [e1,hold,if_neg (fun hh=>hr ⟨by omega,by unfold fillN;omega⟩)]
theorem sU {xs:List Nat} (h:xs.length=128) (hx:∀p∈xs,p<4294967296):qh (bg xs 128) 128=xs:=by
 have ht:xs.take 128=xs:=List.take_of_length_le (by omega);refine List.ext_getElem (by rw [fE,h]) (fun j h1 h2 => ?_);have hd:(qh (bg xs 128) 128)[j]=numS (((bg xs 128).drop (4*j)).take 4):=by simp [qh]
 rw [hd];unfold bg;rw [ht,show 512-4*128=0 by omega,show zN 0=[] from rfl,List.append_nil,mE xs j h2,gL];exact Nat.mod_eq_of_lt (hx _ (List.getElem_mem h2))
theorem s9 {l:List Nat} (hl:l.length=139) (hz:∀j,11<=j->l.getD j 0=0):l.take 11 ++ List.replicate 128 0=l:=by
 refine List.ext_getElem (by rw [List.length_append,List.length_take,List.length_replicate,hl];omega) (fun j h1 h2 => ?_);by_cases hj:j<11
 ·rw [List.getElem_append_left (by rw [List.length_take,hl];omega),List.getElem_take]
 ·rw [List.getElem_append_right (by rw [List.length_take,hl];omega),List.getElem_replicate];have:=hz j (by omega);rw [List.getD_eq_getElem?_getD,List.getElem?_eq_getElem h2] at this;exact this.symm
theorem vZ {l:List Nat} (hl:l.length=139) (hx:∀p∈l,p<4294967296):b8 (l.take 11) (bg (l.drop 11) 128) 128=l:=by
 unfold b8;rw [sU (by rw [List.length_drop,hl]) (fun p hp=>hx p (List.mem_of_mem_drop hp)),show 128-128=0 by omega];simp
end
end
section
open Go.RowKit
def jH (L:List UInt8) (r:Nat):List UInt8:=L.take r ++ zN (512-r)
theorem lG {L:List UInt8} {r:Nat} (hL:L.length=512) (hr:r<=512):(jH L r).length=512:=by
 unfold jH;rw [List.length_append,List.length_take,aO];omega
theorem uK {L:List UInt8} {r:Nat} (hL:L.length=512) (hr:r<=512) (j:Nat):(jH L r).getD j 0=if j<r then L.getD j 0 else 0:=by
 unfold jH;simp only [List.getD_eq_getElem?_getD];by_cases h:j<r
 ·rw [if_pos h,List.getElem?_append_left (by rw [List.length_take];omega),List.getElem?_take_of_lt h]
 ·rw [if_neg h,List.getElem?_append_right (by rw [List.length_take];omega), <- List.getD_eq_getElem?_getD];exact pB _ _
def jl (Pg:Nat->List UInt8) (sl:List Nat) (z:Nat):Nat->List UInt8:=if z%512=0 then Pg else bf Pg (sl.getD (aC (z / 512)) 0) (jH (Pg (sl.getD (aC (z / 512)) 0)) (z%512))
theorem rf {z k:Nat} (h5:z%512=0) (hz:z<=70656) (h:z<=k):¬aC (k / 512)<au z:=by
 unfold au fillN aC;have h1:¬70656<z:=by omega
 simp only [h1,if_false]
 split <;> split <;> omega
theorem tH {z k:Nat} (hz:z<=70656) (hk:z<=k) (hn:aC (k / 512)<au z):k / 512=z / 512:=by
 unfold au fillN aC at hn;have h1:¬70656<z:=by omega
 simp only [h1,if_false] at hn
 split at hn <;> split at hn <;> omega
section
variable {sk:Nat->Prop} {N ino:Nat} {Pg Pg':Nat->List UInt8} {fs:Nat->Option ao} {i:Nat} {f:ao}
theorem aF.clears (h:aF sk N ino Pg fs) (hf:fs i=some f) (hs:sk i) (hc:f.cnt=au f.data.length) :
  aF sk N ino (jl Pg f.slots f.data.length) fs/\nB (jl Pg f.slots f.data.length) f/\jl Pg f.slots f.data.length 2=Pg 2:=by
 have hok:=h.file i f hf;obtain ⟨z,hz⟩:∃z,z=f.data.length:=⟨_,rfl⟩;have hz7:z<=70656:=by rw [hz];exact hok.size
 by_cases h5:z%512=0
 ·have e:jl Pg f.slots f.data.length=Pg:=by unfold jl;rw [<- hz,if_pos h5]
  rw [e];exact ⟨h,fun k hk1 hk2=>absurd (by rw [hc, <- hz] at hk2;exact hk2) (rf h5 hz7 (by rw [hz];exact hk1)),rfl⟩
 ·have hd:aC (z / 512)<f.cnt:=by rw [hc, <- hz];exact kL (by unfold fillN;omega) hz7
  obtain ⟨q,hq⟩:∃q,q=f.slot (aC (z / 512)):=⟨_,rfl⟩;have hqN:=hok.in_ _ hd;rw [<- hq] at hqN;have e:jl Pg f.slots f.data.length=bf Pg q (jH (Pg q) (z%512)):=by unfold jl;rw [<- hz,if_neg h5,hq];rfl
  have hL:=h.len q hqN.2;have hoth:∀p,p≠q->bf Pg q (jH (Pg q) (z%512)) p=Pg p:=fun p hp=>if_neg hp;have hsel:bf Pg q (jH (Pg q) (z%512)) q=jH (Pg q) (z%512):=if_pos rfl;have hz5:z%512<=512:=by omega
  rw [e];refine ⟨?_,fun k hk1 hk2 => ?_,hoth 2 (by omega)⟩
  ·have:=h.pages (Pg':=bf Pg q (jH (Pg q) (z%512))) hf hs (fun p hp => ?_) (fun p hp=>hoth p (fun e'=>hp _ hd (by rw [<- hq,e']))) f.data hok.size (by rw [hc];exact Nat.le_refl _) (fun k hk => ?_)
   ·rwa [fF hf] at this
   ·by_cases e':p=q
    ·rw [e',hsel];exact lG hL hz5
    ·rw [hoth p e'];exact h.len p hp
   ·by_cases e':f.slot (aC (k / 512))=q
    ·have hke:=ll (h.apart i f _ i f _ hf hf (h.at_ hf hk).1 hd (e'.trans hq)).2;rw [e',hsel,uK hL hz5,if_pos (by rw [<- hz] at hk;omega), <- e'];exact h.data i f hf k hk
    ·rw [hoth _ e'];exact h.data i f hf k hk
  ·rw [<- hz] at hk1;have hke:=tH hz7 hk1 (by rw [hz, <- hc];exact hk2);rw [hke, <- hq,hsel,uK hL hz5,if_neg (by omega)]
end
end
section
open Go.RowKit
def b9 (Q:Exit->Act->World->Prop):Exit->Act->World->Prop
 | .normal,a,w=>Q .normal a w
 | _,_,_=>False
theorem b9.normal {Q:Exit->Act->World->Prop} {a:Act} {w:World} (h:Q .normal a w):b9 Q .normal a w:=h
theorem b9.imp {Q:Exit->Act->World->Prop}:∀(e:Exit) (a:Act) (w:World),b9 Q e a w->Q e a w:=fun e a w h=>by
 cases e <;> first | exact h | exact (h:False).elim
theorem b9.out {Q:Exit->Act->World->Prop}:¬LetsOut (b9 Q):=fun ⟨_,_,h⟩=>h
def fq (ops:Array Oper):Bool:=ops.all fun o=>match o.op with | .defer _=>false | _=>true
theorem lw {ops:Array Oper} (h:fq ops=true) {o:Oper} (ho:o∈ops):∀c,o.op ≠ .defer c:=fun c e=>by
 have:=Array.all_eq_true_iff_forall_mem.1 h o ho;rw [e] at this;cases this
section
variable {P:Program} {ops:Array Oper} {Q:Exit->Act->World->Prop}
theorem vG {l n:Nat} {row:String} {args:Array Value} {w:World} {R:Value->World->Prop} (h:Rows P row args w R):RowsIn (Fence.wide.inRound l) n P row args w R :=
 fun c cs _=>let ⟨v,w',r,s⟩:=h c cs;⟨v,w',r,stepsIn_wide.2 s⟩
theorem oF {l n:Nat} {o:Oper} {a:Act} {w:World} {K:Act->World->Prop} (hd:∀c,o.op ≠ .defer c) (h:o.wp P a w K Q):o.wpIn (Fence.wide.inRound l) n P a w K Q:=by
 unfold Oper.wpIn;refine ⟨fun _ _=>trivial,?_⟩;rw [show (Fence.wide.inRound l).round=some l from rfl,Oper.semAt_some l _ _ hd];unfold Oper.wp at h;generalize (execOp a.eval o).run P w=r at *;cases r with
 | ok x w' =>
  cases x <;> simp only [Oper.upon,Oper.uponIn] at h ⊢
  case value u=>exact h
  case skip=>exact h
  case defer d=>exact h
  case enter f args=>exact ⟨fun e=>(by cases e),CallsIn.inRound l (callsIn_wide.2 h)⟩
  case row row args=>exact ⟨fun e=>(by cases e),vG h⟩
 | halt x w'=>cases x <;> simp only [Oper.upon,Oper.uponIn] at h ⊢ <;> exact h
theorem u7 {l n i:Nat} {a:Act} {w:World} {K:Act->World->Prop} (hd:fq ops=true) (h:wpOp P ops (b9 Q) i K a w):wpOpIn (Fence.wide.inRound l) n P ops (b9 Q) i K a w:=by
 unfold wpOp at h;unfold wpOpIn
 split
 ·rename_i ho;rw [ho] at h;exact h
 ·rename_i o ho;rw [ho] at h;simp only at h
  split
  ·rename_i hw;rw [if_pos hw] at h;rcases h with h | ⟨-,h⟩
   ·exact oF (lw hd (Array.mem_of_getElem? ho)) h
   ·exact absurd h b9.out
  ·rename_i hw;rw [if_neg hw] at h;exact ⟨fun _ _=>trivial,h⟩
theorem jC {l n:Nat} (hd:fq ops=true) {md:Region.Mode}:∀(fuel:Nat) (listed:Array Bool) (a:Act) (w:World),wpAny P md ops (b9 Q) fuel listed a w->wpAnyIn (Fence.wide.inRound l) n P md ops (b9 Q) fuel listed a w
 | 0,_,_,_,h=>h
 | fuel+1,_,_,_,h=>⟨h.1,fun i hi=>u7 hd (wpOp_mono (fun a' w' h'=>jC hd fuel _ a' w' h') (h.2 i hi))⟩
theorem iT {l n:Nat} (hd:fq ops=true):∀(os:List Oper) (a:Act) (w:World),(∀o∈os,o∈ops)->wpList P ops (b9 Q) os a w->wpListIn (Fence.wide.inRound l) n P ops (b9 Q) os a w
 | [],_,_,_,h=>h
 | o :: os,a,w,hm,h=>by
  unfold wpList at h;unfold wpListIn
  split
  ·rename_i hw;rw [if_pos hw] at h;rcases h with h | ⟨-,h⟩
   ·exact oF (lw hd (hm o (by simp))) (Oper.wp_mono (fun a' w' h'=>iT hd os a' w' (fun o ho=>hm o (by simp [ho])) h') h)
   ·exact absurd h b9.out
  ·rename_i hw;rw [if_neg hw] at h;exact ⟨fun _ _=>trivial,iT hd os _ w (fun o ho=>hm o (by simp [ho])) h⟩
theorem nD {S:World->Prop} {l n id:Nat} {a:Act} {w:World} (hm:P.follows .mixedOrders=true) (hd:fq ops=true) (hS:S w.drew)
  (h:S w.drew->wpAnyH P .any ops (b9 Q) S ops.size (Array.replicate ops.size false) a w.drew):(Code.region id ops true).wpIn (Fence.wide.inRound l) n P Q a w :=
 wpIn_mono (wpIn_region_any hm (jC hd _ _ _ _ (wpAny_of_held _ _ _ _ (h hS)))) b9.imp
theorem tA {l n id:Nat} {a:Act} {w:World} (hd:fq ops=true) (h:wpList P ops (b9 Q) ops.toList a w):(Code.region id ops false).wpIn (Fence.wide.inRound l) n P Q a w :=
 wpIn_mono (wpIn_region_list (iT hd _ _ _ (fun o ho=>by simpa using ho) h)) b9.imp
end
end
section
set_option maxRecDepth 100000
set_option maxHeartbeats 4000000
open Go.RowKit Go.Shelf
attribute [local go_sem] Oper.semAt_some
theorem uT (z:Nat):fillN (fillN z*512)=fillN z:=by unfold fillN;omega
theorem y8 (w:World) (n:Nat) (hn:n<=100000):(Instr.makeSlice 76 (.int .i64 n) (.int .i64 n)).run Tryz.prog w = .ok (.slice (some ⟨w.heap.size,0,none⟩) n n) (w.alloc (.cells ((zN n).map U8).toArray 5)):=by
 obtain ⟨i,hi,hz,hs,hb⟩:=info_parts iE;have hrun:=run_make (P:=Tryz.prog) w 76 5 i (.int .u8 0) Tryz.underlying76 hi hz .i64 .i64 n n (by omega) (by omega) (by rw [hb];omega) (by omega);simp only [Int.toNat_natCast,hs,sg] at hrun;rw [eX] at hrun;exact hrun
theorem uv:∀(t r:Nat) (L:List UInt8),L.length=r+t->clr L r t=L.take r ++ zN t
 | 0,r,L,h=>by rw [clr,List.take_of_length_le (by omega)];simp [zN]
 | t+1,r,L,h=>by
  rw [clr,uv t (r+1) (L.set r 0) (by rw [List.length_set];omega),List.take_add_one,List.getElem?_set_self (by omega),List.take_set_of_le (Nat.le_refl _),List.append_assoc]
  rfl
section
variable {w:World} {f m c ino:Nat} {F:Nat->Prop} {size N:Nat} {Pg Cm:Nat->List UInt8} {o u k:Nat} {S:bD}
theorem rj (h:aT w m c ino) (hmF:¬F m) (hf:aD w f m S) (hfF:¬F f) (hS:S.slots.length=139) (hs:S.size<=70656) (h5:S.size%512≠0) (hq:S.slots.getD (aC (S.size / 512)) 0<N) (hu:u<990000) (hp:Pe w c F size N Pg Cm o u (k+1)) :
  Calls Tryz.prog 195 #[.pointer (some ⟨f,0,none⟩)] w fun e w'=>e = .returned (.int .i64 0)/\ac F w w'/\Pe w' c F size N (jl Pg S.slots S.size) Cm o (u+1) k:=by
 refine (callsIn_wide (n:=8)).1 ?_;obtain ⟨wA,hA⟩:∃wA,wA=(w.alloc (.cells #[.pointer (some ⟨f,0,none⟩)] 157)).alloc (.cells #[.int .i64 0] 31):=⟨_,rfl⟩;have hAB:Below w.heap.size w wA:=by rw [hA];exact ((Below.refl _ w).alloc (Nat.le_refl _) _).alloc (by simp) _
 have hA0:wA.heap[w.heap.size]? = some (.cells #[.pointer (some ⟨f,0,none⟩)] 157 (0,0)):=by rw [hA];exact aj (af w _) _
 have hA1:wA.heap[w.heap.size+1]? = some (.cells #[.int .i64 0] 31 (0,0)):=by
  have h1:=af (w.alloc (.cells #[.pointer (some ⟨f,0,none⟩)] 157)) (.cells #[.int .i64 0] 31);rw [World.size_alloc] at h1;rw [hA];exact h1
 have hAs:wA.heap.size=w.heap.size+2:=by rw [hA];simp
 have hfA:=hf.below hAB;obtain ⟨-,-,-,-,-,c5⟩:=hfA.head;have c0:wA.cell? ⟨w.heap.size,0,none⟩=some (.pointer (some ⟨f,0,none⟩)):=aa hA0 0;have HF:=hid hfA;have HFi:=hid (fun W=>fO S.size (by omega) W);obtain ⟨z,hz⟩:∃z,z=S.size:=⟨_,rfl⟩;obtain ⟨fz,hfz⟩:∃fz,fz=fillN S.size:=⟨_,rfl⟩;obtain ⟨z1,hz1⟩:∃z1,z1=fillN S.size*512:=⟨_,rfl⟩;have HFe:Hid (((fz:Nat):Int)*512=(z1:Int)):=by unfold Hid;omega
 have hfb:((fz:Nat):Int)<=200:=by rw [hfz];unfold fillN;omega
 have HZe:Hid (fillN z1=z / 512+1/\z1<=70656/\z1=(z / 512+1)*512/\z<=70656):=by
  unfold Hid;rw [hz1,uT, <- hz];unfold fillN;rw [<- hz] at hs h5;omega
 have HMp:=hid (h.below hAB);have HPc:Hid (Pe wA c F size N Pg Cm o u (k+1)):=by obtain ⟨D,h1,h2⟩:=hp;exact ⟨D,h1,h2.below hAB⟩
 have HFl:Hid (∀i,F i->i<w.heap.size):=by obtain ⟨D,h1,h2⟩:=hp;exact h2.lt
 have HA1:=hid hA1;have HA0:=hid hA0;have HAB:=hid hAB;have HAs:=hid hAs;have HS:=hid hS;have HQ:=hid hq;have H5:=hid h5;have hfl:f<w.heap.size:=hf.lt;have hml:m<w.heap.size:=ae h;rw [hA] at c5 c0;rw [<- hz] at c5;have HZ:=hid hz;have HFz:=hid hfz;clear hf hfA hA0 hA1 hAB hAs hS hq h5 hp h hz hfz hs hz1;refine callsIn_of_wp_marks Tryz.func195 rfl trivial ?_ rfl;simp only [Tryz.ntmps195,List.size_toArray,List.length_cons,List.length_nil,Nat.reduceAdd,Nat.reduceSub,Array.replicate_succ,Array.replicate_zero,List.push_toArray,List.append_toArray,List.nil_append,List.cons_append];have hf1:Fence.wide.fn 202:=trivial;have hf2:Fence.wide.fn 146:=trivial;have hf4:Fence.wide.fn 131:=trivial;have hf5:Fence.wide.fn 14:=trivial;have hf6:Fence.wide.fn 120:=trivial;have hf7:Fence.wide.fn 107:=trivial
 gi_wp2
 rw [<- hA] at c0 c5 ⊢;clear hA;have hbd:Below wA.heap.size wA wA.drew:=(Below.refl _ wA).drew;have d0:=(hbd.cell (World.block_lt_of_cell? wA _ c0)).trans c0;have HBd:=hid hbd;have hfi:=HFi.out wA.drew;rw [<- HFz.out, <- HZ.out] at hfi;have HFi2:=hid hfi;have HPa:=hid (gM f z z1 wA.drew);have hmul:IntKind.i64.wrap ((fz:Int)*512)=(z1:Int):=by rw [IntWalk.i64_in _ (by omega)];exact HFe.out
 clear HFi hfi hbd c5;refine wpIn_wide.2 ?_;refine wp_region_noPanic ?_;refine wp_region_held_drew (S:=fun W=>W.cell? ⟨w.heap.size,0,none⟩=some (.pointer (some ⟨f,0,none⟩))) (by kernel_rfl) c0 (fun hHeld => ?_);generalize wA.drew=wd at *;refine tq 0 _ ?_
 try simp only [tS]
 refine tq 1 _ ?_
 try simp only [tS]
 refine tq 2 _ ?_
 try simp only [tS]
 refine tr 3 (fun K hK => ?_);go_simp;refine HFi2.out.mono ?_;clear HFi2;rintro e w1 ⟨rfl,h1⟩;obtain rfl:=h1.symm;clear h1
 go_wp2_with fail
 refine hK.out _ _ d0 (fun hHeld => ?_);clear hK K
 try simp only [tS]
 refine tq 4 (.int .i64 (z1:Int)) ?_
 try simp only [tS]
 refine tr 5 (fun K hK => ?_);go_simp;refine HPa.out.mono ?_;clear HPa;rintro e wD ⟨rfl,hD⟩;have hDB:Below wd.heap.size wd wD:=by rw [hD];exact (((Below.refl _ wd).alloc (Nat.le_refl _) _).alloc (by simp) _).alloc (by simp;omega) _
 have hsD:wD.heap.size=wd.heap.size+3:=by rw [hD];simp
 have x0:wD.cell? ⟨wd.heap.size,0,none⟩=some (.pointer (some ⟨f,0,none⟩)):=by rw [hD];exact aa (aj (aj (af wd _) _) _) 0
 have x1:wD.cell? ⟨wd.heap.size+1,0,none⟩=some (.int .i64 z):=by
  have h1:=af (wd.alloc (.cells #[.pointer (some ⟨f,0,none⟩)] 157)) (.cells #[.int .i64 z] 3);rw [World.size_alloc] at h1;rw [hD];exact aa (aj h1 _) 0
 have x2:wD.cell? ⟨wd.heap.size+1+1,0,none⟩=some (.int .i64 z1):=by
  have h1:=af ((wd.alloc (.cells #[.pointer (some ⟨f,0,none⟩)] 157)).alloc (.cells #[.int .i64 z] 3)) (.cells #[.int .i64 z1] 3);rw [World.size_alloc,World.size_alloc] at h1;rw [hD];exact aa h1 0
 have dD:wD.cell? ⟨w.heap.size,0,none⟩=some (.pointer (some ⟨f,0,none⟩)):=(hDB.cell (World.block_lt_of_cell? wd _ d0)).trans d0;have hBD:=HBd.out.trans (hDB.mono HBd.out.size);have HBD:=hid hBD;have HFD:=hid (HF.out.below hBD);have HMD:=hid (HMp.out.below hBD);have HPD:Hid (Pe wD c F size N Pg Cm o u (k+1)):=by obtain ⟨D,h1,h2⟩:=HPc.out;exact ⟨D,h1,h2.below hBD⟩
 have HR1:=hid (ah hBD HA1.out (ae HA1.out));have HR0:=hid (ah hBD HA0.out (ae HA0.out));have HX0:=hid x0;have HX1:=hid x1;have HX2:=hid x2;have HsD:=hid hsD;have hsd:=HBd.out.size;clear hD hDB hsD x0 x1 x2 hBD HF HA1 HA0 HMp HPc
 go_wp2_with fail
 refine hK.out _ _ dD (fun hHeld => ?_);clear hK K
 try simp only [tS]
 refine wpAnyH_done (by kernel_rfl) ?_ _;refine NoPanic.normal ?_;clear hHeld dD d0 c0
 gi_wp2
 have hs9:=HsD.out;have hwA:=HAs.out;have HSt:=hid (eK 7 (by omega) wd.heap.size (wd.heap.size+1) (wd.heap.size+1+1) f m z z1 S HS.out (fun i=>F i\/wD.heap.size<=i) HZe.out.2.1 HZe.out.2.2.2 wD (fun hh=>by rcases hh with hh | hh;(have:=HFl.out _ hh;omega);omega) (fun hh=>by rcases hh with hh | hh;(have:=HFl.out _ hh;omega);omega) (fun hh=>by rcases hh with hh | hh;(have:=HFl.out _ hh;omega);omega) (fun hh=>by rcases hh with hh | hh;exact hfF hh;omega) HFD.out HX0.out HX1.out HX2.out (fillN z1-z / 512) rfl);have hM1:fillN z1-z / 512=1:=by have:=HZe.out.1;omega
 generalize hM:fillN z1-z / 512=M at *;have HMM:=hid hM1;clear hM hM1;refine wpIn_rangeFunc_ownH rfl (by omega) (gf:=201) (lb:=#[.pointer (some ⟨wd.heap.size+1,0,none⟩),.pointer (some ⟨wd.heap.size+1+1,0,none⟩),.pointer (some ⟨wd.heap.size,0,none⟩)]) rfl trivial (enters_of Tryz.func201 (by kernel_rfl) rfl)
  HSt.out (fun h k=>dF h k) (dI (fun i h => .inr h)) (Below.refl _ _) (fun _=>rfl)
  (fun pre W=>Hid (aD W f m S)/\Hid (aT W m c ino)/\Hid (Pe W c F size N (if pre.length=0 then Pg else jl Pg S.slots S.size) Cm o (u+pre.length) (k+(1-pre.length)))/\Hid (ac F wD W))
  (fun _ _ _=>False)
  (fun s A B row hs hgr hr=>⟨aw hgr hs.1.out (fun e=>by obtain ⟨-,ob,h1,h2⟩:=hr _ e;have h3:=hs.1.out;unfold aD at h3;rw [h3] at h1;cases h1;cases h2),aw hgr hs.2.1.out (fun e=>by obtain ⟨-,ob,h1,h2⟩:=hr _ e;have h3:=hs.2.1.out;unfold aT at h3;rw [h3] at h1;cases h1;cases h2), ?own1, ?own3⟩)
  (fun cd s A B row hs hgr hr=>hs)
  ⟨HFD,HMD,HPD,ac.refl _ _⟩
  (fun x a' W=>∃pb,wD.heap.size<=pb/\a'={ tmps:=#[.pointer (some ⟨f,0,none⟩),.pointer (some ⟨w.heap.size,0,none⟩),.pointer (some ⟨w.heap.size+1,0,none⟩),.int .i64 z,.int .i64 (S.slots.getD (aC (z / 512+x.val)) 0:Nat),.pointer (some ⟨pb,0,none⟩),undef,undef,undef,.pointer (some ⟨f,0,none⟩),.pointer (some ⟨f,0,none⟩),.pointer (some ⟨f,2,none⟩),.pointer (some ⟨f,5,none⟩),.int .i64 z,.pointer (some ⟨f,0,none⟩),.int .i64 z,.int .i64 z,.int .i64 fz,.int .i64 z1,.func (.func 201) #[] #[.pointer (some ⟨wd.heap.size+1,0,none⟩),.pointer (some ⟨wd.heap.size+1+1,0,none⟩),.pointer (some ⟨wd.heap.size,0,none⟩)],.int .i64 (S.slots.getD (aC (z / 512+x.val)) 0:Nat),.agg #[.int .i64 (z-(z / 512+x.val)*512:Nat),.int .i64 (min (z1-(z / 512+x.val)*512) 512:Nat)],undef,undef,undef,undef,undef,undef,undef,undef,undef,undef,undef,undef,undef,undef,undef,undef,undef,undef,undef,undef,undef,undef,undef,undef,undef,undef,undef,undef],defers:=[] }/\W.heap[pb]? = some (.cells #[.int .i64 (z-(z / 512+x.val)*512:Nat),.int .i64 (min (z1-(z / 512+x.val)*512) 512:Nat)] 229 (0,0))) (fun x a' s A B row hs hgr hr => ?own4) ?assign ?body ?done ?stop
 case assign =>
  rintro l1 pre x W K hI hK;have HK:=hid hK;have HI:=hid hI;clear hK hI;unfold lA;obtain ⟨a1,ha1⟩:∃a1:Int,a1=((S.slots.getD (aC (z / 512+x.val)) 0:Nat):Int):=⟨_,rfl⟩;obtain ⟨a2,ha2⟩:∃a2:Int,a2=((z-(z / 512+x.val)*512:Nat):Int):=⟨_,rfl⟩;obtain ⟨a3,ha3⟩:∃a3:Int,a3=((min (z1-(z / 512+x.val)*512) 512:Nat):Int):=⟨_,rfl⟩;rw [<- ha1, <- ha2, <- ha3];have HA123:=hid (And.intro ha1 (And.intro ha2 ha3));clear ha1 ha2 ha3
  gi_wp2
  obtain ⟨rfl,rfl,rfl⟩:=HA123.out;obtain ⟨i1,i2,i3,i5⟩:=HI.out;have hwD:=i5.out.size;have hba:Below W.heap.size W (W.alloc (.cells #[.int .i64 (z-(z / 512+x.val)*512:Nat),.int .i64 (min (z1-(z / 512+x.val)*512) 512:Nat)] 229)):=(Below.refl _ W).alloc (Nat.le_refl _) _;refine HK.out _ _ ⟨by simp,fun i ob hi ho _=>aj ho _⟩ (ac.of_below hba) ⟨i1.out.below hba,i2.out.below hba,?_,i5.out.trans (ac.of_below hba:ac (fun _=>False) W _) (fun i e=>e.elim)⟩ ⟨W.heap.size,hwD,rfl,af W _⟩;obtain ⟨D,h1,h2⟩:=i3.out;exact ⟨D,h1,h2.below hba⟩
 case body =>
  rintro l1 pre x a' W hl1 hrec ⟨HFw,HMw,HPw,HKw⟩ ⟨pb,hpb,rfl,hpW⟩ hlt;have hx0:x.val=0:=by have:=x.isLt;have:=HMM.out;omega
  have hpr:pre.length=0:=by have:=HMM.out;omega
  have hze:=HZe.out;simp only [hx0,Nat.add_zero] at hpW ⊢;rw [hpr,if_pos rfl] at HPw;obtain ⟨D,hrD,hpD⟩:=HPw.out;have hnw:∀i,w.heap.size<=i->¬F i:=fun i hi hh=>by have:=HFl.out i hh;omega
  have c0b:=HKw.out.heap HR0.out (hnw _ (Nat.le_refl _));have c0:W.cell? ⟨w.heap.size,0,none⟩=some (.pointer (some ⟨f,0,none⟩)):=aa c0b 0;obtain ⟨cf,-⟩:=HFw.out.head;have hqN:=HQ.out;have h5:=H5.out;rw [<- HZ.out] at hqN h5;have HPg:=hid (eS HMw.out (S.slots.getD (aC (z / 512)) 0) hqN (show u<1000000 by omega) hpD (Below.refl _ W));obtain ⟨pn,hpn⟩:∃pn,pn=S.slots.getD (aC (z / 512)) 0:=⟨_,rfl⟩;obtain ⟨r,hr⟩:∃r,r=z-z / 512*512:=⟨_,rfl⟩;have hr5:min (z1-z / 512*512) 512=512:=by omega
  rw [<- hpn, <- hr,hr5];rw [<- hpn] at HPg hqN;rw [<- hr,hr5] at hpW;have HRz:Hid (r=z%512):=by unfold Hid;omega
  have hr0:0<r:=by omega
  have hr1:r<512:=by omega
  have hr1':(r:Int)<512:=by omega
  have hr2:¬(512=r):=by omega
  have hp0:W.cell? ⟨pb,0,none⟩=some (.int .i64 r):=aa hpW 0;have HPW:=hid hpW;have HRD:=hid hrD;have HPD1:=hid hpD;have HLn:=hid (hpD.len pn hqN);have HQN:=hid hqN;have hpbW:=ae hpW;have HC0:=hid c0b;have HPn:=hid hpn;clear HPw hrD hpD hpW c0b hpn HSt hze hqN h5 hr hr5 hx0 hnw;unfold gV at HPg
  gi_wp2
  refine (CallsIn.inRound l1 (callsIn_wide.2 HPg.out)).mono ?_;clear HPg;rintro e W2 ⟨g,rfl,hg,ho2,hk2,hW2⟩;have hnp:∀i,w.heap.size<=i->¬F i:=fun i hi hh=>by have:=HFl.out i hh;omega
  have HP2:=hid (hk2.heap HPW.out (hnp _ (by omega)));have HC2:=hid (hk2.heap HC0.out (hnp _ (by omega)));have q0:W2.cell? ⟨pb,0,none⟩=some (.int .i64 r):=aa HP2.out 0;have HO2:=hid ho2;have HK2:=hid hk2;have HW2:=hid hW2;have hgl:=ho2.lt;have HG:=hid hg;obtain ⟨t,ht⟩:∃t,t=512-r:=⟨_,rfl⟩;have hmk:=y8 W2 t (by omega);have hsl:512-r=t:=ht.symm;have hrt:r+t=512:=by omega
  have ht0:0<t:=by omega
  clear ho2 hk2 hW2 hnp hp0 c0 cf hg ht
  gi_wp2
  obtain ⟨W3,hW3⟩:∃W3,W3=W2.alloc (.cells ((zN t).map U8).toArray 5):=⟨_,rfl⟩;have hb23:Below W2.heap.size W2 W3:=by rw [hW3];exact (Below.refl _ W2).alloc (Nat.le_refl _) _
  have ho3:aV W3 W2.heap.size (zN t):=by rw [hW3];exact af W2 _
  have hrow3:=(qs HO2.out).below hb23;have hdl:((Pg pn).drop r).length=t:=by rw [List.length_drop,HLn.out];omega
  have heq:=iZ ((Pg pn).drop r) (zN t) ⟨g,r,none⟩ ⟨W2.heap.size,0,none⟩ t t W3 (fun j hj=>by rw [Addr.add_mid,List.getElem_drop];exact hrow3.cell (r+j) (by rw [HLn.out];omega)) ho3.at
  rw [hdl,aO] at heq;rw [<- hW3];have HEq:=hid heq;have HB23:=hid hb23;have HRo3:=hid hrow3;have HDl:=hid hdl;clear heq hb23 hrow3 hdl ho3 hW3 hmk q0;refine (CallsIn.inRound l1 (callsIn_wide.2 HEq.out)).mono ?_;clear HEq;rintro e w4 ⟨rfl,h4⟩;obtain rfl:=h4.symm;clear h4;have hclr:jl Pg S.slots S.size=bf Pg pn (jH (Pg pn) r):=by
   have h5:=H5.out;unfold jl;rw [if_neg h5, <- HZ.out, <- HPn.out, <- HRz.out]
  have HClr:=hid hclr;have hgW:=HG.out;have hWD:=HKw.out.size;clear hclr;by_cases hc:(Pg pn).drop r=zN t
  ·rw [decide_eq_true hc];have hsame:bf Pg pn (jH (Pg pn) r)=Pg:=by
    have e1:jH (Pg pn) r=Pg pn:=by unfold jH;rw [hsl, <- hc,List.take_append_drop]
    rw [e1];funext q;unfold bf;split
    ·rename_i e;rw [e]
    ·rfl
   have HSm:=hid hsame;clear hsame hc
   gi_wp2
   have kW3:ac F W W3:=HK2.out.trans (ac.of_below HB23.out:ac F W2 W3) (fun i e => .inl e);have hP3:=HW2.out W3 (ac.of_below HB23.out);refine ⟨⟨kW3.size,fun i ob hi ho _=>kW3.heap ho (fun hh=>by have:=HFl.out i hh;omega)⟩,kW3.mono (fun i e => .inl e),HFw.out.keep kW3 hfF,HMw.out.keep kW3 hmF,?_,HKw.out.trans kW3 (fun i e => .inl e)⟩;unfold Hid;rw [List.length_append,List.length_singleton,hpr,if_neg (by omega),HClr.out,HSm.out];exact ⟨D,HRD.out.le (by omega),hP3⟩
  ·rw [decide_eq_false hc];have hcr:=jn HRo3.out r t t ht0 (by rw [HLn.out];omega);have hst:=bT.clears t r (Pg pn) W3 HRo3.out (by rw [HLn.out];omega);obtain ⟨W4,hW4⟩:∃W4,W4=W3.setCells g r (List.replicate t (.int .u8 0)):=⟨_,rfl⟩;rw [<- hW4] at hcr hst;have hcc:=uv t r (Pg pn) (by rw [HLn.out];omega);rw [hcc,show zN t=zN (512-r) by rw [hsl],show (Pg pn).take r ++ zN (512-r)=jH (Pg pn) r from rfl] at hst;obtain ⟨hr4,hk4⟩:=hst;have k24:ac (fun i=>W.heap.size<=i) W2 W4:=(ac.of_below HB23.out:ac (fun i=>W.heap.size<=i) W2 W3).trans hk4 (fun i e=>by have e':i=g:=e;exact .inl (by show W.heap.size<=i;omega));have hP4:=HW2.out W4 k24;have kW4:ac F W W4:=HK2.out.trans k24 (fun i e => .inr e);have hf4:=HFw.out.keep kW4 hfF;have hm4:=HMw.out.keep kW4 hmF;obtain ⟨cf,-⟩:=hf4.head;have c0:W4.cell? ⟨w.heap.size,0,none⟩=some (.pointer (some ⟨f,0,none⟩)):=aa (kW4.heap HC0.out (fun hh=>Nat.lt_irrefl _ (HFl.out _ hh))) 0;have HWr:=hid (hP4.write pn HQN.out _ (lG HLn.out (by omega)) ⟨g,0,none⟩ 512 hr4.1 (HRD.out.use pn HQN.out));have HCa:=hid (cN hm4);have HF4:=hid hf4;have HM4:=hid hm4;have HKW4:=hid kW4;clear hW4 hcc hr4 hk4 k24 hP4 kW4 hf4 hm4 hc hsl
   gi_wp2
   refine (CallsIn.inRound l1 (callsIn_wide.2 HCa.out)).mono ?_;clear HCa;rintro e w8 ⟨rfl,h8⟩;obtain rfl:=h8.symm;clear h8
   gi_wp2
   refine (CallsIn.inRound l1 (callsIn_wide.2 HWr.out)).mono ?_;clear HWr;rintro e W8 ⟨rfl,hk8,hp8⟩;have HK8:=hid hk8;have HP8:=hid hp8;clear hk8 hp8 c0 cf hcr
   gi_wp2
   have kW8:ac F W W8:=HKW4.out.trans HK8.out (fun i e => .inl e);refine ⟨⟨kW8.size,fun i ob hi ho _=>kW8.heap ho (fun hh=>by have:=HFl.out i hh;omega)⟩,kW8.mono (fun i e => .inl e),HF4.out.keep HK8.out hfF,HM4.out.keep HK8.out hmF,?_,HKw.out.trans kW8 (fun i e => .inl e)⟩;unfold Hid;rw [List.length_append,List.length_singleton,hpr,if_neg (by omega),HClr.out];exact ⟨_,HRD.out.put pn,HP8.out⟩
 case own1 =>
  obtain ⟨D,h1,h2⟩:=hs.2.2.1.out;exact ⟨D,h1,h2.own (B:=wD.heap.size) (fun i hi=>by have:=HFl.out i hi;have:=HsD.out;omega) hgr hr⟩
 case own3=>exact hs.2.2.2.out.trans (ac.of_grown hgr (F:=fun i=>row=some i) (fun i e=>e)) (fun i e => .inr (hr i e).1)
 case own4 =>
  obtain ⟨pb,h1,h2,h3⟩:=hs;exact ⟨pb,h1,h2,aw hgr h3 (fun e=>by obtain ⟨-,ob,h4,h5⟩:=hr _ e;rw [h3] at h4;cases h4;cases h5)⟩
 case done =>
  rintro D1 ys W hD1 hys ⟨HFw,HMw,HPw,HKw⟩ hK1;have hyl:ys.length=1:=by
   have h1:=congrArg List.length hys;have:=HZe.out.1;rw [List.length_map,cJ] at h1;omega
  rw [hyl,if_neg (by omega)] at HPw;have v1:=HKw.out.heap HR1.out (fun hh=>by have:=HFl.out _ hh;omega);have e1:W.cell? ⟨w.heap.size+1,0,none⟩=some (.int .i64 0):=aa v1 0;have f1:W.frozen? ⟨w.heap.size+1,0,none⟩=false:=ai v1 0;have HV1:=hid v1;have HKD:=hid hK1;clear hys v1 hK1 hyl HSt
  gi_wp2
  have hwl:=HAs.out;have hwd:=HBD.out.size;have k4:ac (fun i=>i=w.heap.size+1) W (W.setCell ⟨w.heap.size+1,0,none⟩ (.int .i64 0)):=(ac.refl _ _).grown (ak (ar _ _) _ _) (fun i e => .inl (Option.some.inj e).symm);have v4:=ap HV1.out 0 (.int .i64 0);have d4:=k4.heap HKD.out (fun e=>by have e':D1=w.heap.size+1:=e;omega);obtain ⟨D,hr4,hp4⟩:=HPw.out;have hp5:=hp4.keepY (eW HV1.out) (fun hh=>by have:=HFl.out _ hh;omega) k4;have kw4:ac F w (W.setCell ⟨w.heap.size+1,0,none⟩ (.int .i64 0)):=(((ac.of_below HAB.out:ac F w wA).trans (ac.of_below HBD.out:ac F wA wD) (fun i e => .inl e)).trans HKw.out (fun i e => .inl e)).trans k4 (fun i e => .inr (by have e':i=w.heap.size+1:=e;omega));generalize W.setCell ⟨w.heap.size+1,0,none⟩ (.int .i64 0)=W4 at *;have hg5:=grownBy_putObj' W4 D1 (.deferred none);have hr5:∀r,some D1=some r->w.heap.size<=r/\∃o:Obj,W4.heap[r]? = some o/\o.isCells=false:=fun r e=>by cases e;exact ⟨by omega,_,d4,rfl⟩
  refine ⟨by simp,.inl ⟨_,_,rfl,run_takeDeferred d4,?_⟩⟩;refine ⟨_,iI rfl (aw hg5 v4 (fun e=>by cases e;omega)),?_⟩;exact ⟨rfl,kw4.trans (ac.of_grown hg5 (F:=fun i=>some D1=some i) (fun i e=>e)) (fun i e => .inr (by cases e;omega)),D,hr4.le (by omega),hp5.own HFl.out hg5 hr5⟩
 case stop =>
  intro D c pre W hD hpre hx;exact hx.elim
end
end
section
open Go.RowKit
def gvP (Pg:Nat->List UInt8) (q:Nat):Nat->List UInt8:=bf Pg 2 (flipL (Pg 2) q)
theorem yu {Pg:Nat->List UInt8} {q p:Nat} (h2:p≠2):gvP Pg q p=Pg p:=by unfold gvP bf;rw [if_neg h2]
theorem ue {Pg:Nat->List UInt8} {q:Nat}:gvP Pg q 2=flipL (Pg 2) q:=by unfold gvP bf;rw [if_pos rfl]
def ao.shrink (f:ao):ao:={ f with slots:=f.slots.set (f.cnt-1) 0,cnt:=f.cnt-1 }
theorem ed {f:ao} {j:Nat} (h:j≠f.cnt-1):f.shrink.slot j=f.slot j:=by
 unfold ao.shrink ao.slot;rw [List.getD_eq_getElem?_getD,List.getElem?_set_ne (fun e=>h e.symm), <- List.getD_eq_getElem?_getD]
theorem s6 {f:ao}:f.shrink.slot (f.cnt-1)=0:=by
 unfold ao.shrink ao.slot;rw [List.getD_eq_getElem?_getD];by_cases h:f.cnt-1<f.slots.length
 ·rw [List.getElem?_set_self h];rfl
 ·rw [List.getElem?_eq_none (by rw [List.length_set];omega)];rfl
def zsL (sl ks:List Nat):List Nat:=ks.foldl (fun s j=>s.set j 0) sl
theorem nh (sl ks:List Nat) (k:Nat):zsL sl (ks ++ [k])=(zsL sl ks).set k 0:=by simp [zsL]
def nV (Pg:Nat->List UInt8) (sl ks:List Nat):Nat->List UInt8:=ks.foldl (fun P j=>gvP P (sl.getD j 0)) Pg
theorem ox (Pg:Nat->List UInt8) (sl ks:List Nat) (k:Nat):nV Pg sl (ks ++ [k])=gvP (nV Pg sl ks) (sl.getD k 0):=by simp [nV]
def ao.cuts (f:ao) (k:Nat):ao:={ f with slots:=zsL f.slots (dnL f.cnt k),cnt:=f.cnt-k }
theorem oK (f:ao):f.cuts 0=f:=by unfold ao.cuts dnL zsL;simp
theorem oC (f:ao) (k:Nat):(f.cuts k).shrink=f.cuts (k+1):=by
 unfold ao.shrink ao.cuts;simp only [fu,nh];rw [show f.cnt-k-1=f.cnt-1-k by omega,show f.cnt-(k+1)=f.cnt-1-k by omega]
theorem kO (f:ao):∀(k j:Nat),j<f.cnt-k->(f.cuts k).slot j=f.slot j
 | 0,j,_=>by rw [oK]
 | k+1,j,hj=>by
  rw [<- oC,ed (by show j≠f.cnt-k-1;omega)];exact kO f k j (by omega)
section
variable {sk:Nat->Prop} {N ino:Nat} {Pg Pg':Nat->List UInt8} {fs:Nat->Option ao} {i:Nat} {f:ao}
theorem aF.give1 (h:aF sk N ino Pg fs) (hf:fs i=some f) (hs:sk i) (hc:0<f.cnt) (hn:au f.data.length<=f.cnt-1):aF sk N ino (gvP Pg (f.slot (f.cnt-1))) (bj fs i (some f.shrink))/\de (Pg 2) (f.slot (f.cnt-1))=true:=by
 have hok:=h.file i f hf;have hi:=h.out i f hf;have hnf:=h.nf;have hn4:=h.n4;have hl2:=h.len 2 (by omega);obtain ⟨q,hq⟩:∃q,q=f.slot (f.cnt-1):=⟨_,rfl⟩;rw [<- hq];have hqi:=hok.in_ (f.cnt-1) (by omega);rw [<- hq] at hqi;have hqb:de (Pg 2) q=true:=(h.pbit q hqi.1 hqi.2).2 ⟨i,f,f.cnt-1,hf,by omega,hq.symm⟩;have hup:∀p,p≠2->gvP Pg q p=Pg p:=fun p hp=>yu hp;have hsl:∀ {k:Nat} {g:ao} {j:Nat},bj fs i (some f.shrink) k=some g->j<g.cnt->∃g0,fs k=some g0/\j<g0.cnt/\g.slot j=g0.slot j/\(k=i->j<f.cnt-1):=fun {k g j} hg hj=>by
  rcases updA_cases hg with ⟨rfl,e⟩ | ⟨hne,hg⟩
  ·cases e;have hj':j<f.cnt-1:=hj;exact ⟨f,hf,by omega,ed (by omega),fun _=>hj'⟩
  ·exact ⟨g,hg,hj,rfl,fun e=>absurd e hne⟩
 refine ⟨⟨h.n4,h.nf,h.h8,h.i5,fun p hp => ?_,fun k hk => ?_,fun k g hg => ?_,fun k g hg => ?_,fun k g hg => ?_,fun k g hg hns => ?_,fun k g hg x hx => ?_,fun p hp1 hp2 => ?_,fun k g j k' g' j' hg hg' hj hj' e => ?_⟩,hqb⟩
 ·by_cases e:p=2
  ·rw [e,ue,bO];exact hl2
  ·rw [hup p e];exact h.len p hp
 ·rw [hup 1 (by omega),h.ibit k hk];by_cases e:k=i
  ·subst e;rw [aK,hf];simp
  ·rw [eu e]
 ·rcases updA_cases hg with ⟨rfl,-⟩ | ⟨-,hg⟩
  ·exact hi
  ·exact h.out k g hg
 ·rcases updA_cases hg with ⟨rfl,e⟩ | ⟨-,hg⟩
  ·cases e;refine ⟨hok.kind,hok.mode,hok.links,hok.size,by show (f.slots.set _ _).length=139;rw [List.length_set];exact hok.len,by show f.cnt-1<=139;have:=hok.cnt;omega,hn,fun j hj => ?_,fun j hj => ?_⟩
   ·have hj':j<f.cnt-1:=hj;rw [ed (by omega)];exact hok.in_ j (by omega)
   ·have hj':f.cnt-1<=j:=hj;by_cases e2:j=f.cnt-1
    ·rw [e2];exact s6
    ·rw [ed e2];exact hok.zero j (by omega)
  ·exact h.file k g hg
 ·have hk:k<ino/\fJ Pg k:=by
   rcases updA_cases hg with ⟨rfl,-⟩ | ⟨-,hg⟩
   ·exact ⟨hi.2,h.tab k f hf⟩
   ·exact ⟨(h.out k g hg).2,h.tab k g hg⟩
  unfold fJ;rw [hup _ (by omega)];exact hk.2
 ·rcases updA_cases hg with ⟨rfl,-⟩ | ⟨-,hg⟩
  ·exact absurd hs hns
  ·obtain ⟨h1,h2,h3⟩:=h.node k g hg hns;rw [hup _ (by omega)];refine ⟨h1,h2,fun hb => ?_⟩;have hx:=((h.file k g hg).in_ 10 (by rw [h2];have:=ew hb (h.file k g hg).size;omega)).1;rw [hup _ (by omega)];exact h3 hb
 ·have ha:∃g0,fs k=some g0/\g0.data=g.data/\g.slot (aC (x / 512))=g0.slot (aC (x / 512)):=by
   rcases updA_cases hg with ⟨rfl,e⟩ | ⟨-,hg⟩
   ·cases e;have h1:=(ec (show x<f.data.length from hx) hok.size).1;exact ⟨f,hf,rfl,ed (by omega)⟩
   ·exact ⟨g,hg,rfl,rfl⟩
  obtain ⟨g0,h1,h2,h3⟩:=ha;have hx0:x<g0.data.length:=by rw [h2];exact hx
  have h4:=((h.file k g0 h1).in_ _ (h.at_ h1 hx0).1).1;rw [h3,hup _ (by omega), <- h2];exact h.data k g0 h1 x hx0
 ·rw [ue,fj _ _ _ (by omega)];by_cases e:p=q
  ·subst e;rw [if_pos rfl,hqb];refine ⟨fun hh=>(by cases hh),?_⟩;rintro ⟨k,g,j,hg,hj,hp⟩;obtain ⟨g0,h1,h2,h3,h4⟩:=hsl hg hj;have h5:=h.apart k g0 j i f (f.cnt-1) h1 hf h2 (by omega) (by rw [<- h3,hp,hq]);have h6:=h4 h5.1;omega
  ·rw [if_neg e,h.pbit p hp1 hp2];constructor
   ·rintro ⟨k,g,j,hg,hj,hp⟩;by_cases hk:k=i
    ·subst hk;rw [hf] at hg;cases hg;have hjn:j≠f.cnt-1:=fun e'=>e (by rw [<- hp,hq,e']);exact ⟨k,_,j,aK _ _ _,by show j<f.cnt-1;omega,by rw [ed hjn];exact hp⟩
    ·exact ⟨k,g,j,(eu hk).trans hg,hj,hp⟩
   ·rintro ⟨k,g,j,hg,hj,hp⟩;obtain ⟨g0,h1,h2,h3,-⟩:=hsl hg hj;exact ⟨k,g0,j,h1,h2,h3.symm.trans hp⟩
 ·obtain ⟨g0,h1,h2,h3,-⟩:=hsl hg hj;obtain ⟨g1,h4,h5,h6,-⟩:=hsl hg' hj';exact h.apart k g0 j k' g1 j' h1 h4 h2 h5 (h3.symm.trans (e.trans h6))
theorem aF.gives (h:aF sk N ino Pg fs) (hf:fs i=some f) (hs:sk i):∀n,n<=f.cnt->au f.data.length<=f.cnt-n->aF sk N ino (nV Pg f.slots (dnL f.cnt n)) (bj fs i (some (f.cuts n)))
 | 0,_,_=>by rw [oK,fF hf];exact h
 | n+1,hc,hn=>by
  have h1:=aF.gives h hf hs n (by omega) (by omega);have h2:=(h1.give1 (aK _ _ _) hs (by show 0<f.cnt-n;omega) (by show au f.data.length<=f.cnt-n-1;omega)).1;rw [fg,oC,kO f n _ (by show f.cnt-n-1<f.cnt-n;omega)] at h2;rw [fu,ox];rw [show (f.cuts n).cnt-1=f.cnt-1-n by show f.cnt-n-1=_;omega] at h2;exact h2
theorem aF.givesBit (h:aF sk N ino Pg fs) (hf:fs i=some f) (hs:sk i) (n:Nat) (hc:n+1<=f.cnt) (hn:au f.data.length<=f.cnt-(n+1)):de (nV Pg f.slots (dnL f.cnt n) 2) (f.slots.getD (f.cnt-1-n) 0)=true:=by
 have h1:=aF.gives h hf hs n (by omega) (by omega);have h2:=(h1.give1 (aK _ _ _) hs (by show 0<f.cnt-n;omega) (by show au f.data.length<=f.cnt-n-1;omega)).2;rw [kO f n _ (by show f.cnt-n-1<f.cnt-n;omega),show (f.cuts n).cnt-1=f.cnt-1-n by show f.cnt-n-1=_;omega] at h2;exact h2
theorem aF.fewer (h:aF sk N ino Pg fs) (hf:fs i=some f) (hs:sk i) (z:Nat) (hz:z<=f.data.length):aF sk N ino Pg (bj fs i (some { f with data:=f.data.take z })):=by
 have hok:=h.file i f hf;have hl:(f.data.take z).length=z:=by rw [List.length_take];omega
 refine h.pages hf hs h.len (fun _ _=>rfl) _ (by rw [hl];have:=hok.size;omega) (by rw [hl];exact Nat.le_trans (bS hz hok.size) hok.need) (fun k hk => ?_);rw [hl] at hk;rw [jd _ _ _ hk];exact h.data i f hf k (by omega)
end
end
section
set_option maxRecDepth 100000
set_option maxHeartbeats 4000000
open Go.RowKit Go.Shelf
attribute [local go_sem] Oper.semAt_some
def nP (wE:World) (c:Nat) (F:Nat->Prop) (size N:Nat) (Pg Cm:Nat->List UInt8) (o u k f m:Nat) (S:bD) (hv:Nat) (pre:List Nat) (V:World):Prop :=
 ∃sl Pg',sl.length=139/\aD V f m ⟨S.num,S.kind,S.mode,S.links,S.size,sl⟩/\Pe V c F size N Pg' Cm o (u+pre.length) (k-pre.length)/\(pre=dnL hv pre.length->sl=zsL S.slots (dnL hv pre.length)/\Pg'=nV Pg S.slots (dnL hv pre.length))/\ac (fun i=>F i\/i=f) wE V
theorem nP.own {wE A B:World} {c:Nat} {F:Nat->Prop} {size N:Nat} {Pg Cm:Nat->List UInt8} {o u k f m:Nat} {S:bD} {hv:Nat} {pre:List Nat} {row:Option Nat} (h:nP wE c F size N Pg Cm o u k f m S hv pre A) (hF:∀i,F i->i<wE.heap.size) (hf:f<wE.heap.size) (hgr:A.grownBy B row) (hr:∀r,row=some r->wE.heap.size<=r/\∃o:Obj,A.heap[r]? = some o/\o.isCells=false):nP wE c F size N Pg Cm o u k f m S hv pre B:=by
 obtain ⟨sl,Pg',h1,h2,⟨D,h3,h4⟩,h5,h6⟩:=h;exact ⟨sl,Pg',h1,aw hgr h2 (fun e=>by have:=(hr _ e).1;omega),⟨D,h3,h4.own hF hgr hr⟩,h5,h6.trans (ac.of_grown hgr (F:=fun i=>row=some i) (fun i e=>e)) (fun i e => .inr (hr i e).1)⟩
theorem oQ:∀(k j:Nat) (sl:List Nat) {c:Nat},k<c->j+1<=c-k->(zsL sl (dnL c k)).getD j 0=sl.getD j 0
 | 0,_,_,_,_,_=>rfl
 | k+1,j,sl,c,hk,hj=>by
  rw [fu,nh,List.getD_eq_getElem?_getD,List.getElem?_set_ne (by omega), <- List.getD_eq_getElem?_getD];exact oQ k j sl (by omega) (by omega)
theorem vB {w w':World} {c ino:Nat} {F:Nat->Prop} {size N:Nat} {Pg Cm:Nat->List UInt8} {D:Int->Bool} {o u k n:Nat} {e:Ending} (hr:Rm N size D (k+1)) (hN:2<N) (hx:k8 w c F size N Pg Cm D o u 2 (3+ino / 8) N (n:Int) e w') :
  ac F w w'/\∃(r:Int) (Pg':Nat->List UInt8) (D':Int->Bool),e = .returned (.int .i64 r)/\¬r=7/\Rm N size D' k/\Pc w' c F size N Pg' Cm D' o (u+1)/\(de (Pg 2) n=true/\3+ino / 8<=n/\n<N->Pg'=gvP Pg n):=by
 obtain ⟨hk,h | h | h | h⟩:=hx
 ·obtain ⟨h1,rfl,h2⟩:=h;exact ⟨hk,2,Pg,D,rfl,by decide,hr.le (by omega),h2,fun hh=>absurd ⟨by omega,by omega⟩ h1⟩
 ·obtain ⟨-,h1,rfl,h2⟩:=h;rw [Int.toNat_natCast] at h1;exact ⟨hk,4,Pg,D,rfl,by decide,hr.le (by omega),h2,fun hh=>by rw [h1] at hh;cases hh.1⟩
 ·obtain ⟨-,-,h1,-⟩:=h;have h2:=hr.use 2 hN;exfalso;have e2:((2:Nat):Int)=2:=rfl;rw [e2] at h1 h2;rcases h2 with h2 | h2
  ·have h3:=h1;rw [if_pos h2] at h3;rcases hr with h4 | h4
   ·omega
   ·have:=kR N D;omega
  ·split at h1
   ·omega
   ·omega
 ·obtain ⟨-,-,-,rfl,h2⟩:=h;rw [Int.toNat_natCast] at h2;exact ⟨hk,0,_,_,rfl,by decide,hr.put 2,h2,fun _=>rfl⟩
theorem ya {w:World} {f m c ino:Nat} {F:Nat->Prop} {size N:Nat} {Pg Cm:Nat->List UInt8} {o u k:Nat} {S:bD} (h:aT w m c ino) (hmF:¬F m) (hi:ino<=512) (hN:3<=N) (hf:aD w f m S) (hfF:¬F f) (hS:S.slots.length=139) (s:Nat) (hs:S.size<=70656) (hss:s<=S.size) (hu:u<900000)
  (hbit:∀j,j<au S.size-au s->de (nV Pg S.slots (dnL (au S.size) j) 2) (S.slots.getD (au S.size-1-j) 0)=true/\3+ino / 8<=S.slots.getD (au S.size-1-j) 0/\S.slots.getD (au S.size-1-j) 0<N)
  (hp:Pe w c F size N Pg Cm o u (k+(au S.size-au s))) :
  Calls Tryz.prog 145 #[.pointer (some ⟨f,0,none⟩),.int .i64 s] w fun e w'=>e = .returned (.int .i64 0)/\ac (fun i=>F i\/i=f) w w'/\aD w' f m ⟨S.num,S.kind,S.mode,S.links,s,zsL S.slots (dnL (au S.size) (au S.size-au s))⟩ /\
    Pe w' c F size N (nV Pg S.slots (dnL (au S.size) (au S.size-au s))) Cm o (u+(au S.size-au s)) k:=by
 refine (callsIn_wide (n:=8)).1 ?_;obtain ⟨wA,hA⟩:∃wA,wA=(w.alloc (.cells #[.pointer (some ⟨f,0,none⟩)] 157)).alloc (.cells #[.int .i64 0] 31):=⟨_,rfl⟩;have hAB:Below w.heap.size w wA:=by rw [hA];exact ((Below.refl _ w).alloc (Nat.le_refl _) _).alloc (by simp) _
 have hA0:wA.heap[w.heap.size]? = some (.cells #[.pointer (some ⟨f,0,none⟩)] 157 (0,0)):=by rw [hA];exact aj (af w _) _
 have hA1:wA.heap[w.heap.size+1]? = some (.cells #[.int .i64 0] 31 (0,0)):=by
  have h1:=af (w.alloc (.cells #[.pointer (some ⟨f,0,none⟩)] 157)) (.cells #[.int .i64 0] 31);rw [World.size_alloc] at h1;rw [hA];exact h1
 have hAs:wA.heap.size=w.heap.size+2:=by rw [hA];simp
 have hfA:=hf.below hAB;obtain ⟨-,-,-,-,-,c5⟩:=hfA.head;have c0:wA.cell? ⟨w.heap.size,0,none⟩=some (.pointer (some ⟨f,0,none⟩)):=aa hA0 0;have HF:=hid hfA;have HMp:=hid (h.below hAB);have HPc:Hid (Pe wA c F size N Pg Cm o u (k+(au S.size-au s))):=by obtain ⟨D,h1,h2⟩:=hp;exact ⟨D,h1,h2.below hAB⟩
 have HFl:Hid (∀i,F i->i<w.heap.size):=by obtain ⟨D,h1,h2⟩:=hp;exact h2.lt
 have HBt:=hid hbit;have HA1:=hid hA1;have HA0:=hid hA0;have HAB:=hid hAB;have HAs:=hid hAs;have HS:=hid hS;have hfl:f<w.heap.size:=hf.lt;rw [hA] at c5 c0;obtain ⟨z,hz⟩:∃z,z=S.size:=⟨_,rfl⟩;rw [<- hz] at c5 hss;have HZ:=hid hz;have hss':¬((z:Int)<(s:Int)):=by omega
 clear hf hfA hA0 hA1 hAB hAs hS h hp hz hbit;refine callsIn_of_wp_marks Tryz.func145 rfl trivial ?_ rfl;simp only [Tryz.ntmps145,List.size_toArray,List.length_cons,List.length_nil,Nat.reduceAdd,Nat.reduceSub,Array.replicate_succ,Array.replicate_zero,List.push_toArray,List.append_toArray,List.nil_append,List.cons_append];have hf2:Fence.wide.fn 197:=trivial;have hf3:Fence.wide.fn 199:=trivial;have hf4:Fence.wide.fn 196:=trivial;have hf5:Fence.wide.fn 200:=trivial
 gi_wp2
 rw [<- hA] at c0 c5 ⊢;clear hA;have hn1:=gr (z:Int) wA;have hn2:=gr (s:Int) wA;rw [oV] at hn1 hn2;have hz7:z<=70656:=by have:=HZ.out;omega
 have hmo:au s<=au z:=bS (by have:=HZ.out;omega) hz7;have h139:=kh z;rw [<- HZ.out] at HBt HPc;obtain ⟨hv,hhv⟩:∃hv,hv=au z:=⟨_,rfl⟩;obtain ⟨nd,hnd⟩:∃nd,nd=au s:=⟨_,rfl⟩;rw [<- hhv] at hn1 hmo HBt HPc h139;rw [<- hnd] at hn2 hmo HBt HPc;have HHv:=hid hhv;have HNd:=hid hnd;have HN1:=hid hn1;have HN2:=hid hn2;clear hn1 hn2 hhv hnd;refine (callsIn_wide.2 HN1.out).mono ?_;clear HN1;rintro e w2 ⟨rfl,h2⟩;obtain rfl:=h2.symm;clear h2
 gi_wp2
 refine (callsIn_wide.2 HN2.out).mono ?_;clear HN2;rintro e w2 ⟨rfl,h2⟩;obtain rfl:=h2.symm;clear h2
 gi_wp2
 refine (callsIn_wide.2 (lB f hv nd wA)).mono ?_;rintro e wD ⟨rfl,hD⟩;have hDB:Below wA.heap.size wA wD:=by rw [hD];exact (((Below.refl _ wA).alloc (Nat.le_refl _) _).alloc (by simp) _).alloc (by simp;omega) _
 have hsD:wD.heap.size=wA.heap.size+3:=by rw [hD];simp
 have x0:wD.cell? ⟨wA.heap.size,0,none⟩=some (.pointer (some ⟨f,0,none⟩)):=by rw [hD];exact aa (aj (aj (af wA _) _) _) 0
 have x1:wD.cell? ⟨wA.heap.size+1,0,none⟩=some (.int .i64 hv):=by
  have h1:=af (wA.alloc (.cells #[.pointer (some ⟨f,0,none⟩)] 157)) (.cells #[.int .i64 hv] 3);rw [World.size_alloc] at h1;rw [hD];exact aa (aj h1 _) 0
 have x2:wD.cell? ⟨wA.heap.size+1+1,0,none⟩=some (.int .i64 nd):=by
  have h1:=af ((wA.alloc (.cells #[.pointer (some ⟨f,0,none⟩)] 157)).alloc (.cells #[.int .i64 hv] 3)) (.cells #[.int .i64 nd] 3);rw [World.size_alloc,World.size_alloc] at h1;rw [hD];exact aa h1 0
 have HDB:=hid hDB;have HFD:=hid (HF.out.below hDB);have HMD:=hid (HMp.out.below hDB);have HPD:Hid (Pe wD c F size N Pg Cm o u (k+(hv-nd))):=by obtain ⟨D,h1,h2⟩:=HPc.out;exact ⟨D,h1,h2.below hDB⟩
 have HR1:=hid (ah hDB HA1.out (ae HA1.out));have HR0:=hid (ah hDB HA0.out (ae HA0.out));have HsD:=hid hsD;have HSt:=hid (jw 7 (by omega) wA.heap.size (wA.heap.size+1) (wA.heap.size+1+1) f hv nd (fun i=>wD.heap.size<=i) (by omega) wD (by omega) (by omega) x0 x1 x2);have HWs:Hid (w.heap.size+2<=wD.heap.size):=by have:=HAs.out;unfold Hid;omega
 have HN0:Hid (nd-hv=0):=by unfold Hid;omega
 clear hD hDB hsD x0 x1 x2 HF HMp HPc HA1 HA0 c0 c5
 gi_wp2
 have hsd:=HsD.out;refine wpIn_rangeFunc_ownH rfl (by omega) (gf:=233) (lb:=#[.pointer (some ⟨wA.heap.size+1,0,none⟩),.pointer (some ⟨wA.heap.size+1+1,0,none⟩),.pointer (some ⟨wA.heap.size,0,none⟩)]) rfl trivial (enters_of Tryz.func233 (by kernel_rfl) rfl)
  HSt.out (fun h k=>dF h k) (dI (fun i h=>h)) (Below.refl _ _) (fun _=>rfl)
  (fun pre W=>pre=[]/\Hid (Below wD.heap.size wD W))
  (fun _ _ _=>False)
  (fun s A B row hs hgr hr=>⟨hs.1,hs.2.out.grown hgr hs.2.out.size (fun k e=>(hr k e).1)⟩)
  (fun cd s A B row hs hgr hr=>hs)
  ⟨rfl,Below.refl _ _⟩
  (fun _ _ _=>True) (fun _ _ _ _ _ _ hs _ _=>hs) ?assign ?body ?done ?stop
 case assign =>
  rintro l pre x W K ⟨rfl,hB⟩ hK;have HK:=hid hK;have HB:=hid hB;clear hK hB
  gi_wp2
  exact HK.out _ _ (KeepsFrom.refl _ _) (ac.refl _ _) ⟨trivial,HB.out⟩ trivial
 case body =>
  intro l pre x a' W h1 h2 h3 h4 hlt;exact absurd hlt (by rw [HN0.out];omega)
 case stop =>
  intro D c pre W hD hpre hx;exact hx.elim
 case done =>
  rintro D1 ys W hD1 hys ⟨rfl,hBW⟩ hK1;have HBW:=hid hBW.out;have HFw:=hid (HFD.out.below HBW.out);have HMw:=hid (HMD.out.below HBW.out);have HPw:Hid (Pe W c F size N Pg Cm o u (k+(hv-nd))):=by obtain ⟨D,h1,h2⟩:=HPD.out;exact ⟨D,h1,h2.below HBW.out⟩
  have HR0w:=hid (ah HBW.out HR0.out (ae HR0.out));have HR1w:=hid (ah HBW.out HR1.out (ae HR1.out));have cb:W.cell? ⟨w.heap.size,0,none⟩=some (.pointer (some ⟨f,0,none⟩)):=aa HR0w.out 0;have HKD1:=hid hK1;have hwW:w.heap.size+2<=W.heap.size:=Nat.le_trans HWs.out HBW.out.size;clear hys hK1 HR0 HR1 HSt hBW HFD HMD HPD
  gi_wp2
  refine (callsIn_wide.2 (jX f hv nd W)).mono ?_;rintro e wE ⟨rfl,hE⟩;have hEB:Below W.heap.size W wE:=by rw [hE];exact (((Below.refl _ W).alloc (Nat.le_refl _) _).alloc (by simp) _).alloc (by simp;omega) _
  have hsE:wE.heap.size=W.heap.size+3:=by rw [hE];simp
  have x0:wE.cell? ⟨W.heap.size,0,none⟩=some (.pointer (some ⟨f,0,none⟩)):=by rw [hE];exact aa (aj (aj (af W _) _) _) 0
  have x1:wE.cell? ⟨W.heap.size+1,0,none⟩=some (.int .i64 hv):=by
   have h1:=af (W.alloc (.cells #[.pointer (some ⟨f,0,none⟩)] 157)) (.cells #[.int .i64 hv] 3);rw [World.size_alloc] at h1;rw [hE];exact aa (aj h1 _) 0
  have x2:wE.cell? ⟨W.heap.size+1+1,0,none⟩=some (.int .i64 nd):=by
   have h1:=af ((W.alloc (.cells #[.pointer (some ⟨f,0,none⟩)] 157)).alloc (.cells #[.int .i64 hv] 3)) (.cells #[.int .i64 nd] 3);rw [World.size_alloc,World.size_alloc] at h1;rw [hE];exact aa h1 0
  have hG:∀i,w.heap.size<=i->i<wE.heap.size->¬(F i\/i=f\/wE.heap.size<=i):=fun i h1 h2 hh=>by
   rcases hh with hh | hh | hh
   ·have:=HFl.out i hh;omega
   ·omega
   ·omega
  have HSt2:=hid (iC 7 (by omega) W.heap.size (W.heap.size+1) (W.heap.size+1+1) f hv nd (fun i=>F i\/i=f\/wE.heap.size<=i) (by omega) (by omega) wE (hG _ (by omega) (by omega)) (hG _ (by omega) (by omega)) x0 x1 x2);have HFE:=hid (HFw.out.below hEB);have HME:=hid (HMw.out.below hEB);have HPE:Hid (Pe wE c F size N Pg Cm o u (k+(hv-nd))):=by obtain ⟨D,h1,h2⟩:=HPw.out;exact ⟨D,h1,h2.below hEB⟩
  have HKE:Hid (ac (fun i=>F i\/i=f) w wE):=ac.of_below (((HAB.out.trans (HDB.out.mono HAB.out.size)).trans (HBW.out.mono (by have:=HWs.out;omega))).trans (hEB.mono (by omega)));have HR0E:=hid (ah hEB HR0w.out (ae HR0w.out));have HR1E:=hid (ah hEB HR1w.out (ae HR1w.out));have HKDE:=hid (ah hEB HKD1.out (ae HKD1.out));have hlD1:=ae HKD1.out;clear hE hEB x0 x1 x2 cb HFw HPw HMw HR0w HR1w HKD1
  gi_wp2
  refine wpIn_rangeFunc_ownH rfl (by omega) (gf:=234) (lb:=#[.pointer (some ⟨W.heap.size+1,0,none⟩),.pointer (some ⟨W.heap.size+1+1,0,none⟩),.pointer (some ⟨W.heap.size,0,none⟩)]) rfl trivial (enters_of Tryz.func234 (by kernel_rfl) rfl)
   HSt2.out (fun h k=>dF h k) (dI (fun i h => .inr (.inr h))) (Below.refl _ _) (fun _=>rfl)
   (fun pre V=>Hid (nP wE c F size N Pg Cm o u (k+(hv-nd)) f m S hv (pre.map Fin.val) V))
   (fun _ _ _=>False)
   (fun s A B row hs hgr hr=>hs.out.own (fun i hi=>by have:=HFl.out i hi;omega) (by omega) hgr hr)
   (fun cd s A B row hs hgr hr=>hs)
   ⟨S.slots,Pg,HS.out,HFE.out,HPE.out,fun _=>⟨rfl,rfl⟩,ac.refl _ _⟩
   (fun x a' _=>a'={ tmps:=#[.pointer (some ⟨f,0,none⟩),.int .i64 s,.pointer (some ⟨w.heap.size,0,none⟩),undef,.pointer (some ⟨w.heap.size+1,0,none⟩),undef,.int .i64 hv,.int .i64 nd,undef,undef,undef,.pointer (some ⟨f,6+x.val,none⟩),undef,.int .i64 s,.pointer (some ⟨f,0,none⟩),.pointer (some ⟨f,0,none⟩),.pointer (some ⟨f,2,none⟩),.pointer (some ⟨f,5,none⟩),.int .i64 z,.bool false,undef,undef,undef,undef,undef,.pointer (some ⟨f,0,none⟩),.pointer (some ⟨f,0,none⟩),.pointer (some ⟨f,2,none⟩),.pointer (some ⟨f,5,none⟩),.int .i64 z,.int .i64 hv,.int .i64 s,.int .i64 nd,.pointer (some ⟨f,0,none⟩),.int .i64 hv,.int .i64 nd,.func (.func 233) #[] #[.pointer (some ⟨wA.heap.size+1,0,none⟩),.pointer (some ⟨wA.heap.size+1+1,0,none⟩),.pointer (some ⟨wA.heap.size,0,none⟩)],undef,undef,undef,undef,undef,undef,undef,undef,undef,undef,undef,undef,undef,undef,undef,undef,.pointer (some ⟨f,0,none⟩),.int .i64 hv,.int .i64 nd,.func (.func 234) #[] #[.pointer (some ⟨W.heap.size+1,0,none⟩),.pointer (some ⟨W.heap.size+1+1,0,none⟩),.pointer (some ⟨W.heap.size,0,none⟩)],.pointer (some ⟨f,6+x.val,none⟩),undef,undef,undef,undef,undef,undef,undef,undef,undef,undef,undef,undef,undef,undef,undef,undef,undef,undef,undef],defers:=[] }) (fun _ _ _ _ _ _ hs _ _=>hs) ?assign2 ?body2 ?done2 ?stop2
  case assign2 =>
   rintro l pre x W5 K hB hK;have HK:=hid hK;have HB:=hid hB;clear hK hB
   gi_wp2
   exact HK.out _ _ (KeepsFrom.refl _ _) (ac.refl _ _) HB.out rfl
  case body2 =>
   rintro l pre x a' V hl1 hrec hI rfl hlt;obtain ⟨sl,Pg',hsl,hfV,⟨D,hrV,hpV⟩,hgV,hkV⟩:=hI.out;rw [List.length_map] at hrV hpV;have hnF:∀i,w.heap.size<=i->¬F i:=fun i hi hh=>by have:=HFl.out i hh;omega
   have hb0:∀i,w.heap.size<=i->¬(F i\/i=f):=fun i hi hh=>by
    rcases hh with hh | hh
    ·have:=HFl.out i hh;omega
    ·omega
   have hmf:m≠f:=d7 HME.out HFE.out (fun e=>by simp at e);have hmV:=HME.out.keep hkV (fun hh=>hh.elim hmF hmf);obtain ⟨cf,-⟩:=hfV.head;have cb:V.cell? ⟨w.heap.size,0,none⟩=some (.pointer (some ⟨f,0,none⟩)):=aa (hkV.heap HR0E.out (hb0 _ (Nat.le_refl _))) 0;have hxl:x.val<sl.length:=by rw [hsl];exact x.isLt
   have ck:=hfV.slot x.val hxl;obtain ⟨pj,hpj⟩:∃pj:Nat,pj=sl.getD x.val 0:=⟨_,rfl⟩;have ck':V.cell? ⟨f,6+x.val,none⟩=some (.int .i64 pj):=by rw [ck,hpj,List.getD_eq_getElem?_getD,List.getElem?_eq_getElem hxl];rfl
   have hbd:Below V.heap.size V V.drew:=(Below.refl _ V).drew;have HGv:=hid ((nX (hmV.below hbd) hmF hi pj hN (show u+pre.length<1000000 by omega) (hpV.below hbd)).mono (fun e w' hx=>vB (hrV.le (show k+(hv-nd)-(pre.length+1)+1<=k+(hv-nd)-pre.length by omega)) (by omega) hx));have HBd:=hid hbd;have d0:=(hbd.cell (World.block_lt_of_cell? V _ cb)).trans cb;have d1:=(hbd.cell (World.block_lt_of_cell? V _ cf)).trans cf;have d2:=(hbd.cell (World.block_lt_of_cell? V _ ck')).trans ck';have HRb:=hid (hkV.heap HR0E.out (hb0 _ (Nat.le_refl _)));have HFV:=hid hfV;have HKV:=hid hkV;have HGV:=hid hgV;have HPj:=hid hpj;have HB0:=hid hb0;have HNF:=hid hnF;clear hrV hpV hfV hkV hgV hI hmV ck hpj hb0 hnF HSt2 hbd cb cf ck'
   gi_wp2
   refine nD (S:=fun W=>W.cell? ⟨w.heap.size,0,none⟩=some (.pointer (some ⟨f,0,none⟩))/\W.cell? ⟨f,0,none⟩=some (.pointer (some ⟨m,0,none⟩))/\W.cell? ⟨f,6+x.val,none⟩=some (.int .i64 pj)) (by kernel_rfl) (by kernel_rfl) ⟨d0,d1,d2⟩ (fun hHeld => ?_);generalize V.drew=vd at *;refine tq 0 _ ?_
   try simp only [tS]
   refine tq 1 _ ?_
   try simp only [tS]
   refine tq 2 _ ?_
   try simp only [tS]
   refine tq 3 _ ?_
   try simp only [tS]
   refine tq 4 _ ?_
   try simp only [tS]
   refine tq 5 _ ?_
   try simp only [tS]
   refine tq 6 _ ?_
   try simp only [tS]
   refine tq 7 _ ?_
   try simp only [tS]
   refine tr 8 (fun K hK => ?_);go_simp;refine HGv.out.mono ?_;clear HGv;rintro e W2 ⟨hk2d,r,Pg2,D2,rfl,hr7,hrm2,hp2,hgd2⟩;have hk2:ac F V W2:=(ac.of_below HBd.out:ac F V vd).trans hk2d (fun i e => .inl e);have e0:=hk2d.cell d0 (HNF.out _ (Nat.le_refl _));have e1:=hk2d.cell d1 hfF;have e2:=hk2d.cell d2 hfF
   go_wp2_with fail
   refine hK.out _ _ ⟨e0,e1,e2⟩ (fun hHeld => ?_);clear hK K
   try simp only [tS]
   refine tq 9 _ ?_
   try simp only [tS]
   refine wpAnyH_done (by kernel_rfl) ?_ _;refine b9.normal ?_;clear hHeld d0 d1 d2 e0 e1 hk2d;have hf2:=HFV.out.keep hk2 hfF;obtain ⟨pj2,k1⟩:∃pj:Nat,W2.cell? ⟨f,6+x.val,none⟩=some (.int .i64 pj):=⟨_,hf2.slot x.val hxl⟩;have k2:=hf2.frozen (6+x.val);have kk:ac (fun i=>i=f) W2 (W2.setCell ⟨f,6+x.val,none⟩ (.int .i64 0)):=(ac.refl _ W2).grown (ak (ar _ _) _ _) (fun i e => .inl (Option.some.inj e).symm);have kWW:ac (fun i=>F i\/i=f) V (W2.setCell ⟨f,6+x.val,none⟩ (.int .i64 0)):=(hk2.mono (fun i e => .inl e)).trans (kk.mono (fun i e => .inr e)) (fun i e => .inl e);have hst:=hf2.setSlot x.val 0;have hp3:=hp2.keepY hf2.off hfF kk;have HKF:Hid (KeepsFrom wE.heap.size V (W2.setCell ⟨f,6+x.val,none⟩ (.int .i64 0))):=⟨kWW.size,fun i ob hi ho _=>kWW.heap ho (HB0.out i (by omega))⟩;have HKG:Hid (ac (fun i=>F i\/i=f\/wE.heap.size<=i) V (W2.setCell ⟨f,6+x.val,none⟩ (.int .i64 0))):=kWW.mono (fun i e=>e.elim .inl (fun e => .inr (.inl e)));have HNew:Hid (Hid (nP wE c F size N Pg Cm o u (k+(hv-nd)) f m S hv ((pre ++ [x]).map Fin.val) (W2.setCell ⟨f,6+x.val,none⟩ (.int .i64 0)))):=by
    refine ⟨sl.set x.val 0,Pg2,by rw [List.length_set];exact hsl,hst,?_,fun hpre => ?_,HKV.out.trans kWW (fun i e => .inl e)⟩
    ·rw [List.length_map,List.length_append,List.length_singleton];exact ⟨D2,hrm2,hp3⟩
    ·rw [List.length_map,List.length_append,List.length_singleton,List.map_append,List.map_singleton,fu] at hpre;obtain ⟨hp1,hp2⟩:=List.append_inj' hpre rfl;have hx1:x.val=hv-1-pre.length:=by simpa using hp2
     obtain ⟨g1,g2⟩:=HGV.out (by rw [List.length_map];exact hp1);rw [List.length_map] at g1 g2;rw [List.length_map,List.length_append,List.length_singleton,fu,nh,ox, <- g1, <- g2, <- hx1];have hbt:=HBt.out pre.length hlt;rw [<- hx1] at hbt;have e1:pj=S.slots.getD x.val 0:=by rw [HPj.out,g1,hx1];exact oQ _ _ _ (by omega) (by omega)
     rw [<- e1, <- g2] at hbt;exact ⟨rfl,by rw [<- e1];exact hgd2 hbt⟩
   clear hk2 hp2 hf2 kk kWW hst hp3 hxl hgd2 hrm2 HGV e2
   gi_wp2
   exact ⟨HKF.out,HKG.out,HNew.out⟩
  case stop2 =>
   intro D c pre W hD hpre hx;exact hx.elim
  case done2 =>
   rintro D2 ys2 W3 hD2 hys2 hI3 hK2;obtain ⟨sl,Pg',hsl,hf3,⟨Dd,hr3,hp3⟩,hg3,hk3⟩:=hI3.out;have hyl:(ys2.map Fin.val).length=hv-nd:=by rw [hys2,nj]
   obtain ⟨g1,g2⟩:=hg3 (by rw [hyl];exact hys2);rw [hyl] at g1 g2 hr3 hp3;have hb0:∀i,w.heap.size<=i->¬(F i\/i=f):=fun i hi hh=>by
    rcases hh with hh | hh
    ·have:=HFl.out i hh;omega
    ·omega
   obtain ⟨-,-,-,-,-,c5⟩:=hf3.head;have g5:=hf3.frozen 5;have v0:=hk3.heap HR0E.out (hb0 _ (Nat.le_refl _));have v1:=hk3.heap HR1E.out (hb0 _ (Nat.le_succ _));have cb:W3.cell? ⟨w.heap.size,0,none⟩=some (.pointer (some ⟨f,0,none⟩)):=aa v0 0;have e1:W3.cell? ⟨w.heap.size+1,0,none⟩=some (.int .i64 0):=aa v1 0;have f1:W3.frozen? ⟨w.heap.size+1,0,none⟩=false:=ai v1 0;have hne:¬f=w.heap.size+1:=by omega
   have hne':¬w.heap.size+1=f:=by omega
   have HV1:=hid v1;have HK2:=hid hK2;have HKD3:=hid (hk3.heap HKDE.out (hb0 _ (by have:=HWs.out;omega)));have HK3:=hid hk3;have HF3:=hid hf3;have HG12:=hid (And.intro g1 g2);have HR3:=hid hr3;have HP3:=hid hp3;clear v0 v1 hK2 hf3 hys2 hI3 hg3 hk3 hyl g1 g2 hr3 hp3 hb0 hsl HSt2
   gi_wp2
   have hws:=HWs.out;have hB3z:=HK3.out.size;have kf:ac (fun i=>i=f) W3 (W3.setCell ⟨f,5,none⟩ (.int .i64 s)):=(ac.refl _ W3).grown (ak (ar _ _) _ _) (fun i e => .inl (Option.some.inj e).symm);have hv1:=kf.heap HV1.out (fun e=>hne' e);have kr:ac (fun i=>i=w.heap.size+1) (W3.setCell ⟨f,5,none⟩ (.int .i64 s)) ((W3.setCell ⟨f,5,none⟩ (.int .i64 s)).setCell ⟨w.heap.size+1,0,none⟩ (.int .i64 0)):=(ac.refl _ _).grown (ak (ar _ _) _ _) (fun i e => .inl (Option.some.inj e).symm);have hv2:=ap hv1 0 (.int .i64 0);have hf4:=(HF3.out.setSize s).keep kr (fun e=>hne e);have hp4:=((HP3.out.keepY HF3.out.off hfF kf).keepY (eW hv1) (fun hf=>by have:=HFl.out _ hf;omega) kr);have h2D:=kr.heap (kf.heap HK2.out (fun e=>by have e':D2=f:=e;omega)) (fun e=>by have e':D2=w.heap.size+1:=e;omega);have h1D:=kr.heap (kf.heap HKD3.out (fun e=>by have e':D1=f:=e;omega)) (fun e=>by have e':D1=w.heap.size+1:=e;omega);have kw4:ac (fun i=>F i\/i=f) w ((W3.setCell ⟨f,5,none⟩ (.int .i64 s)).setCell ⟨w.heap.size+1,0,none⟩ (.int .i64 0)) :=
    ((HKE.out.trans HK3.out (fun i e => .inl e)).trans kf (fun i e => .inl (.inr e))).trans kr (fun i e => .inr (by have e':i=w.heap.size+1:=e;omega))
   generalize (W3.setCell ⟨f,5,none⟩ (.int .i64 s)).setCell ⟨w.heap.size+1,0,none⟩ (.int .i64 0)=W4 at *;have hg5:=grownBy_putObj' W4 D2 (.deferred none);have h1D5:=aw hg5 h1D (fun e=>by cases e;omega);have hg6:=grownBy_putObj' (W4.putObj D2 (.deferred none)) D1 (.deferred none);have hr5:∀r,some D2=some r->w.heap.size<=r/\∃o:Obj,W4.heap[r]? = some o/\o.isCells=false:=fun r e=>by cases e;exact ⟨by omega,_,h2D,rfl⟩
   have hr6:∀r,some D1=some r->w.heap.size<=r/\∃o:Obj,(W4.putObj D2 (.deferred none)).heap[r]? = some o/\o.isCells=false:=fun r e=>by cases e;exact ⟨by omega,_,h1D5,rfl⟩
   refine ⟨by simp,.inl ⟨_,_,rfl,run_takeDeferred h2D,?_⟩⟩;refine ⟨by simp,.inl ⟨_,_,rfl,run_takeDeferred h1D5,?_⟩⟩;refine ⟨_,fU rfl (aw hg6 (aw hg5 hv2 (fun e=>by cases e;omega)) (fun e=>by cases e;omega)),?_⟩;refine ⟨rfl,?_,?_,?_⟩
   ·exact (kw4.trans (ac.of_grown hg5 (F:=fun i=>some D2=some i) (fun i e=>e)) (fun i e => .inr (by cases e;omega))).trans (ac.of_grown hg6 (F:=fun i=>some D1=some i) (fun i e=>e)) (fun i e => .inr (by cases e;omega))
   ·have:=aw hg6 (aw hg5 hf4 (fun e=>by cases e;omega)) (fun e=>by cases e;omega);rw [HG12.out.1] at this;rw [<- HZ.out, <- HHv.out, <- HNd.out];exact this
   ·have:=(hp4.own HFl.out hg5 hr5).own HFl.out hg6 hr6;rw [HG12.out.2] at this;rw [<- HZ.out, <- HHv.out, <- HNd.out];exact ⟨_,HR3.out.le (by omega),this⟩
end
section
open Go.RowKit
def rsz (d:List UInt8) (s:Nat):List UInt8:=d.take s ++ zN (s-d.length)
theorem cM (d:List UInt8) (s:Nat):(rsz d s).length=s:=by
 unfold rsz;rw [List.length_append,List.length_take,aO];omega
theorem rM (d:List UInt8) {s k:Nat} (hk:k<s):(rsz d s).getD k 0=d.getD k 0:=by
 unfold rsz;simp only [List.getD_eq_getElem?_getD];by_cases h:k<d.length
 ·rw [List.getElem?_append_left (by rw [List.length_take];omega),List.getElem?_take_of_lt hk]
 ·rw [List.getElem?_append_right (by rw [List.length_take];omega),List.getElem?_eq_none (show d.length<=k by omega), <- List.getD_eq_getElem?_getD];exact pB _ _
theorem yM {d:List UInt8} {s:Nat} (h:s<=d.length):rsz d s=d.take s:=by
 unfold rsz;rw [show s-d.length=0 by omega];exact List.append_nil _
section
variable {sk:Nat->Prop} {N ino:Nat} {Pg Pg':Nat->List UInt8} {fs:Nat->Option ao} {i:Nat} {f:ao}
theorem aF.extend (h:aF sk N ino Pg fs) (hf:fs i=some f) (hs:sk i) (hz:nB Pg f) (s:Nat) (hs7:s<=70656) (hn:au s<=f.cnt):aF sk N ino Pg (bj fs i (some { f with data:=rsz f.data s })):=by
 refine h.pages hf hs h.len (fun _ _=>rfl) _ (by rw [cM];exact hs7) (by rw [cM];exact hn) (fun k hk => ?_);rw [cM] at hk;rw [rM _ hk];by_cases hkd:k<f.data.length
 ·exact h.data i f hf k hkd
 ·have hd0:f.data.getD k 0=0:=by rw [List.getD_eq_getElem?_getD,List.getElem?_eq_none (by omega)];rfl
  rw [hd0];exact hz k (by omega) (Nat.lt_of_lt_of_le (ec hk hs7).1 hn)
end
def frL (Pg:Nat->List UInt8) (N ino:Nat):List Nat:=ax (Pg 2) (3+ino / 8) N 4096
def hoF (Pg:Nat->List UInt8) (N ino:Nat) (f:ao) (s:Nat):ao:=if f.data.length<s then { f.grows ((frL Pg N ino).take (au s-f.cnt)) with data:=rsz f.data s } else ao.cuts { f with data:=f.data.take s } (f.cnt-au s)
def hoP (Pg:Nat->List UInt8) (N ino:Nat) (f:ao) (s:Nat):Nat->List UInt8:=if f.data.length<s then jh (jl Pg f.slots f.data.length) ((frL Pg N ino).take (au s-f.cnt)) else nV Pg f.slots (dnL f.cnt (f.cnt-au s))
section
variable {N ino:Nat} {Pg:Nat->List UInt8} {fs:Nat->Option ao} {i:Nat} {f:ao}
theorem aF.hold (hg:aF gq N ino Pg fs) (hf:fs i=some f) (s:Nat) (hs:s<=70656) (hfr:au s-f.cnt<=(frL Pg N ino).length) :
  (hoF Pg N ino f s).kind=f.kind/\(hoF Pg N ino f s).mode=f.mode/\(hoF Pg N ino f s).links=f.links/\(hoF Pg N ino f s).data=rsz f.data s/\(hoF Pg N ino f s).cnt=au s/\aF (fun k=>k=i) N ino (hoP Pg N ino f s) (bj fs i (some (hoF Pg N ino f s))):=by
 have hok:=hg.file i f hf;obtain ⟨-,hcn,-⟩:=hg.node i f hf (fun e=>e);have h139:=kh s;have hc139:=hok.cnt;have hw:=hg.weak (sk:=fun k=>k=i);unfold hoF hoP;by_cases hss:f.data.length<s
 ·rw [if_pos hss,if_pos hss];obtain ⟨g1,g2,g3⟩:=hw.clears hf rfl hcn;have hmo:f.cnt<=au s:=by rw [hcn];exact bS (by omega) hs
  have hfe:frL Pg N ino=ax (jl Pg f.slots f.data.length 2) (3+ino / 8) N 4096:=by rw [g3];rfl
  obtain ⟨ks,hks⟩:∃ks,ks=(frL Pg N ino).take (au s-f.cnt):=⟨_,rfl⟩;have hkl:ks.length=au s-f.cnt:=by rw [hks,List.length_take];omega
  obtain ⟨g4,g5⟩:=g1.takes hf rfl g2 (au s-f.cnt) (by omega) (by rw [<- hfe];exact hfr);rw [<- hfe, <- hks] at g4 g5;rw [<- hks];have hgc:(f.grows ks).cnt=au s:=by show f.cnt+ks.length=_;omega
  have g6:=g4.extend (aK _ _ _) rfl g5 s hs (by rw [hgc];exact Nat.le_refl _);rw [fg] at g6;exact ⟨rfl,rfl,rfl,rfl,hgc,g6⟩
 ·rw [if_neg hss,if_neg hss];have hle:s<=f.data.length:=by omega
  have hmo:au s<=f.cnt:=by rw [hcn];exact bS hle hok.size
  have g1:=hw.fewer hf rfl s hle;have hl:(f.data.take s).length=s:=by rw [List.length_take];omega
  have g2:=g1.gives (aK _ _ _) rfl (f.cnt-au s) (by show f.cnt-au s<=f.cnt;omega) (by show au (f.data.take s).length<=f.cnt-(f.cnt-au s);rw [hl];omega);rw [fg] at g2;exact ⟨rfl,rfl,rfl,(yM hle).symm,by show f.cnt-(f.cnt-au s)=au s;omega,g2⟩
end
section
variable {w w':World} {m c ino p:Nat} {F:Nat->Prop} {size N:Nat} {Pg Cm:Nat->List UInt8} {fs:Nat->Option ao} {o u k kk:Nat} {i:Nat} {f:ao}
theorem mP (hm:aT w m c ino) (hmF:¬F m) (hp:Pe w c F size N Pg Cm o u (k+kk)) (hg:aF gq N ino Pg fs) (hf:fs i=some f) (hfi:aD w p m (f.S i f.data.length)) (hpF:¬F p) (hu:u<890000) (s:Nat) (hs:s<=70656) (hkk:1+2*(au s-f.cnt)+(f.cnt-au s)<=kk) :
  Calls Tryz.prog 145 #[.pointer (some ⟨p,0,none⟩),.int .i64 s] w fun e w'=>ac (fun i=>F i\/i=p) w w' /\
   ((au s-f.cnt<=(frL Pg N ino).length/\e = .returned (.int .i64 0)/\aD w' p m ((hoF Pg N ino f s).S i s)/\Pe w' c F size N (hoP Pg N ino f s) Cm o (u+140) k) \/
   ((frL Pg N ino).length<au s-f.cnt/\e = .returned (.int .i64 7)/\∃Pg' D',Pc w' c F size N Pg' Cm D' o (u+140))):=by
 have hok:=hg.file i f hf;have hnf:=hg.nf;obtain ⟨-,hcn,-⟩:=hg.node i f hf (fun e=>e);have e0:au (f.S i f.data.length).size=f.cnt:=hcn.symm;have h139:=kh s;have hc139:=hok.cnt;have hw:=hg.weak (sk:=fun k=>k=i);have hFl:∀i,F i->i<w.heap.size:=by obtain ⟨D,-,hp⟩:=hp;exact hp.lt
 unfold hoF hoP;by_cases hss:f.data.length<s
 ·rw [if_pos hss,if_pos hss];obtain ⟨-,-,g3⟩:=hw.clears hf rfl hcn;have hmo:f.cnt<=au s:=by rw [hcn];exact bS (by omega) hs
  have hcl:∀W,Below w.heap.size w W->Calls Tryz.prog 195 #[.pointer (some ⟨p,0,none⟩)] W fun e w'=>e = .returned (.int .i64 0)/\ac F W w'/\Pe w' c F size N (jl Pg f.slots f.data.length) Cm o (u+1) (k+2*(au s-au (f.S i f.data.length).size)):=fun W hW=>by
   obtain ⟨D,hr,hpD⟩:=hp;rw [e0];by_cases h5:f.data.length%512=0
   ·refine (rY (hfi.below hW) hok.len hok.size h5).mono ?_;rintro e w' ⟨rfl,hb⟩;refine ⟨rfl,ac.of_below hb,D,hr.le (by omega),?_⟩;have e1:jl Pg f.slots f.data.length=Pg:=by unfold jl;rw [if_pos h5]
    rw [e1];exact ((hpD.below hW).below hb).more (Nat.le_refl _) (by omega)
   ·exact rj (hm.below hW) hmF (hfi.below hW) hpF hok.len hok.size h5 (hok.lt (by omega) _) (by omega) ⟨D,hr.le (by omega),hpD.below hW⟩
  refine (xF hm hmF hg.i5 (by omega) hfi hpF hok.len hFl s hs hss (by rw [g3];exact hg.len 2 (by omega)) (by omega) hcl).mono ?_;rintro e w' ⟨hk',hx⟩;rw [g3,e0] at hx;have hfe:ax (Pg 2) (3+ino / 8) N 4096=frL Pg N ino:=rfl;rw [hfe] at hx;refine ⟨hk',?_⟩;rcases hx with ⟨h1,rfl,h2,h3⟩ | ⟨h1,rfl,Pg',D',h2⟩
  ·left;obtain ⟨ks,hks⟩:∃ks,ks=(frL Pg N ino).take (au s-f.cnt):=⟨_,rfl⟩;have hkl:ks.length=au s-f.cnt:=by rw [hks,List.length_take];omega
   rw [<- hks] at h2 h3 ⊢;refine ⟨h1,rfl,?_,?_⟩
   ·have e1:bC f.cnt (f.cnt+ks.length)=bC f.cnt (au s):=by rw [hkl,show f.cnt+(au s-f.cnt)=au s by omega]
    have e2:({ f.grows ks with data:=rsz f.data s }:ao).S i s=⟨i,f.kind,f.mode,f.links,s,ol f.slots (bC f.cnt (au s)) ks⟩:=by rw [<- e1];rfl
    rw [e2];exact h2
   ·obtain ⟨D,h4,h5⟩:=h3;exact ⟨D,h4,h5.more (Nat.le_refl _) (by omega)⟩
  ·exact .inr ⟨h1,rfl,Pg',D',h2.more (Nat.le_refl _) (by omega)⟩
 ·rw [if_neg hss,if_neg hss];have hle:s<=f.data.length:=by omega
  have hmo:au s<=f.cnt:=by rw [hcn];exact bS hle hok.size
  have g1:=hw.fewer hf rfl s hle;have hl:(f.data.take s).length=s:=by rw [List.length_take];omega
  have hbit:∀j,j<au (f.S i f.data.length).size-au s->de (nV Pg (f.S i f.data.length).slots (dnL (au (f.S i f.data.length).size) j) 2) ((f.S i f.data.length).slots.getD (au (f.S i f.data.length).size-1-j) 0)=true/\3+ino / 8<=(f.S i f.data.length).slots.getD (au (f.S i f.data.length).size-1-j) 0/\(f.S i f.data.length).slots.getD (au (f.S i f.data.length).size-1-j) 0<N:=fun j hj=>by
   rw [e0] at hj ⊢;exact ⟨g1.givesBit (aK _ _ _) rfl j (by show j+1<=f.cnt;omega) (by show au (f.data.take s).length<=f.cnt-(j+1);rw [hl];omega),hok.in_ (f.cnt-1-j) (by omega)⟩
  refine (ya (k:=k) (u:=u) hm hmF hg.i5 (by omega) hfi hpF hok.len s hok.size hle (by omega) hbit (by obtain ⟨D,hr,hpD⟩:=hp;exact ⟨D,hr.le (by rw [e0];omega),hpD⟩)).mono ?_;rintro e w' ⟨rfl,hk',h2,h3⟩;rw [e0] at h2 h3;refine ⟨hk',.inl ⟨by omega,rfl,h2,?_⟩⟩;obtain ⟨D,h4,h5⟩:=h3;exact ⟨D,h4,h5.more (Nat.le_refl _) (by omega)⟩
end
end
section
open Go.RowKit
section
variable {P:Program} {ops:Array Oper} {Q:Exit->Act->World->Prop} {md:Region.Mode} {S:World->Prop} {last:Nat}
def fy (P:Program) (md:Region.Mode) (ops:Array Oper) (Q:Exit->Act->World->Prop) (S:World->Prop) (last:Nat):Nat->Array Bool->Act->World->Prop
 | 0,listed,a,w=>Region.ready md ops listed=[]/\Q .normal a w
 | fuel+1,listed,a,w =>
  (Region.ready md ops listed=[]->Q .normal a w) /\
  ∀i∈Region.ready md ops listed,wpOp P ops Q i (fun a' w'=>(i≠last->S w')/\fy P md ops Q S last fuel (listed.setIfInBounds i true) a' w') a w
theorem mI:∀(fuel:Nat) (listed:Array Bool) (a:Act) (w:World),fy P md ops Q S last fuel listed a w->wpAny P md ops Q fuel listed a w
 | 0,_,_,_,h=>h
 | fuel+1,_,_,_,h=>⟨h.1,fun i hi=>wpOp_mono (fun a' w' h'=>mI fuel _ a' w' h'.2) (h.2 i hi)⟩
def j7 (md:Region.Mode) (ops:Array Oper) (last i:Nat):Bool:=match ops[last]? with
 | none=>true
 | some o=>o.after.any (fun e=>Region.binds md e&&e.on==i)
theorem lF {i j:Nat} {oj:Oper} {listed:Array Bool} (hi:i∈Region.ready md ops listed) (hj:j∈Region.ready md ops listed) (ho:ops[j]? = some oj):∀e∈oj.after,Region.binds md e=true->e.on≠i:=by
 intro e he hb hei;obtain ⟨-,o',ho',hw⟩:=mem_ready.1 hj;obtain rfl:oj=o':=Option.some.inj (ho.symm.trans ho');have hl:=hw e he hb;rw [hei] at hl;have hu:=(mem_ready.1 hi).1;by_cases hs:i<listed.size
 ·simp only [Array.getD_eq_getD_getElem?,Array.getElem?_eq_getElem hs,Option.getD_some] at hl hu;exact absurd (hl.symm.trans hu) (by decide)
 ·simp only [Array.getD_eq_getD_getElem?,Array.getElem?_eq_none (Nat.le_of_not_lt hs),Option.getD_none] at hl;exact absurd hl (by decide)
theorem tX {i j:Nat} {listed:Array Bool} (hw:j7 md ops last i=true) (hi:i∈Region.ready md ops listed) (hj:j∈Region.ready md ops listed):j≠last:=by
 rintro rfl;obtain ⟨-,o',ho',-⟩:=mem_ready.1 hj;unfold j7 at hw;rw [ho'] at hw;obtain ⟨e,he,hb⟩:=Array.any_eq_true'.1 hw;rw [Bool.and_eq_true] at hb;exact lF hi hj ho' e he hb.1 (beq_iff_eq.1 hb.2)
def uf (md:Region.Mode) (ops:Array Oper) (listed:Array Bool) (i:Nat) (oi:Oper):Prop:=∀j oj,ops[j]? = some oj->j≠i->listed.getD j true=false->(∀e∈oj.after,Region.binds md e=true->e.on≠i)->oi.apart ops oj=true
theorem uf.next {listed:Array Bool} {i j:Nat} {oi:Oper} (h:uf md ops listed i oi) (hj:listed.getD j true=false):uf md ops (listed.setIfInBounds j true) i oi:=fun k ok hk hne hun hno=>h k ok hk hne (by
 by_cases e:j=k
 ·rw [<- e];exact hj
 ·rwa [getD_set_ne true e] at hun) hno
theorem kE {i:Nat} {oi:Oper} {v:Value} (hi:ops[i]? = some oi) (hsel:∀(j:Nat) (o:Oper) cs b,ops[j]? = some o->o.op ≠ .select cs b)
  (hQ:∀c a w,Q (.panic c) (a.put oi.dst v) w->Q (.panic c) a w) (hwt:j7 md ops last i=true) :
  ∀(fuel:Nat) (listed:Array Bool) (a:Act) (w:World),uf md ops listed i oi->i∈Region.ready md ops listed->YieldsIf P ops S oi v a->S w ->
   fy P md ops Q S last fuel (listed.setIfInBounds i true) (a.put oi.dst v) w->fy P md ops Q S last (fuel+1) listed a w
 | 0,listed,a,w,_,hr,hy,hS,H=>⟨fun h0=>absurd (h0 ▸ hr) (by simp),fun j hj=>by
   by_cases e:j=i
   ·rw [e];exact hy.wpOp hi hS ⟨fun _=>hS,H⟩
   ·exact absurd (H.1 ▸ ready_mono hj e) (by simp)⟩
 | fuel+1,listed,a,w,hap,hr,hy,hS,H=>⟨fun h0=>absurd (h0 ▸ hr) (by simp),fun j hj=>by
   by_cases e:j=i
   ·rw [e];exact hy.wpOp hi hS ⟨fun _=>hS,H⟩
   ·obtain ⟨hun,oj,hoj,-⟩:=mem_ready.1 hj;have hap1:=hap j oj hoj e hun (lF hr hj hoj);refine wpOp_mono ?_ (wpOp_putIf hoj hap1 (fun cs b=>hsel i oi cs b hi) (fun cs b=>hsel j oj cs b hoj) hQ hy (H.2 j (ready_mono hj e)));rintro a' w' ⟨hy',hS',H'⟩;have hs':=hS' (tX hwt hr hj);exact ⟨hS',kE hi hsel hQ hwt fuel _ a' w' (hap.next hun) (ready_mono hr (Ne.symm e)) hy' hs' (by rw [Array.setIfInBounds_comm _ _ e];exact H')⟩⟩
theorem aP {i:Nat} {oi:Oper} {v:Value} {fuel:Nat} {listed:Array Bool} {a:Act} {w:World} (hwt:j7 md ops last i=true) (hi:ops[i]? = some oi)
  (hs:Region.noSelect ops=true) (hf:Region.free md ops listed i=true) (hr:(Region.ready md ops listed).contains i=true)
  (hQ:∀c a w,Q (.panic c) (a.put oi.dst v) w->Q (.panic c) a w) (hy:YieldsIf P ops S oi v a) (hS:S w)
  (h:fy P md ops Q S last fuel (listed.setIfInBounds i true) (a.put oi.dst v) w):fy P md ops Q S last (fuel+1) listed a w :=
 kE hi (Region.noSelect_spec hs) hQ hwt fuel listed a w (Region.free_spec hi hf) (by simpa using hr) hy hS h
theorem fh {i:Nat} {o:Oper} {fuel:Nat} {listed:Array Bool} {a:Act} {w:World} (hr:Region.ready md ops listed=[i]) (ho:ops[i]? = some o)
  (h:∀K':Act->World->Prop,Shut (∀a w,(i≠last->S w)->((i≠last->S w)->fy P md ops Q S last fuel (listed.setIfInBounds i true) a w)->K' a w)->if Region.wanted o (yielded ops a.tmps)=true then Oper.wp P o a w K' Q else K' (a.put o.dst undef) w) :
  fy P md ops Q S last (fuel+1) listed a w:=by
 refine ⟨fun h0=>absurd (hr ▸ h0) (by simp),fun j hj => ?_⟩;rw [hr] at hj;obtain rfl:=List.mem_singleton.1 hj;unfold wpOp;rw [ho];have h1:=h (fun a' w'=>(j≠last->S w')/\fy P md ops Q S last fuel (listed.setIfInBounds j true) a' w') (fun _ _ hS hr=>⟨hS,hr hS⟩);simp only
 split
 ·rename_i hw;rw [if_pos hw] at h1;exact .inl h1
 ·rename_i hw;rw [if_neg hw] at h1;exact h1
theorem lL {listed:Array Bool} {a:Act} {w:World} (hr:Region.ready md ops listed=[]) (h:Q .normal a w) :
  ∀fuel,fy P md ops Q S last fuel listed a w
 | 0=>⟨hr,h⟩
 | _+1=>⟨fun _=>h,by rw [hr];simp⟩
theorem lR {l n id:Nat} {a:Act} {w:World} (last:Nat) (hm:P.follows .mixedOrders=true) (hd:fq ops=true) (hS:S w.drew)
  (h:S w.drew->fy P .any ops (b9 Q) S last ops.size (Array.replicate ops.size false) a w.drew):(Code.region id ops true).wpIn (Fence.wide.inRound l) n P Q a w :=
 wpIn_mono (wpIn_region_any hm (jC hd _ _ _ _ (mI _ _ _ _ (h hS)))) b9.imp
end
end
section
set_option maxRecDepth 100000
set_option maxHeartbeats 4000000
open Go.RowKit Go.Shelf
attribute [local go_sem] Oper.semAt_some
def qr (w:World) (b blk:Nat) (r:List UInt8):Prop:=∃(of cp:Nat),w.heap[b]? = some (.cells #[.slice (some ⟨blk,of,none⟩) r.length cp] 76 (0,0))/\r.length<=cp/\az w ⟨blk,of,none⟩ r
theorem qr.below {w w':World} {b blk:Nat} {r:List UInt8} (h:qr w b blk r) (k:Below w.heap.size w w'):qr w' b blk r:=by
 obtain ⟨of,cp,h1,h2,h3⟩:=h;exact ⟨of,cp,ah k h1 (ae h1),h2,fun j hj=>(k.cell (World.block_lt_of_cell? w _ (h3 j hj))).trans (h3 j hj)⟩
theorem qr.keep {w w':World} {b blk:Nat} {r:List UInt8} {F:Nat->Prop} (h:qr w b blk r) (k:ac F w w') (hb:¬F b) (hk:¬F blk):qr w' b blk r:=by
 obtain ⟨of,cp,h1,h2,h3⟩:=h;exact ⟨of,cp,k.heap h1 hb,h2,fun j hj=>k.cell (h3 j hj) (by rw [Addr.add_mid];exact hk)⟩
theorem gW {w:World} {tmps:Array Value} {b:Nat} {x:Value} (h1:tmps.getD 6 undef = .pointer (some ⟨b,0,none⟩)) (r:w.heap[b]? = some (.cells #[x] 31 (0,0))) :
  (results Tryz.f80 tmps).run Tryz.prog w = .ok x w:=by
 have c1:w.cell? ⟨b,0,none⟩=some x:=aa r 0;have h1':tmps[6]?.getD undef = .pointer (some ⟨b,0,none⟩):=by simpa using h1
 simp only [results,Tryz.results80];simp [go_sem,h1',asAddr,c1]
section
variable {w:World} {f m c ino:Nat} {F:Nat->Prop} {size N:Nat} {Pg Pg1 Cm:Nat->List UInt8} {o u u1 n1 k:Nat} {S S1:bD} {X Y:Prop}
theorem qJ (a n z1:Nat) (l:List UInt8) (hn:l.length=n) (hz1:z1=a+n) (blk of cp:Nat) (h:aT w m c ino) (hmF:¬F m) (hf:aD w f m S) (hfF:¬F f) (hS:S.slots.length=139) (hS1:Y->S1.slots.length=139) (hFl:∀i,F i->i<w.heap.size)
  (hl:az w ⟨blk,of,none⟩ l) (hcp:n<=cp) (hbF:¬F blk) (hbf:blk≠f) (hbl:blk<w.heap.size) (ha:z1<=70656) (hu:u1<990000)
  (hsl:Y->∀k,a / 512<=k->k<fillN z1->S1.slots.getD (aC k) 0<N)
  (hho:∀W,Below w.heap.size w W->Calls Tryz.prog 145 #[.pointer (some ⟨f,0,none⟩),.int .i64 (max z1 S.size:Nat)] W fun e w'=>ac (fun i=>F i\/i=f) W w'/\((Y/\e = .returned (.int .i64 0)/\aD w' f m S1/\Pe w' c F size N Pg1 Cm o u1 (n1+(fillN z1-a / 512)))\/(X/\e = .returned (.int .i64 7)/\∃Pg' D',Pc w' c F size N Pg' Cm D' o u)))
  (hsv:Y->∀W,aD W f m S1->aT W m c ino->Pe W c F size N (wPs S1.slots a z1 Pg1 l (bC (a / 512) (fillN z1))).1 Cm o (u1+(fillN z1-a / 512)) n1 ->
   Calls Tryz.prog 147 #[.pointer (some ⟨f,0,none⟩)] W fun e w'=>e = .returned (.int .i64 0)/\ac F W w'/\Pe w' c F size N Pg Cm o u k) :
  Calls Tryz.prog 80 #[.pointer (some ⟨f,0,none⟩),.int .i64 a,.slice (some ⟨blk,of,none⟩) n cp] w fun e w'=>ac (fun i=>F i\/i=f) w w'/\((Y/\e = .returned (.int .i64 0)/\Pe w' c F size N Pg Cm o u k)\/(X/\e = .returned (.int .i64 7)/\∃Pg' D',Pc w' c F size N Pg' Cm D' o u)):=by
 refine (callsIn_wide (n:=8)).1 ?_;obtain ⟨wA,hA⟩:∃wA,wA=((w.alloc (.cells #[.pointer (some ⟨f,0,none⟩)] 157)).alloc (.cells #[.slice (some ⟨blk,of,none⟩) n cp] 76)).alloc (.cells #[.int .i64 0] 31):=⟨_,rfl⟩;have hAB:Below w.heap.size w wA:=by rw [hA];exact (((Below.refl _ w).alloc (Nat.le_refl _) _).alloc (by simp) _).alloc (by simp;omega) _
 have hA0:wA.heap[w.heap.size]? = some (.cells #[.pointer (some ⟨f,0,none⟩)] 157 (0,0)):=by rw [hA];exact aj (aj (af w _) _) _
 have hA1:wA.heap[w.heap.size+1]? = some (.cells #[.slice (some ⟨blk,of,none⟩) n cp] 76 (0,0)):=by
  have h1:=af (w.alloc (.cells #[.pointer (some ⟨f,0,none⟩)] 157)) (.cells #[.slice (some ⟨blk,of,none⟩) n cp] 76);rw [World.size_alloc] at h1;rw [hA];exact aj h1 _
 have hA2:wA.heap[w.heap.size+1+1]? = some (.cells #[.int .i64 0] 31 (0,0)):=by
  have h1:=af ((w.alloc (.cells #[.pointer (some ⟨f,0,none⟩)] 157)).alloc (.cells #[.slice (some ⟨blk,of,none⟩) n cp] 76)) (.cells #[.int .i64 0] 31);rw [World.size_alloc,World.size_alloc] at h1;rw [hA];exact h1
 have hAs:wA.heap.size=w.heap.size+3:=by rw [hA];simp
 have hfA:=hf.below hAB;obtain ⟨-,-,-,-,-,c5⟩:=hfA.head;have c0:wA.cell? ⟨w.heap.size,0,none⟩=some (.pointer (some ⟨f,0,none⟩)):=aa hA0 0;have c1:wA.cell? ⟨w.heap.size+1,0,none⟩=some (.slice (some ⟨blk,of,none⟩) n cp):=aa hA1 0;have HF:=hid hfA;have HMp:=hid (h.below hAB);have HFl:=hid hFl;have HA1:=hid hA1;have HA0:=hid hA0;have HA2:=hid hA2;have HAB:=hid hAB;have HAs:=hid hAs;have HS:=hid hS;have HS1':=hS1;have HSv':=hid hsv;have HHo:=hid hho;have HSl':=hid hsl;have hfl:f<w.heap.size:=hf.lt;have hml:m<w.heap.size:=ae h;rw [hA] at c5 c0 c1;obtain ⟨z,hz⟩:∃z,z=S.size:=⟨_,rfl⟩;rw [<- hz] at c5 HHo;have HZ:=hid hz;have HN:=hid hn;have haz:(a:Int)+(n:Int)=(z1:Int):=by omega
 have haz1:(a:Int)+(n:Int)<=70656:=by omega
 have HAz:=hid haz;have HZ1:=hid hz1;have HMx:Hid (max (z1:Int) (z:Int)=((max z1 z:Nat):Int)):=by unfold Hid;omega
 clear hf hfA hA0 hA1 hA2 hAB hAs hS hS1 h hz hn hho hsv hsl hFl haz hz1;refine callsIn_of_wp_marks Tryz.func80 rfl trivial ?_ rfl;simp only [Tryz.ntmps80,List.size_toArray,List.length_cons,List.length_nil,Nat.reduceAdd,Nat.reduceSub,Array.replicate_succ,Array.replicate_zero,List.push_toArray,List.append_toArray,List.nil_append,List.cons_append];have hf1:Fence.wide.fn 145:=trivial;have hf2:Fence.wide.fn 146:=trivial;have hf3:Fence.wide.fn 147:=trivial;have hf4:Fence.wide.fn 131:=trivial;have hf5:Fence.wide.fn 14:=trivial;have hf6:Fence.wide.fn 120:=trivial
 gi_wp2
 rw [<- hA] at c0 c1 c5 ⊢;clear hA;rw [HAz.out];refine wpIn_wide.2 ?_;have hbd:Below wA.heap.size wA wA.drew:=(Below.refl _ wA).drew;have d0:=(hbd.cell (World.block_lt_of_cell? wA _ c0)).trans c0;have d5:=(hbd.cell (World.block_lt_of_cell? wA _ c5)).trans c5;have HBd:=hid hbd;have HH2:=hid (HHo.out wA.drew (HAB.out.trans (hbd.mono HAB.out.size)));clear hbd HHo c1;refine wp_region_noPanic ?_;refine wp_region_held_drew (S:=fun W=>W.cell? ⟨w.heap.size,0,none⟩=some (.pointer (some ⟨f,0,none⟩))) (by kernel_rfl) c0 (fun hHeld => ?_);generalize wA.drew=wd at *;refine tq 0 _ ?_
 try simp only [tS]
 refine tq 1 _ ?_
 try simp only [tS]
 refine tq 2 _ ?_
 try simp only [tS]
 refine tq 3 _ ?_
 try simp only [tS]
 refine tq 4 _ ?_
 try simp only [tS]
 refine tq 5 _ ?_
 try simp only [tS]
 refine tr 6 (fun K hK => ?_);go_simp;refine hK.out _ _ d0 (fun hHeld => ?_);clear hK K
 try simp only [tS]
 refine tq 7 (.int .i64 (max z1 z:Nat)) ?_
 try simp only [tS]
 refine tr 8 (fun K hK => ?_);go_simp;refine HH2.out.mono ?_;clear HH2;rintro e w2 ⟨hk2,hx2⟩;have hb0:∀i,w.heap.size<=i->¬(F i\/i=f):=fun i hi hh=>by
  rcases hh with hh | hh
  ·have:=HFl.out i hh;omega
  ·omega
 have HB0:=hid hb0;have v0:=hk2.heap (ah HBd.out HA0.out (ae HA0.out)) (hb0 _ (Nat.le_refl _));have v1:=hk2.heap (ah HBd.out HA1.out (ae HA1.out)) (hb0 _ (by omega));have v2:=hk2.heap (ah HBd.out HA2.out (ae HA2.out)) (hb0 _ (by omega));have e0:w2.cell? ⟨w.heap.size,0,none⟩=some (.pointer (some ⟨f,0,none⟩)):=aa v0 0;rcases hx2 with ⟨hY,rfl,hf2,hp2⟩ | ⟨hX,rfl,hx2⟩
 rotate_left
 ·have e2:w2.cell? ⟨w.heap.size+1+1,0,none⟩=some (.int .i64 0):=aa v2 0;have f2:w2.frozen? ⟨w.heap.size+1+1,0,none⟩=false:=ai v2 0;have HV2:=hid v2;have HX2:=hid hx2;have HKw2:Hid (ac (fun i=>F i\/i=f) w w2):=((ac.of_below HAB.out:ac (fun i=>F i\/i=f) w wA).trans (ac.of_below HBd.out:ac (fun i=>F i\/i=f) wA wd) (fun i e => .inl e)).trans hk2 (fun i e => .inl e);clear hk2 hx2 v0 v1 v2 d0 d5 c0 c5 hb0 HBd HA0 HA1 HA2 HMp HF hl
  go_wp2_with fail
  refine hK.out _ _ e0 (fun hHeld => ?_);clear hK K
  try simp only [tS]
  refine tq 9 _ ?_
  try simp only [tS]
  refine wpAnyH_done (by kernel_rfl) ?_ _;refine NoPanic.normal ?_;clear hHeld
  gi_wp2
  have k4:ac (fun i=>i=w.heap.size+1+1) w2 (w2.setCell ⟨w.heap.size+1+1,0,none⟩ (.int .i64 7)):=(ac.refl _ _).grown (ak (ar _ _) _ _) (fun i e => .inl (Option.some.inj e).symm);have v4:=ap HV2.out 0 (.int .i64 7);obtain ⟨Pg',D',hp4⟩:=HX2.out;have hp5:=hp4.keepY (eW HV2.out) (fun hh=>by have:=HFl.out _ hh;omega) k4;refine ⟨_,gW rfl v4,?_⟩;exact ⟨HKw2.out.trans k4 (fun i e => .inr (by have e':i=w.heap.size+1+1:=e;omega)),.inr ⟨hX,rfl,Pg',D',hp5⟩⟩
 have HS1:=hid (HS1' hY);have HSv:=hid (HSv'.out hY);have HSl:=hid (HSl'.out hY);have HY:=hid hY;clear hY HS1' HSv' HSl';obtain ⟨-,-,-,-,-,e5⟩:=hf2.head;have hkw2:ac (fun i=>F i\/i=f) w w2:=((ac.of_below HAB.out:ac (fun i=>F i\/i=f) w wA).trans (ac.of_below HBd.out:ac (fun i=>F i\/i=f) wA wd) (fun i e => .inl e)).trans hk2 (fun i e => .inl e);have hs2:w.heap.size+3<=w2.heap.size:=by have h1:=HAs.out;have h2:=HBd.out.size;have h3:=hk2.size;omega
 have HM2:=hid ((HMp.out.below HBd.out).keep hk2 (fun hh=>hh.elim hmF (d7 HMp.out HF.out (fun e=>by simp at e))));have HV0:=hid v0;have HV1:=hid v1;have HV2:=hid v2;have HF2:=hid hf2;have HP2:=hid hp2;have HKw2:=hid hkw2;have HBy:Hid (az w2 ⟨blk,of,none⟩ l):=fun j hj=>(hkw2.cell (hl j hj) (fun hh=>by rw [Addr.add_mid] at hh;exact hh.elim hbF hbf));clear hk2 hf2 hp2 v0 v1 v2 hkw2 d0 d5 c0 c5 hb0 e5 HBd HA0 HA1 HA2 HMp HF hl
 go_wp2_with fail
 refine hK.out _ _ e0 (fun hHeld => ?_);clear hK K
 try simp only [tS]
 refine tq 9 _ ?_
 try simp only [tS]
 refine wpAnyH_done (by kernel_rfl) ?_ _;refine NoPanic.normal ?_;clear hHeld
 gi_wp2
 refine (callsIn_wide.2 (gM f a z1 w2)).mono ?_;rintro e wD ⟨rfl,hD⟩;have hDB:Below w2.heap.size w2 wD:=by rw [hD];exact (((Below.refl _ w2).alloc (Nat.le_refl _) _).alloc (by simp) _).alloc (by simp;omega) _
 have hsD:wD.heap.size=w2.heap.size+3:=by rw [hD];simp
 have x0:wD.cell? ⟨w2.heap.size,0,none⟩=some (.pointer (some ⟨f,0,none⟩)):=by rw [hD];exact aa (aj (aj (af w2 _) _) _) 0
 have x1:wD.cell? ⟨w2.heap.size+1,0,none⟩=some (.int .i64 a):=by
  have h1:=af (w2.alloc (.cells #[.pointer (some ⟨f,0,none⟩)] 157)) (.cells #[.int .i64 a] 3);rw [World.size_alloc] at h1;rw [hD];exact aa (aj h1 _) 0
 have x2:wD.cell? ⟨w2.heap.size+1+1,0,none⟩=some (.int .i64 z1):=by
  have h1:=af ((w2.alloc (.cells #[.pointer (some ⟨f,0,none⟩)] 157)).alloc (.cells #[.int .i64 a] 3)) (.cells #[.int .i64 z1] 3);rw [World.size_alloc,World.size_alloc] at h1;rw [hD];exact aa h1 0
 have HDB:=hid hDB;have HsD:=hid hsD;have HFD:=hid (HF2.out.below hDB);have HMD:=hid (HM2.out.below hDB);have HPD:Hid (Pe wD c F size N Pg1 Cm o u1 (n1+(fillN z1-a / 512))):=by obtain ⟨D,h1,h2⟩:=HP2.out;exact ⟨D,h1,h2.below hDB⟩
 have HR0:=hid (ah hDB HV0.out (ae HV0.out));have HR1:=hid (ah hDB HV1.out (ae HV1.out));have HR2:=hid (ah hDB HV2.out (ae HV2.out));have HByD:Hid (az wD ⟨blk,of,none⟩ l):=fun j hj=>(hDB.cell (World.block_lt_of_cell? w2 _ (HBy.out j hj))).trans (HBy.out j hj);have haM:a<=70656:=by have:=HZ1.out;omega
 have HSt:=hid (eK 7 (by omega) w2.heap.size (w2.heap.size+1) (w2.heap.size+1+1) f m a z1 S1 HS1.out (fun i=>F i\/i=w.heap.size+1\/wD.heap.size<=i) ha haM wD
  (fun hh=>by rcases hh with hh | hh | hh;(have:=HFl.out _ hh;omega);omega;omega) (fun hh=>by rcases hh with hh | hh | hh;(have:=HFl.out _ hh;omega);omega;omega) (fun hh=>by rcases hh with hh | hh | hh;(have:=HFl.out _ hh;omega);omega;omega)
  (fun hh=>by rcases hh with hh | hh | hh;exact hfF hh;omega;omega) HFD.out x0 x1 x2 (fillN z1-a / 512) rfl)
 have HNl:=hid (rfl:(wPs S1.slots a z1 Pg1 l [])=(Pg1,l));clear hD hDB hsD x0 x1 x2 HF2 HM2 HP2 HV0 HV1 HV2 HBy e0
 gi_wp2
 generalize hM:fillN z1-a / 512=M at *;have HMM:=hid hM;clear hM;refine wpIn_rangeFunc_ownH rfl (by omega) (gf:=201) (lb:=#[.pointer (some ⟨w2.heap.size+1,0,none⟩),.pointer (some ⟨w2.heap.size+1+1,0,none⟩),.pointer (some ⟨w2.heap.size,0,none⟩)]) rfl trivial (enters_of Tryz.func201 (by kernel_rfl) rfl)
  HSt.out (fun h k=>dF h k) (dI (fun i h => .inr (.inr h))) (Below.refl _ _) (fun _=>rfl)
  (fun pre W=>Hid (aD W f m S1)/\Hid (aT W m c ino)/\Hid (Pe W c F size N (wPs S1.slots a z1 Pg1 l (pre.map (fun x:Fin M=>a / 512+x.val))).1 Cm o (u1+pre.length) (n1+(M-pre.length))) /\
   Hid (qr W (w.heap.size+1) blk (wPs S1.slots a z1 Pg1 l (pre.map (fun x:Fin M=>a / 512+x.val))).2)/\Hid (ac (fun i=>F i\/i=w.heap.size+1) wD W))
  (fun _ _ _=>False)
  (fun s A B row hs hgr hr=>⟨aw hgr hs.1.out (fun e=>by obtain ⟨-,ob,h1,h2⟩:=hr _ e;have h3:=hs.1.out;unfold aD at h3;rw [h3] at h1;cases h1;cases h2),aw hgr hs.2.1.out (fun e=>by obtain ⟨-,ob,h1,h2⟩:=hr _ e;have h3:=hs.2.1.out;unfold aT at h3;rw [h3] at h1;cases h1;cases h2), ?own1, ?own2, ?own3⟩)
  (fun cd s A B row hs hgr hr=>hs)
  ⟨HFD,HMD,HPD, ?st,ac.refl _ _⟩
  (fun x a' W=>∃pb,wD.heap.size<=pb/\a'={ tmps:=#[.pointer (some ⟨f,0,none⟩),.int .i64 a,.slice (some ⟨blk,of,none⟩) n cp,.pointer (some ⟨w.heap.size,0,none⟩),undef,.pointer (some ⟨w.heap.size+1,0,none⟩),.pointer (some ⟨w.heap.size+1+1,0,none⟩),.int .i64 z1,.int .i64 0,.int .i64 (S1.slots.getD (aC (a / 512+x.val)) 0:Nat),.pointer (some ⟨pb,0,none⟩),undef,undef,.int .i64 a,.slice (some ⟨blk,of,none⟩) n cp,.int .i64 n,.int .i64 z1,.pointer (some ⟨f,0,none⟩),.int .i64 z1,.pointer (some ⟨f,0,none⟩),.pointer (some ⟨f,0,none⟩),.pointer (some ⟨f,2,none⟩),.pointer (some ⟨f,5,none⟩),.int .i64 z,.int .i64 (max z1 z:Nat),.int .i64 0,.int .i64 0,.bool false,undef,.pointer (some ⟨f,0,none⟩),.int .i64 a,.int .i64 z1,.func (.func 201) #[] #[.pointer (some ⟨w2.heap.size+1,0,none⟩),.pointer (some ⟨w2.heap.size+1+1,0,none⟩),.pointer (some ⟨w2.heap.size,0,none⟩)],.int .i64 (S1.slots.getD (aC (a / 512+x.val)) 0:Nat),.agg #[.int .i64 (a-(a / 512+x.val)*512:Nat),.int .i64 (min (z1-(a / 512+x.val)*512) 512:Nat)],undef,undef,undef,undef,undef,undef,undef,undef,undef,undef,undef,undef,undef,undef,undef,undef,undef,undef,undef,undef,undef,undef,undef,undef,undef,undef,undef,undef,undef,undef],defers:=[] }/\W.heap[pb]? = some (.cells #[.int .i64 (a-(a / 512+x.val)*512:Nat),.int .i64 (min (z1-(a / 512+x.val)*512) 512:Nat)] 229 (0,0))) (fun x a' s A B row hs hgr hr => ?own4) ?assign ?body ?done ?stop
 case assign =>
  rintro l1 pre x W K hI hK;have HK:=hid hK;have HI:=hid hI;clear hK hI;unfold lA;obtain ⟨a1,ha1⟩:∃a1:Int,a1=((S1.slots.getD (aC (a / 512+x.val)) 0:Nat):Int):=⟨_,rfl⟩;obtain ⟨a2,ha2⟩:∃a2:Int,a2=((a-(a / 512+x.val)*512:Nat):Int):=⟨_,rfl⟩;obtain ⟨a3,ha3⟩:∃a3:Int,a3=((min (z1-(a / 512+x.val)*512) 512:Nat):Int):=⟨_,rfl⟩;rw [<- ha1, <- ha2, <- ha3];have HA123:=hid (And.intro ha1 (And.intro ha2 ha3));clear ha1 ha2 ha3
  gi_wp2
  obtain ⟨rfl,rfl,rfl⟩:=HA123.out;obtain ⟨i1,i2,i3,i4,i5⟩:=HI.out;have hwD:=i5.out.size;have hba:Below W.heap.size W (W.alloc (.cells #[.int .i64 (a-(a / 512+x.val)*512:Nat),.int .i64 (min (z1-(a / 512+x.val)*512) 512:Nat)] 229)):=(Below.refl _ W).alloc (Nat.le_refl _) _;refine HK.out _ _ ⟨by simp,fun i ob hi ho _=>aj ho _⟩ (ac.of_below hba) ⟨i1.out.below hba,i2.out.below hba,?_,?_,i5.out.trans (ac.of_below hba:ac (fun _=>False) W _) (fun i e=>e.elim)⟩ ⟨W.heap.size,hwD,rfl,af W _⟩
  ·obtain ⟨D,h1,h2⟩:=i3.out;exact ⟨D,h1,h2.below hba⟩
  ·exact i4.out.below hba
 case body =>
  rintro l1 pre x a' W hl1 hrec ⟨HFw,HMw,HPw,HBw,HKw⟩ ⟨pb,hpb,rfl,hpW⟩ hlt;obtain ⟨D,hrD,hpD⟩:=HPw.out;obtain ⟨of1,cp1,hb1,hc1,hr1⟩:=HBw.out;have hx:=x.isLt;have hMM:=HMM.out;have hz1:=HZ1.out;have hnw:∀i,w.heap.size<=i->¬F i:=fun i hi hh=>by have:=HFl.out i hh;omega
  have c0b:=HKw.out.heap HR0.out (fun hh=>hh.elim (hnw _ (Nat.le_refl _)) (fun e=>by omega));have c0:W.cell? ⟨w.heap.size,0,none⟩=some (.pointer (some ⟨f,0,none⟩)):=aa c0b 0;obtain ⟨cf,-⟩:=HFw.out.head;have hsD:=HsD.out;have hpr:pre.length<M:=hlt;have HPg:=hid (eS HMw.out (S1.slots.getD (aC (a / 512+x.val)) 0) (HSl.out _ (by omega) (by omega)) (show u1+pre.length<1000000 by have h1:fillN z1<=138:=(by unfold fillN;omega);omega) hpD (Below.refl _ W));have HNm:Hid (S1.slots.getD (aC (a / 512+x.val)) 0<N):=HSl.out _ (by omega) (by omega);obtain ⟨R,hR⟩:∃R,R=wPs S1.slots a z1 Pg1 l (pre.map (fun x:Fin M=>a / 512+x.val)):=⟨_,rfl⟩;have HNx:Hid (wPs S1.slots a z1 Pg1 l ((pre ++ [x]).map (fun x:Fin M=>a / 512+x.val))=oU S1.slots a z1 R (a / 512+x.val)):=by unfold Hid;rw [List.map_append,List.map_singleton,nF,hR]
  unfold oU at HNx;obtain ⟨pn,hpn⟩:∃pn,pn=S1.slots.getD (aC (a / 512+x.val)) 0:=⟨_,rfl⟩;obtain ⟨fa,hfa⟩:∃fa,fa=a-(a / 512+x.val)*512:=⟨_,rfl⟩;obtain ⟨fz,hfz⟩:∃fz,fz=min (z1-(a / 512+x.val)*512) 512:=⟨_,rfl⟩;rw [<- hpn, <- hfa, <- hfz] at HNx ⊢;rw [<- hpn, <- hR] at HPg;rw [<- hpn] at HNm;rw [<- hR] at hpD hb1 hc1 hr1;rw [<- hfa, <- hfz] at hpW;have hq1:fa<=fz:=by omega
  have hq2:fz<=512:=by omega
  have hq3:(fz:Int)<=512:=by omega
  have hq4:¬(512=fa):=by omega
  have hp0:W.cell? ⟨pb,0,none⟩=some (.int .i64 fa):=aa hpW 0;have hp1:W.cell? ⟨pb,1,none⟩=some (.int .i64 fz):=aa hpW 1;have HPW:=hid hpW;have HB1:=hid hb1;have HC1:=hid hc1;have HR1w:=hid hr1;have HRD:=hid hrD;have HLn:=hid (hpD.len pn HNm.out);have hpbW:=ae hpW;have HC0:=hid c0b;have HR:=hid hR;have HPn:=hid hpn;clear HPw HBw hb1 hc1 hr1 hrD hpD hpW c0b hR hpn hfa hfz HSt hz1 hMM hx hsD hpr;unfold gV at HPg
  gi_wp2
  refine (CallsIn.inRound l1 (callsIn_wide.2 HPg.out)).mono ?_;clear HPg;rintro e W2 ⟨g,rfl,hg,ho2,hk2,hW2⟩;have hsD:=HsD.out;have hnp:∀i,w.heap.size<=i->¬F i:=fun i hi hh=>by have:=HFl.out i hh;omega
  have HP2:=hid (hk2.heap HPW.out (hnp _ (by omega)));have HB2:=hid (hk2.heap HB1.out (hnp _ (by omega)));have HC2:=hid (hk2.heap HC0.out (hnp _ (by omega)));have HO2:=hid ho2;have HK2:=hid hk2;have HW2:=hid hW2;have HRy:Hid (az W2 ⟨blk,of1,none⟩ R.2):=fun j hj=>hk2.cell (HR1w.out j hj) (by rw [Addr.add_mid];exact hbF);have hgl:=ho2.lt;have HG:=hid hg;clear ho2 hk2 hW2 hnp hp0 hp1 c0 cf hg hsD
  gi_wp2
  have hbd:Below W2.heap.size W2 W2.drew:=(Below.refl _ W2).drew;have hpd:=ah hbd HP2.out (ae HP2.out);have q0:W2.drew.cell? ⟨pb,0,none⟩=some (.int .i64 fa):=aa hpd 0;have q1:W2.drew.cell? ⟨pb,1,none⟩=some (.int .i64 fz):=aa hpd 1;have hbx:=ah hbd HB2.out (ae HB2.out);have b0:W2.drew.cell? ⟨w.heap.size+1,0,none⟩=some (.slice (some ⟨blk,of1,none⟩) R.2.length cp1):=aa hbx 0;have HBd:=hid hbd;have HBx:=hid hbx;clear hbd hpd hbx;refine lR 10 (S:=fun V=>V.cell? ⟨w.heap.size+1,0,none⟩=some (.slice (some ⟨blk,of1,none⟩) R.2.length cp1)/\V.cell? ⟨pb,0,none⟩=some (.int .i64 fa)/\V.cell? ⟨pb,1,none⟩=some (.int .i64 fz)) (by kernel_rfl) (by kernel_rfl) ⟨b0,q0,q1⟩ (fun hHeld => ?_);generalize W2.drew=wd at *;refine aP (hwt:=by kernel_rfl) (i:=0) (v:=?_) rfl (by kernel_rfl) (by kernel_rfl) (by kernel_rfl) (fun _ _ _ h=>h) (Or.inl ⟨by rfl,?_⟩) (by assumption) ?_
  rotate_left
  ·(intro W h;(try dsimp only at h);obtain ⟨s0,s1,s2⟩:=h;go_simp;try with_reducible rfl)
  try simp only [tS]
  refine aP (hwt:=by kernel_rfl) (i:=1) (v:=?_) rfl (by kernel_rfl) (by kernel_rfl) (by kernel_rfl) (fun _ _ _ h=>h) (Or.inl ⟨by rfl,?_⟩) (by assumption) ?_
  rotate_left
  ·(intro W h;(try dsimp only at h);obtain ⟨s0,s1,s2⟩:=h;go_simp;try with_reducible rfl)
  try simp only [tS]
  refine aP (hwt:=by kernel_rfl) (i:=2) (v:=?_) rfl (by kernel_rfl) (by kernel_rfl) (by kernel_rfl) (fun _ _ _ h=>h) (Or.inl ⟨by rfl,?_⟩) (by assumption) ?_
  rotate_left
  ·(intro W h;(try dsimp only at h);obtain ⟨s0,s1,s2⟩:=h;go_simp;try with_reducible rfl)
  try simp only [tS]
  refine aP (hwt:=by kernel_rfl) (i:=4) (v:=?_) rfl (by kernel_rfl) (by kernel_rfl) (by kernel_rfl) (fun _ _ _ h=>h) (Or.inl ⟨by rfl,?_⟩) (by assumption) ?_
  rotate_left
  ·(intro W h;(try dsimp only at h);obtain ⟨s0,s1,s2⟩:=h;go_simp;try with_reducible rfl)
  try simp only [tS]
  refine aP (hwt:=by kernel_rfl) (i:=3) (v:=?_) rfl (by kernel_rfl) (by kernel_rfl) (by kernel_rfl) (fun _ _ _ h=>h) (Or.inl ⟨by rfl,?_⟩) (by assumption) ?_
  rotate_left
  ·(intro W h;(try dsimp only at h);obtain ⟨s0,s1,s2⟩:=h;go_simp;try with_reducible rfl)
  try simp only [tS]
  refine aP (hwt:=by kernel_rfl) (i:=5) (v:=?_) rfl (by kernel_rfl) (by kernel_rfl) (by kernel_rfl) (fun _ _ _ h=>h) (Or.inl ⟨by rfl,?_⟩) (by assumption) ?_
  rotate_left
  ·(intro W h;(try dsimp only at h);obtain ⟨s0,s1,s2⟩:=h;go_simp;try with_reducible rfl)
  try simp only [tS]
  refine aP (hwt:=by kernel_rfl) (i:=6) (v := .slice (some ⟨g,fa,none⟩) (fz-fa) (512-fa)) rfl (by kernel_rfl) (by kernel_rfl) (by kernel_rfl) (fun _ _ _ h=>h) (Or.inl ⟨by rfl,?_⟩) (by assumption) ?_
  ·(intro W h;(try dsimp only at h);obtain ⟨s0,s1,s2⟩:=h;go_simp;try first | with_reducible rfl | go_num | (rw [if_pos (by assumption)];simp only [*]) | simp only [*])
  try simp only [tS]
  refine aP (hwt:=by kernel_rfl) (i:=7) (v:=?_) rfl (by kernel_rfl) (by kernel_rfl) (by kernel_rfl) (fun _ _ _ h=>h) (Or.inl ⟨by rfl,?_⟩) (by assumption) ?_
  rotate_left
  ·(intro W h;(try dsimp only at h);obtain ⟨s0,s1,s2⟩:=h;go_simp;try with_reducible rfl)
  try simp only [tS]
  refine fh (i:=8) (by kernel_rfl) rfl (fun K hK => ?_);rw [if_pos (by rfl)];have hgW:=HG.out;have HOd:=hid (HO2.out.below HBd.out);have HRd:Hid (az wd ⟨blk,of1,none⟩ R.2):=fun j hj=>(HBd.out.cell (World.block_lt_of_cell? W2 _ (HRy.out j hj))).trans (HRy.out j hj);have hxl:(R.2.take (fz-fa)).length=Nat.min R.2.length (fz-fa):=by rw [List.length_take];exact Nat.min_comm _ _
  have hxle:(R.2.take (fz-fa)).length<=fz-fa:=by rw [List.length_take];exact Nat.min_le_left _ _
  have hxle2:(R.2.take (fz-fa)).length<=R.2.length:=by rw [List.length_take];exact Nat.min_le_right _ _
  refine jT (.tmp 47) (.tmp 48) rfl g fa (fz-fa) (512-fa) ⟨blk,of1,none⟩ R.2.length cp1 rfl rfl (R.1 pn) (R.2.take (fz-fa)) HOd.out (fun j hj=>by rw [HRd.out j (by omega),List.getElem_take]) hxl (by rw [HLn.out];omega) ?_;intro w6 hk6 ho6 hz6;obtain ⟨cnt,hcnt⟩:∃cnt,cnt=(R.2.take (fz-fa)).length:=⟨_,rfl⟩;rw [<- hcnt] at ho6 hxle hxle2 ⊢;have hgl6:pb≠g:=by omega
  have hgb6:w.heap.size+1≠g:=by have:=HsD.out;omega
  have v6:=hk6.heap HBx.out (fun e=>hgb6 e);have b6:w6.cell? ⟨w.heap.size+1,0,none⟩=some (.slice (some ⟨blk,of1,none⟩) R.2.length cp1):=aa v6 0;have f6:w6.frozen? ⟨w.heap.size+1,0,none⟩=false:=ai v6 0;have q06:=hk6.cell q0 (fun e=>hgl6 e);have q16:=hk6.cell q1 (fun e=>hgl6 e);have hcc:cnt<=cp1:=by have:=HC1.out;omega
  have hcc1:(cnt:Int)<=(R.2.length:Int):=by omega
  have hcc0:(0:Int)<=(cnt:Int):=by omega
  have hcc2:(R.2.length:Int)<=(cp1:Int):=by have:=HC1.out;omega
  have HK6:=hid hk6;have HO6:=hid ho6;have HV6:=hid v6;have HCn:=hid hcnt;clear hk6 ho6 hz6 hcnt hxl b0 q0 q1 v6;refine hK.out _ _ (fun _=>⟨b6,q06,q16⟩) (fun hHeld6 => ?_);have hHeld:=hHeld6 (by decide);clear hK K hHeld6
  try simp only [goInt,List.getElem_toArray,List.getElem_cons_succ,List.getElem_cons_zero,Act.put,List.setIfInBounds_toArray,List.set_cons_zero,List.set_cons_succ]
  obtain ⟨ad,had⟩:∃ad:Nat,ad=if cp1=cnt then of1 else of1+cnt:=⟨_,rfl⟩
  have had2:(if cp1=cnt then some (⟨blk,of1,none⟩:Addr) else some ⟨blk,of1+cnt,none⟩)=some ⟨blk,ad,none⟩:=by rw [had];split <;> rfl
  have HAd:=hid had;clear had;refine aP (hwt:=by kernel_rfl) (i:=9) (v := .slice (some ⟨blk,ad,none⟩) (R.2.length-cnt) (cp1-cnt)) rfl (by kernel_rfl) (by kernel_rfl) (by kernel_rfl) (fun _ _ _ h=>h) (Or.inl ⟨by rfl,?_⟩) (by assumption) ?_
  ·(intro W h;(try dsimp only at h);obtain ⟨s0,s1,s2⟩:=h;go_simp;try first | with_reducible rfl | go_num | (rw [if_pos (by assumption)];simp only [*]) | simp only [*])
  try simp only [tS]
  refine fh (i:=10) (by kernel_rfl) rfl (fun K hK => ?_);rw [if_pos (by rfl)];go_simp;obtain ⟨W7,hW7⟩:∃W7,W7=w6.setCell ⟨w.heap.size+1,0,none⟩ (.slice (some ⟨blk,ad,none⟩) (R.2.length-cnt) (cp1-cnt)):=⟨_,rfl⟩;rw [<- hW7];have k7:ac (fun i=>i=w.heap.size+1) w6 W7:=by rw [hW7];exact (ac.refl _ w6).grown (ak (ar _ _) _ _) (fun i e => .inl (Option.some.inj e).symm)
  have v7:W7.heap[w.heap.size+1]? = some (.cells #[.slice (some ⟨blk,ad,none⟩) (R.2.length-cnt) (cp1-cnt)] 76 (0,0)):=by rw [hW7];exact ap HV6.out 0 _
  have ho6:fW w6 (w.heap.size+1):=⟨_,_,_,HV6.out,by decide,fun v hv => .inr (.inr (.inl ⟨_,_,_,by simpa using hv⟩))⟩;have hnp:∀i,w.heap.size<=i->¬F i:=fun i hi hh=>by have:=HFl.out i hh;omega
  have hsD:=HsD.out;have hWD:=HKw.out.size;have hW2:=HK2.out.size;have k26:ac (fun i=>W.heap.size<=i) W2 w6:=(ac.of_below HBd.out:ac (fun i=>W.heap.size<=i) W2 wd).trans HK6.out (fun i e=>by have e':i=g:=e;exact .inl (by show W.heap.size<=i;omega));have hp7:=(HW2.out w6 k26).keepY ho6 (hnp _ (by omega)) k7;have k27:ac (fun i=>W.heap.size<=i\/i=w.heap.size+1) W2 W7:=(k26.mono (fun i e => .inl e)).trans k7 (fun i e => .inl (.inr e));have kW7:ac (fun i=>F i\/i=w.heap.size+1) W W7:=(HK2.out.mono (fun i e => .inl e)).trans k27 (fun i e=>e.elim (fun e => .inr e) (fun e => .inl (.inr e)));have hfb:¬(F f\/f=w.heap.size+1):=fun hh=>hh.elim hfF (fun e=>by omega);have hmb:¬(F m\/m=w.heap.size+1):=fun hh=>hh.elim hmF (fun e=>by omega);have hbb:¬(F blk\/blk=w.heap.size+1):=fun hh=>hh.elim hbF (fun e=>by omega);have hf7:=HFw.out.keep kW7 hfb;have hm7:=HMw.out.keep kW7 hmb;obtain ⟨cf,-⟩:=hf7.head;have c0:W7.cell? ⟨w.heap.size,0,none⟩=some (.pointer (some ⟨f,0,none⟩)):=aa (kW7.heap HC0.out (fun hh=>hh.elim (hnp _ (Nat.le_refl _)) (fun e=>by omega))) 0;have ho7:=HO6.out.keep k7 (fun e=>hgb6 e.symm);have hnl:(List.take fa (R.1 pn) ++ List.take (fz-fa) R.2 ++ List.drop (fa+cnt) (R.1 pn)).length=512:=by rw [List.length_append,List.length_append, <- HCn.out,List.length_take,List.length_drop,HLn.out];omega
  have hu7:Rm N size D (n1+(M-(pre.length+1))+1):=HRD.out.le (by omega);have HWr:=hid (hp7.write pn HNm.out _ hnl ⟨g,0,none⟩ 512 ho7.at (hu7.use pn HNm.out));have HCa:=hid (cN hm7);have HRm:=hid hu7;have HF7:=hid hf7;have HM7:=hid hm7;have HV7:=hid v7;have HKW7:=hid kW7;have HR7:Hid (az W7 ⟨blk,of1,none⟩ R.2):=fun j hj=>kW7.cell (HR1w.out j hj) (by rw [Addr.add_mid];exact hbb);clear hW7 k7 v7 ho6 k26 k27 kW7 hp7 hf7 hm7 ho7 hnl hu7 hHeld b6 q06 q16 f6 hsD;refine hK.out _ _ (fun hne=>absurd rfl hne) (fun _ => ?_);clear hK K
  try simp only [tS]
  refine lL (by kernel_rfl) ?_ _;refine b9.normal ?_
  gi_wp2
  refine (CallsIn.inRound l1 (callsIn_wide.2 HCa.out)).mono ?_;clear HCa;rintro e w8 ⟨rfl,h8⟩;obtain rfl:=h8.symm;clear h8
  gi_wp2
  refine (CallsIn.inRound l1 (callsIn_wide.2 HWr.out)).mono ?_;clear HWr;rintro e W8 ⟨rfl,hk8,hp8⟩;have HK8:=hid hk8;have HP8:=hid hp8;clear hk8 hp8 c0 cf
  gi_wp2
  have hsD:=HsD.out;have hWD:=HKw.out.size;have hnp:∀i,w.heap.size<=i->¬F i:=fun i hi hh=>by have:=HFl.out i hh;omega
  have kW8:ac (fun i=>F i\/i=w.heap.size+1) W W8:=HKW7.out.trans HK8.out (fun i e => .inl (.inl e));have hnx:=HNx.out;rw [<- HCn.out] at hnx;have hbox:qr W8 (w.heap.size+1) blk (R.2.drop (fz-fa)):=by
   have hl:(R.2.drop (fz-fa)).length=R.2.length-cnt:=by rw [List.length_drop,HCn.out,List.length_take];omega
   refine ⟨ad,cp1-cnt,?_,?_,fun j hj => ?_⟩
   ·rw [hl];exact HK8.out.heap HV7.out (hnp _ (by omega))
   ·have:=HC1.out;omega
   ·have h1:cp1≠cnt:=fun e=>by have:=HC1.out;omega
    have h2:=HAd.out;rw [if_neg h1] at h2;have h3:=HR7.out (cnt+j) (by omega);have h4:=HK8.out.cell h3 (by rw [Addr.add_mid];exact hbF);rw [Addr.add_mid] at h4 ⊢;rw [h2,show of1+cnt+j=of1+(cnt+j) by omega,h4,List.getElem_drop];have h5:fz-fa=cnt:=by have:=HCn.out;rw [List.length_take] at this;omega
    simp only [h5]
  refine ⟨⟨kW8.size,fun i ob hi ho _=>kW8.heap ho (fun hh=>hh.elim (hnp _ (by omega)) (fun e=>by omega))⟩,kW8.mono (fun i e=>e.elim .inl (fun e => .inr (.inl e))),HF7.out.keep HK8.out hfF,HM7.out.keep HK8.out hmF,?_,?_,HKw.out.trans kW8 (fun i e => .inl e)⟩
  ·unfold Hid;rw [hnx,List.length_append,List.length_singleton];exact ⟨_,HRm.out.put pn,HP8.out⟩
  ·unfold Hid;rw [hnx];exact hbox
 case own1 =>
  obtain ⟨D,h1,h2⟩:=hs.2.2.1.out;exact ⟨D,h1,h2.own (B:=wD.heap.size) (fun i hi=>by have:=HFl.out i hi;have:=HsD.out;omega) hgr hr⟩
 case own2 =>
  have hsD:=HsD.out;exact hs.2.2.2.1.out.keep (ac.of_grown hgr (F:=fun i=>row=some i) (fun i e=>e)) (fun e=>by have:=(hr _ e).1;omega) (fun e=>by have:=(hr _ e).1;omega)
 case own3=>exact hs.2.2.2.2.out.trans (ac.of_grown hgr (F:=fun i=>row=some i) (fun i e=>e)) (fun i e => .inr (hr i e).1)
 case st =>
  have hn:=HN.out;refine ⟨of,cp,?_,by show l.length<=cp;omega,HByD.out⟩;show wD.heap[w.heap.size+1]? = some (.cells #[.slice (some ⟨blk,of,none⟩) l.length cp] 76 (0,0));rw [hn];exact HR1.out
 case own4 =>
  obtain ⟨pb,h1,h2,h3⟩:=hs;exact ⟨pb,h1,h2,aw hgr h3 (fun e=>by obtain ⟨-,ob,h4,h5⟩:=hr _ e;rw [h3] at h4;cases h4;cases h5)⟩
 case done =>
  rintro D1 ys W hD1 hys ⟨HFw,HMw,HPw,HBw,HKw⟩ hK1;have hyl:ys.length=M:=by
   have h1:=congrArg List.length hys;rw [List.length_map,cJ,HMM.out] at h1;exact h1
  rw [hys,hyl] at HPw;have hsD:=HsD.out;have hnp:∀i,w.heap.size<=i->¬F i:=fun i hi hh=>by have:=HFl.out i hh;omega
  have hw0:∀i,w.heap.size<=i->i≠w.heap.size+1->¬(F i\/i=w.heap.size+1):=fun i hi hne hh=>hh.elim (hnp i hi) hne;have HPw2:Hid (Pe W c F size N (wPs S1.slots a z1 Pg1 l (bC (a / 512) (fillN z1))).1 Cm o (u1+M) n1):=by
   have h1:=HPw.out;rw [show n1+(M-M)=n1 by omega] at h1;exact h1
  have HSv2:=hid (HSv.out W HFw.out HMw.out HPw2.out);have HR2w:=hid (HKw.out.heap HR2.out (hw0 _ (by omega) (by omega)));have c0:W.cell? ⟨w.heap.size,0,none⟩=some (.pointer (some ⟨f,0,none⟩)):=aa (HKw.out.heap HR0.out (hw0 _ (Nat.le_refl _) (by omega))) 0;have HKD:=hid hK1;have HHD:=hid hD1;clear hys hyl hK1 HPw HPw2 HSv HSt hw0 hD1 hsD
  gi_wp2
  refine (callsIn_wide.2 HSv2.out).mono ?_;clear HSv2;rintro e W3 ⟨rfl,hk3,hp3⟩;have hnp2:=hnp;have v3:=hk3.heap HR2w.out (hnp _ (by omega));have e3:W3.cell? ⟨w.heap.size+1+1,0,none⟩=some (.int .i64 0):=aa v3 0;have f3:W3.frozen? ⟨w.heap.size+1+1,0,none⟩=false:=ai v3 0;have HV3:=hid v3;have HK3:=hid hk3;have HP3:=hid hp3;have HNp:=hid hnp;clear v3 hk3 hp3 c0 hnp hnp2
  gi_wp2
  have hsD:=HsD.out;have hD1:=HHD.out;have k4:ac (fun i=>i=w.heap.size+1+1) W3 (W3.setCell ⟨w.heap.size+1+1,0,none⟩ (.int .i64 0)):=(ac.refl _ _).grown (ak (ar _ _) _ _) (fun i e => .inl (Option.some.inj e).symm);have v4:=ap HV3.out 0 (.int .i64 0);have d4:=k4.heap (HK3.out.heap HKD.out (HNp.out _ (by omega))) (fun e=>by have e':D1=w.heap.size+1+1:=e;omega);obtain ⟨D,hr4,hp4⟩:=HP3.out;have hp5:=hp4.keepY (eW HV3.out) (HNp.out _ (by omega)) k4;have kw4:ac (fun i=>F i\/i=f) w (W3.setCell ⟨w.heap.size+1+1,0,none⟩ (.int .i64 0)) :=
   ((((HKw2.out.trans (ac.of_below HDB.out:ac (fun _=>False) w2 wD) (fun i e=>e.elim)).trans HKw.out (fun i e=>e.elim (fun e => .inl (.inl e)) (fun e => .inr (by omega)))).trans HK3.out (fun i e => .inl (.inl e))).trans k4 (fun i e => .inr (by have e':i=w.heap.size+1+1:=e;omega)))
  generalize W3.setCell ⟨w.heap.size+1+1,0,none⟩ (.int .i64 0)=W4 at *;have hg5:=grownBy_putObj' W4 D1 (.deferred none);have hr5:∀r,some D1=some r->w.heap.size<=r/\∃o:Obj,W4.heap[r]? = some o/\o.isCells=false:=fun r e=>by cases e;exact ⟨by omega,_,d4,rfl⟩
  refine ⟨by simp,.inl ⟨_,_,rfl,run_takeDeferred d4,?_⟩⟩;refine ⟨_,gW rfl (aw hg5 v4 (fun e=>by cases e;omega)),?_⟩;exact ⟨kw4.trans (ac.of_grown hg5 (F:=fun i=>some D1=some i) (fun i e=>e)) (fun i e => .inr (by cases e;omega)),.inl ⟨HY.out,rfl,D,hr4,hp5.own HFl.out hg5 hr5⟩⟩
 case stop =>
  intro D c pre W hD hpre hx;exact hx.elim
end
end
section
open Go.RowKit
structure St (w:World) (s m c:Nat) (F:Nat->Prop) (N ino:Nat) (Pg Cm:Nat->List UInt8) (fs:Nat->Option ao) (o u:Nat):Prop where
 map:aT w m c ino
 store:bG w s m
 mF:¬F m
 sF:¬F s
 few:N<=100
 pc:∃D,Pc w c F 100 N Pg Cm D o u
 good:aF gq N ino Pg fs
theorem zo {N:Nat} (h:N<=100) (D:Int->Bool) (k:Nat):Rm N 100 D k := .inr (by omega)
section
variable {w w':World} {s m c ino:Nat} {F:Nat->Prop} {N:Nat} {Pg Cm:Nat->List UInt8} {fs:Nat->Option ao} {o u:Nat} {i:Nat} {f:ao}
theorem St.below (h:St w s m c F N ino Pg Cm fs o u) (hb:Below w.heap.size w w'):St w' s m c F N ino Pg Cm fs o u:=by
 obtain ⟨D,hp⟩:=h.pc;exact ⟨h.map.below hb,h.store.below hb,h.mF,h.sF,h.few,⟨D,hp.below hb⟩,h.good⟩
theorem St.lt (h:St w s m c F N ino Pg Cm fs o u):∀i,F i->i<w.heap.size:=by
 obtain ⟨D,hp⟩:=h.pc;exact hp.lt
theorem St.more {u':Nat} (h:St w s m c F N ino Pg Cm fs o u) (hu:u<=u'):St w s m c F N ino Pg Cm fs o u':=by
 obtain ⟨D,hp⟩:=h.pc;exact ⟨h.map,h.store,h.mF,h.sF,h.few,⟨D,hp.more (Nat.le_refl _) hu⟩,h.good⟩
theorem jB {D:Int->Bool} (h:aT w m c ino) (hp:Pc w c F 100 N Pg Cm D o u) (hg:aF gq N ino Pg fs) (hf:fs i=some f) (hu:u<1000000):Calls Tryz.prog 79 #[gV m,.int .i64 i,ct f.node] w fun e w'=>∃p,e = .returned (.pointer (some ⟨p,0,none⟩))/\w.heap.size<=p/\aD w' p m (f.S i f.data.length)/\ac F w w'/\Pc w' c F 100 N Pg Cm D o (u+1):=by
 have hok:=hg.file i f hf;obtain ⟨-,h2,h3⟩:=hg.node i f hf (fun e=>e);have hnf:=hg.nf;have hno:=hok.node (by omega) hg.n4;by_cases hs:f.data.length<=5120
 ·refine (tK i f.node hno hs w).mono ?_;rintro e w' ⟨p,rfl,hp1,hf1,hb1⟩;refine ⟨p,rfl,hp1,?_,ac.of_below hb1,(hp.below hb1).more (Nat.le_refl _) (by omega)⟩;have e1:f.node.pages ++ List.replicate 128 0=f.slots:=s9 hok.len (fun j hj=>hok.zero j (by
   rw [h2];unfold au fillN;rw [if_neg (by omega),if_neg (by omega)];omega))
  rw [e1] at hf1;exact hf1
 ·have h10:f.node.pages.getD 10 0=f.slot 10:=by
   show (f.slots.take 11).getD 10 0=f.slots.getD 10 0;rw [List.getD_eq_getElem?_getD,List.getElem?_take_of_lt (by omega), <- List.getD_eq_getElem?_getD]
  refine (vf h hp hu i f.node hno (by show 5120<f.data.length;omega) (by rw [h10];exact hok.lt (by omega) 10)).mono ?_;rintro e w' ⟨p,rfl,hp1,hf1,hk1,hq1⟩;refine ⟨p,rfl,hp1,?_,hk1,hq1⟩;rw [h10,h3 (by omega)] at hf1;have e1:b8 f.node.pages (bg (f.slots.drop 11) 128) 128=f.slots:=vZ hok.len (hok.each (by omega) hg.n4);rw [e1] at hf1;exact hf1
theorem gJ (h:St w s m c F N ino Pg Cm fs o u) (hf:fs i=some f) (hu:u<999990):Calls Tryz.prog 78 #[.pointer (some ⟨s,0,none⟩),.int .i64 i] w fun e w'=>e = .returned (.tuple #[ct f.node,.int .i64 0])/\ac F w w'/\St w' s m c F N ino Pg Cm fs o (u+2):=by
 obtain ⟨D,hp⟩:=h.pc;have hi:=h.good.out i f hf;have hok:=h.good.file i f hf;have hnf:=h.good.nf;have ht:=h.good.tabLt hi.2;refine (yA h.map h.mF h.store h.sF h.good.i5 i hi.1 hi.2 ((h.good.ibit i hi.2).2 (.inr (by rw [hf];rfl))) (by omega) hu hp).mono ?_;rintro e w' ⟨rfl,hk,hp'⟩;rw [(h.good.node i f hf (fun e=>e)).1,oJ f.node (hok.node (by omega) h.good.n4)];exact ⟨rfl,hk,h.map.keep hk h.mF,h.store.keep hk h.sF,h.mF,h.sF,h.few,⟨D,hp'⟩,h.good⟩
end
theorem yR {d:List UInt8} {a z s:Nat} {l:List UInt8} (hz:a+l.length=z) (hs:max z d.length=s):wrD (rsz d s) a l=wrD d a l:=by
 have h1:(wrD (rsz d s) a l).length=s:=by rw [cP,cM];omega
 have h2:(wrD d a l).length=s:=by rw [cP];omega
 refine List.ext_getElem (by rw [h1,h2]) (fun j h3 h4 => ?_);have e1:=jR (rsz d s) a l j (by rw [cM];omega);have e2:=jR d a l j (by omega);rw [List.getD_eq_getElem?_getD,List.getElem?_eq_getElem h3] at e1;rw [List.getD_eq_getElem?_getD,List.getElem?_eq_getElem h4] at e2;rw [rM d (by omega)] at e1;exact e1.trans e2.symm
section
variable {w w':World} {m c ino p:Nat} {F:Nat->Prop} {size N:Nat} {Pg Cm:Nat->List UInt8} {fs:Nat->Option ao} {o u k kk:Nat} {i:Nat} {f:ao}
theorem mw {W:World} {f2:ao} {z:Nat} {Pg2:Nat->List UInt8} (hmF:¬F m) (hg3:aF (fun k=>k=i) N ino Pg2 fs) (hf2:fs i=some f2) (hd2:f2.data.length=z) (hc2:f2.cnt=au z) (hpF:¬F p) (hu:u<999980) (hfW:aD W p m (f2.S i z)) (hmW:aT W m c ino) (hpW:Pe W c F size N Pg2 Cm o u (k+2)) :
  Calls Tryz.prog 147 #[.pointer (some ⟨p,0,none⟩)] W fun e w'=>e = .returned (.int .i64 0)/\ac F W w'/\Pe w' c F size N (ij (ji Pg2 (f2.S i f2.data.length)) i f2.node) Cm o (u+3) k:=by
 have hok2:=hg3.file i f2 hf2;have hi:=hg3.out i f2 hf2;have hnf:=hg3.nf;have hnode:(f2.S i z).node=f2.node:=by unfold ao.S bD.node ao.node;rw [hd2]
 have hea:=hok2.each (by omega) hg3.n4;have htb:=hg3.tabLt hi.2;refine (xe (n1:=k) hmW hmF hg3.i5 hi.2 (show 3+i / 8<N by omega) hfW hpF hok2.len (by rw [hnode];exact hok2.node (by omega) hg3.n4) (fun hb => ?_) hea (hg3.tab i f2 hf2) hu hpW).mono ?_
 ·have hb':5120<z:=hb;have hn:=ew hb' (by have:=hok2.size;omega);have h1:=hok2.in_ 10 (by rw [hc2];omega);exact ⟨h1.2,fun e=>by have e':3+i / 8=f2.slot 10:=e;omega⟩
 ·rintro e w' ⟨rfl,hk,hp'⟩;rw [hnode] at hp';rw [hd2];exact ⟨rfl,hk,hp'⟩
theorem pZ (hm:aT w m c ino) (hmF:¬F m) (hp:Pe w c F size N Pg Cm o u (k+kk)) (hg:aF gq N ino Pg fs) (hf:fs i=some f) (hfi:aD w p m (f.S i f.data.length)) (hpF:¬F p) (hu:u<880000)
  (a z s:Nat) (l:List UInt8) (blk of cp:Nat) (hl:az w ⟨blk,of,none⟩ l) (hcp:l.length<=cp) (hbF:¬F blk) (hbp:blk≠p) (hbl:blk<w.heap.size) (haz:a+l.length=z) (h0:0<l.length) (hz7:z<=70656) (hs:max z f.data.length=s)
  (hkk:1+2*(au s-f.cnt)+(fillN z-a / 512)+2<=kk) :
  Calls Tryz.prog 80 #[.pointer (some ⟨p,0,none⟩),.int .i64 a,.slice (some ⟨blk,of,none⟩) l.length cp] w fun e w'=>ac (fun i=>F i\/i=p) w w' /\
   ((au s-f.cnt<=(frL Pg N ino).length/\e = .returned (.int .i64 0)/\∃Pg' f',f'.kind=f.kind/\f'.mode=f.mode/\f'.links=f.links/\f'.data=wrD f.data a l/\aF gq N ino Pg' (bj fs i (some f'))/\Pe w' c F size N Pg' Cm o (u+300) k) \/
   ((frL Pg N ino).length<au s-f.cnt/\e = .returned (.int .i64 7)/\∃Pg' D',Pc w' c F size N Pg' Cm D' o (u+300))):=by
 have hok:=hg.file i f hf;have hnf:=hg.nf;have hs7:s<=70656:=by have:=hok.size;omega
 have hFl:∀i,F i->i<w.heap.size:=by obtain ⟨D,-,hp⟩:=hp;exact hp.lt
 have hM:fillN z-a / 512<=138:=by unfold fillN;omega
 obtain ⟨-,hcn,-⟩:=hg.node i f hf (fun e=>e);have hcs:f.cnt<=au s:=by rw [hcn];exact bS (by omega) hs7
 have hho:∀W,Below w.heap.size w W->Calls Tryz.prog 145 #[.pointer (some ⟨p,0,none⟩),.int .i64 s] W fun e w'=>ac (fun i=>F i\/i=p) W w' /\
   ((au s-f.cnt<=(frL Pg N ino).length/\e = .returned (.int .i64 0)/\aD w' p m ((hoF Pg N ino f s).S i s)/\Pe w' c F size N (hoP Pg N ino f s) Cm o (u+140) (k+2+(fillN z-a / 512))) \/
   ((frL Pg N ino).length<au s-f.cnt/\e = .returned (.int .i64 7)/\∃Pg' D',Pc w' c F size N Pg' Cm D' o (u+140))):=fun W hW=>by
  refine mP (k:=k+2+(fillN z-a / 512)) (kk:=1+2*(au s-f.cnt)) (hm.below hW) hmF ?_ hg hf (hfi.below hW) hpF (by omega) s hs7 (by omega);obtain ⟨D,h1,h2⟩:=hp;exact ⟨D,h1.le (by omega),h2.below hW⟩
 obtain ⟨f1,hf1⟩:∃f1,f1=hoF Pg N ino f s:=⟨_,rfl⟩;obtain ⟨Pg1,hPg1⟩:∃Pg1,Pg1=hoP Pg N ino f s:=⟨_,rfl⟩;obtain ⟨f2,hf2⟩:∃f2:ao,f2={ f1 with data:=wrD f1.data a l }:=⟨_,rfl⟩;rw [<- hf1, <- hPg1] at hho;have hY:au s-f.cnt<=(frL Pg N ino).length->f1.kind=f.kind/\f1.mode=f.mode/\f1.links=f.links/\f1.data=rsz f.data s/\f1.cnt=au s/\f1.slots.length=139/\(∀j,j<fillN z->f1.slots.getD (aC j) 0<N)/\f2.data.length=s/\f2.cnt=au s/\f1.S i s=f2.S i s/\aF (fun k=>k=i) N ino (wPs f1.slots a z Pg1 l (bC (a / 512) (fillN z))).1 (bj fs i (some f2)):=fun hfr=>by
  obtain ⟨q1,q2,q3,q4,q5,q6⟩:=hg.hold hf s hs7 hfr;rw [<- hf1] at q1 q2 q3 q4 q5 q6;rw [<- hPg1] at q6;have hd1:f1.data.length=s:=by rw [q4,cM]
  have hok1:=q6.file i f1 (aK _ _ _);have g3:=q6.over (aK _ _ _) rfl a z (fun hh=>absurd hh (by omega)) l (by omega) (by omega) hz7 (by rw [hd1,q5,show max s z=s by omega];exact Nat.le_refl _);rw [fg, <- hf2] at g3;refine ⟨q1,q2,q3,q4,q5,hok1.len,fun j hj=>(hok1.in_ _ (by rw [q5];exact Nat.lt_of_lt_of_le (kL hj hz7) (bS (by omega) hs7))).2,?_,by rw [hf2];exact q5,by rw [hf2];rfl,g3⟩;rw [hf2];show (wrD f1.data a l).length=s;rw [cP,hd1];omega
 refine (qJ (Y:=au s-f.cnt<=(frL Pg N ino).length) (X:=(frL Pg N ino).length<au s-f.cnt) (Pg1:=Pg1) (Pg:=ij (ji (wPs f1.slots a z Pg1 l (bC (a / 512) (fillN z))).1 (f2.S i f2.data.length)) i f2.node) (S1:=f1.S i s) (u1:=u+140) (u:=u+300) (n1:=k+2) (k:=k) (Cm:=Cm) (N:=N) (size:=size) (o:=o) (c:=c) (ino:=ino)
  a l.length z l rfl haz.symm blk of cp hm hmF hfi hpF hok.len (fun y=>(hY y).2.2.2.2.2.1) hFl hl hcp hbF hbp hbl hz7 (by omega) (fun y j _ hj=>(hY y).2.2.2.2.2.2.1 j hj) (fun W hW => ?_) (fun y W hfW hmW hpW => ?_)).mono ?_
 ·have hS:(f.S i f.data.length).size=f.data.length:=rfl;rw [hS,hs];refine (hho W hW).mono ?_;rintro e w' ⟨hk,⟨y,rfl,h1,h2⟩ | ⟨h1,rfl,Pg',D',h2⟩⟩
  ·exact ⟨hk,.inl ⟨y,rfl,h1,h2⟩⟩
  ·exact ⟨hk,.inr ⟨h1,rfl,Pg',D',h2.more (Nat.le_refl _) (by omega)⟩⟩
 ·obtain ⟨-,-,-,-,-,-,-,hd2,hc2,hS2,g3⟩:=hY y;rw [hS2] at hfW;refine (mw (z:=s) hmF g3 (aK _ _ _) hd2 hc2 hpF (by omega) hfW hmW hpW).mono ?_;rintro e w' ⟨rfl,hk,D,h1,h2⟩;exact ⟨rfl,hk,D,h1,h2.more (Nat.le_refl _) (by omega)⟩
 ·rintro e w' ⟨hk,⟨y,rfl,hp'⟩ | ⟨x,rfl,hp'⟩⟩
  ·obtain ⟨q1,q2,q3,q4,q5,-,-,hd2,hc2,hS2,g3⟩:=hY y;refine ⟨hk,.inl ⟨y,rfl,_,f2,by rw [hf2];exact q1,by rw [hf2];exact q2,by rw [hf2];exact q3,?_,g3.save (aK _ _ _) (by rw [hd2];exact hc2),hp'⟩⟩;rw [hf2];show wrD f1.data a l=wrD f.data a l;rw [q4];exact yR haz hs
  ·exact ⟨hk,.inr ⟨x,rfl,hp'⟩⟩
end
end
section
open Go.RowKit
structure RF where
 k:Int
 m:Int
 l:Int
 b:List UInt8
 ba:Option Addr
 bc:Nat
 d:List Int
 da:Option Addr
 dc:Nat
 ind:Int
def RF.cells (f:RF):List Value:=[.int .i64 f.k,.int .i64 f.m,.int .i64 f.l,.slice f.ba f.b.length f.bc,.slice f.da f.d.length f.dc,.int .i64 f.ind]
def rdZ (w:World) (Z:Nat->Prop) (b:Nat):Prop:=¬Z b/\b<w.heap.size
structure RF.ok (w:World) (Z:Nat->Prop) (f:RF):Prop where
 bytes:dN w f.ba f.b
 bz:∀b o,f.ba=some ⟨b,o,none⟩->rdZ w Z b
 data:sE w f.da f.d
 dz:∀b o,f.da=some ⟨b,o,none⟩->rdZ w Z b
 bl:f.b.length<=70656
 dl:f.d.length<=138
 bcap:f.b.length<=f.bc
structure iz (w:World) (Z:Nat->Prop) (lb:Nat) (fl:List RF):Prop where
 len:fl.length=16
 row:∀i (hi:i<fl.length),w.rangeAt lb (i*6) (fl[i]).cells
 lz:rdZ w Z lb
 ok:∀i (hi:i<fl.length),(fl[i]).ok w Z
def tR (w:World) (Z:Nat->Prop) (m:Nat):Prop:=∃g cp gi ci Lp Li,cF w m g cp gi ci Lp Li/\Li.length=16/\rdZ w Z g/\rdZ w Z gi
def zOf (F:Nat->Prop) (r m:Nat):Nat->Prop:=fun i=>F i\/i=r\/i=m
structure a7 (w:World) (F:Nat->Prop) (r m:Nat):Prop where
 heap:∃lb lc km kb kc fl kl,w.heap[r]? = some (.cells #[.pointer (some ⟨m,0,none⟩),.slice (some ⟨lb,0,none⟩) 16 lc,.pointer (some ⟨km,0,none⟩),.slice (some ⟨kb,0,none⟩) 16 kc] 137 (0,0)) /\
  iz w (zOf F r m) lb fl/\iz w (zOf F r m) kb kl/\tR w (zOf F r m) km/\rdZ w (zOf F r m) km
 map:tR w (zOf F r m) m
 rF:¬F r
 mF:¬F m
 rm:r≠m
section
variable {w w':World} {Z Z' G:Nat->Prop} {b:Nat}
theorem rdZ.keep (h:rdZ w Z b) (hs:w.heap.size<=w'.heap.size) (hz:∀i,i<w.heap.size->¬Z i->¬Z' i):rdZ w' Z' b:=⟨hz b h.2 h.1,Nat.lt_of_lt_of_le h.2 hs⟩
theorem RF.ok.keep {f:RF} (h:f.ok w Z) (k:ac G w w') (hG:∀i,i<w.heap.size->¬Z i->¬G i) (hz:∀i,i<w.heap.size->¬Z i->¬Z' i):f.ok w' Z':=by
 refine ⟨fun j hj => ?_,fun b o e=>(h.bz b o e).keep k.size hz,fun j hj => ?_,fun b o e=>(h.dz b o e).keep k.size hz,h.bl,h.dl,h.bcap⟩
 ·obtain ⟨b,o,e,hc⟩:=h.bytes j hj;exact ⟨b,o,e,fun i hi=>k.cell (hc i hi) (hG b (h.bz b o e).2 (h.bz b o e).1)⟩
 ·obtain ⟨b,o,e,hc⟩:=h.data j hj;exact ⟨b,o,e,fun i hi=>k.cell (hc i hi) (hG b (h.dz b o e).2 (h.dz b o e).1)⟩
theorem iz.keep {lb:Nat} {fl:List RF} (h:iz w Z lb fl) (k:ac G w w') (hG:∀i,i<w.heap.size->¬Z i->¬G i) (hz:∀i,i<w.heap.size->¬Z i->¬Z' i):iz w' Z' lb fl :=
 ⟨h.len,fun i hi j v hv=>k.cell (h.row i hi j v hv) (hG lb h.lz.2 h.lz.1),h.lz.keep k.size hz,fun i hi=>(h.ok i hi).keep k hG hz⟩
theorem tR.keep {m:Nat} (h:tR w Z m) (k:ac G w w') (hm:¬G m) (hG:∀i,i<w.heap.size->¬Z i->¬G i) (hz:∀i,i<w.heap.size->¬Z i->¬Z' i):tR w' Z' m:=by
 obtain ⟨g,cp,gi,ci,Lp,Li,h1,h2,h3,h4⟩:=h;exact ⟨g,cp,gi,ci,Lp,Li,h1.keep k hm (hG g h3.2 h3.1) (hG gi h4.2 h4.1),h2,h3.keep k.size hz,h4.keep k.size hz⟩
end
section
variable {w w':World} {F F':Nat->Prop} {r m:Nat}
theorem a7.lt (h:a7 w F r m):r<w.heap.size/\m<w.heap.size:=by
 obtain ⟨lb,lc,km,kb,kc,fl,kl,h1,-⟩:=h.heap;obtain ⟨g,cp,gi,ci,Lp,Li,h2,-⟩:=h.map;exact ⟨ae h1,ae h2.heap⟩
theorem a7.keep {G:Nat->Prop} (h:a7 w F r m) (k:ac G w w') (hG:∀i,G i->F i) (hF:∀i,F' i->F i\/w.heap.size<=i):a7 w' F' r m:=by
 obtain ⟨lr,lm⟩:=h.lt;obtain ⟨lb,lc,km,kb,kc,fl,kl,h1,h2,h3,h4,h5⟩:=h.heap;have hz:∀i,i<w.heap.size->¬zOf F r m i->¬zOf F' r m i:=fun i hi hn hh=>by
  rcases hh with hh | hh
  ·rcases hF i hh with hh | hh
   ·exact hn (.inl hh)
   ·omega
  ·exact hn (.inr hh)
 have hg:∀i,i<w.heap.size->¬zOf F r m i->¬G i:=fun i _ hn hh=>hn (.inl (hG i hh));have hF':∀i,i<w.heap.size->¬F i->¬F' i:=fun i hi hn hh=>(hF i hh).elim hn (fun e=>by omega);refine ⟨⟨lb,lc,km,kb,kc,fl,kl,k.heap h1 (fun hh=>h.rF (hG r hh)),h2.keep k hg hz,h3.keep k hg hz,h4.keep k (hg km h5.2 h5.1) hg hz,h5.keep k.size hz⟩,h.map.keep k (fun hh=>h.mF (hG m hh)) hg hz,hF' r lr h.rF,hF' m lm h.mF,h.rm⟩
theorem a7.below (h:a7 w F r m) (k:Below w.heap.size w w'):a7 w' F r m:=h.keep (ac.of_below k:ac (fun _=>False) w w') (fun _ e=>e.elim) (fun _ e => .inl e)
theorem a7.off (h:a7 w F r m):∀i,(i=r\/i=m)->fW w i/\¬F i:=by
 obtain ⟨lb,lc,km,kb,kc,fl,kl,h1,-⟩:=h.heap;obtain ⟨g,cp,gi,ci,Lp,Li,h2,-⟩:=h.map;rintro i (rfl | rfl)
 ·refine ⟨⟨_,_,_,h1,by decide,fun v hv => ?_⟩,h.rF⟩;simp only [List.mem_cons,List.mem_nil_iff,or_false] at hv;rcases hv with rfl | rfl | rfl | rfl
  ·exact .inr (.inr (.inr (.inl ⟨_,rfl⟩)))
  ·exact .inr (.inr (.inl ⟨_,_,_,rfl⟩))
  ·exact .inr (.inr (.inr (.inl ⟨_,rfl⟩)))
  ·exact .inr (.inr (.inl ⟨_,_,_,rfl⟩))
 ·refine ⟨⟨_,_,_,h2.heap,by decide,fun v hv => ?_⟩,h.mF⟩;simp only [List.mem_cons,List.mem_nil_iff,or_false] at hv;rcases hv with rfl | rfl | rfl | rfl
  ·exact .inl ⟨_,rfl⟩
  ·exact .inl ⟨_,rfl⟩
  ·exact .inr (.inr (.inl ⟨_,_,_,rfl⟩))
  ·exact .inr (.inr (.inl ⟨_,_,_,rfl⟩))
theorem St.ref {s mm c N ino:Nat} {Pg Cm:Nat->List UInt8} {fs:Nat->Option ao} {o u:Nat} (h:St w s mm c F N ino Pg Cm fs o u) (hr:a7 w F r m) (k:ac (fun i=>i=r\/i=m) w w'):St w' s mm c F N ino Pg Cm fs o u:=by
 obtain ⟨D,hp⟩:=h.pc;have ho:=hr.off;have h1:=h.map;have h2:=h.store;have hm:¬(mm=r\/mm=m):=fun e=>by
  obtain ⟨⟨cs,t,fr,hb,ht,-⟩,-⟩:=ho mm e;unfold aT at h1;rw [hb] at h1;simp only [Option.some.injEq,Obj.cells.injEq] at h1;exact absurd h1.2.1 ht.2.2
 have hs:¬(s=r\/s=m):=fun e=>by
  obtain ⟨lb,lc,km,kb,kc,fl,kl,h3,-⟩:=hr.heap;obtain ⟨g,cp,gi,ci,Lp,Li,h4,-⟩:=hr.map;unfold bG at h2;rcases e with rfl | rfl
  ·rw [h3] at h2;simp at h2
  ·rw [h4.heap] at h2;simp at h2
 exact ⟨h1.keep k hm,h2.keep k hs,h.mF,h.sF,h.few,⟨D,hp.keepYs (fun b e=>(ho b e).1) (fun b e=>(ho b e).2) k⟩,h.good⟩
end
end
section
set_option maxRecDepth 100000
set_option maxHeartbeats 1000000
open Go.RowKit
section
variable {w w':World} {F:Nat->Prop} {r m:Nat}
theorem jA (h:a7 w F r m) (i:Int):Calls Tryz.prog 87 #[.pointer (some ⟨r,0,none⟩),.int .i64 i] w fun e w'=>w'=w/\∃n:Int,e = .returned (.int .i64 n)/\(n=2\/n=4\/(n=0/\1<=i/\i<16)):=by
 obtain ⟨lb,lc,km,kb,kc,fl,kl,h1,h2,-⟩:=h.heap;obtain ⟨g,cp,gi,ci,Lp,Li,h3,h4,-⟩:=h.map;have c0:w.cell? ⟨r,0,none⟩=some (.pointer (some ⟨m,0,none⟩)):=aa h1 0;have c1:w.cell? ⟨r,1,none⟩=some (.slice (some ⟨lb,0,none⟩) 16 lc):=aa h1 1;have hin:=kj h3;rw [h4] at hin;have HIn:=hid hin;have HUs:=hid (l5 h3 i);have HSd:=hid h2;clear h h1 h2 h3 h4 hin;by_cases hi1:i<1
 ·clear HIn HUs HSd;go_enter Tryz.func87,Tryz.ntmps87
  go_wp2_with fail
  go_ret;exact ⟨rfl,2,rfl,.inl rfl⟩
 ·by_cases hi2:(16:Int)<=i
  ·clear HUs HSd;go_enter Tryz.func87,Tryz.ntmps87
   go_wp2_with fail
   refine HIn.out.mono ?_;rintro e w1 ⟨rfl,h1⟩;obtain rfl:=h1.symm;clear h1
   go_wp2_with fail
   go_ret;exact ⟨rfl,2,rfl,.inl rfl⟩
  ·obtain ⟨n,rfl⟩:∃n:Nat,i=(n:Int):=⟨i.toNat,by omega⟩;have hn:n<fl.length:=by rw [HSd.out.len];omega
   have hc:w.cell? ⟨lb,n*6,none⟩=some (.int .i64 (fl[n]).k):=HSd.out.row n hn 0 _ rfl;have hn16:n<16:=by omega
   generalize (fl[n]).k=kk at *;generalize usedB Li (n:Int)=ub at *;clear HSd hn;cases ub with
   | false =>
    go_enter Tryz.func87,Tryz.ntmps87
    go_wp2_with fail
    refine HIn.out.mono ?_;rintro e w1 ⟨rfl,h1⟩;obtain rfl:=h1.symm;clear h1
    go_wp2_with fail
    refine HUs.out.mono ?_;rintro e w1 ⟨rfl,h1⟩;obtain rfl:=h1.symm;clear h1
    go_wp2_with fail
    go_ret;exact ⟨rfl,4,rfl,.inr (.inl rfl)⟩
   | true =>
    by_cases hk:kk=0
    ·go_enter Tryz.func87,Tryz.ntmps87
     go_wp2_with fail
     refine HIn.out.mono ?_;rintro e w1 ⟨rfl,h1⟩;obtain rfl:=h1.symm;clear h1
     go_wp2_with fail
     refine HUs.out.mono ?_;rintro e w1 ⟨rfl,h1⟩;obtain rfl:=h1.symm;clear h1
     go_wp2_with fail
     go_ret;exact ⟨rfl,4,rfl,.inr (.inl rfl)⟩
    ·go_enter Tryz.func87,Tryz.ntmps87
     go_wp2_with fail
     refine HIn.out.mono ?_;rintro e w1 ⟨rfl,h1⟩;obtain rfl:=h1.symm;clear h1
     go_wp2_with fail
     refine HUs.out.mono ?_;rintro e w1 ⟨rfl,h1⟩;obtain rfl:=h1.symm;clear h1
     go_wp2_with fail
     go_ret;exact ⟨rfl,0,rfl,.inr (.inr ⟨rfl,by omega,by omega⟩)⟩
end
end
section
set_option maxRecDepth 100000
set_option maxHeartbeats 1000000
open Go.RowKit
def gC (fl:List RF):List Value:=fl.flatMap RF.cells
theorem gP (f:RF) (fl:List RF):gC (f :: fl)=f.cells ++ gC fl:=by simp [gC]
theorem gG:∀fl:List RF,(gC fl).length=fl.length*6
 | []=>rfl
 | f :: fl=>by rw [gP,List.length_append,gG fl,List.length_cons,show f.cells.length=6 from rfl];omega
theorem jW:∀(fl:List RF) (i:Nat) (hi:i<fl.length) (j:Nat),j<6->(gC fl)[i*6+j]? = (fl[i]).cells[j]?
 | f :: fl,0,_,j,hj=>by rw [gP,Nat.zero_mul,Nat.zero_add,List.getElem?_append_left (show j<f.cells.length from hj)];rfl
 | f :: fl,i+1,hi,j,hj=>by
  rw [gP,List.getElem?_append_right (by show 6<=_;omega),show (i+1)*6+j-f.cells.length=i*6+j by show (i+1)*6+j-6=_;omega];exact jW fl i (by simpa using hi) j hj
theorem oT (fl:List RF):∀u∈gC fl,u.oneCell'=true:=fun u hu=>by
 obtain ⟨f,-,hf⟩:=List.mem_flatMap.1 hu;unfold RF.cells at hf;simp only [List.mem_cons,List.mem_nil_iff,or_false] at hf;rcases hf with rfl | rfl | rfl | rfl | rfl | rfl <;> rfl
section
variable {w w':World} {F:Nat->Prop} {r m:Nat} {Z:Nat->Prop}
theorem iz.flat {lb:Nat} {fl:List RF} (h:iz w Z lb fl) (j:Nat) (u:Value) (hu:(gC fl)[j]? = some u):w.cell? (Addr.add ⟨lb,0,none⟩ j)=some u:=by
 have hj:j<(gC fl).length:=(List.getElem?_eq_some_iff.1 hu).1;rw [gG] at hj;have hi:j / 6<fl.length:=by omega
 have h1:=jW fl (j / 6) hi (j%6) (by omega);rw [show j / 6*6+j%6=j by omega,hu] at h1;have h2:=h.row (j / 6) hi (j%6) u h1.symm;rw [show j / 6*6+j%6=j by omega] at h2;rw [Addr.add_mid,Nat.zero_add];exact h2
theorem ot:(Tryz.prog.info? 146).map (·.size)=some 6:=by kernel_rfl
theorem jf (h:a7 w F r m) (hFl:∀i,F i->i<w.heap.size) (i:Nat) (hi:i<16) (f:RF) (hf:f.ok w (zOf F r m)):Calls Tryz.prog 70 #[.pointer (some ⟨r,0,none⟩),.int .i64 i,.agg f.cells.toArray] w fun e w'=>e = .returned (.tuple #[])/\ac (fun i=>i=r) w w'/\a7 w' F r m/\∃g cp,w'.cell? ⟨r,1,none⟩=some (.slice (some ⟨g,0,none⟩) 16 cp)/\w'.rangeAt g (i*6) f.cells:=by
 obtain ⟨lb,lc,km,kb,kc,fl,kl,h1,h2,h3,h4,h5⟩:=h.heap;have c1:w.cell? ⟨r,1,none⟩=some (.slice (some ⟨lb,0,none⟩) 16 lc):=aa h1 1;have hfl:(gC fl).length=16*6:=by rw [gG,h2.len]
 have HX:=hid h2.flat;have H1:=hid h1;have hrl:r<w.heap.size:=ae h1;have HFc:=hid (And.intro h (And.intro h2 (And.intro h3 (And.intro h4 (And.intro h5 hf)))));obtain ⟨i0,hi0,hz0,hz1,hz2⟩:=info_parts qO;have HI:=hid hi0;have HFl:=hid hfl;have HFl2:=hid hFl;obtain ⟨fc,hcs⟩:∃fc,fc=f.cells.toArray:=⟨_,rfl⟩;rw [<- hcs];have hfs:fc.size=6:=by rw [hcs];rfl
 have HC:=hid hcs;obtain ⟨wA,hA⟩:∃wA,wA=w.alloc (.cells fc 146):=⟨_,rfl⟩;have HAB:Hid (Below w.heap.size w wA):=by rw [hA];exact (Below.refl _ w).alloc (Nat.le_refl _) _
 have HA0:Hid (wA.heap[w.heap.size]? = some (.cells fc 146 (0,0))):=by rw [hA];exact af w _
 have HAs:Hid (wA.heap.size=w.heap.size+1):=by rw [hA];exact World.size_alloc _ _
 have HFs:=hid hfs;clear h h1 h2 h3 h4 h5 hf hi0 hfl hcs hfs hFl;go_enter Tryz.func70,Tryz.ntmps70
 go_wp2_with fail
 rw [<- hA];clear hA;refine wp_append_lies wA (.tmp 7) (.tmp 11) 135 rfl wA.heap.size 146 i0 _ 6 80 Tryz.underlying135 HI.out hz0 hz1 hz2 rfl (by omega) (.slice none 0 0) 0 [] rfl (World.ownsRow_nil _ _ _ _) ⟨lb,0,none⟩ 16 lc (gC fl) rfl HFl.out (fun j u hu=>(HAB.out.cell (World.block_lt_of_cell? w _ (HX.out j u hu))).trans (HX.out j u hu)) (oT fl) (by omega) (by unfold maxLen;omega) (by omega) (Nat.le_refl _) wA.heap.size rfl ?_;intro g2 cap2 w2 hown hgr hat hlt2;rw [Nat.zero_add,List.nil_append] at hown;rw [Nat.zero_add];have hg2:g2=wA.heap.size:=by
  rcases hat with e | e
  ·cases e
  ·exact e
 have hb2:Below wA.heap.size wA w2:=⟨hgr.os,hgr.tape,hgr.output,hgr.size,fun k hk=>hgr.block k hk (by simp [Value.ownBlock])⟩;have HOw:=hid hown;have HB2:=hid hb2;have HG2:=hid hg2;have hl2:=hlt2;have HA2:=hid (ah hb2 HA0.out (ae HA0.out));have hb02:=HAB.out.trans (hb2.mono HAB.out.size);have HR2:=hid (ah hb02 H1.out hrl);have e1:w2.cell? ⟨r,1,none⟩=some (.slice (some ⟨lb,0,none⟩) 16 lc):=aa HR2.out 1;have HB02:=hid hb02;clear hown hgr hat hlt2 hb2 hg2 hb02 c1;obtain ⟨cur,hcur,hcsz,htk⟩:∃cur:Array Value,w2.heap[g2]? = some (.cells cur 146 (0,0))/\96<=cur.size/\cur.toList.take (16*6)=gC fl:=by
  obtain ⟨-,h2⟩:=HOw.out;rcases h2 with ⟨e,-⟩ | ⟨g3,cap3,cur,e,-,hh,hsz,-,-,htk⟩
  ·cases e
  ·rw [Value.slice.injEq] at e;obtain ⟨e,-,-⟩:=e;cases e;have h3:=congrArg List.length htk;rw [List.length_take,HFl.out,Array.length_toList] at h3;exact ⟨cur,hh,by omega,htk⟩
 obtain ⟨cur,hcur,hcsz,htk⟩:∃cur:Array Value,w2.heap[g2]? = some (.cells cur 146 (0,0))/\96<=cur.size/\cur.toList.take (16*6)=gC fl:=by
  obtain ⟨-,h2⟩:=HOw.out;rcases h2 with ⟨e,-⟩ | ⟨g3,cap3,cur,e,-,hh,hsz,-,-,htk⟩
  ·cases e
  ·rw [Value.slice.injEq] at e;obtain ⟨e,-,-⟩:=e;cases e;have h3:=congrArg List.length htk;rw [List.length_take,HFl.out,Array.length_toList] at h3;exact ⟨cur,hh,by omega,htk⟩
 have HTh:Hid (w2.there g2 (i*6) fc.size):=by rw [HFs.out];exact eY hcur _ _ (by omega)
 obtain ⟨w3,hw3⟩:∃w3,w3=w2.setCells g2 (i*6) fc.toList:=⟨_,rfl⟩;have hsc:=dK g2 fc.toList (i*6) w2 cur _ hcur (by rw [Array.length_toList,HFs.out];omega);rw [<- hw3] at hsc;obtain ⟨q1,q2,q3,q4,q5,q6⟩:=hsc;have hrg:r≠g2:=by have:=HG2.out;have:=HAs.out;omega
 have hr3:w3.heap[r]? = some (.cells #[.pointer (some ⟨m,0,none⟩),.slice (some ⟨lb,0,none⟩) 16 lc,.pointer (some ⟨km,0,none⟩),.slice (some ⟨kb,0,none⟩) 16 kc] 137 (0,0)):=(q2 r hrg).trans HR2.out;have e3:w3.cell? ⟨r,1,none⟩=some (.slice (some ⟨lb,0,none⟩) 16 lc):=aa hr3 1;have f3:w3.frozen? ⟨r,1,none⟩=false:=ai hr3 1;have HK23:Hid (ac (fun i=>i=g2) w2 w3):=ac.of_grown (r:=some g2) ⟨q3,q4,q5,by omega,fun k _ hk=>q2 k (fun e=>hk (by rw [e]))⟩ (fun i e=>(Option.some.inj e).symm);have HR3:=hid hr3;have HQ1:=hid q1;have HTk:=hid htk;have HW3:=hid hw3;clear q1 q2 q3 q4 q5 q6 hr3 hcur htk hw3 e1
 go_wp2_with (first
  | refine dH rfl 146 (.tmp 5) rfl w.heap.size rfl fc _ _ HA2.out _ Tryz.underlying146 rfl (by rw [HFs.out];exact ot) ?_
  | (refine wpList_store_mid rfl 146 (.tmp 16) (.tmp 15) rfl g2 (i*6) fc rfl rfl HTh.out (by rw [HFs.out];exact ot) (by rw [HC.out];exact all_oneCell_toArray (fun v hv=>oT [f] v (by rw [gP];exact List.mem_append_left _ hv))) ?_;rw [<- HW3.out]))
 obtain ⟨h,h2,h3,h4,h5,hf⟩:=HFc.out;have hs1:=HAs.out;have hsg:=HG2.out;have hb02:=HB02.out;obtain ⟨hrl',hml⟩:=h.lt;obtain ⟨w4,hw4⟩:∃w4,w4=w3.setCell ⟨r,1,none⟩ (.slice (some ⟨g2,0,none⟩) 16 cap2):=⟨_,rfl⟩;have k34:ac (fun i=>i=r) w3 w4:=by rw [hw4];exact (ac.refl _ w3).grown (ak (ar _ _) _ _) (fun i e => .inl (Option.some.inj e).symm)
 have kw:ac (fun i=>i=r) w w4:=((ac.of_below hb02:ac (fun i=>i=r) w w2).trans HK23.out (fun i e => .inr (by have e':i=g2:=e;omega))).trans k34 (fun i e => .inl e);have hr4:w4.heap[r]? = some (.cells #[.pointer (some ⟨m,0,none⟩),.slice (some ⟨g2,0,none⟩) 16 cap2,.pointer (some ⟨km,0,none⟩),.slice (some ⟨kb,0,none⟩) 16 kc] 137 (0,0)):=by rw [hw4];exact ap HR3.out 1 _
 have hg4:=k34.heap HQ1.out (fun e=>hrg (by have e':g2=r:=e;exact e'.symm));have hG:∀i,i<w.heap.size->¬zOf F r m i->¬(i=r):=fun i _ hn e=>hn (.inr (.inl e));have hz:∀i,i<w.heap.size->¬zOf F r m i->¬zOf F r m i:=fun _ _ hn=>hn;have hnz:rdZ w4 (zOf F r m) g2:=⟨fun hh=>by rcases hh with hh | hh | hh;(have:=HFl2.out _ hh;omega);exact hrg hh.symm;omega,ae hg4⟩;have hsd:iz w4 (zOf F r m) g2 (fl.set i f):=by
  refine ⟨by rw [List.length_set];exact h2.len,fun j hj t v hv => ?_,hnz,fun j hj => ?_⟩
  ·rw [List.length_set] at hj;have ht6:t<6:=by
    have h7:=(List.getElem?_eq_some_iff.1 hv).1;exact h7
   have hj16:j<16:=by rw [<- h2.len];exact hj
   have hcl:(cur.toList.take (i*6)).length=i*6:=by rw [List.length_take,Array.length_toList];omega
   have hfl6:fc.toList.length=6:=by rw [Array.length_toList];exact HFs.out
   rw [aa hg4,List.getElem?_toArray];by_cases e:i=j
   ·subst e;rw [List.getElem_set_self] at hv;rw [List.append_assoc,List.getElem?_append_right (by omega),hcl,List.getElem?_append_left (by omega),show i*6+t-i*6=t by omega,HC.out];exact hv
   ·rw [List.getElem_set_ne e] at hv;have hcu:cur.toList[j*6+t]? = some v:=by
     have h8:=jW fl j hj t ht6;rw [<- HTk.out,List.getElem?_take_of_lt (by omega),hv] at h8;exact h8
    by_cases e2:j<i
    ·rw [List.append_assoc,List.getElem?_append_left (by omega),List.getElem?_take_of_lt (by omega)];exact hcu
    ·rw [List.getElem?_append_right (by rw [List.length_append,hcl,hfl6];omega),List.length_append,hcl,hfl6,List.getElem?_drop,show i*6+6+(j*6+t-(i*6+6))=j*6+t by omega];exact hcu
  ·rw [List.length_set] at hj;by_cases e:i=j
   ·subst e;rw [List.getElem_set_self];exact hf.keep kw hG hz
   ·rw [List.getElem_set_ne e];exact (h2.ok j hj).keep kw hG hz
 rw [<- hw4];have hrow:=hsd.row i (by rw [List.length_set,h2.len];exact hi);rw [List.getElem_set_self] at hrow;refine ⟨rfl,_,results_none rfl _ _ _,rfl,kw,?_,g2,cap2,aa hr4 1,hrow⟩;exact ⟨⟨g2,cap2,km,kb,kc,fl.set i f,kl,hr4,hsd,h3.keep kw hG hz,h4.keep kw (hG km h5.2 h5.1) hG hz,h5.keep kw.size hz⟩,h.map.keep kw (fun e=>h.rm (by have e':m=r:=e;exact e'.symm)) hG hz,h.rF,h.mF,h.rm⟩
end
end
section
set_option maxRecDepth 100000
open Go.RowKit
section
variable {w w':World} {F:Nat->Prop} {r m:Nat}
theorem mu (h:a7 w F r m) (hFl:∀i,F i->i<w.heap.size):Calls Tryz.prog 26 #[.pointer (some ⟨r,0,none⟩)] w fun e w'=>e = .returned (.tuple #[])/\ac (fun i=>i=r) w w'/\a7 w' F r m:=by
 obtain ⟨lb,lc,km,kb,kc,fl,kl,h1,h2,h3,h4,h5⟩:=h.heap;obtain ⟨g,cp,gi,ci,Lp,Li,m1,m2,m3,m4⟩:=h.map;obtain ⟨hrl,hml⟩:=h.lt;refine (kI h1 m1 ⟨fun e=>m3.1 (.inr (.inl e.symm)),fun e=>m4.1 (.inr (.inl e.symm))⟩).mono ?_;rintro e w' ⟨rfl,kw,x,hx,hr,hq⟩;have hG:∀i,i<w.heap.size->¬zOf F r m i->¬(i=r):=fun i _ hn e=>hn (.inr (.inl e));have hz:∀i,i<w.heap.size->¬zOf F r m i->¬zOf F r m i:=fun _ _ hn=>hn;have hxz:rdZ w' (zOf F r m) x:=⟨fun hh=>by rcases hh with hh | hh | hh;(have:=hFl _ hh;omega);omega;omega,ae hr.heap⟩;exact ⟨rfl,kw,⟨lb,lc,x,lb,lc,fl,fl,hq,h2.keep kw hG hz,h2.keep kw hG hz,⟨g,cp,gi,ci,Lp,Li,hr,m2,m3.keep kw.size hz,m4.keep kw.size hz⟩,hxz⟩,h.map.keep kw (fun e=>h.rm (by have e':m=r:=e;exact e'.symm)) hG hz,h.rF,h.mF,h.rm⟩
theorem vz (h:a7 w F r m) (hFl:∀i,F i->i<w.heap.size):Calls Tryz.prog 135 #[.pointer (some ⟨r,0,none⟩)] w fun e w'=>e = .returned (.tuple #[])/\ac (fun i=>i=r) w w'/\∃m',w.heap.size<=m'/\a7 w' F r m':=by
 obtain ⟨lb,lc,km,kb,kc,fl,kl,h1,h2,h3,h4,h5⟩:=h.heap;obtain ⟨g,cp,gi,ci,Lp,Li,m1,m2,m3,m4⟩:=h4;obtain ⟨hrl,hml⟩:=h.lt;refine (qk h1 m1 ⟨fun e=>m3.1 (.inr (.inl e.symm)),fun e=>m4.1 (.inr (.inl e.symm))⟩).mono ?_;rintro e w' ⟨rfl,kw,x,hx,hr,hq⟩;have hG:∀i,i<w.heap.size->¬zOf F r m i->¬(i=r):=fun i _ hn e=>hn (.inr (.inl e));have hz:∀i,i<w.heap.size->¬zOf F r m i->¬zOf F r x i:=fun i hi hn hh=>by
  rcases hh with hh | hh | hh
  ·exact hn (.inl hh)
  ·exact hn (.inr (.inl hh))
  ·omega
 have hm':tR w' (zOf F r x) x:=⟨g,cp,gi,ci,Lp,Li,hr,m2,m3.keep kw.size hz,m4.keep kw.size hz⟩;exact ⟨rfl,kw,x,hx,⟨kb,kc,km,kb,kc,kl,kl,hq,h3.keep kw hG hz,h3.keep kw hG hz,⟨g,cp,gi,ci,Lp,Li,m1.keep kw (hG km h5.2 h5.1) (hG g m3.2 m3.1) (hG gi m4.2 m4.1),m2,m3.keep kw.size hz,m4.keep kw.size hz⟩,h5.keep kw.size hz⟩,hm',h.rF,fun hh=>by have:=hFl _ hh;omega,by omega⟩
theorem kp (h:a7 w F r m) (hFl:∀i,F i->i<w.heap.size):Calls Tryz.prog 69 #[.pointer (some ⟨r,0,none⟩)] w fun e w'=>e = .returned (.int .i64 7)/\ac (fun i=>i=r) w w'/\∃m',w.heap.size<=m'/\a7 w' F r m':=by
 have HA:=hid (vz h hFl);clear h;go_enter Tryz.func69,Tryz.ntmps69
 go_wp2_with fail
 refine HA.out.mono ?_;clear HA;rintro e w1 ⟨rfl,hk,m',hm',hr⟩;have HK:=hid hk;have HR:=hid hr;clear hk hr
 go_wp2_with fail
 go_ret;exact ⟨rfl,HK.out,m',hm',HR.out⟩
def dx (w:World) (F:Nat->Prop) (r m:Nat) (w':World):Prop:=ac (fun i=>i=r\/i=m) w w'/\∃m',(m'=m\/w.heap.size<=m')/\a7 w' F r m'
theorem dx.refl (h:a7 w F r m):dx w F r m w:=⟨ac.refl _ _,m,.inl rfl,h⟩
end
end
section
set_option maxRecDepth 100000
set_option maxHeartbeats 1000000
open Go.RowKit
def rf0:RF:=⟨0,0,0,[],none,0,[],none,0,0⟩
theorem zE (w:World) (Z:Nat->Prop):rf0.ok w Z:=⟨fun j hj=>(by cases hj),fun b o e=>(by cases e),fun j hj=>(by cases hj),fun b o e=>(by cases e),Nat.zero_le _,Nat.zero_le _,Nat.zero_le _⟩
theorem pm:iY=(gC (List.replicate 16 rf0)).toArray:=by kernel_rfl
theorem pf {w:World} {Z:Nat->Prop} {b:Nat} (h:w.heap[b]? = some (.cells iY 146 (0,0))) (hz:¬Z b):iz w Z b (List.replicate 16 rf0):=by
 refine ⟨by simp,fun i hi t v hv => ?_,⟨hz,ae h⟩,fun i hi=>by rw [List.getElem_replicate];exact zE _ _⟩;have ht:t<6:=(List.getElem?_eq_some_iff.1 hv).1;rw [aa h,pm,List.getElem?_toArray,jW _ i hi t ht];exact hv
theorem vQ {w:World} {F:Nat->Prop} {r g cp gi ci:Nat} {Lp Li:List Bool} (h:cF w r g cp gi ci Lp Li) (hl:Li.length=16) (hFl:∀i,F i->i<w.heap.size) (hr:¬F r) (hg:¬F g) (hgi:¬F gi):Calls Tryz.prog 23 #[.pointer (some ⟨r,0,none⟩)] w fun e w'=>∃s,e = .returned (.pointer (some ⟨s,0,none⟩))/\w.heap.size<=s/\Below w.heap.size w w'/\a7 w' F s r:=by
 have HIn:=hid (kj h);rw [hl] at HIn;have HR:=hid h;have HL:=hid hl;have HFl:=hid hFl;have hrl:r<w.heap.size:=ae h.heap;have hgl:=h.gp;have hgil:=h.gl;have HN:=hid (And.intro h.np h.ni);clear h hl hFl;go_enter Tryz.func23,Tryz.ntmps23
 go_wp2_with fail
 refine HIn.out.mono ?_;rintro e w1 ⟨rfl,h1⟩;obtain rfl:=h1.symm;clear h1;have hmk:=yg w
 go_wp2_with fail
 obtain ⟨w2,hw2⟩:∃w2,w2=(w.alloc (.cells iY 146)).alloc (.cells #[.pointer (some ⟨r,0,none⟩),.slice (some ⟨w.heap.size,0,none⟩) 16 16,.pointer none,.slice none 0 0] 137):=⟨_,rfl⟩;have hb2:Below w.heap.size w w2:=by rw [hw2];exact ((Below.refl _ w).alloc (Nat.le_refl _) _).alloc (by simp) _
 have hf2:w2.heap[w.heap.size]? = some (.cells iY 146 (0,0)):=by rw [hw2];exact aj (af w _) _
 have hq2:w2.heap[w.heap.size+1]? = some (.cells #[.pointer (some ⟨r,0,none⟩),.slice (some ⟨w.heap.size,0,none⟩) 16 16,.pointer none,.slice none 0 0] 137 (0,0)):=by
  have h1:=af (w.alloc (.cells iY 146)) (.cells #[.pointer (some ⟨r,0,none⟩),.slice (some ⟨w.heap.size,0,none⟩) 16 16,.pointer none,.slice none 0 0] 137);rw [World.size_alloc] at h1;rw [hw2];exact h1
 have hs2:w2.heap.size=w.heap.size+2:=by rw [hw2,World.size_alloc,World.size_alloc]
 rw [<- hw2];have HR2:=hid (HR.out.below hb2);have HCm:=hid (kI hq2 (HR.out.below hb2) ⟨by omega,by omega⟩);have HB2:=hid hb2;have HF2:=hid hf2;have HS2:=hid hs2;clear hmk hw2 hb2 hq2 hf2 hs2;refine HCm.out.mono ?_;clear HCm;rintro e w3 ⟨rfl,hk3,x,hx,hrx,hq3⟩;have HK3:=hid hk3;have HX:=hid hx;have HRX:=hid hrx;have HQ3:=hid hq3;clear hk3 hx hrx hq3;go_wp2;go_ret;have hs2:=HS2.out;have hxl:=HX.out;have hF':∀i,w.heap.size<=i->¬F i:=fun i hi hh=>by have:=HFl.out i hh;omega
 have hnz:∀i,i<w.heap.size->¬F i->i≠r->¬zOf F (w.heap.size+1) r i:=fun i hi hn hne hh=>by
  rcases hh with hh | hh | hh
  ·exact hn hh
  ·omega
  ·exact hne hh
 have hnz2:∀i,w.heap.size<=i->i≠w.heap.size+1->¬zOf F (w.heap.size+1) r i:=fun i hi hne hh=>by
  rcases hh with hh | hh | hh
  ·exact hF' i hi hh
  ·exact hne hh
  ·omega
 have hr3:=HR2.out.keep HK3.out (fun e=>by have e':r=w.heap.size+1:=e;omega) (fun e=>by have e':g=w.heap.size+1:=e;omega) (fun e=>by have e':gi=w.heap.size+1:=e;omega);have hf3:=HK3.out.heap HF2.out (fun e=>by have e':w.heap.size=w.heap.size+1:=e;omega);have hsd:=pf hf3 (hnz2 w.heap.size (Nat.le_refl _) (by omega));have hzg:rdZ w3 (zOf F (w.heap.size+1) r) g:=⟨hnz g hgl hg HN.out.1,hr3.gp⟩;have hzgi:rdZ w3 (zOf F (w.heap.size+1) r) gi:=⟨hnz gi hgil hgi HN.out.2,hr3.gl⟩;refine ⟨w.heap.size+1,rfl,Nat.le_succ _,HB2.out.trans (HK3.out.below HB2.out.size (fun i e=>by have e':i=w.heap.size+1:=e;omega)),⟨w.heap.size,16,x,w.heap.size,16,_,_,HQ3.out,hsd,hsd,⟨g,cp,gi,ci,Lp,Li,HRX.out,HL.out,hzg,hzgi⟩,⟨hnz2 x (by omega) (by omega),ae HRX.out.heap⟩⟩,⟨g,cp,gi,ci,Lp,Li,hr3,HL.out,hzg,hzgi⟩,hF' _ (by omega),hr,by omega⟩
end
section
set_option maxRecDepth 100000
set_option maxHeartbeats 1000000
open Go.RowKit
section
variable {w w':World} {F:Nat->Prop} {r m:Nat}
theorem a7.step (h:a7 w F r m) (kw:ac (fun i=>i=m) w w') (hm:tR w' (zOf F r m) m):a7 w' F r m:=by
 obtain ⟨lb,lc,km,kb,kc,fl,kl,h1,h2,h3,h4,h5⟩:=h.heap;have hG:∀i,i<w.heap.size->¬zOf F r m i->¬(i=m):=fun i _ hn e=>hn (.inr (.inr e));have hz:∀i,i<w.heap.size->¬zOf F r m i->¬zOf F r m i:=fun _ _ hn=>hn;exact ⟨⟨lb,lc,km,kb,kc,fl,kl,kw.heap h1 h.rm,h2.keep kw hG hz,h3.keep kw hG hz,h4.keep kw (hG km h5.2 h5.1) hG hz,h5.keep kw.size hz⟩,hm,h.rF,h.mF,h.rm⟩
theorem pU (h:a7 w F r m) (hFl:∀i,F i->i<w.heap.size) {g:Nat} (hg:w.heap.size<=g) (hl:g<w'.heap.size):rdZ w' (zOf F r m) g:=by
 obtain ⟨hrl,hml⟩:=h.lt;exact ⟨fun hh=>by rcases hh with hh | hh | hh;(have:=hFl _ hh;omega);omega;omega,hl⟩
theorem jY (h:a7 w F r m) (hFl:∀i,F i->i<w.heap.size):Calls Tryz.prog 154 #[.pointer (some ⟨m,0,none⟩)] w fun e w'=>ac (fun i=>i=m) w w'/\a7 w' F r m/\((e = .returned (.tuple #[.int .i64 0,.int .i64 7]))\/∃n:Nat,e = .returned (.tuple #[.int .i64 n,.int .i64 0])):=by
 obtain ⟨g,cp,gi,ci,Lp,Li,m1,m2,m3,m4⟩:=h.map;have hz:∀i,i<w.heap.size->¬zOf F r m i->¬zOf F r m i:=fun _ _ hn=>hn;refine (sr m1).mono ?_;rintro e w' ⟨kw,⟨-,rfl,hx⟩ | ⟨n,hn,g',cp',-,-,rfl,hg,hx⟩⟩
 ·exact ⟨kw,h.step kw ⟨g,cp,gi,ci,Lp,Li,hx,m2,m3.keep kw.size hz,m4.keep kw.size hz⟩,.inl rfl⟩
 ·exact ⟨kw,h.step kw ⟨g',cp',gi,ci,_,Li,hx,m2,pU h hFl hg hx.gp,m4.keep kw.size hz⟩,.inr ⟨n,rfl⟩⟩
theorem vb (h:a7 w F r m) (hFl:∀i,F i->i<w.heap.size):Calls Tryz.prog 68 #[.pointer (some ⟨m,0,none⟩)] w fun e w'=>ac (fun i=>i=m) w w'/\a7 w' F r m/\((e = .returned (.tuple #[.int .i64 0,.int .i64 7]))\/∃n:Nat,n<16/\e = .returned (.tuple #[.int .i64 n,.int .i64 0])):=by
 obtain ⟨g,cp,gi,ci,Lp,Li,m1,m2,m3,m4⟩:=h.map;have hz:∀i,i<w.heap.size->¬zOf F r m i->¬zOf F r m i:=fun _ _ hn=>hn;refine (qp m1).mono ?_;rintro e w' ⟨kw,⟨-,rfl,hx⟩ | ⟨n,hn,g',cp',-,-,rfl,hg,hx⟩⟩
 ·exact ⟨kw,h.step kw ⟨g,cp,gi,ci,Lp,Li,hx,m2,m3.keep kw.size hz,m4.keep kw.size hz⟩,.inl rfl⟩
 ·exact ⟨kw,h.step kw ⟨g,cp,g',cp',Lp,_,hx,by rw [List.length_set];exact m2,m3.keep kw.size hz,pU h hFl hg hx.gl⟩,.inr ⟨n,by omega,rfl⟩⟩
theorem kG (h:a7 w F r m) (hFl:∀i,F i->i<w.heap.size) (n:Int):Calls Tryz.prog 155 #[.pointer (some ⟨m,0,none⟩),.int .i64 n] w fun e w'=>ac (fun i=>i=m) w w'/\a7 w' F r m/\∃c:Int,e = .returned (.int .i64 c):=by
 obtain ⟨g,cp,gi,ci,Lp,Li,m1,m2,m3,m4⟩:=h.map;have hz:∀i,i<w.heap.size->¬zOf F r m i->¬zOf F r m i:=fun _ _ hn=>hn;refine (mL m1 n).mono ?_;rintro e w' ⟨kw,⟨-,rfl,hx⟩ | ⟨k,hk,-,-,⟨-,rfl,hx⟩ | ⟨g',cp',-,rfl,hg,hx⟩⟩⟩
 ·exact ⟨kw,h.step kw ⟨g,cp,gi,ci,Lp,Li,hx,m2,m3.keep kw.size hz,m4.keep kw.size hz⟩,2,rfl⟩
 ·exact ⟨kw,h.step kw ⟨g,cp,gi,ci,Lp,Li,hx,m2,m3.keep kw.size hz,m4.keep kw.size hz⟩,4,rfl⟩
 ·exact ⟨kw,h.step kw ⟨g',cp',gi,ci,_,Li,hx,m2,pU h hFl hg hx.gp,m4.keep kw.size hz⟩,0,rfl⟩
end
def zx (k mode:Int):RF:=⟨k,mode,1,[],none,0,[],none,0,0⟩
theorem yf (w:World) (Z:Nat->Prop) (k mode:Int):(zx k mode).ok w Z:=⟨fun j hj=>(by cases hj),fun b o e=>(by cases e),fun j hj=>(by cases hj),fun b o e=>(by cases e),Nat.zero_le _,Nat.zero_le _,Nat.zero_le _⟩
section
variable {w w':World} {F:Nat->Prop} {r m:Nat}
theorem wQ (h:a7 w F r m) (hFl:∀i,F i->i<w.heap.size) (k mode:Int):Calls Tryz.prog 25 #[.pointer (some ⟨r,0,none⟩),.int .i64 k,.int .i64 mode] w fun e w'=>dx w F r m w'/\∃a c:Int,e = .returned (.tuple #[.int .i64 a,.int .i64 c]):=by
 obtain ⟨lb,lc,km,kb,kc,fl,kl,h1,-⟩:=h.heap;have c0:w.cell? ⟨r,0,none⟩=some (.pointer (some ⟨m,0,none⟩)):=aa h1 0;have HIn:=hid (vb h hFl);have HFl:=hid hFl;have HR:=hid h;clear h1;by_cases hbad:(k≠1/\k≠2/\k≠3)\/mode<0\/4095<mode
 ·have HK:=hid (dx.refl h);clear h hFl HIn;rcases hbad with ⟨k1,k2,k3⟩ | hm | hm
  ·go_enter Tryz.func25,Tryz.ntmps25
   go_wp2_with fail
   go_returns;exact ⟨HK.out,0,2,rfl⟩
  ·by_cases k1:k=1
   ·go_enter Tryz.func25,Tryz.ntmps25
    go_wp2_with fail
    go_returns;exact ⟨HK.out,0,2,rfl⟩
   ·by_cases k2:k=2
    ·go_enter Tryz.func25,Tryz.ntmps25
     go_wp2_with fail
     go_returns;exact ⟨HK.out,0,2,rfl⟩
    ·by_cases k3:k=3
     ·go_enter Tryz.func25,Tryz.ntmps25
      go_wp2_with fail
      go_returns;exact ⟨HK.out,0,2,rfl⟩
     ·go_enter Tryz.func25,Tryz.ntmps25
      go_wp2_with fail
      go_returns;exact ⟨HK.out,0,2,rfl⟩
  ·have hm0:¬mode<0:=by omega
   by_cases k1:k=1
   ·go_enter Tryz.func25,Tryz.ntmps25
    go_wp2_with fail
    go_returns;exact ⟨HK.out,0,2,rfl⟩
   ·by_cases k2:k=2
    ·go_enter Tryz.func25,Tryz.ntmps25
     go_wp2_with fail
     go_returns;exact ⟨HK.out,0,2,rfl⟩
    ·by_cases k3:k=3
     ·go_enter Tryz.func25,Tryz.ntmps25
      go_wp2_with fail
      go_returns;exact ⟨HK.out,0,2,rfl⟩
     ·go_enter Tryz.func25,Tryz.ntmps25
      go_wp2_with fail
      go_returns;exact ⟨HK.out,0,2,rfl⟩
 ·have hm0:¬mode<0:=fun e=>hbad (.inr (.inl e));have hm1:¬4095<mode:=fun e=>hbad (.inr (.inr e));obtain ⟨hrl,hml⟩:=h.lt;have HLt:=hid (And.intro hrl hml);clear h hFl;have hk3:k=1\/k=2\/k=3:=by
   by_cases k1:k=1
   ·exact .inl k1
   ·by_cases k2:k=2
    ·exact .inr (.inl k2)
    ·by_cases k3:k=3
     ·exact .inr (.inr k3)
     ·exact absurd (.inl ⟨k1,k2,k3⟩) hbad
  clear hbad hrl hml;rcases hk3 with rfl | rfl | rfl
  all_goals (
   go_enter Tryz.func25,Tryz.ntmps25
   go_wp2_with fail
   refine HIn.out.mono ?_;clear HIn;rintro e w1 ⟨hk1,hr1,rfl | ⟨n,hn,rfl⟩⟩
   ·have HFu:=hid (kp hr1 (fun i hi=>Nat.lt_of_lt_of_le (HFl.out i hi) hk1.size));have HK1:=hid hk1;clear hk1 hr1 c0
    go_wp2_with fail
    refine HFu.out.mono ?_;clear HFu;rintro e w2 ⟨rfl,hk2,m',hm',hr2⟩;have HK2:=hid hk2;have HR2:=hid hr2;clear hk2 hr2
    go_wp2_with fail
    go_returns;have hs:=HK1.out.size;exact ⟨⟨(HK1.out.mono (fun i e => .inr e)).trans HK2.out (fun i e => .inl (.inl e)),m',.inr (by omega),HR2.out⟩,0,7,rfl⟩
   ·have HSe:=hid (fun kk=>jf hr1 (fun i hi=>Nat.lt_of_lt_of_le (HFl.out i hi) hk1.size) n hn (zx kk mode) (yf _ _ _ _));have HK1:=hid hk1;clear hk1 hr1 c0
    go_wp2_with fail
    refine (HSe.out _).mono ?_;clear HSe;rintro e w2 ⟨rfl,hk2,hr2,-⟩;have HK2:=hid hk2;have HR2:=hid hr2;clear hk2 hr2
    go_wp2_with fail
    go_returns;exact ⟨⟨(HK1.out.mono (fun i e => .inr e)).trans HK2.out (fun i e => .inl (.inl e)),m,.inl rfl,HR2.out⟩,n,0,rfl⟩)
end
end
section
open Go.RowKit
end
section
set_option maxRecDepth 100000
open Go.RowKit
section
variable {w w':World} {s m c ino:Nat} {F:Nat->Prop} {N:Nat} {Pg Cm:Nat->List UInt8} {fs:Nat->Option ao} {o u:Nat} {i:Nat} {f:ao}
theorem vH (h:St w s m c F N ino Pg Cm fs o u) (hf:fs i=some f) (hu:u<900000) (a n blk of cp:Nat) (h0:0<n) (haz:a+n<=70656) (R Q:Int->World->Prop)
  (hw:∀W p D,ac F w W->Pc W c F 100 N Pg Cm D o (u+3)->aT W m c ino->aD W p m (f.S i f.data.length)->w.heap.size<=p ->
   Calls Tryz.prog 80 #[.pointer (some ⟨p,0,none⟩),.int .i64 a,.slice (some ⟨blk,of,none⟩) n cp] W fun e w'=>∃r:Int,e = .returned (.int .i64 r)/\ac (fun i=>F i\/i=p) W w'/\R r w')
  (hen:∀W r,bG W s m->aT W m c ino->R r W->Calls Tryz.prog 67 #[.pointer (some ⟨s,0,none⟩),.int .i64 r] W fun e w'=>e = .returned (.int .i64 r)/\ac F W w'/\Q r w') :
  Calls Tryz.prog 32 #[.pointer (some ⟨s,0,none⟩),.int .i64 i,.int .i64 a,.slice (some ⟨blk,of,none⟩) n cp] w fun e w'=>∃r:Int,e = .returned (.int .i64 r)/\ac F w w'/\Q r w':=by
 have HGt:=hid (gJ h hf (by omega));have HOp:=hid (fun W D (hm:aT W m c ino) (hp:Pc W c F 100 N Pg Cm D o (u+2))=>jB hm hp h.good hf (by omega));have HWr:=hid hw;have HEn0:=hid hen;have hok:=h.good.file i f hf;have hnf:=h.good.nf;have HNl:Hid ((nodeC f.node).length=15):=by unfold Hid nodeC;rw [List.length_append,List.length_map,(hok.node (by omega) h.good.n4).pages];rfl
 have ha0:¬((a:Int)<0):=by omega
 have hn0:¬(n=0):=by omega
 have hn0':¬((n:Int)=0):=by omega
 have han:¬((70656:Int)-(n:Int)<(a:Int)):=by omega
 have hn7:(n:Int)<=70656:=by omega
 have HFl:=hid h.lt;have HSl:Hid (s<w.heap.size):=ae h.store;have HMl:Hid (m<w.heap.size):=ae h.map;unfold ct at HGt HOp;unfold gV at HOp;clear hw h hf hok hnf haz h0 hen;have hnc1:=bE f.node;generalize nodeC f.node=nc at *;have HN1:=hid hnc1;clear hnc1;go_enter Tryz.func32,Tryz.ntmps32
 go_wp2_with fail
 refine HGt.out.mono ?_;clear HGt;rintro e w1 ⟨rfl,hk1,hs1⟩;have c1:=hs1.store.cell;have HS1:=hid hs1;have HK1:=hid hk1;clear hk1 hs1
 go_wp2_with (refine am rfl 142 (.tmp 9) (.tmp 15) rfl w1.heap.size nc.toArray rfl rfl _ _ (af w1 _) (by rw [List.size_toArray,HNl.out];rfl) (by rw [List.size_toArray,HNl.out];kernel_rfl) HN1.out ?_;intro w2 hg2 hb2 hz2)
 have hb12:Below w1.heap.size w1 w2:=((Below.refl _ w1).alloc (Nat.le_refl _) _).grown hg2 (by simp) (fun k e=>by cases e;exact Nat.le_refl _);have hs2:=HS1.out.below hb12;have HB12:=hid hb12;have HS2:=hid hs2;have HR2:=hid hb2;have hbd:Below w2.heap.size w2 w2.drew:=(Below.refl _ w2).drew;have hs3:=hs2.below hbd;have hr3:=ah hbd hb2 (ae hb2);have d0:=hs3.store.cell;have HBd:=hid hbd;have HS3:=hid hs3;have HR3:=hid hr3;obtain ⟨D,hp3⟩:=hs3.pc;have HO3:=hid (HOp.out w2.drew D hs3.map hp3);clear hg2 hz2 hbd hs2 hb12 hs3 hp3 HOp c1;refine wp_region_noPanic ?_;refine wp_region_held_drew (S:=fun W=>W.cell? ⟨s,0,none⟩=some (.pointer (some ⟨m,0,none⟩))/\W.heap[w1.heap.size]? = some (.cells nc.toArray 142 (0,0))) (by kernel_rfl) ⟨d0,hr3⟩ (fun hHeld => ?_);clear hb2 hr3;generalize w2.drew=wd at *;refine tq 0 _ ?_
 try simp only [tS]
 refine tq 1 _ ?_
 try simp only [tS]
 refine tq 2 _ ?_
 try simp only [tS]
 refine tq 3 _ ?_
 try simp only [tS]
 refine tq 4 _ ?_
 try simp only [tS]
 refine tq 5 _ ?_
 try simp only [tS]
 refine wpAnyH_take (i:=6) (v := .agg nc.toArray) rfl (by kernel_rfl) (by kernel_rfl) (by kernel_rfl) (fun _ _ _ h=>h) (yieldsIf_load_mid (by rfl) 142 (.tmp 9) rfl w1.heap.size 0 rfl nc _ (fun W hW=>by have:=aL hW.2;exact this) Tryz.underlying142 rfl (by rw [HNl.out];kernel_rfl)) (by assumption) ?_
 try simp only [tS]
 refine tq 8 _ ?_
 try simp only [tS]
 refine tq 9 _ ?_
 try simp only [tS]
 refine tr 7 (fun K hK => ?_);go_simp;refine HO3.out.mono ?_;clear HO3;rintro e w4 ⟨p,rfl,hp4,hf4,hk4,hq4⟩;have hwl:=HB12.out.size;have hwk:=HK1.out.size;have hwd:=HBd.out.size;have kw4:ac F w w4:=((HK1.out.trans (ac.of_below HB12.out:ac F w1 w2) (fun i e => .inl e)).trans (ac.of_below HBd.out:ac F w2 wd) (fun i e => .inl e)).trans hk4 (fun i e => .inl e);have hnF:∀j,w.heap.size<=j->¬F j:=fun j hj hh=>by have:=HFl.out j hh;omega
 have HW4:=hid (HWr.out w4 p D kw4 hq4 (HS3.out.map.keep hk4 HS3.out.mF) hf4 (by omega));have hst4:=HS3.out.store.keep hk4 HS3.out.sF;have e0:=hst4.cell;have r4:=hk4.heap HR3.out (hnF _ (by omega));have HST4:=hid hst4;have HMp4:=hid (HS3.out.map.keep hk4 HS3.out.mF);have HR4:=hid r4;have HK4:=hid kw4;have HNF:=hid hnF;have HP4:=hid hp4;clear hf4 hk4 hq4 kw4 hst4 hnF HWr HR3 d0
 go_wp2_with fail
 refine hK.out _ _ ⟨e0,r4⟩ (fun hHeld => ?_);clear hK K r4
 try simp only [tS]
 refine tr 10 (fun K hK => ?_);go_simp;refine HW4.out.mono ?_;clear HW4;rintro e w5 ⟨r,rfl,hk5,hR5⟩;have hp4:=HP4.out;have hsl:=HSl.out;have hbl:=ae HR2.out;have hst5:=HST4.out.keep hk5 (fun hh=>hh.elim HS3.out.sF (fun e=>by omega));have r5:=hk5.heap HR4.out (fun hh=>hh.elim (HNF.out _ (by omega)) (fun e=>by omega));have g0:=hst5.cell;have hm5:=HMp4.out.keep hk5 (fun hh=>hh.elim HS3.out.mF (fun e=>by have:=HMl.out;omega));have HEn:=hid (HEn0.out w5 r hst5 hm5 hR5);have HK5:Hid (ac F w w5):=HK4.out.trans hk5 (fun i e=>e.elim .inl (fun e => .inr (by omega)));have HST5:=hid hst5;have HR5:=hid r5;clear hk5 hR5 hst5 hp4 hsl hbl e0 hm5
 go_wp2_with fail
 refine hK.out _ _ ⟨g0,r5⟩ (fun hHeld => ?_);clear hK K
 try simp only [tS]
 refine tr 11 (fun K hK => ?_);go_simp;refine HEn.out.mono ?_;clear HEn;rintro e w6 ⟨rfl,hk6,hQ6⟩;have g6:=(HST5.out.keep hk6 HS3.out.sF).cell;have r6:=hk6.heap HR5.out (HNF.out _ (by have:=HB12.out.size;have:=HK1.out.size;omega));have HK6:=hid (HK5.out.trans hk6 (fun i e => .inl e));have HQ6:=hid hQ6;clear hk6 hQ6 g0 r5
 go_wp2_with fail
 refine hK.out _ _ ⟨g6,r6⟩ (fun hHeld => ?_);clear hK K
 try simp only [tS]
 refine tq 12 _ ?_
 try simp only [tS]
 refine wpAnyH_done (by kernel_rfl) ?_ _;refine NoPanic.normal ?_;clear hHeld
 go_wp2_with fail
 go_ret;exact ⟨r,rfl,HK6.out,HQ6.out⟩
theorem ly (h:St w s m c F N ino Pg Cm fs o u) (hf:fs i=some f) (hu:u<800000) (a z:Nat) (l:List UInt8) (blk of cp:Nat) (hl:az w ⟨blk,of,none⟩ l) (hcp:l.length<=cp) (hbF:¬F blk) (hbl:blk<w.heap.size) (haz:a+l.length=z) (h0:0<l.length) (hz7:z<=70656)
  (hfr:au (max z f.data.length)-f.cnt<=(ax (Pg 2) (3+ino / 8) N 4096).length) :
  Calls Tryz.prog 32 #[.pointer (some ⟨s,0,none⟩),.int .i64 i,.int .i64 a,.slice (some ⟨blk,of,none⟩) l.length cp] w fun e w'=>e = .returned (.int .i64 0)/\ac F w w' /\
   ∃Pg' f',f'.kind=f.kind/\f'.mode=f.mode/\f'.links=f.links/\f'.data=wrD f.data a l/\St w' s m c F N ino Pg' Cm (bj fs i (some f')) o (u+303):=by
 refine (vH h hf (by omega) a l.length blk of cp h0 (by omega)
  (fun r W=>r=0/\∃Pg' f',f'.kind=f.kind/\f'.mode=f.mode/\f'.links=f.links/\f'.data=wrD f.data a l/\aF gq N ino Pg' (bj fs i (some f'))/\∃D',Pc W c F 100 N Pg' Cm D' o (u+303))
  (fun r W=>r=0/\∃Pg' f',f'.kind=f.kind/\f'.mode=f.mode/\f'.links=f.links/\f'.data=wrD f.data a l/\aF gq N ino Pg' (bj fs i (some f'))/\∃D',Pc W c F 100 N Pg' Cm D' o (u+303))
  (fun W p D hk hp hm hfi hpl => ?_) (fun W r hs hm hR => ?_)).mono ?_
 ·refine (pZ (k:=0) (kk:=1+2*(au (max z f.data.length)-f.cnt)+(fillN z-a / 512)+2) hm h.mF ⟨D,zo h.few _ _,hp⟩ h.good hf hfi (fun hh=>by have:=h.lt _ hh;omega) (by omega) a z _ l blk of cp (fun j hj=>hk.cell (hl j hj) (by rw [Addr.add_mid];exact hbF)) hcp hbF (by omega) (by have:=hk.size;omega) haz h0 hz7 rfl (Nat.le_refl _)).mono ?_;rintro e w' ⟨hk',⟨hy,rfl,Pg',f',h1,h2,h3,h4,h5,D',-,h6⟩ | ⟨hx,-⟩⟩
  ·exact ⟨0,rfl,hk',rfl,Pg',f',h1,h2,h3,h4,h5,D',h6⟩
  ·exact absurd hfr (Nat.not_le.2 hx)
 ·obtain ⟨rfl,hR⟩:=hR;refine (pR s W).mono ?_;rintro e w' ⟨rfl,rfl⟩;exact ⟨rfl,ac.refl _ _,rfl,hR⟩
 ·rintro e w' ⟨r,rfl,hk,rfl,Pg',f',h1,h2,h3,h4,h5,h6⟩;exact ⟨rfl,hk,Pg',f',h1,h2,h3,h4,h.map.keep hk h.mF,h.store.keep hk h.sF,h.mF,h.sF,h.few,h6,h5⟩
end
end
section
open Go.RowKit
def bP (xs:List Int):List Value:=xs.map (fun n=>Value.int .i64 n)
theorem jc {xs:List Int}:∀v∈bP xs,∃k,v = .int .i64 k:=fun v hv=>by
 obtain ⟨n,-,rfl⟩:=List.mem_map.1 hv;exact ⟨n,rfl⟩
end
section
open Go.RowKit Go.Shelf
attribute [local go_sem] Oper.semAt_some
end
section
open Go.RowKit
end
section
open Go.RowKit
theorem vg {N:Nat} {Pg:Nat->List UInt8} (hN:8<=N) (hN1:N<=100) (hl:∀p,p<N->(Pg p).length=512) (h1:Pg 1=bp 1) (h2:Pg 2=bp 5):aF gq N 16 Pg (fun _=>none):=by
 refine ⟨by omega,by omega,by decide,by omega,hl,fun i hi => ?_,fun i f h=>(by cases h),fun i f h=>(by cases h),fun i f h=>(by cases h),fun i f h=>(by cases h),fun i f h=>(by cases h),fun p hp1 hp2 => ?_,fun i f j i' f' j' h=>(by cases h)⟩
 ·rw [h1,fK 1 i (by omega)];simp
 ·rw [h2,fK 5 p (by omega),decide_eq_false (by omega)];exact ⟨fun h=>(by cases h),fun ⟨_,_,_,h,_⟩=>(by cases h)⟩
end
section
open Go.RowKit
theorem wG:∀(n:Nat) (l:List UInt8) (o k:Nat),k<o\/o+n<=k->(clr l o n)[k]? = l[k]?
 | 0,_,_,_,_=>rfl
 | n+1,l,o,k,h=>by
  show (clr (l.set o 0) (o+1) n)[k]? = l[k]?;rw [wG n _ _ k (by omega),List.getElem?_set_ne (by omega)]
theorem xZ {L:List UInt8} {q k:Nat} (h:k%8≠q%8):cT (clr L (q%8*64) 64) k=cT L k:=by
 unfold cT;refine List.ext_getElem? (fun j => ?_);by_cases hj:j<64
 ·rw [List.getElem?_take_of_lt hj,List.getElem?_take_of_lt hj,List.getElem?_drop,List.getElem?_drop];exact wG 64 L _ _ (by omega)
 ·rw [List.getElem?_eq_none (by rw [List.length_take];omega),List.getElem?_eq_none (by rw [List.length_take];omega)]
def uQ (k mode:Nat):ao:=⟨k,mode,1,List.replicate 139 0,0,[]⟩
theorem ve (k mode j:Nat):(uQ k mode).slot j=0:=by
 unfold uQ ao.slot;rw [List.getD_eq_getElem?_getD];by_cases h:j<139
 ·rw [List.getElem?_eq_getElem (by rw [List.length_replicate];exact h),List.getElem_replicate];rfl
 ·rw [List.getElem?_eq_none (by rw [List.length_replicate];omega)];rfl
theorem mz:au 0=0:=rfl
theorem ze {k mode a N:Nat} (hk:k<=3) (hm:mode<=4095):(uQ k mode).ok a N :=
 ⟨hk,hm,by show 1<=65535;omega,by show 0<=70656;omega,rfl,by show 0<=139;omega,by show au 0<=0;rw [mz];exact Nat.le_refl _,fun j hj=>absurd hj (Nat.not_lt_zero j),fun j _=>ve k mode j⟩
section
variable {N ino:Nat} {Pg:Nat->List UInt8} {fs:Nat->Option ao}
theorem ql (q:Nat):il Pg q 1=flipL (Pg 1) q:=by
 unfold il
 split
 ·unfold bf;exact if_pos rfl
 ·unfold bf;rw [if_neg (by omega)];exact if_pos rfl
theorem gI {q p:Nat} (h1:p≠1) (h2:p≠3+q / 8):il Pg q p=Pg p:=by
 unfold il
 split
 ·unfold bf;exact if_neg h1
 ·unfold bf;rw [if_neg h2];exact if_neg h1
theorem qT (q:Nat):il Pg q (3+q / 8)=clr (Pg (3+q / 8)) (q%8*64) 64:=by
 unfold il
 split
 ·rename_i e;unfold bf;rw [if_neg (by omega)];exact e.symm
 ·unfold bf;rw [if_pos rfl];rfl
theorem wT {q k:Nat} (h:k≠q):cT (il Pg q (3+k / 8)) k=cT (Pg (3+k / 8)) k:=by
 by_cases e:k / 8=q / 8
 ·rw [e,qT,xZ (by omega)]
 ·rw [gI (by omega) (by omega)]
theorem xp {q k mode:Nat}:pl Pg q k mode 2=Pg 2:=by
 have hmk:pl Pg q k mode=ij (il Pg q) q (rr k mode):=rfl;rw [hmk,bZ (by omega),gI (by omega) (by omega)]
theorem aF.make (h:aF gq N ino Pg fs) {q:Nat} {rest:List Nat} (hq:ax (Pg 1) 1 ino 4096=q :: rest) {k mode:Nat} (hk:k<=3) (hm:mode<=4095):aF gq N ino (pl Pg q k mode) (bj fs q (some (uQ k mode))):=by
 obtain ⟨q1,q2,q3⟩:=bN hq;have hnf:=h.nf;have hn4:=h.n4;have hi5:=h.i5;have hl1:=h.len 1 (by omega);have hnone:∀g,fs q≠some g:=fun g hg=>by
  have:=(h.ibit q q2).2 (.inr (by rw [hg];rfl));rw [q3] at this;cases this
 have htq:=h.tabLt q2;have hmk:pl Pg q k mode=ij (il Pg q) q (rr k mode):=rfl;have hno:(rr k mode).ok:=ua k mode hk hm;have hL:(il Pg q (3+q / 8)).length=512:=by rw [qT,gK];exact h.len _ (by omega)
 have hup:∀p,3+ino / 8<=p->pl Pg q k mode p=Pg p:=fun p hp=>by rw [hmk,bZ (by omega),gI (by omega) (by omega)]
 have h2:pl Pg q k mode 2=Pg 2:=xp;have h1:pl Pg q k mode 1=flipL (Pg 1) q:=by rw [hmk,bZ (by omega),ql]
 have hino:∀j,cT (pl Pg q k mode (3+j / 8)) j=if j=q then dr (rr k mode) else cT (Pg (3+j / 8)) j:=fun j=>by
  rw [hmk,rA hno hL];by_cases e:j=q
  ·rw [if_pos e,if_pos e]
  ·rw [if_neg e,if_neg e,wT e]
 refine ⟨h.n4,h.nf,h.h8,h.i5,fun p hp => ?_,fun j hj => ?_,fun j g hg => ?_,fun j g hg => ?_,fun j g hg => ?_,fun j g hg hns => ?_,fun j g hg x hx => ?_,fun p hp1 hp2 => ?_,fun j g x j' g' x' hg hg' hx hx' e => ?_⟩
 ·rw [hmk];by_cases e:p=3+q / 8
  ·rw [e,ls];exact iy hL q (dO _ 11 (Nat.le_refl _) hno.pages)
  ·rw [bZ e];by_cases e1:p=1
   ·rw [e1,ql,bO];exact hl1
   ·rw [gI e1 e];exact h.len p hp
 ·rw [h1,fj _ _ _ (by omega)];by_cases e:j=q
  ·rw [if_pos e,q3,e,aK];simp
  ·rw [if_neg e,eu e];exact h.ibit j hj
 ·rcases updA_cases hg with ⟨rfl,-⟩ | ⟨-,hg⟩
  ·exact ⟨q1,q2⟩
  ·exact h.out j g hg
 ·rcases updA_cases hg with ⟨rfl,e⟩ | ⟨-,hg⟩
  ·cases e;exact ze hk hm
  ·exact h.file j g hg
 ·unfold fJ;rw [hino j];rcases updA_cases hg with ⟨rfl,-⟩ | ⟨hne,hg⟩
  ·rw [if_pos rfl];exact ⟨_,hno,rfl⟩
  ·rw [if_neg hne];exact h.tab j g hg
 ·rw [hino j];rcases updA_cases hg with ⟨rfl,e⟩ | ⟨hne,hg⟩
  ·cases e;rw [if_pos rfl];exact ⟨rfl,mz.symm,fun hb=>absurd hb (by show ¬5120<0;omega)⟩
  ·obtain ⟨a1,a2,a3⟩:=h.node j g hg hns;rw [if_neg hne];refine ⟨a1,a2,fun hb => ?_⟩;have:=ew hb (h.file j g hg).size;rw [hup _ ((h.file j g hg).in_ 10 (by omega)).1];exact a3 hb
 ·rcases updA_cases hg with ⟨rfl,e⟩ | ⟨-,hg⟩
  ·cases e;exact absurd hx (Nat.not_lt_zero x)
  ·rw [hup _ ((h.file j g hg).in_ _ (h.at_ hg hx).1).1];exact h.data j g hg x hx
 ·rw [h2,h.pbit p hp1 hp2];constructor
  ·rintro ⟨j,g,x,hg,hx,e⟩;exact ⟨j,g,x,(eu (fun e'=>hnone g (by rw [<- e'];exact hg))).trans hg,hx,e⟩
  ·rintro ⟨j,g,x,hg,hx,e⟩;rcases updA_cases hg with ⟨rfl,e'⟩ | ⟨-,hg⟩
   ·cases e';exact absurd hx (Nat.not_lt_zero x)
   ·exact ⟨j,g,x,hg,hx,e⟩
 ·rcases updA_cases hg with ⟨rfl,e'⟩ | ⟨-,hg⟩
  ·cases e';exact absurd hx (Nat.not_lt_zero x)
  ·rcases updA_cases hg' with ⟨rfl,e'⟩ | ⟨-,hg'⟩
   ·cases e';exact absurd hx' (Nat.not_lt_zero x')
   ·exact h.apart j g x j' g' x' hg hg' hx hx' e
end
end
section
open Go.RowKit
end
section
open Go.RowKit
end
section
set_option maxRecDepth 100000
open Go.RowKit
def PcB (w:World) (B c:Nat) (F:Nat->Prop) (size N:Nat) (Pg Cm:Nat->List UInt8) (D:Int->Bool) (o u:Nat):Prop:=∃L C,zi w c F size N Pg Cm D o u L C/\c<B/\L.um<B/\B<=w.heap.size/\∀W,ac (fun i=>B<=i) w W->av W c L C
section
variable {w w':World} {B m c ino:Nat} {F:Nat->Prop} {size N:Nat} {Pg Cm:Nat->List UInt8} {D:Int->Bool} {o u:Nat}
theorem PcB.start (h:Pc w c F size N Pg Cm D o u):PcB w w.heap.size c F size N Pg Cm D o u:=by
 obtain ⟨L,C,h⟩:=h;obtain ⟨es,k,hu⟩:=h.at_.umap;exact ⟨L,C,h,ae h.at_.heap,ae hu,Nat.le_refl _,fun W hW=>h.at_.below (hW.below (Nat.le_refl _) (fun i e=>e))⟩
theorem PcB.keep (h:PcB w B c F size N Pg Cm D o u) (k:ac (fun i=>B<=i) w w'):PcB w' B c F size N Pg Cm D o u:=by
 obtain ⟨L,C,h,h1,h2,h3,h4⟩:=h;exact ⟨L,C,⟨h4 w' k,h.sz,h.nn,h.made,h.ops,h.uses,h.pg,h.cm,h.dirty,h.room,h.foot,fun i hi=>Nat.lt_of_lt_of_le (h.lt i hi) k.size,Nat.lt_of_lt_of_le h.p0 k.size,h.sep.mono k.size,h.quiet⟩,h1,h2,Nat.le_trans h3 k.size,fun W hW=>h4 W (k.trans hW (fun i e => .inl e))⟩
theorem PcB.pc (h:PcB w B c F size N Pg Cm D o u):Pc w c F size N Pg Cm D o u:=by
 obtain ⟨L,C,h,-⟩:=h;exact ⟨L,C,h⟩
theorem PcB.le (h:PcB w B c F size N Pg Cm D o u):B<=w.heap.size:=by
 obtain ⟨L,C,-,-,-,h,-⟩:=h;exact h
theorem PcB.step {L L':bM} {C C':CS} (hB:∀W,ac (fun i=>B<=i) w W->av W c L C) (hc:c<B) (hu:L.um<B) (hBs:B<=w.heap.size) (hk:ac (fun i=>i=c\/i=L.um) w w') (h':av w' c L' C')
  (hL:L'={ L with Du:=L'.Du }) (hC:C'={ C with uses:=C'.uses,used:=C'.used }):∀W,ac (fun i=>B<=i) w' W->av W c L' C':=fun V hV=>by
 have h0:=hB w (ac.refl _ _);obtain ⟨es,kk,hum⟩:=h0.umap;have hcw:=h0.heap;obtain ⟨W,hW⟩:∃W:World,W={ V with heap:=(V.heap.setIfInBounds c (.cells #[.pointer (some ⟨L.p,0,none⟩),.map (some L.dm),.int .i64 C.most,.int .i64 C.uses,.map (some L.um)] 109 (0,0))).setIfInBounds L.um (.map es kk) }:=⟨_,rfl⟩;have hs1:=hk.size;have hs2:=hV.size;have hWs:W.heap.size=V.heap.size:=by rw [hW];simp
 have hne:∀k,k≠c->k≠L.um->W.heap[k]? = V.heap[k]? := fun k h1 h2=>by
  rw [hW];show ((V.heap.setIfInBounds c _).setIfInBounds L.um _)[k]? = V.heap[k]?;rw [Array.getElem?_setIfInBounds_ne (fun e=>h2 e.symm),Array.getElem?_setIfInBounds_ne (fun e=>h1 e.symm)]
 have hcu:c≠L.um:=fun e=>by rw [e,hum] at hcw;cases hcw
 have hWc:W.heap[c]? = w.heap[c]? := by
  rw [hcw,hW];show ((V.heap.setIfInBounds c _).setIfInBounds L.um _)[c]? = _;rw [Array.getElem?_setIfInBounds_ne (fun e=>hcu e.symm),Array.getElem?_setIfInBounds_self_of_lt (by omega)]
 have hWu:W.heap[L.um]? = w.heap[L.um]? := by
  rw [hum,hW];show ((V.heap.setIfInBounds c _).setIfInBounds L.um _)[L.um]? = _;rw [Array.getElem?_setIfInBounds_self_of_lt (by rw [Array.size_setIfInBounds];omega)]
 have kW:ac (fun i=>B<=i) w W:=by
  refine ⟨?_,?_,?_,by omega,fun k hk1 hk2 => ?_⟩
  ·rw [hW];exact hV.os.trans hk.os
  ·rw [hW];exact hV.tape.trans hk.tape
  ·rw [hW];exact hV.output.trans hk.output
  ·by_cases e1:k=c
   ·rw [e1];exact hWc
   ·by_cases e2:k=L.um
    ·rw [e2];exact hWu
    ·rw [hne k e1 e2,hV.block k (by omega) hk2,hk.block k hk1 (fun hh=>hh.elim e1 e2)]
 have kV:ac (fun i=>i=c\/i=L.um) W V:=by
  refine ⟨by rw [hW],by rw [hW],by rw [hW],by omega,fun k _ hk2=>(hne k (fun e=>hk2 (.inl e)) (fun e=>hk2 (.inr e))).symm⟩
 have hA:=hB W kW;have hG:∀i,(i=c\/i=L.um)->i=c\/i=L.dm\/i=L.um:=fun i hi=>hi.elim .inl (fun e => .inr (.inr e));have eum:L'.um=L.um:=by rw [hL]
 have hcV:V.heap[c]? = w'.heap[c]? := hV.block c (by omega) (fun e=>by omega);rw [hL,hC] at h' ⊢;exact {
  heap:=hcV.trans h'.heap
  log:=hA.logKeep hG kV
  lt:=fun i hi=>Nat.lt_of_lt_of_le (h'.lt i hi) hV.size
  dirty:=hA.dirty.keep kV (fun e=>e.elim (fun e=>hA.cd e.symm) (fun e=>hA.ne e))
  bytes:=hA.bytesKeep hG kV
  clean:=h'.clean
  used:=h'.used.keep hV (fun e=>by have e':B<=L.um:=e;omega)
  offc:=h'.offc
  offd:=h'.offd
  offu:=h'.offu
  ne:=h'.ne
  pages:=h'.pages
  fits:=h'.fits
  few:=h'.few
  ub:=h'.ub }
theorem PcB.read (h:PcB w B c F size N Pg Cm D o u) (n:Nat) (hn:n<N) (hu:u<1000000) :
  Calls Tryz.prog 187 #[.pointer (some ⟨c,0,none⟩),.int .i64 n] w fun e w'=>∃g cap,e = .returned (.tuple #[.slice (some ⟨g,0,none⟩) 512 cap,.int .i64 0])/\512<=cap/\w.heap.size<=g/\bT w' g (Pg n)/\ac F w w'/\PcB w' B c F size N Pg Cm D o (u+1):=by
 obtain ⟨L,C,h,h1,h2,h3,h4⟩:=h;refine (oy n w h.at_ (Below.refl _ w) h.made (by have:=h.uses;omega) (by rw [h.nn];exact hn)).mono ?_;rintro e w' ⟨g,cap,D',u',k,rfl,hc,hg,hr,hk,hW,hK⟩;have hf:∀i,(i=c\/i=L.um)->F i:=fun i hi=>h.foot i (hi.elim (fun e => .inr (.inl e)) (fun e => .inr (.inr (.inr e))));have hA:=hW w' (ac.refl _ _);refine ⟨g,cap,rfl,hc,hg,by rw [<- h.pg n hn];exact hr,hK.mono hf,{ L with Du:=D' },{ C with uses:=C.uses+k,used:=u' },⟨hA,h.sz,h.nn,h.made,h.ops,by show C.uses+k<=u+1;have:=h.uses;omega,h.pg,h.cm,h.dirty,h.room,h.foot,fun i hi=>Nat.lt_of_lt_of_le (h.lt i hi) hK.size,Nat.lt_of_lt_of_le h.p0 hK.size,h.sep.mono hK.size,h.quiet⟩,h1,h2,Nat.le_trans h3 hK.size,PcB.step h4 h1 h2 h3 hK hA rfl rfl⟩
theorem xT (h:aT w m c ino) (n:Nat) (hn:n<N) (hu:u<1000000) (hp:PcB w B c F size N Pg Cm D o u) :
  Calls Tryz.prog 131 #[gV m,.int .i64 n] w fun e w'=>∃g,e = .returned (.slice (some ⟨g,0,none⟩) 512 512)/\w.heap.size<=g/\aV w' g (Pg n)/\ac F w w'/\PcB w' B c F size N Pg Cm D o (u+1):=by
 unfold gV;have HLen:=hid (hp.pc.len n hn);have HFl:=hid hp.pc.lt;have hBl:=hp.le;have hal:Below w.heap.size w (w.alloc (.cells #[.pointer (some ⟨m,0,none⟩)] 96)):=(Below.refl _ w).alloc (Nat.le_refl _) _;have HAl:Hid ((w.alloc (.cells #[.pointer (some ⟨m,0,none⟩)] 96)).heap[w.heap.size]? = some (.cells #[.pointer (some ⟨m,0,none⟩)] 96 (0,0))):=af w _;have HBa:=hid hal;have HP:=hid hp;have HM:=hid h;clear h hp hal;go_enter Tryz.func131,Tryz.ntmps131
 go_wp2_with (refine bF rfl (.const (.int .i64 512)) (.const (.int .i64 512)) rfl 512 512 rfl rfl rfl (by omega) ?_;intro w1 hb1 hr1 hz1;have hB1:=HBa.out.trans (hb1.mono HBa.out.size);have HB1:=hid hB1;have c0:w1.cell? ⟨w.heap.size,0,none⟩=some (.pointer (some ⟨m,0,none⟩)):=(aa (ah hb1 HAl.out (ae HAl.out)) 0);have HO1:Hid (aV w1 (w.heap.size+1) (zN 512)):=(by unfold Hid aV;rw [<- eX];simpa using hr1);have HCa:=hid (cN (HM.out.below hB1));have HRd:=hid ((HP.out.keep (ac.of_below hB1)).read n hn hu);clear hb1 hr1 hz1 hB1)
 refine HCa.out.mono ?_;clear HCa;rintro e w2 ⟨rfl,h2⟩;obtain rfl:=h2.symm;clear h2
 go_wp2_with fail
 refine HRd.out.mono ?_;clear HRd;rintro e w3 ⟨g,cap,rfl,hcap,hg,hrow,hk,hW⟩;have HO3:=hid (HO1.out.keep hk (fun hf=>by have:=HFl.out _ hf;omega));have HRow:=hid hrow;have HK:Hid (ac F w w3):=(ac.of_below HB1.out:ac F w w1).trans hk (fun i e => .inl e);have HW:=hid hW;have HSz:Hid (w.heap.size+1<w3.heap.size):=ae HO3.out;clear hrow hk hW hg HO1 c0
 go_wp2_with (refine gj rfl (.tmp 17) (.tmp 18) rfl (w.heap.size+1) 0 512 512 ⟨g,0,none⟩ 512 cap rfl rfl (zN 512) (Pg n) HO3.out HRow.out.1 (by rw [HLen.out];rfl) (by rw [HLen.out,aO];omega) ?_;intro w4 hk4 ho4 hz4;have HO4:=hid ho4;have HK4:=hid hk4;clear hk4 ho4 hz4)
 go_ret;have ho:=HO4.out;rw [List.take_zero,List.nil_append,Nat.zero_add,HLen.out,fM,show zN (512-512)=[] from rfl,List.append_nil] at ho;have k34:ac (fun i=>B<=i) w3 w4:=HK4.out.mono (fun i e=>by have e':i=w.heap.size+1:=e;show B<=i;omega);have k35:ac (fun i=>w.heap.size<=i) w3 w4:=HK4.out.mono (fun i e=>by have e':i=w.heap.size+1:=e;show w.heap.size<=i;omega);exact ⟨w.heap.size+1,rfl,by omega,ho,HK.out.trans k35 (fun i e => .inr e),HW.out.keep k34⟩
end
end
end Go.Proofs.YtpiieilffkickaaGreatDoor
