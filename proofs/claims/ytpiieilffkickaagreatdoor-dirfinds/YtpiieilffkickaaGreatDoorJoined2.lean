/- Several of my texts in one: BaseD, CommitA, WPlain, Nums, Logged, OpenA, WMade, LogNo, RSort, RAppend, WRef, DeedA, WDeeds, WPages, WMid, BaseE, AllP, BAll, BDeeds, BAbortP, ImageOwn, AlRow, WHead, WCrashP, CutA, WCrashed, WCrashQ, BCrashP, AlPc, AlOff, AlBls. -/
import Derived.Test.YtpiieilffkickaaGreatDoorJoined1
import Derived.Lib.BufferWrite
import Derived.Deep.Strs
set_option maxRecDepth 100000
set_option maxHeartbeats 2000000
namespace Go.Proofs.YtpiieilffkickaaGreatDoor
section
open Go.RowKit
def U8 (x:UInt8):Value := .int .u8 (x.toNat:Int)
def aV (w:World) (b:Nat) (L:List UInt8):Prop:=w.heap[b]? = some (.cells (L.map U8).toArray 5 (0,0))
theorem aV.lt {w:World} {b:Nat} {L:List UInt8} (h:aV w b L):b<w.heap.size:=ae h
theorem aV.keep {w w':World} {b:Nat} {L:List UInt8} {F:Nat->Prop} (h:aV w b L) (k:ac F w w') (hF:¬F b):aV w' b L:=k.heap h hF
theorem aV.below {w w':World} {b:Nat} {L:List UInt8} (h:aV w b L) (k:Below w.heap.size w w'):aV w' b L:=ah k h (ae h)
theorem aV.cell {w:World} {b:Nat} {L:List UInt8} (h:aV w b L) (j:Nat) (hj:j<L.length):w.cell? ⟨b,j,none⟩=some (.int .u8 (L[j].toNat:Int)):=by
 rw [aa h,List.getElem?_toArray,List.getElem?_map,List.getElem?_eq_getElem hj];rfl
theorem aV.set {w:World} {b:Nat} {L:List UInt8} (h:aV w b L) (j:Nat) (x:UInt8):aV (w.setCell ⟨b,j,none⟩ (.int .u8 (x.toNat:Int))) b (L.set j x):=by
 have h1:=ap h j (.int .u8 (x.toNat:Int));rw [List.setIfInBounds_toArray] at h1;unfold aV;rw [h1,List.map_set];rfl
theorem aV.frozen {w:World} {b:Nat} {L:List UInt8} (h:aV w b L) (j:Nat):w.frozen? ⟨b,j,none⟩=false:=ai h _
theorem aV.at {w:World} {b:Nat} {L:List UInt8} (h:aV w b L):az w ⟨b,0,none⟩ L:=fun j hj=>by rw [Addr.add_mid,Nat.zero_add];exact h.cell j hj
def beS:Nat->Nat->List UInt8
 | 0,_=>[]
 | k+1,x=>beS k (x / 256) ++ [UInt8.ofNat (x%256)]
theorem aA:∀k x,(beS k x).length=k
 | 0,_=>rfl
 | k+1,x=>by rw [beS,List.length_append,aA k];rfl
def numS (l:List UInt8):Nat:=l.foldl (fun x o=>x*256+o.toNat) 0
theorem oS (l:List UInt8) (o:UInt8):numS (l ++ [o])=numS l*256+o.toNat:=by simp [numS]
theorem gL:∀k x,numS (beS k x)=x%256^k
 | 0,x=>by simp [beS,numS,Nat.mod_one]
 | k+1,x=>by
  rw [beS,oS,gL k,UInt8.toNat_ofNat'];have h1:x%256^(k+1)=x%256+256*(x / 256%256^k):=by rw [Nat.pow_succ,Nat.mul_comm,Nat.mod_mul]
  have h2:x%256%2^8=x%256:=Nat.mod_eq_of_lt (Nat.mod_lt _ (by decide));omega
theorem lu:∀(l:List UInt8) (x:Nat),l.foldl (fun x o=>x*256+o.toNat) x<(x+1)*256^l.length
 | [],x=>by simp
 | o :: l,x=>by
  have ih:=lu l (x*256+o.toNat);have ho:=o.toNat_lt;have h1:(x*256+o.toNat+1)*256^l.length<=((x+1)*256)*256^l.length:=Nat.mul_le_mul_right _ (by omega);rw [List.foldl_cons,List.length_cons,Nat.pow_succ,Nat.mul_comm (256^l.length) 256, <- Nat.mul_assoc];omega
theorem yH (l:List UInt8):numS l<256^l.length:=by
 have:=lu l 0;simpa [numS] using this
end
section
open Go.RowKit
theorem xc:∀(k X r:Nat),r<k->(beS k X)[r]? = some (UInt8.ofNat (X / 256^(k-1-r)%256))
 | 0,_,_,h=>by omega
 | k+1,X,r,h=>by
  rw [beS];by_cases hr:r<k
  ·rw [List.getElem?_append_left (by rw [aA];exact hr),xc k (X / 256) r hr,Nat.div_div_eq_div_mul, <- Nat.pow_succ',show (k-1-r).succ=k+1-1-r by omega]
  ·obtain rfl:r=k:=by omega
   rw [List.getElem?_append_right (by rw [aA];exact Nat.le_refl _),aA];simp
theorem sv (a b:Nat) (ha:a<2^62) (hb:b<2^62):bits .or .i64 (a:Int) (b:Int)=((a ||| b:Nat):Int):=by
 have hx:a ||| b<2^62:=Nat.or_lt_two_pow ha hb;show IntKind.i64.wrap ((BitVec.ofInt 64 (a:Int) ||| BitVec.ofInt 64 (b:Int)).toNat:Int)=_;rw [BitVec.toNat_or,BitVec.ofInt_natCast,BitVec.ofInt_natCast,BitVec.toNat_ofNat,BitVec.toNat_ofNat,Nat.mod_eq_of_lt (by omega),Nat.mod_eq_of_lt (by omega)];simp [IntKind.wrap,IntKind.bits,IntKind.signed];omega
theorem wV (L B:List UInt8) (o k r:Nat) (hr:r<k) (hB:B.length=k) (hk:o+k<=L.length) (v:UInt8) (hv:B[r]? = some v) :
  (L.take (o+(r+1)) ++ B.drop (r+1) ++ L.drop (o+k)).set (o+r) v=L.take (o+r) ++ B.drop r ++ L.drop (o+k):=by
 have h1:L.take (o+(r+1))=L.take (o+r) ++ [L[o+r]'(by omega)]:=by rw [show o+(r+1)=o+r+1 by omega,List.take_succ_eq_append_getElem (by omega)]
 have h2:B.drop r=v :: B.drop (r+1):=by
  obtain ⟨hl,e⟩:=List.getElem?_eq_some_iff.1 hv;rw [List.drop_eq_getElem_cons hl,e]
 have hl:(L.take (o+r)).length=o+r:=by rw [List.length_take];omega
 rw [h1,h2,List.append_assoc,List.append_assoc,List.set_append_right _ _ (by rw [hl];exact Nat.le_refl _),hl,Nat.sub_self];simp
theorem ep (b o k c X:Nat) (L:List UInt8) (w:World) (h:aV w b L) (hk:o+k<=L.length) (hL:L.length<=4096) (_hX:X<4611686018427387904) :
  Calls Tryz.prog 82 #[.slice (some ⟨b,o,none⟩) k c,.int .i64 X] w fun e w'=>e = .returned (.tuple #[])/\aV w' b (L.take o ++ beS k X ++ L.drop (o+k))/\ac (fun i=>i=b) w w':=by
 have H:=hid h;clear h;go_enter Tryz.func82,Tryz.ntmps82;go_wp2
 go_loopw [1,4] (fun x i wr=>∃r:Nat,r<=k/\x = .int .i64 ((X / 256^(k-r):Nat):Int)/\i = .int .i64 ((r:Int)-1)/\Hid (aV wr b (L.take (o+r) ++ (beS k X).drop r ++ L.drop (o+k)))/\Hid (ac (fun i=>i=b) w wr)) (fun _ i _=>(intOf i+1).toNat)
 case atStart =>
  refine ⟨k,Nat.le_refl _,by simp,rfl,?_,ac.refl _ _⟩;have:=H.out;have e:(beS k X).drop k=[]:=List.drop_eq_nil_of_le (by rw [aA];exact Nat.le_refl _);unfold Hid;rw [e,List.append_nil,List.take_append_drop];exact this
 case round =>
  obtain ⟨r,hr,rfl,rfl,hO,hKp⟩:=hrel;rcases Nat.eq_zero_or_pos r with rfl | hpos
  ·go_wp2;go_returns;exact ⟨rfl,by simpa using hO.out,hKp.out⟩
  ·obtain ⟨r,rfl⟩:∃s,r=s+1:=⟨r-1,by omega⟩;have hle:X / 256^(k-(r+1))<=X:=Nat.div_le_self _ _;have hnext:X / 256^(k-(r+1)) / 256=X / 256^(k-r):=by rw [Nat.div_div_eq_div_mul, <- Nat.pow_succ,show (k-(r+1)).succ=k-r by omega]
   have hb:=xc k X r (by omega);rw [show k-1-r=k-(r+1) by omega] at hb;have hset:=fun v hv=>wV L (beS k X) o k r (by omega) (aA k X) hk v hv;have HSet:=hid hset;have HB:=hid hb;have HNext:=hid hnext;have hlen:o+r<(L.take (o+(r+1)) ++ (beS k X).drop (r+1) ++ L.drop (o+k)).length:=by simp [aA];omega
   obtain ⟨old,cl⟩:∃v,wr.cell? ⟨b,o+r,none⟩=some v:=⟨_,hO.out.cell (o+r) hlen⟩;have fl:=hO.out.frozen (o+r);clear hset hb hnext hlen;generalize X / 256^(k-(r+1))=x at *;have hr0:(0:Int)<=(r:Int):=by omega
   have hrk:(r:Int)<(k:Int):=by omega
   have e1:((r+1:Nat):Int)-1=(r:Int):=by omega
   rw [e1];go_wp2;have hv:((UInt8.ofNat (x%256)).toNat:Int)=(x:Int)%256:=by
    rw [UInt8.toNat_ofNat',Nat.mod_eq_of_lt (show x%256<2^8 from Nat.mod_lt _ (by decide))];omega
   have hs:=hO.out.set (o+r) (UInt8.ofNat (x%256));rw [HSet.out _ HB.out,hv] at hs;refine ⟨⟨r,by omega,by rw [<- HNext.out];rfl,rfl,hs,?_⟩,by simp [intOf]⟩;exact hKp.out.grown (ak (ar _ _) _ _) (fun i e => .inl (Option.some.inj e).symm)
theorem jP (l:List UInt8) (a:Option Addr) (c:Nat) (w:World) (hb:dN w a l) (hl:l.length<=7) :
  Calls Tryz.prog 108 #[.slice a l.length c] w fun e w'=>e = .returned (.int .i64 (numS l:Nat))/\w'=w:=by
 have HB:=hid hb;clear hb;go_enter Tryz.func108,Tryz.ntmps108;go_wp2
 go_loopw [3,8] (fun x i wr=>∃j:Nat,j<=l.length/\x = .int .i64 ((numS (l.take j):Nat):Int)/\i = .int .i64 j/\wr=w) (fun _ i _=>l.length-(intOf i).toNat)
 case atStart=>exact ⟨0,by omega,rfl,rfl,rfl⟩
 case round =>
  obtain ⟨j,hj,rfl,rfl,rfl⟩:=hrel;by_cases hlt:j<l.length
  ·have hj0:(0:Int)<=(j:Int):=by omega
   have hj1:(j:Int)<(l.length:Int):=by omega
   obtain ⟨b,o,rfl,hc⟩:=HB.out j hlt;have hcell:=hc j hlt;have HT:Hid (numS (l.take (j+1))=numS (l.take j)*256+l[j].toNat):=by
    unfold Hid;rw [List.take_succ_eq_append_getElem hlt,oS]
   have hb:=yH (l.take j);have hlj:(l.take j).length=j:=by rw [List.length_take];omega
   rw [hlj] at hb;have hp:256^j<=256^6:=Nat.pow_le_pow_right (by decide) (by omega);have hx:numS (l.take j)<281474976710656:=Nat.lt_of_lt_of_le hb (Nat.le_trans hp (by decide));have ho:=l[j].toNat_lt;have ho':l[j].toNat<256:=ho;clear hc hb hlj hp ho;generalize numS (l.take j)=x at *;generalize l[j].toNat=y at *;go_wp2;have hor:bits .or .i64 ((x:Int)*256) (y:Int)=((x*256+y:Nat):Int):=by
    rw [show (x:Int)*256=((x*256:Nat):Int) by omega,sv (x*256) y (by omega) (by omega)]
    congr 1
    rw [show x*256=x <<< 8 by rw [Nat.shiftLeft_eq], <- Nat.shiftLeft_add_eq_or_of_lt (show y<2^8 by omega)]
   rw [hor, <- HT.out];exact ⟨⟨j+1,by omega,rfl,by go_num,trivial⟩,by simp [intOf];omega⟩
  ·obtain rfl:j=l.length:=by omega
   have hge:¬((l.length:Int)<(l.length:Int)):=by omega
   go_wp2;go_ret;exact ⟨rfl,rfl⟩
end
section
open Go.RowKit
def zN (n:Nat):List UInt8:=List.replicate n 0
theorem aO (n:Nat):(zN n).length=n:=List.length_replicate
theorem fM (n k:Nat):(zN n).drop k=zN (n-k):=List.drop_replicate
theorem eX (n:Nat):(List.replicate n (Value.int .u8 0)).toArray=((zN n).map U8).toArray:=by rw [zN,List.map_replicate];rfl
def kn (ns:List Nat) (i:Nat):List UInt8:=[68,78] ++ beS 2 ns.length ++ (ns.take i).flatMap (beS 2)
def dw (ns:List Nat) (i:Nat):List UInt8:=kn ns i ++ zN (508-2*i)
def headS (ns:List Nat):List UInt8:=dw ns ns.length
theorem qL (l:List Nat):(l.flatMap (beS 2)).length=2*l.length:=by
 induction l with
 | nil=>rfl
 | cons x l ih=>rw [List.flatMap_cons,List.length_append,aA,ih,List.length_cons];omega
theorem kg (ns:List Nat) (i:Nat) (h:i<=ns.length):(kn ns i).length=4+2*i:=by
 rw [kn,List.length_append,List.length_append,aA,qL,List.length_take,Nat.min_eq_left h];rfl
theorem er (ns:List Nat) (i:Nat) (h:i<=ns.length) (h2:ns.length<=254):(dw ns i).length=512:=by
 rw [dw,List.length_append,kg ns i h,aO];omega
theorem sm (ns:List Nat) (i:Nat) (h:i<ns.length):kn ns (i+1)=kn ns i ++ beS 2 ns[i]:=by
 rw [kn,kn,List.take_succ_eq_append_getElem h,List.flatMap_append];simp
theorem qw (ns:List Nat) (i:Nat) (h:i<ns.length):(dw ns i).take (4+2*i) ++ beS 2 ns[i] ++ (dw ns i).drop (4+2*i+2)=dw ns (i+1):=by
 have hl:=kg ns i (by omega);have e1:(dw ns i).take (4+2*i)=kn ns i:=by rw [dw, <- hl,List.take_left'];rfl
 have e2:(dw ns i).drop (4+2*i+2)=zN (508-2*(i+1)):=by
  rw [dw,List.drop_append,hl,List.drop_eq_nil_of_le (by omega),List.nil_append,fM]
  congr 1;omega
 rw [e1,e2,dw,sm ns i h]
theorem tY (ns:List Nat):([68,78] ++ (zN 512).drop 2).take 2 ++ beS 2 ns.length ++ ([68,78] ++ (zN 512).drop 2).drop (2+2)=dw ns 0:=by
 rw [fM,dw,kn,List.take_left' (by rfl),List.drop_append,List.drop_eq_nil_of_le (by decide),List.nil_append,fM];simp
theorem gU {w:World} {ops:Array Oper} {rest:List Oper} {o:Oper} {a:Act} {Q:Exit->Act->World->Prop} (hgd:o.guard=none) (d s:Operand)
  (ho:o.op = .call { callee := .builtin .copy,args:=#[d,s],argTypes:=#[76,9] }) (b m:Nat) (L:List UInt8) (st:ByteArray)
  (hd:a.eval d = .slice (some ⟨b,0,none⟩) m m) (hs:a.eval s = .string st) (hr:aV w b L) (hm:L.length=m) (hle:st.size<=m)
  (h:∀r w',aV w' b (st.data.toList ++ L.drop st.size)->ac (fun i=>i=b) w w'->wpList Tryz.prog ops Q rest (a.put o.dst r) w'):wpList Tryz.prog ops Q (o :: rest) a w:=by
 have hsz:(Tryz.prog.info? 5).map (·.size)=some 1:=by kernel_rfl
 refine wpList_plain hgd fun K hK => ?_;have hrun:=Lib.run_copy_row_string (P:=Tryz.prog) w 76 9 o.type 5 b 0 m m st (L.map U8).toArray 5 Tryz.underlying76 hsz hr hle (by simp;omega);obtain ⟨cs,hcs⟩:∃cs,((L.map U8).toArray.toList.take 0 ++ Lib.byteCells st.data.toList ++ (L.map U8).toArray.toList.drop (0+st.size))=cs:=⟨_,rfl⟩;rw [hcs] at hrun;have hce:cs=(st.data.toList ++ L.drop st.size).map U8:=by
  rw [<- hcs,List.take_zero,List.nil_append,Nat.zero_add,List.map_append,List.map_drop];rfl
 have hblk:=setRow_heap w b (L.map U8).toArray cs.toArray 5 (0,0) hr;unfold Oper.wp;simp [execOp,ho,resolve,invoke,builtin,hd,hs,hrun,Result.andThen];refine hK _ _ (h _ _ ?_ ⟨rfl,rfl,rfl,by simp,fun i _ hi=>setRow_other w b i _ hi⟩);unfold aV;rw [hblk,hce]
theorem vn (b i:Nat) (w:World) (hi:4+2*i+2<=512) :
  Calls Tryz.prog 109 #[.slice (some ⟨b,0,none⟩) 512 512,.int .i64 i] w fun e w'=>e = .returned (.slice (some ⟨b,4+2*i,none⟩) 2 (512-(4+2*i)))/\w'=w:=by
 have h0:(0:Int)<=(i:Int):=by omega
 have h1:(i:Int)<=253:=by omega
 go_enter Tryz.func109,Tryz.ntmps109;go_wp2;go_ret;exact ⟨rfl,rfl⟩
abbrev rU (ns:List Nat):List Int:=ns.map (fun n:Nat=>(n:Int))
theorem uu (ns:List Nat) (a:Option Addr) (c:Nat) (w:World) (hns:sE w a (rU ns)) (hl:ns.length<=100) (hm:∀n∈ns,n<65536) :
  Calls Tryz.prog 111 #[.slice a ns.length c] w fun e w'=>∃b,e = .returned (.slice (some ⟨b,0,none⟩) 512 512)/\w.heap.size<=b/\aV w' b (headS ns)/\Below w.heap.size w w':=by
 have HN:=hid hns;have HM:=hid hm;clear hns hm;go_enter Tryz.func111,Tryz.ntmps111
 go_wp2_with (first
  | (refine bF rfl (.const (.int .i64 512)) (.const (.int .i64 512)) rfl 512 512 rfl rfl rfl (by omega) ?_;intro w1 hb1 hr1 hz1;have HB1:=hid hb1;have HR1:Hid (aV w1 w.heap.size (zN 512)):=(by unfold Hid aV;rw [hr1,eX]);clear hb1 hr1 hz1)
  | (refine gU rfl (.tmp 7) (.const (.string ⟨#[68,78]⟩)) rfl w.heap.size 512 (zN 512) ⟨#[68,78]⟩ rfl rfl HR1.out (aO 512) (by decide) ?_;intro r2 w2 hr2 hk2;have HB2:=hid (HB1.out.trans (hk2.below HB1.out.size (fun i e=>by omega)));have HR2:Hid (aV w2 w.heap.size ([68,78] ++ (zN 512).drop 2)):=hr2;clear hr2 hk2 HR1 HB1))
 have hl0:([68,78] ++ (zN 512).drop 2).length=512:=by rw [List.length_append,fM,aO];rfl
 have hp:=ep w.heap.size 2 2 (512-2) ns.length ([68,78] ++ (zN 512).drop 2) w2 HR2.out (by rw [hl0];decide) (by rw [hl0];decide) (by omega);rw [tY] at hp;have HP:=hid hp;clear hp hl0 HR2;refine HP.out.mono ?_;clear HP;rintro e w3 ⟨rfl,hr3,hk3⟩;have HR3:=hid hr3;have HB3:=hid (HB2.out.trans (hk3.below HB2.out.size (fun i e=>by omega)));clear hr3 hk3 HB2;go_wp2
 go_loopw [16] (fun i wr=>∃j:Nat,j<=ns.length/\i = .int .i64 j/\Hid (aV wr w.heap.size (dw ns j))/\Hid (Below w.heap.size w wr)) (fun i _=>ns.length-(intOf i).toNat)
 case atStart=>exact ⟨0,by omega,rfl,HR3,HB3⟩
 case round =>
  obtain ⟨j,hj,rfl,hR,hB⟩:=hrel;by_cases hlt:j<ns.length
  ·have hj0:(0:Int)<=(j:Int):=by omega
   have hj1:(j:Int)<(ns.length:Int):=by omega
   have hjl:j<(rU ns).length:=by simpa using hlt
   obtain ⟨b,o,rfl,hc⟩:=HN.out j hjl;have hcj:=hc j hjl;have hcell:wr.cell? ⟨b,o+j,none⟩=some (.int .i64 (ns[j]:Nat)):=by
    rw [hB.out.cell (p:=⟨b,o+j,none⟩) (World.block_lt_of_cell? w _ hcj),hcj];simp
   have hnm:=HM.out ns[j] (List.getElem_mem hlt);have hll:=er ns j hj (by omega);have hp:=ep w.heap.size (4+2*j) 2 (512-(4+2*j)) ns[j] (dw ns j) wr hR.out (by rw [hll];omega) (by rw [hll];decide) (by omega);rw [qw ns j hlt] at hp;have HP:=hid hp;have HNi:=hid (vn w.heap.size j wr (by omega));clear hp hll hc hcj hjl;generalize ns[j]=x at *
   go_wp2_with fail
   refine HNi.out.mono ?_;rintro e w4 ⟨rfl,h4⟩;obtain rfl:=h4.symm
   go_wp2_with fail
   refine HP.out.mono ?_;clear HP;rintro e w5 ⟨rfl,hr5,hk5⟩;have HR5:=hid hr5;have HB5:=hid (hB.out.trans (hk5.below hB.out.size (fun i e=>by omega)));clear hr5 hk5;go_wp2;exact ⟨⟨j+1,by omega,by go_num,HR5,HB5⟩,by simp [intOf];omega⟩
  ·obtain rfl:j=ns.length:=by omega
   have hge:¬((ns.length:Int)<(ns.length:Int)):=by omega
   go_wp2;go_ret;exact ⟨w.heap.size,rfl,Nat.le_refl _,hR.out,hB.out⟩
end
section
open Go.RowKit
theorem iZ (l m:List UInt8) (a b:Addr) (c c':Nat) (w:World) (ha:az w a l) (hb:az w b m) :
  Calls Tryz.prog 107 #[.slice (some a) l.length c,.slice (some b) m.length c'] w fun e w'=>e = .returned (.bool (decide (l=m)))/\w'=w:=by
 have hcv:=run_convert_bytes_back (P:=Tryz.prog) w 76 9 5 a c l Tryz.underlying76 Tryz.underlying5 Tryz.underlying9 ha;have hcw:=run_convert_bytes_back (P:=Tryz.prog) w 76 9 5 b c' m Tryz.underlying76 Tryz.underlying5 Tryz.underlying9 hb;have he:((⟨l.toArray⟩:ByteArray).toList==(⟨m.toArray⟩:ByteArray).toList)=decide (l=m):=by
  rw [ByteArray.toList_mk,ByteArray.toList_mk];by_cases h:l=m
  ·subst h;simp
  ·rw [decide_eq_false h];simpa using h
 have HE:=hid he;clear ha hb he;generalize hs:(⟨l.toArray⟩:ByteArray)=s at *;generalize ht:(⟨m.toArray⟩:ByteArray)=t at *;clear hs ht;go_enter Tryz.func107,Tryz.ntmps107;go_wp2;go_ret;refine ⟨?_,rfl⟩;rw [<- HE.out];rfl
theorem qb (d:DL) (S:aq) (size:Nat) (w:World) (h:di w d S) (hz:(seenS S.safe S.waits 0).data.toList=zN 512) :
  Calls Tryz.prog 52 #[eA d.p size] w fun e w'=>e = .returned (.tuple #[.slice none 0 0,.bool true])/\Below w.heap.size w w':=by
 have hsz:(seenS S.safe S.waits 0).size=512:=by
  have:(seenS S.safe S.waits 0).data.toList.length=512:=by rw [hz];exact aO 512
  simpa using this
 have HR:=hid (fun W hW=>tw d S 0 W (h.below (w':=W) hW) (by omega) (by have:=h.plates.pos;omega));rw [hsz,hz] at HR;clear h hsz hz;unfold eA;go_enter Tryz.func52,Tryz.ntmps52
 go_wp2_with fail
 refine (HR.out _ ((Below.refl w.heap.size w).alloc (Nat.le_refl _) (.cells #[.pointer (some ⟨d.p,0,none⟩),.int .i64 size] 121))).mono ?_;rintro e w1 ⟨b,c,rfl,hb,hat,hb1⟩;have HAt:=hid hat;have HB1:=hid (((Below.refl w.heap.size w).alloc (Nat.le_refl _) (.cells #[.pointer (some ⟨d.p,0,none⟩),.int .i64 size] 121)).trans (hb1.mono (by simp)));clear hat hb1 HR
 go_wp2_with (refine bF rfl (.const (.int .i64 512)) (.const (.int .i64 512)) rfl 512 512 rfl rfl rfl (by omega) ?_;intro w2 hb2 hr2 hz2;have HB2:=hid (HB1.out.trans (hb2.mono HB1.out.size));have HR2:Hid (aV w2 w1.heap.size (zN 512)):=(by unfold Hid aV;rw [hr2,eX]);have HK2:=hid hb2;clear hb2 hr2 hz2)
 have he:=iZ (zN 512) (zN 512) ⟨b,0,none⟩ ⟨w1.heap.size,0,none⟩ c 512 w2 (fun j hj=>(HK2.out.cell (World.block_lt_of_cell? w1 _ (HAt.out j hj))).trans (HAt.out j hj)) HR2.out.at
 rw [aO,decide_eq_true rfl] at he;have HE:=hid he;clear he;refine HE.out.mono ?_;clear HE;rintro e w3 ⟨rfl,h3⟩;obtain rfl:=h3.symm;go_wp2;go_returns;exact ⟨rfl,HB2.out⟩
structure bH (w:World) (p:Nat) (d:DL) (S:aq) (size rec:Nat) (F:Nat->Prop):Prop where
 heap:w.heap[p]? = some (.cells #[.pointer (some ⟨d.p,0,none⟩),.int .i64 size,.int .i64 rec] 128 (0,0))
 disk:bq w d S F
 off:¬F p
theorem wj (d:DL) (S:aq) (size:Nat) (w:World) (h:aX w d S) (hB:S.ops.length<=4096) (h1:1<=size) (h2:size+2<=S.safe.length) (hz:(seenS S.safe S.waits 0).data.toList=zN 512) :
  Calls Tryz.prog 18 #[.pointer (some ⟨d.p,0,none⟩),.int .i64 size] w fun e w'=>Below w.heap.size w w'/\∃p d',e = .returned (.tuple #[.pointer (some ⟨p,0,none⟩),.int .i64 0])/\w.heap.size<=p /\
   bH w' p d' S size 0 (fun i=>w.heap.size<=i/\i<p):=by
 have hm:=h.plates.most;have HSe:=hid (pQ d S w h);have HFk:=hid (vV d S w h hB);have HZ:=hid hz;have hs1:(1:Int)<=(size:Int):=by omega
 have hs2:(size:Int)<=(S.safe.length:Int)-2:=by omega
 clear h hz;go_enter Tryz.func18,Tryz.ntmps18
 go_wp2_with fail
 refine HSe.out.mono ?_;clear HSe;rintro e w1 ⟨rfl,hw1⟩;obtain rfl:=hw1.symm
 go_wp2_with fail
 refine HFk.out.mono ?_;clear HFk;rintro e w2 ⟨hb2,d2,rfl,hC,hf⟩;have HC:=hid hC;have HF:=hid hf;have HB2:=hid hb2;have HFl:Hid (∀i,d2.cutFoot S.waits i->i<w2.heap.size):=fun i hi=>hi.elim (fun e=>by rw [e];exact ae hC.rd.heap) (fun e=>hC.rd.plates.foot_lt e);have HNu:=hid (fun W hW=>qb d2 S size W (hC.rd.below (w':=W) hW) HZ.out);unfold eA at HNu;clear hC hf hb2;have HA:=hid ((Below.refl w2.heap.size w2).alloc (Nat.le_refl _) (.cells #[.pointer (some ⟨d2.p,0,none⟩),.int .i64 size] 121));have Hb:=hid (af w2 (.cells #[.pointer (some ⟨d2.p,0,none⟩),.int .i64 size] 121))
 go_wp2_with fail
 generalize w2.alloc (.cells #[.pointer (some ⟨d2.p,0,none⟩),.int .i64 size] 121)=wA at *;refine (HNu.out _ HA.out).mono ?_;clear HNu;rintro e w3 ⟨rfl,hb3⟩;have hb:=ah hb3 Hb.out (ae Hb.out);have c0:w3.cell? ⟨w2.heap.size,0,none⟩=some (.pointer (some ⟨d2.p,0,none⟩)):=aa hb 0;have c1:w3.cell? ⟨w2.heap.size,1,none⟩=some (.int .i64 size):=aa hb 1;have hs3:=hb3.size;have hsA:=HA.out.size;have hs22:=HB2.out.size;have HC3:=hid (HC.out.below (HA.out.trans (hb3.mono HA.out.size)));have HB3:=hid (HB2.out.trans ((HA.out.trans (hb3.mono HA.out.size)).mono HB2.out.size));clear hb3 hb Hb HC HA;go_wp2;go_returns;have hal:=(Below.refl w3.heap.size w3).alloc (Nat.le_refl _) (.cells #[.pointer (some ⟨d2.p,0,none⟩),.int .i64 size,.int .i64 0] 128);refine ⟨HB3.out.trans (hal.mono HB3.out.size),w3.heap.size,d2,rfl,HB3.out.size,af _ _,.inl ⟨HC3.out.below hal,fun i hi=>⟨HF.out i hi,?_⟩⟩,fun h=>by omega⟩;have:=HFl.out i hi;omega
end
section
open Go.RowKit Go.Maps Go.Sort Go.Shelf
structure bd (w:World) (m B:Nat) (D:DataW Value) (N:Nat) (val:Int->Option Value):Prop where
 mapOwn:w.ownsMap Tryz.prog 3 aE m B D
 absent:∀n,val n=none->Maps.has D (.int .i64 n)=false
 there:∀n v,val n=some v->Maps.has D (.int .i64 n)=true
 held:∀n v,val n=some v->∀z,D.atKey (.int .i64 n) z = .held v
 dom:∀n v,val n=some v->0<=n/\n<N
def aB (val:Int->Option Value) (N:Nat):List Int:=((List.range N).map (fun k:Nat=>(k:Int))).filter (fun k=>(val k).isSome)
theorem bX {val:Int->Option Value} {N:Nat} {k:Int}:k∈aB val N ↔ (0<=k/\k<N/\(val k).isSome=true):=by
 simp only [aB,List.mem_filter,List.mem_map,List.mem_range];constructor
 ·rintro ⟨⟨j,hj,rfl⟩,h⟩;exact ⟨by omega,by omega,h⟩
 ·rintro ⟨h0,h1,h2⟩;exact ⟨⟨k.toNat,by omega,by omega⟩,h2⟩
theorem dS (val:Int->Option Value) (N:Nat):(aB val N).Pairwise (fun a b=>a<b):=by
 refine List.Pairwise.filter _ (List.pairwise_map.2 (List.pairwise_lt_range.imp (fun h=>by omega)))
theorem pp (val:Int->Option Value) (N:Nat):(aB val N).mergeSort leI=aB val N :=
 List.mergeSort_of_pairwise ((dS val N).imp (fun h=>by simp only [leI,decide_eq_true_eq];omega))
theorem bd.keys {w:World} {m B:Nat} {D:DataW Value} {N:Nat} {val:Int->Option Value} (h:bd w m B D N val) {ss:List Int} (hs:ss.Perm (intKeys D)):ss.mergeSort leI=aB val N:=by
 have hk:∀x,x∈aB val N ↔ has D (.int .i64 x)=true:=fun x=>by
  rw [bX];constructor
  ·rintro ⟨_,_,hx⟩;obtain ⟨v,hv⟩:=Option.isSome_iff_exists.1 hx;exact h.there x v hv
  ·intro hx;cases hv:val x with
   | none=>rw [h.absent x hv] at hx;cases hx
   | some v=>exact ⟨(h.dom x v hv).1,(h.dom x v hv).2,rfl⟩
 obtain ⟨es,hD,hpw,_⟩:=h.mapOwn.entries (int_keyed Tryz.underlying3);obtain ⟨es',hD',hko⟩:=h.mapOwn.keysOf;obtain rfl:es=es':=by rw [hD] at hD';simpa using hD'
 have hp:(aB val N).Perm (intKeys D):=by
  rw [hD] at hk ⊢;exact perm_intKeys hpw (fun p hp=>by obtain ⟨v,hv⟩:=hko p hp;obtain ⟨x,_,hx,_⟩:=Maps.keyOf_i64 Tryz.underlying3 hv;exact ⟨x,hx⟩) ((dS _ _).imp (fun h=>by omega)) hk
 rw [mergeSort_of_perm_i (hs.trans hp.symm),pp]
theorem bd.keep {w w':World} {m B:Nat} {D:DataW Value} {N:Nat} {val:Int->Option Value} (h:bd w m B D N val) {F:Nat->Prop} (k:ac F w w') (hF:¬F m):bd w' m B D N val :=
 ⟨k.map h.mapOwn hF,h.absent,h.there,h.held,h.dom⟩
theorem bd.below {w w':World} {m B:Nat} {D:DataW Value} {N:Nat} {val:Int->Option Value} (h:bd w m B D N val) (k:Below w.heap.size w w'):bd w' m B D N val :=
 h.keep (F:=fun _=>False) (ac.of_below k) (fun e=>e)
theorem l4 (m B:Nat) (D:DataW Value) (N:Nat) (val:Int->Option Value) (w:World) (h:bd w m B D N val) (hB:B<=1000000) :
  Calls Tryz.prog 112 #[.map (some m)] w fun e w'=>∃v,e = .returned v/\w'.ownsRow w.heap.size 3 1 v (aB val N).length ((aB val N).map encZ)/\(v = .slice none 0 0 ↔ aB val N=[])/\Below w.heap.size w w':=by
 refine (callsIn_wide (n:=6)).1 ?_;have hown:=h.mapOwn;have hbl:=hown.lt;have hsz:=hown.size_le;have hmax:Maps.size D<=maxLen:=by unfold maxLen;omega
 have hbytes:Maps.size D*8<=140737488355328:=by omega
 have hseq:SeqGives Fence.wide 2 Tryz.prog 217 #[.pointer (some ⟨w.heap.size,0,none⟩)] encZ (fun ss=>ss.Perm (intKeys D)) (Maps.size D) (w.alloc (.cells #[.map (some m)] 125)) :=
  AnyZI.keys_gives (ρ := Tryz.keysG_ren) { Tryz.keysG with } Fence.wide _ trivial rfl (by omega) w.heap.size m B D _ (by simp) (by simp) (by
   obtain ⟨es,clock,hb,Ft,hs,hD⟩:=hown;exact ⟨es,clock,(Below.heap_alloc _ _ m hbl).trans hb,Ft,hs,hD⟩)
 have cK:∀mb W,CallsIn Fence.wide 5 Tryz.prog 178 #[.map mb] W fun e w'=>e = .returned (.func (.func 217) #[] #[.pointer (some ⟨W.heap.size,0,none⟩)])/\w'=W.alloc (.cells #[.map mb] 125):=fun mb W=>AnyZI.keys_in Tryz.keysG Fence.wide 5 trivial rfl mb W;have cS:=AnyZI.sorted_in Tryz.sortedA Fence.wide 5 trivial trivial trivial trivial rfl (by omega) (xY _) (enters_of Tryz.func168 (by kernel_rfl) rfl) 217 #[.pointer (some ⟨w.heap.size,0,none⟩)] trivial (enters_of Tryz.func217 (by kernel_rfl) rfl) _ _ hmax hbytes _ hseq;change CallsIn _ _ Tryz.prog 92 _ _ _ at cS;have hfK:Fence.wide.fn 178:=trivial;have hfS:Fence.wide.fn 92:=trivial;have H:=hid h;clear h hown hseq hsz;refine callsIn_of_wp Tryz.func112 rfl trivial ?_ rfl;simp only [Tryz.ntmps112,List.size_toArray,List.length_cons,List.length_nil,Nat.reduceAdd,Nat.reduceSub,Array.replicate_succ,Array.replicate_zero,List.push_toArray,List.append_toArray,List.nil_append,List.cons_append]
 gi_wp2_with (first
  | (gi_at_call 178;refine (cK _ _).mono ?_;rintro e w' ⟨rfl,rfl⟩)
  | (gi_at_call 92;refine cS.mono ?_;rintro e w' ⟨v,ss,rfl,hS,hrow,hnil,hb⟩))
 go_ret;have hk:=H.out.keys hS;rw [hk] at hrow;have hlen:ss.length=(aB val N).length:=by rw [<- hk,List.length_mergeSort]
 refine ⟨v,rfl,?_,?_,((Below.refl _ w).alloc (Nat.le_refl _) _).trans (hb.mono (by simp))⟩
 ·rw [<- hlen];exact ownsRow_base_a hrow (by simp)
 ·rw [hnil, <- List.length_eq_zero_iff,hlen,List.length_eq_zero_iff]
end
section
open Go.RowKit Go.Maps
structure bA where
 n:Int
 a:Option Addr
 len:Nat
 cap:Nat
def bA.val (p:bA):Value := .slice p.a p.len p.cap
def iW (w:World) (pa:Option Addr) (ps:List bA):Prop:=∀j,j<ps.length->∃b o,pa=some ⟨b,o,none⟩/\∀i (hi:i<ps.length),w.cell? ⟨b,o+i*2,none⟩=some (.int .i64 ps[i].n)/\w.cell? ⟨b,o+i*2+1,none⟩=some ps[i].val
def cG (f:Int->Option Value) (n:Int) (v:Value):Int->Option Value:=fun k=>if k=n then some v else f k
def aU (ps:List bA):Nat->Int->Option Value
 | 0=>fun _=>none
 | j+1=>match ps[j]? with
  | some p=>cG (aU ps j) p.n p.val
  | none=>aU ps j
def bm (ps:List bA):Nat->Int
 | 0=>0
 | j+1=>match ps[j]? with
  | some p=>if (aU ps j p.n).isSome\/p.len≠512 then 3 else bm ps j
  | none=>bm ps j
theorem cD {P:Program} {w:World} {ops:Array Oper} {rest:List Oper} {o:Oper} {a:Act} {Q:Exit->Act->World->Prop} (hg:o.guard=none) (m x v:Operand) (t:TypeId) (hop:o.op=Op.mapUpdate t m x v) (k e:TypeId) (KK:Keyed P k) (ht:P.underlying t=some (.map k e)) (b n:Nat) (D:DataW Value)
  (hm:a.eval m = .map (some b)) (hown:w.ownsMap P k aE b n D) (hn:n<maxLen) (key val:Value) (kl:Lit) (hx:a.eval x=key) (hv:a.eval v=val) (hkey:keyOf P k key=some kl)
  (h:∀w',w'.ownsMap P k aE b (n+1) (D.put kl (.held val))->w.grownBy w' (some b)->wpList P ops Q rest (a.put o.dst undef) w'):wpList P ops Q (o :: rest) a w :=
 wpList_plain hg fun _ hK=>bh m x v t hop k e KK ht b n D hm hown hn key val kl hx hv hkey (fun w' h1 h2=>hK _ _ (h w' h1 h2))
theorem cB {P:Program} {w:World} {ops:Array Oper} {rest:List Oper} {o:Oper} {a:Act} {Q:Exit->Act->World->Prop} (hg:o.guard=none) (m x:Operand) (t:TypeId) (hop:o.op=Op.lookup t m x true) (k e:TypeId) (KK:Keyed P k) (ht:P.underlying t=some (.map k e)) {z:Value} (hz:(zeroValue e).run P w = .ok z w) (b n:Nat) (D:DataW Value)
  (hm:a.eval m = .map (some b)) (hown:w.ownsMap P k aE b n D) (key:Value) (kl:Lit) (hx:a.eval x=key) (hkey:keyOf P k key=some kl) (q:Bool) (hq:Maps.has D kl=q)
  (h:∀v,wpList P ops Q rest (a.put o.dst (.tuple #[v,.bool q])) w):wpList P ops Q (o :: rest) a w :=
 wpList_lookup_own_ok w hg m x t hop k e KK ht aE hz (.held z) [] rfl b n D hm hown key kl hx hkey (fun v ps _=>by rw [hq];exact h v)
theorem bd.put {w w':World} {m B:Nat} {D:DataW Value} {N:Nat} {val:Int->Option Value} (h:bd w m B D N val) {n:Int} {v:Value} (h0:0<=n) (h1:n<N)
  (hm:w'.ownsMap Tryz.prog 3 aE m (B+1) (D.put (.int .i64 n) (.held v))):bd w' m (B+1) (D.put (.int .i64 n) (.held v)) N (cG val n v) where
 mapOwn:=hm
 absent:=fun k hk=>by
  by_cases e:k=n
  ·subst e;simp [cG] at hk
  ·rw [has_put_other (by simpa using e)];exact h.absent k (by simpa [cG,e] using hk)
 there:=fun k u hk=>by
  by_cases e:k=n
  ·subst e;exact has_put_same h.mapOwn.isMap (dZ _) _
  ·rw [has_put_other (by simpa using e)];exact h.there k u (by simpa [cG,e] using hk)
 held:=fun k u hk z=>by
  by_cases e:k=n
  ·subst e;rw [atKey_put_same h.mapOwn.isMap (dZ _)];simp [cG] at hk;rw [hk]
  ·rw [atKey_put_other (by simpa using e)];exact h.held k u (by simpa [cG,e] using hk) z
 dom:=fun k u hk=>by
  by_cases e:k=n
  ·subst e;exact ⟨h0,h1⟩
  ·exact h.dom k u (by simpa [cG,e] using hk)
theorem bd.has {w:World} {m B:Nat} {D:DataW Value} {N:Nat} {val:Int->Option Value} (h:bd w m B D N val) (n:Int):Maps.has D (.int .i64 n)=(val n).isSome:=by
 cases hv:val n with
 | none=>rw [h.absent n hv];rfl
 | some v=>rw [h.there n v hv];rfl
def vC (ps:List bA) (N K:Nat) (w':World) (e:Ending):Prop :=
 (∃j,∃hj:j<ps.length,¬(0<=ps[j].n/\ps[j].n<(N:Int))/\e = .returned (.tuple #[.map none,.int .i64 2])) \/
 ((∀j (hj:j<ps.length),0<=ps[j].n/\ps[j].n<(N:Int))/\∃m D,e = .returned (.tuple #[.map (some m),.int .i64 (bm ps ps.length)])/\K<=m/\bd w' m 100 D N (aU ps ps.length))
theorem lS (d:DL) (S:aq) (size:Nat) (ps:List bA) (pa:Option Addr) (pc:Nat) (w:World) (h:di w d S) (hs:size+1<=S.safe.length) (hp:iW w pa ps) (hl:ps.length<=100) :
  Calls Tryz.prog 95 #[eA d.p size,.slice pa ps.length pc] w fun e w'=>Below w.heap.size w w' /\
   vC ps (pagesS S size) w.heap.size w' e:=by
 have HH:=hid (fun n W hW=>uk d S size n W (h.below (w':=W) hW) hs);unfold eA at HH ⊢;have HP:=hid hp;have HPm:Hid (pagesS S size<=4096):=by have:=h.plates.most;unfold Hid pagesS;omega
 have HMono:Hid (∀ {W:World} {m:Nat} {D:DataW Value},W.ownsMap Tryz.prog 3 aE m ps.length D->W.ownsMap Tryz.prog 3 aE m 100 D):=fun {W m D} ⟨es,c,h1,h2,h3,h4⟩=>⟨es,c,h1,h2,by omega,h4⟩;clear h hp;obtain ⟨m1,m2,m3,m4⟩:=zc w (.cells #[.pointer (some ⟨d.p,0,none⟩),.int .i64 size] 121) (.map #[] 0);have HM1:=hid m1;have HG0:Hid (bd ((w.alloc (.cells #[.pointer (some ⟨d.p,0,none⟩),.int .i64 size] 121)).alloc (.map #[] 0)) (w.heap.size+1) 0 (.map []) (pagesS S size) (aU ps 0)) :=
  ⟨gn m2,fun _ _=>rfl,fun n v hv=>(by cases hv),fun n v hv=>(by cases hv),fun n v hv=>(by cases hv)⟩
 have HB0:=hid m3;have hmk:∀W:World,(Instr.makeMap 125 none).run Tryz.prog W = .ok (.map (some W.heap.size)) (W.alloc (.map #[] 0)):=fun W=>by kernel_rfl
 clear m1 m2 m3 m4;go_enter Tryz.func95,Tryz.ntmps95;go_wp2;clear hmk;generalize (w.alloc (.cells #[.pointer (some ⟨d.p,0,none⟩),.int .i64 size] 121)).alloc (.map #[] 0)=w1 at *
 go_loopw [7,15] (fun e i wr=>∃(j:Nat) (D:DataW Value),j<=ps.length/\e = .int .i64 (bm ps j)/\i = .int .i64 j/\Hid (bd wr (w.heap.size+1) j D (pagesS S size) (aU ps j))/\Hid (∀k (hk:k<ps.length),k<j->0<=ps[k].n/\ps[k].n<(pagesS S size:Nat))/\Hid (wr.heap[w.heap.size]? = some (.cells #[.pointer (some ⟨d.p,0,none⟩),.int .i64 size] 121 (0,0)))/\Hid (Below w.heap.size w wr)) (fun _ i _=>ps.length-(intOf i).toNat)
 case atStart=>exact ⟨0,_,by omega,rfl,rfl,HG0,fun k _ h=>by omega,HM1,HB0⟩
 case round =>
  obtain ⟨j,D,hj,rfl,rfl,hG,hA,hM,hB⟩:=hrel;by_cases hlt:j<ps.length
  ·have hj0:(0:Int)<=(j:Int):=by omega
   have hj1:(j:Int)<(ps.length:Int):=by omega
   obtain ⟨b,o,rfl,hc⟩:=HP.out j hlt;obtain ⟨hc0,hc1⟩:=hc j hlt;have c0:wr.cell? ⟨b,o+j*2,none⟩=some (.int .i64 ps[j].n):=(hB.out.cell (p:=⟨b,o+j*2,none⟩) (World.block_lt_of_cell? w _ hc0)).trans hc0;have c1:wr.cell? ⟨b,o+j*2+1,none⟩=some (.slice ps[j].a ps[j].len ps[j].cap):=(hB.out.cell (p:=⟨b,o+j*2+1,none⟩) (World.block_lt_of_cell? w _ hc1)).trans hc1;have l0:wr.cell? ⟨w.heap.size,0,none⟩=some (.pointer (some ⟨d.p,0,none⟩)):=aa hM.out 0;have l1:wr.cell? ⟨w.heap.size,1,none⟩=some (.int .i64 size):=aa hM.out 1;have hpj:ps[j]? = some ps[j]:=List.getElem?_eq_getElem hlt;have HV:Hid (aU ps (j+1)=cG (aU ps j) ps[j].n (.slice ps[j].a ps[j].len ps[j].cap)):=by unfold Hid;rw [aU,hpj];rfl
   have HE:Hid (bm ps (j+1)=if (aU ps j ps[j].n).isSome\/ps[j].len≠512 then 3 else bm ps j):=by unfold Hid;rw [bm,hpj]
   clear hc hc0 hc1 hpj;have hwl:=ae hM.out;have hal:=(Below.refl wr.heap.size wr).alloc (Nat.le_refl _) (.cells #[.int .i64 ps[j].n,.slice ps[j].a ps[j].len ps[j].cap] 111);have hpb:=af wr (.cells #[.int .i64 ps[j].n,.slice ps[j].a ps[j].len ps[j].cap] 111);have HAl:=hid hal;have HPb:=hid hpb;have q0:(wr.alloc (.cells #[.int .i64 ps[j].n,.slice ps[j].a ps[j].len ps[j].cap] 111)).cell? ⟨w.heap.size,0,none⟩=some (.pointer (some ⟨d.p,0,none⟩)):=(hal.cell (p:=⟨w.heap.size,0,none⟩) hwl).trans l0;have q1:(wr.alloc (.cells #[.int .i64 ps[j].n,.slice ps[j].a ps[j].len ps[j].cap] 111)).cell? ⟨w.heap.size,1,none⟩=some (.int .i64 size):=(hal.cell (p:=⟨w.heap.size,1,none⟩) hwl).trans l1;clear hal hpb
   go_wp2_with fail
   refine (HH.out ps[j].n _ (hB.out.trans (HAl.out.mono hB.out.size))).mono ?_;rintro e w5 ⟨rfl,hb5⟩;have HM5:=hid (ah hb5 (ah HAl.out hM.out hwl) (by have:=HAl.out.size;omega));have hP5:=ah hb5 HPb.out (ae HPb.out);have HG5:=hid ((hG.out.below HAl.out).below hb5);have HB5:=hid ((hB.out.trans (HAl.out.mono hB.out.size)).trans (hb5.mono (by have:=HAl.out.size;have:=hB.out.size;omega)));have p0:w5.cell? ⟨wr.heap.size,0,none⟩=some (.int .i64 ps[j].n):=aa hP5 0;have p1:w5.cell? ⟨wr.heap.size,1,none⟩=some (.slice ps[j].a ps[j].len ps[j].cap):=aa hP5 1;have hps:pagesS S size<=4096:=HPm.out;clear hb5 hP5 q0 q1 HAl HPb l0 l1 c0 c1;by_cases hin:0<=ps[j].n/\ps[j].n<(pagesS S size:Nat)
   ·rw [decide_eq_true hin];obtain ⟨hx0,hx1⟩:=hin;have HA6:Hid (∀k (hk:k<ps.length),k<j+1->0<=ps[k].n/\ps[k].n<(pagesS S size:Nat)):=fun k hk hkj=>by
     rcases Nat.lt_or_ge k j with h1 | h1
     ·exact hA.out k hk h1
     ·obtain rfl:k=j:=by omega
      exact ⟨hx0,hx1⟩
    have HQ0:=hid (HG5.out.has ps[j].n);generalize hxn:ps[j].n=x at *;generalize hxa:ps[j].a=pA at *;generalize hxl:ps[j].len=pL at *;generalize hxc:ps[j].cap=pC at *;clear hxn hxa hxl hxc;cases hq:(aU ps j x).isSome with
    | true =>
     have HQ:Hid (Maps.has D (.int .i64 x)=true):=HQ0.out.trans hq;have HE3:Hid (bm ps (j+1)=3):=by unfold Hid;rw [HE.out,if_pos (.inl hq)]
     clear HQ0 hq HE
     go_wp2_with (first
      | (refine cB rfl (.tmp 25) (.tmp 27) 125 rfl 3 76 (int_keyed Tryz.underlying3) Tryz.underlying125 (Tryz.zeroValue76 _) (w.heap.size+1) j D rfl HG5.out.mapOwn (.int .i64 x) (.int .i64 x) rfl (ip (by omega) (by omega)) true HQ.out ?_;intro lv)
      | (refine cD rfl (.tmp 38) (.tmp 40) (.tmp 42) 125 rfl 3 76 (int_keyed Tryz.underlying3) Tryz.underlying125 (w.heap.size+1) j D rfl HG5.out.mapOwn (by unfold maxLen;omega) (.int .i64 x) (.slice pA pL pC) (.int .i64 x) rfl rfl (ip (by omega) (by omega)) ?_;intro w6 hm6 hg6;have HG6:=hid (HG5.out.put hx0 hx1 hm6);have HB6:=hid (HB5.out.trans (dW hg6 HB5.out.size (fun i e=>by have:=Option.some.inj e;omega)));have HM6:=hid (aw hg6 HM5.out (fun e=>by have:=Option.some.inj e;omega));clear hm6 hg6))
     refine ⟨⟨j+1,_,by omega,by rw [HE3.out],by go_num,by rw [HV.out];exact HG6,HA6,HM6,HB6⟩,by simp [intOf];omega⟩
    | false =>
     have HQ:Hid (Maps.has D (.int .i64 x)=false):=HQ0.out.trans hq;by_cases h5:pL=512
     ·have HE3:Hid (bm ps (j+1)=bm ps j):=by unfold Hid;rw [HE.out,if_neg (by simp [hq,h5])]
      clear HQ0 hq HE;subst h5
      go_wp2_with (first
       | (refine cB rfl (.tmp 25) (.tmp 27) 125 rfl 3 76 (int_keyed Tryz.underlying3) Tryz.underlying125 (Tryz.zeroValue76 _) (w.heap.size+1) j D rfl HG5.out.mapOwn (.int .i64 x) (.int .i64 x) rfl (ip (by omega) (by omega)) false HQ.out ?_;intro lv)
       | (refine cD rfl (.tmp 38) (.tmp 40) (.tmp 42) 125 rfl 3 76 (int_keyed Tryz.underlying3) Tryz.underlying125 (w.heap.size+1) j D rfl HG5.out.mapOwn (by unfold maxLen;omega) (.int .i64 x) (.slice pA 512 pC) (.int .i64 x) rfl rfl (ip (by omega) (by omega)) ?_;intro w6 hm6 hg6;have HG6:=hid (HG5.out.put hx0 hx1 hm6);have HB6:=hid (HB5.out.trans (dW hg6 HB5.out.size (fun i e=>by have:=Option.some.inj e;omega)));have HM6:=hid (aw hg6 HM5.out (fun e=>by have:=Option.some.inj e;omega));clear hm6 hg6))
      refine ⟨⟨j+1,_,by omega,by rw [HE3.out],by go_num,by rw [HV.out];exact HG6,HA6,HM6,HB6⟩,by simp [intOf];omega⟩
     ·have HE3:Hid (bm ps (j+1)=3):=by unfold Hid;rw [HE.out,if_pos (.inr h5)]
      have h5':((pL:Int)==512)=false:=by rw [beq_eq_false_iff_ne];omega
      clear HQ0 hq HE
      go_wp2_with (first
       | (refine cB rfl (.tmp 25) (.tmp 27) 125 rfl 3 76 (int_keyed Tryz.underlying3) Tryz.underlying125 (Tryz.zeroValue76 _) (w.heap.size+1) j D rfl HG5.out.mapOwn (.int .i64 x) (.int .i64 x) rfl (ip (by omega) (by omega)) false HQ.out ?_;intro lv)
       | (refine cD rfl (.tmp 38) (.tmp 40) (.tmp 42) 125 rfl 3 76 (int_keyed Tryz.underlying3) Tryz.underlying125 (w.heap.size+1) j D rfl HG5.out.mapOwn (by unfold maxLen;omega) (.int .i64 x) (.slice pA pL pC) (.int .i64 x) rfl rfl (ip (by omega) (by omega)) ?_;intro w6 hm6 hg6;have HG6:=hid (HG5.out.put hx0 hx1 hm6);have HB6:=hid (HB5.out.trans (dW hg6 HB5.out.size (fun i e=>by have:=Option.some.inj e;omega)));have HM6:=hid (aw hg6 HM5.out (fun e=>by have:=Option.some.inj e;omega));clear hm6 hg6))
      refine ⟨⟨j+1,_,by omega,by rw [HE3.out],by go_num,by rw [HV.out];exact HG6,HA6,HM6,HB6⟩,by simp [intOf];omega⟩
   ·rw [decide_eq_false hin];have HIn:=hid hin;clear hin;go_wp2;go_returns;exact ⟨HB5.out,.inl ⟨j,hlt,HIn.out,rfl⟩⟩
  ·obtain rfl:j=ps.length:=by omega
   have hge:¬((ps.length:Int)<(ps.length:Int)):=by omega
   go_wp2;go_returns;exact ⟨hB.out,.inr ⟨fun k hk=>hA.out k hk hk,_,D,rfl,by omega,⟨HMono.out hG.out.mapOwn,hG.out.absent,hG.out.there,hG.out.held,hG.out.dom⟩⟩⟩
end
section
open Go.RowKit Go.Maps
def bR (S:aq) (size:Nat) (l:Int->List UInt8) (ks:List Int):aq:=ks.foldl (fun S n=>S.wrote (1+(size:Int)+n) ⟨(l n).toArray⟩) S
def gx (S:aq) (size:Nat) (l:Int->List UInt8) (ks:List Int):aq:=((bR S size l ks).flushed.wrote 0 ⟨(headS []).toArray⟩).flushed
theorem dR (size:Nat) (l:Int->List UInt8):∀(ks:List Int) (S:aq),(bR S size l ks).safe=S.safe/\(bR S size l ks).ops.length=S.ops.length+ks.length
 | [],S=>⟨rfl,rfl⟩
 | k :: ks,S=>by
  obtain ⟨h1,h2⟩:=dR size l ks (S.wrote (1+(size:Int)+k) ⟨(l k).toArray⟩);refine ⟨h1,?_⟩;show (bR (S.wrote (1+(size:Int)+k) ⟨(l k).toArray⟩) size l ks).ops.length=_;rw [h2];simp [aq.wrote];omega
theorem qZ (S:aq) (size:Nat) (l:Int->List UInt8) (ks:List Int) (k:Int):bR S size l (ks ++ [k])=(bR S size l ks).wrote (1+(size:Int)+k) ⟨(l k).toArray⟩:=by simp [bR]
def gk (w:World) (val:Int->Option Value) (l:Int->List UInt8) (F:Nat->Prop):Prop:=∀n v,val n=some v->∃ad c,v = .slice (some ad) 512 c/\az w ad (l n)/\(l n).length=512/\¬F ad.block
theorem sf (d:DL) (S:aq) (F:Nat->Prop) (size m B:Nat) (D:DataW Value) (N:Nat) (val:Int->Option Value) (l:Int->List UInt8) (w:World) (h:bq w d S F) (hF:∀i,F i->i<w.heap.size)
  (hg:bd w m B D N val) (hm:¬F m) (hB:B<=1000000) (hv:gk w val l F) (hs:1+size+N<=S.safe.length) (hk:(aB val N).length<=100) (ho:S.ops.length<=900000) :
  Calls Tryz.prog 53 #[eA d.p size,.map (some m)] w fun e w'=>e = .returned (.tuple #[])/\∃d',(d'.p=d.p/\d'.fv=d.fv/\ie w' d' (gx S size l (aB val N)) (fun i=>F i\/(w.heap.size<=i/\i<w'.heap.size)))/\bq w' d' (gx S size l (aB val N)) (fun i=>F i\/(w.heap.size<=i/\i<w'.heap.size))/\ac F w w':=by
 have hmost:=h.rd.plates.most;have HA0:=hid ((Below.refl w.heap.size w).alloc (Nat.le_refl _) (.cells #[.pointer (some ⟨d.p,0,none⟩),.int .i64 size] 121));have Hb0:=hid (af w (.cells #[.pointer (some ⟨d.p,0,none⟩),.int .i64 size] 121));have HNu:=hid (fun W hW=>l4 m B D N val W (hg.below (w':=W) hW) hB);have H:=hid h;have HG:=hid hg;have HV:=hid hv;have HFl:=hid hF;clear h hg hv hF;unfold eA;go_enter Tryz.func53,Tryz.ntmps53
 go_wp2_with fail
 generalize w.alloc (.cells #[.pointer (some ⟨d.p,0,none⟩),.int .i64 size] 121)=wA at *;refine (HNu.out _ HA0.out).mono ?_;rintro e w1 ⟨v,rfl,hrow,-,hb1⟩;obtain ⟨ra,rc,rfl,hints⟩:=kU hrow;have HI:=hid hints;have HB1:=hid (HA0.out.trans (hb1.mono HA0.out.size));have HL1:=hid (ah hb1 Hb0.out (ae Hb0.out));have HG1:=hid (HG.out.below HB1.out);have HD1:=hid ((H.out.below HB1.out).mono (G:=fun i=>F i\/(w1.heap.size<=i/\i<w1.heap.size)) (fun i hi => .inl hi));have hsA:w.heap.size<wA.heap.size:=ae Hb0.out;have hs1:=hb1.size;have HFw:Hid (¬F w.heap.size):=fun hf=>by have:=HFl.out _ hf;omega
 have HKey:=hid (fun j (hj:j<(aB val N).length)=>bX.1 (List.getElem_mem hj));have HFa:=hid (fun ks=>dR size l ks S);have HHs:Hid (gx S size l (aB val N)=((bR S size l (aB val N)).flushed.wrote 0 ⟨(headS []).toArray⟩).flushed):=rfl;clear hrow hb1 HNu hints HA0 Hb0 H HG;generalize hks:aB val N=ks at *;have HKs:=hid hks;clear hks;go_wp2
 go_loopw [9] (fun i wr=>∃(j:Nat) (dj:DL),j<=ks.length/\i = .int .i64 j/\Hid (dj.p=d.p/\dj.fv=d.fv)/\Hid (bq wr dj (bR S size l (ks.take j)) (fun i=>F i\/(w1.heap.size<=i/\i<wr.heap.size)))/\Hid (ac F w1 wr)) (fun i _=>ks.length-(intOf i).toNat)
 case atStart=>exact ⟨0,d,by omega,rfl,⟨rfl,rfl⟩,HD1,ac.refl _ _⟩
 case round =>
  obtain ⟨j,dj,hj,rfl,hp,hD,hK⟩:=hrel;have hLr:=hK.out.heap HL1.out HFw.out;have l0:wr.cell? ⟨w.heap.size,0,none⟩=some (.pointer (some ⟨d.p,0,none⟩)):=aa hLr 0;have l1:wr.cell? ⟨w.heap.size,1,none⟩=some (.int .i64 size):=aa hLr 1;have hsr:=hK.out.size;by_cases hlt:j<ks.length
  ·have hj0:(0:Int)<=(j:Int):=by omega
   have hj1:(j:Int)<(ks.length:Int):=by omega
   obtain ⟨g,rfl,hg1,hg2,hgc⟩:=HI.out j hlt;have hcj:wr.cell? ⟨g,j,none⟩=some (.int .i64 ks[j]):=by
    refine hK.out.cell (ad:=⟨g,j,none⟩) ?_ (fun hf => ?_)
    ·rw [hgc j hlt];simp [hlt]
    ·have:=HFl.out _ hf;have e:(⟨g,j,none⟩:Addr).block=g:=rfl;omega
   obtain ⟨k0,k1,k2⟩:=HKey.out j hlt;obtain ⟨pv,hpv⟩:=Option.isSome_iff_exists.1 k2;obtain ⟨ad,pc,rfl,hby,h512,hnf⟩:=HV.out _ _ hpv;have HBy:=hid hby;have H5:=hid h512;have HNf:=hid hnf;have HPv:=hid hpv;have HSn:Hid (bR S size l (ks.take (j+1))=(bR S size l (ks.take j)).wrote (1+(size:Int)+ks[j]) ⟨(l ks[j]).toArray⟩):=by unfold Hid;rw [List.take_succ_eq_append_getElem hlt,qZ]
   have HFaj:=hid (HFa.out (ks.take j));clear hgc hg1 hby h512 hnf hpv k2;generalize ks[j]=x at *;have hlook:∀W:World,ac F w1 W->(Instr.lookup 125 (.map (some m)) (.int .i64 x) false).run Tryz.prog W = .ok (.slice (some ad) 512 pc) W:=fun W hW=>by
    have hgW:=HG1.out.keep hW hm;obtain ⟨u,hr,hu⟩:=fI hgW.mapOwn (int_keyed Tryz.underlying3) Tryz.underlying125 (Tryz.zeroValue76 W) (ip (n:=x) (by omega) (by omega));rw [hr];rw [hgW.held x _ HPv.out] at hu;rw [<- DataW.held.inj hu]
   have HLk:=hid hlook;have hhm:=qV d.p size x wr.drew (by omega) k0 (by omega);unfold eA at hhm;have HHm:=hid hhm;clear hlook hhm;go_wp2;refine wp_region_noPanic ?_;refine wp_region_held_drew (S:=fun W=>W.cell? ⟨w.heap.size,0,none⟩=some (.pointer (some ⟨d.p,0,none⟩))/\W.cell? ⟨w.heap.size,1,none⟩=some (.int .i64 size)/\(Instr.lookup 125 (.map (some m)) (.int .i64 x) false).run Tryz.prog W = .ok (.slice (some ad) 512 pc) W) (by kernel_rfl) ⟨l0,l1,HLk.out wr.drew hK.out.drew⟩ (fun hHeld => ?_);refine tq 0 _ ?_
   try simp only [tS]
   refine tq 1 _ ?_
   try simp only [tS]
   refine tq 2 _ ?_
   try simp only [tS]
   refine tq 3 _ ?_
   try simp only [tS]
   refine tq 5 _ ?_
   try simp only [tS]
   refine tq 6 _ ?_
   try simp only [tS]
   refine tq 7 _ ?_
   try simp only [tS]
   refine wpAnyH_ready (rs:=[4]) (by kernel_rfl) (by simp) (AllReadyH.cons rfl (fun K hKK => ?_) AllReadyH.nil);rw [if_pos (by rfl)];go_simp;refine HHm.out.mono ?_;clear HHm;rintro e w2 ⟨rfl,hb2⟩;have hK2:ac F w1 w2:=hK.out.drew.andBelow hb2;have hL2:=hK2.heap HL1.out HFw.out;have m0:w2.cell? ⟨w.heap.size,0,none⟩=some (.pointer (some ⟨d.p,0,none⟩)):=aa hL2 0;have m1:w2.cell? ⟨w.heap.size,1,none⟩=some (.int .i64 size):=aa hL2 1;have hs2:=hb2.size;have hs2':wr.heap.size<=w2.heap.size:=hs2;have hD2:bq w2 dj (bR S size l (ks.take j)) (fun i=>F i\/(w1.heap.size<=i/\i<w2.heap.size)):=((hD.out.below (w':=wr.drew) (Below.refl _ _).drew).below hb2).later (w1:=wr) hs2';have hby2:az w2 ad (l x):=fun q hq=>hK2.cell ((HB1.out.cell (World.block_lt_of_cell? w _ (HBy.out q hq))).trans (HBy.out q hq)) (by rw [aJ];exact HNf.out);have hwr:=j9 dj (bR S size l (ks.take j)) (fun i=>F i\/(w1.heap.size<=i/\i<w2.heap.size)) (1+(size:Int)+x) (l x) ad pc w2 hD2 (by rw [HFaj.out.2,List.length_take];omega) (by omega) (by rw [HFaj.out.1];omega) H5.out hby2;rw [hp.out.1,hp.out.2] at hwr;have HWr:=hid hwr;have HK2:=hid hK2;clear hb2 hL2 hwr hby2 hD2 hK2
   go_wp2_with fail
   refine hKK.out _ _ ⟨m0,m1,HLk.out w2 HK2.out⟩ (fun hHeld => ?_);clear hKK K
   try simp only [tS]
   refine wpAnyH_ready (rs:=[8]) (by kernel_rfl) (by simp) (AllReadyH.cons rfl (fun K hKK => ?_) AllReadyH.nil);rw [if_pos (by rfl)];go_simp;refine HWr.out.mono ?_;clear HWr;rintro e w3 ⟨rfl,d3,e3,hA3,hK3⟩;have hK13:ac F w1 w3:=HK2.out.trans hK3 (fun i hi=>hi.imp id (fun h=>h.1));have hL3:=hK13.heap HL1.out HFw.out;have HD3:=hid (hA3.next (w:=w1) (w1:=w2) HK2.out.size hK3.size);rw [<- HSn.out] at HD3;have HK13:=hid hK13;have HE3:Hid (d3.p=d.p/\d3.fv=d.fv):=⟨e3.1,e3.2.1⟩;have n0:w3.cell? ⟨w.heap.size,0,none⟩=some (.pointer (some ⟨d.p,0,none⟩)):=aa hL3 0;have n1:w3.cell? ⟨w.heap.size,1,none⟩=some (.int .i64 size):=aa hL3 1;clear hA3 hK3 hK13 hL3 e3
   go_wp2_with fail
   refine hKK.out _ _ ⟨n0,n1,HLk.out w3 HK13.out⟩ (fun hHeld => ?_);clear hKK K;refine wpAnyH_done (by kernel_rfl) ?_ _;refine NoPanic.normal ?_;go_wp2;exact ⟨⟨j+1,d3,by omega,by go_num,HE3,HD3,HK13⟩,by simp [intOf];omega⟩
  ·obtain rfl:j=ks.length:=by omega
   have hge:¬((ks.length:Int)<(ks.length:Int)):=by omega
   have hDk:=hD.out;rw [List.take_length] at hDk;have HFaK:=hid (HFa.out ks);have hfl:=kB dj (bR S size l ks) _ wr hDk (by rw [HFaK.out.2];omega);rw [hp.out.1,hp.out.2] at hfl;have HFls:=hid hfl;clear hfl hDk
   go_wp2_with fail
   refine HFls.out.mono ?_;clear HFls;rintro e w2 ⟨rfl,d2,e2,hA2,hK2⟩;have hK12:ac F w1 w2:=hK.out.trans hK2 (fun i hi=>hi.imp id (fun h=>h.1));have HD2:=hid (hA2.next (w:=w1) (w1:=wr) hK.out.size hK2.size);have hL2:=hK12.heap HL1.out HFw.out;have HK12:=hid hK12;have HE2:Hid (d2.p=d.p/\d2.fv=d.fv):=⟨e2.1,e2.2.1⟩;have m0:w2.cell? ⟨w.heap.size,0,none⟩=some (.pointer (some ⟨d.p,0,none⟩)):=aa hL2 0;clear hA2 hK2 hK12 hL2 e2 l0 l1;have HHd:=hid (uu [] none 0 w2.drew (fun j hj=>by simp at hj) (by decide) (fun n hn=>by cases hn));have hlh:(headS []).length=512:=er [] 0 (by decide) (by decide);have HLh:=hid hlh;clear hlh;generalize headS []=HS0 at *;go_wp2;refine wp_region_noPanic ?_;refine wp_region_held_drew (S:=fun W=>W.cell? ⟨w.heap.size,0,none⟩=some (.pointer (some ⟨d.p,0,none⟩))) (by kernel_rfl) m0 (fun hHeld => ?_);refine tq 0 _ ?_
   try simp only [tS]
   refine tq 1 _ ?_
   try simp only [tS]
   refine wpAnyH_ready (rs:=[2]) (by kernel_rfl) (by simp) (AllReadyH.cons rfl (fun K hKK => ?_) AllReadyH.nil);rw [if_pos (by rfl)];go_simp;refine HHd.out.mono ?_;clear HHd;rintro e w3 ⟨hb,rfl,hhb,hob,hb3⟩;have hK3:ac F w1 w3:=HK12.out.drew.andBelow hb3;have hL3:=hK3.heap HL1.out HFw.out;have n0:w3.cell? ⟨w.heap.size,0,none⟩=some (.pointer (some ⟨d.p,0,none⟩)):=aa hL3 0;have hs3:w2.heap.size<=w3.heap.size:=hb3.size;have hD3:=((HD2.out.below (w':=w2.drew) (Below.refl _ _).drew).below hb3).later (w1:=w2) hs3;have hwr:=j9 d2 _ _ 0 HS0 ⟨hb,0,none⟩ 512 w3 hD3 (by simp only [aq.flushed,List.length_append,List.length_singleton];rw [HFaK.out.2];omega) (by omega) (by show (0:Int)<((l7 _).length:Nat);rw [bL,HFaK.out.1];omega) HLh.out hob.at
   rw [HE2.out.1,HE2.out.2] at hwr;have HWr:=hid hwr;have HK3:=hid hK3;clear hb3 hL3 hwr hD3 hK3 hob hhb
   go_wp2_with fail
   refine hKK.out _ _ n0 (fun hHeld => ?_);clear hKK K
   try simp only [tS]
   refine wpAnyH_ready (rs:=[3]) (by kernel_rfl) (by simp) (AllReadyH.cons rfl (fun K hKK => ?_) AllReadyH.nil);rw [if_pos (by rfl)];go_simp;refine HWr.out.mono ?_;clear HWr;rintro e w4 ⟨rfl,d4,e4,hA4,hK4⟩;have hK14:ac F w1 w4:=HK3.out.trans hK4 (fun i hi=>hi.imp id (fun h=>h.1));have hL4:=hK14.heap HL1.out HFw.out;have q0:w4.cell? ⟨w.heap.size,0,none⟩=some (.pointer (some ⟨d.p,0,none⟩)):=aa hL4 0;have hD4:=hA4.next (w:=w1) (w1:=w3) HK3.out.size hK4.size;have hfl:=kB d4 _ _ w4 hD4 (by simp only [aq.wrote,aq.flushed,List.length_append,List.length_singleton];rw [HFaK.out.2];omega);rw [e4.1,e4.2.1] at hfl;have HFls:=hid hfl;have HK14:=hid hK14;clear hA4 hK4 hK14 hL4 hD4 hfl e4
   go_wp2_with fail
   refine hKK.out _ _ q0 (fun hHeld => ?_);clear hKK K;refine wpAnyH_done (by kernel_rfl) ?_ _;refine NoPanic.normal ?_
   go_wp2_with fail
   refine HFls.out.mono ?_;clear HFls;rintro e w5 ⟨rfl,d5,e5,hA5,hK5⟩;have hK15:ac F w1 w5:=HK14.out.trans hK5 (fun i hi=>hi.imp id (fun h=>h.1));have HD5:=hid (hA5.next (w:=w1) (w1:=w4) HK14.out.size hK5.size);have HK15:=hid hK15;have HE5:=hid (And.intro e5.1 e5.2.1);have HO5:=hid (e5.2.2.next (w:=w1) (w1:=w4) HK14.out.size hK5.size);clear hA5 hK5 hK15 e5;go_wp2;go_returns;have hs01:=HB1.out.size;refine ⟨rfl,d5,⟨HE5.out.1,HE5.out.2,?_⟩,?_,(ac.of_below HB1.out).trans HK15.out (fun i hi => .inl hi)⟩
   ·rw [HKs.out,HHs.out];exact HO5.out.mono (fun i hi=>hi.imp id (fun h=>⟨by omega,h.2⟩))
   ·rw [HKs.out,HHs.out];exact HD5.out.mono (fun i hi=>hi.imp id (fun h=>⟨by omega,h.2⟩))
end
section
open Go.RowKit Go.Maps
def cZ (S:aq) (l:Int->List UInt8) (ks:List Int) (j:Nat):aq:=(List.range j).foldl (fun S (i:Nat)=>S.wrote (1+(i:Int)) ⟨(l (ks.getD i 0)).toArray⟩) S
theorem tZ (S:aq) (l:Int->List UInt8) (ks:List Int) (j:Nat) (h:j<ks.length):cZ S l ks (j+1)=(cZ S l ks j).wrote (1+(j:Int)) ⟨(l ks[j]).toArray⟩:=by
 rw [cZ,List.range_succ,List.foldl_append];simp [cZ,h]
theorem eE (S:aq) (l:Int->List UInt8) (ks:List Int):∀j,(cZ S l ks j).safe=S.safe/\(cZ S l ks j).ops.length=S.ops.length+j
 | 0=>⟨rfl,rfl⟩
 | j+1=>by
  obtain ⟨h1,h2⟩:=eE S l ks j;rw [cZ,List.range_succ,List.foldl_append];refine ⟨h1,?_⟩;show ((cZ S l ks j).ops ++ [_]).length=_;rw [List.length_append,h2];rfl
def bB (S:aq) (size:Nat) (l:Int->List UInt8) (ks:List Int):aq :=
 gx (((cZ S l ks ks.length).flushed.wrote 0 ⟨(headS (ks.map Int.toNat)).toArray⟩).flushed) size l ks
theorem rS (ks:List Int) (h:∀k∈ks,0<=k):rU (ks.map Int.toNat)=ks:=by
 unfold rU;rw [List.map_map]
 conv=>rhs;rw [<- List.map_id ks]
 exact List.map_congr_left (fun k hk=>by have:=h k hk;simp;omega)
theorem rg (d:DL) (S:aq) (F:Nat->Prop) (size m B:Nat) (D:DataW Value) (N:Nat) (val:Int->Option Value) (l:Int->List UInt8) (w:World) (h:bq w d S F) (hF:∀i,F i->i<w.heap.size)
  (hg:bd w m B D N val) (hm:¬F m) (hB:B<=1000000) (hv:gk w val l F) (hs:1+size+N<=S.safe.length) (hk:(aB val N).length<=100) (hk2:(aB val N).length<=size) (ho:S.ops.length<=800000) :
  Calls Tryz.prog 96 #[eA d.p size,.map (some m)] w fun e w'=>e = .returned (.tuple #[])/\∃d',(d'.p=d.p/\d'.fv=d.fv/\ie w' d' (bB S size l (aB val N)) (fun i=>F i\/(w.heap.size<=i/\i<w'.heap.size)))/\bq w' d' (bB S size l (aB val N)) (fun i=>F i\/(w.heap.size<=i/\i<w'.heap.size))/\ac F w w':=by
 have hmost:=h.rd.plates.most;have HA0:=hid ((Below.refl w.heap.size w).alloc (Nat.le_refl _) (.cells #[.pointer (some ⟨d.p,0,none⟩),.int .i64 size] 121));have Hb0:=hid (af w (.cells #[.pointer (some ⟨d.p,0,none⟩),.int .i64 size] 121));have HNu:=hid (fun W hW=>l4 m B D N val W (hg.below (w':=W) hW) hB);have H:=hid h;have HG:=hid hg;have HV:=hid hv;have HFl:=hid hF;have HMw:=hid hg.mapOwn.lt;clear h hg hv hF;unfold eA;go_enter Tryz.func96,Tryz.ntmps96
 go_wp2_with fail
 generalize w.alloc (.cells #[.pointer (some ⟨d.p,0,none⟩),.int .i64 size] 121)=wA at *;refine (HNu.out _ HA0.out).mono ?_;rintro e w1 ⟨v,rfl,hrow,-,hb1⟩;obtain ⟨ra,rc,rfl,hints⟩:=kU hrow;have HI:=hid hints;have HB1:=hid (HA0.out.trans (hb1.mono HA0.out.size));have HL1:=hid (ah hb1 Hb0.out (ae Hb0.out));have HG1:=hid (HG.out.below HB1.out);have HD1:=hid ((H.out.below HB1.out).mono (G:=fun i=>F i\/(w1.heap.size<=i/\i<w1.heap.size)) (fun i hi => .inl hi));have hsA:w.heap.size<wA.heap.size:=ae Hb0.out;have hs1:=hb1.size;have HFw:Hid (¬F w.heap.size):=fun hf=>by have:=HFl.out _ hf;omega
 have HKey:=hid (fun j (hj:j<(aB val N).length)=>bX.1 (List.getElem_mem hj));have HFa:=hid (fun ks=>eE S l ks);clear hrow hb1 HNu hints HA0 Hb0 H HG;generalize hks:aB val N=ks at *;have HKs:=hid hks;clear hks;have HNs:=hid (rS ks (fun k hk=>by obtain ⟨q,hq,rfl⟩:=List.getElem_of_mem hk;exact (HKey.out q hq).1));have HNm:Hid (∀n∈ks.map Int.toNat,n<65536):=fun n hn=>by
  obtain ⟨k,hk,rfl⟩:=List.mem_map.1 hn;obtain ⟨q,hq,rfl⟩:=List.getElem_of_mem hk;have:=(HKey.out q hq).2.1;omega
 go_wp2
 go_loopw [11] (fun i wr=>∃(j:Nat) (dj:DL),j<=ks.length/\i = .int .i64 j/\Hid (dj.p=d.p/\dj.fv=d.fv)/\Hid (bq wr dj (cZ S l ks j) (fun i=>F i\/(w1.heap.size<=i/\i<wr.heap.size)))/\Hid (ac F w1 wr)) (fun i _=>ks.length-(intOf i).toNat)
 case atStart=>exact ⟨0,d,by omega,rfl,⟨rfl,rfl⟩,HD1,ac.refl _ _⟩
 case round =>
  obtain ⟨j,dj,hj,rfl,hp,hD,hK⟩:=hrel;have hLr:=hK.out.heap HL1.out HFw.out;have l0:wr.cell? ⟨w.heap.size,0,none⟩=some (.pointer (some ⟨d.p,0,none⟩)):=aa hLr 0;have l1:wr.cell? ⟨w.heap.size,1,none⟩=some (.int .i64 size):=aa hLr 1;have hsr:=hK.out.size;by_cases hlt:j<ks.length
  ·have hj0:(0:Int)<=(j:Int):=by omega
   have hj1:(j:Int)<(ks.length:Int):=by omega
   obtain ⟨g,rfl,hg1,hg2,hgc⟩:=HI.out j hlt;have hcj:wr.cell? ⟨g,j,none⟩=some (.int .i64 ks[j]):=by
    refine hK.out.cell (ad:=⟨g,j,none⟩) ?_ (fun hf => ?_)
    ·rw [hgc j hlt];simp [hlt]
    ·have:=HFl.out _ hf;have e:(⟨g,j,none⟩:Addr).block=g:=rfl;omega
   obtain ⟨k0,k1,k2⟩:=HKey.out j hlt;obtain ⟨pv,hpv⟩:=Option.isSome_iff_exists.1 k2;obtain ⟨ad,pc,rfl,hby,h512,hnf⟩:=HV.out _ _ hpv;have hby2:az wr ad (l ks[j]):=fun q hq=>hK.out.cell ((HB1.out.cell (World.block_lt_of_cell? w _ (hby q hq))).trans (hby q hq)) (by rw [aJ];exact hnf);have hlook:(Instr.lookup 125 (.map (some m)) (.int .i64 ks[j]) false).run Tryz.prog wr = .ok (.slice (some ad) 512 pc) wr:=by
    have hgW:=HG1.out.keep hK.out hm;obtain ⟨u,hr,hu⟩:=fI hgW.mapOwn (int_keyed Tryz.underlying3) Tryz.underlying125 (Tryz.zeroValue76 wr) (ip (n:=ks[j]) (by omega) (by omega));rw [hr];rw [hgW.held ks[j] _ hpv] at hu;rw [<- DataW.held.inj hu]
   have HSn:=hid (tZ S l ks j hlt);have hwr:=j9 dj (cZ S l ks j) (fun i=>F i\/(w1.heap.size<=i/\i<wr.heap.size)) (1+(j:Int)) (l ks[j]) ad pc wr hD.out (by rw [(HFa.out ks j).2];omega) (by omega) (by rw [(HFa.out ks j).1];omega) h512 hby2;rw [hp.out.1,hp.out.2, <- HSn.out] at hwr;have HWr:=hid hwr;clear hgc hg1 hby h512 hnf hpv k2 hby2 hwr HSn;generalize ks[j]=x at *
   go_wp2_with fail
   refine HWr.out.mono ?_;clear HWr;rintro e w3 ⟨rfl,d3,e3,hA3,hK3⟩;have HK13:Hid (ac F w1 w3):=hK.out.trans hK3 (fun i hi=>hi.imp id (fun h=>h.1));have HD3:=hid (hA3.next (w:=w1) (w1:=wr) hK.out.size hK3.size);have HE3:Hid (d3.p=d.p/\d3.fv=d.fv):=⟨e3.1,e3.2.1⟩;clear hA3 hK3 e3 l0 l1 hcj hlook hLr;go_wp2;exact ⟨⟨j+1,d3,by omega,by go_num,HE3,HD3,HK13⟩,by simp [intOf];omega⟩
  ·obtain rfl:j=ks.length:=by omega
   have hge:¬((ks.length:Int)<(ks.length:Int)):=by omega
   have HFaK:=hid (HFa.out ks ks.length);have hfl:=kB dj (cZ S l ks ks.length) _ wr hD.out (by rw [HFaK.out.2];omega);rw [hp.out.1,hp.out.2] at hfl;have HFls:=hid hfl;clear hfl
   go_wp2_with fail
   refine HFls.out.mono ?_;clear HFls;rintro e w2 ⟨rfl,d2,e2,hA2,hK2⟩;have hK12:ac F w1 w2:=hK.out.trans hK2 (fun i hi=>hi.imp id (fun h=>h.1));have HD2:=hid (hA2.next (w:=w1) (w1:=wr) hK.out.size hK2.size);have hL2:=hK12.heap HL1.out HFw.out;have HE2:Hid (d2.p=d.p/\d2.fv=d.fv):=⟨e2.1,e2.2.1⟩;have m0:w2.cell? ⟨w.heap.size,0,none⟩=some (.pointer (some ⟨d.p,0,none⟩)):=aa hL2 0;have hin2:sE w2.drew ra (rU (ks.map Int.toNat)):=by
    rw [HNs.out];intro j hj;obtain ⟨g,rfl,hg1,hg2,hgc⟩:=HI.out j hj;refine ⟨g,0,rfl,fun i hi => ?_⟩;rw [Nat.zero_add];refine hK12.drew.cell (ad:=⟨g,i,none⟩) ?_ (fun hf => ?_)
    ·rw [hgc i hi];simp [hi]
    ·have:=HFl.out _ hf;have e:(⟨g,i,none⟩:Addr).block=g:=rfl;omega
   have hhd:=uu (ks.map Int.toNat) ra rc w2.drew hin2 (by rw [List.length_map];omega) HNm.out;rw [List.length_map] at hhd;have HHd:=hid hhd;have hlh:(headS (ks.map Int.toNat)).length=512:=er _ _ (Nat.le_refl _) (by rw [List.length_map];omega);have HLh:=hid hlh;have HK12:=hid hK12;have HWS:Hid (bB S size l ks=gx (((cZ S l ks ks.length).flushed.wrote 0 ⟨(headS (ks.map Int.toNat)).toArray⟩).flushed) size l ks):=rfl;clear hA2 hK2 hK12 hL2 e2 l0 l1 hlh hhd hin2 hLr HNs HNm;generalize headS (ks.map Int.toNat)=HS0 at *;go_wp2;refine wp_region_noPanic ?_;refine wp_region_held_drew (S:=fun W=>W.cell? ⟨w.heap.size,0,none⟩=some (.pointer (some ⟨d.p,0,none⟩))) (by kernel_rfl) m0 (fun hHeld => ?_);refine tq 0 _ ?_
   try simp only [tS]
   refine tq 1 _ ?_
   try simp only [tS]
   refine tq 2 _ ?_
   try simp only [tS]
   refine wpAnyH_ready (rs:=[3]) (by kernel_rfl) (by simp) (AllReadyH.cons rfl (fun K hKK => ?_) AllReadyH.nil);rw [if_pos (by rfl)];go_simp;refine HHd.out.mono ?_;clear HHd;rintro e w3 ⟨hb,rfl,hhb,hob,hb3⟩;have hK3:ac F w1 w3:=HK12.out.drew.andBelow hb3;have hL3:=hK3.heap HL1.out HFw.out;have n0:w3.cell? ⟨w.heap.size,0,none⟩=some (.pointer (some ⟨d.p,0,none⟩)):=aa hL3 0;have hs3:w2.heap.size<=w3.heap.size:=hb3.size;have hD3:=((HD2.out.below (w':=w2.drew) (Below.refl _ _).drew).below hb3).later (w1:=w2) hs3;have hwr:=j9 d2 _ _ 0 HS0 ⟨hb,0,none⟩ 512 w3 hD3 (by simp only [aq.flushed,List.length_append,List.length_singleton];rw [HFaK.out.2];omega) (by omega) (by show (0:Int)<((l7 _).length:Nat);rw [bL,HFaK.out.1];omega) HLh.out hob.at
   rw [HE2.out.1,HE2.out.2] at hwr;have HWr:=hid hwr;have HK3:=hid hK3;clear hb3 hL3 hwr hD3 hK3 hob hhb
   go_wp2_with fail
   refine hKK.out _ _ n0 (fun hHeld => ?_);clear hKK K
   try simp only [tS]
   refine wpAnyH_ready (rs:=[4]) (by kernel_rfl) (by simp) (AllReadyH.cons rfl (fun K hKK => ?_) AllReadyH.nil);rw [if_pos (by rfl)];go_simp;refine HWr.out.mono ?_;clear HWr;rintro e w4 ⟨rfl,d4,e4,hA4,hK4⟩;have hK14:ac F w1 w4:=HK3.out.trans hK4 (fun i hi=>hi.imp id (fun h=>h.1));have hL4:=hK14.heap HL1.out HFw.out;have q0:w4.cell? ⟨w.heap.size,0,none⟩=some (.pointer (some ⟨d.p,0,none⟩)):=aa hL4 0;have hD4:=hA4.next (w:=w1) (w1:=w3) HK3.out.size hK4.size;have hfl:=kB d4 _ _ w4 hD4 (by simp only [aq.wrote,aq.flushed,List.length_append,List.length_singleton];rw [HFaK.out.2];omega);rw [e4.1,e4.2.1] at hfl;have HFls:=hid hfl;have HK14:=hid hK14;clear hA4 hK4 hK14 hL4 hD4 hfl e4
   go_wp2_with fail
   refine hKK.out _ _ q0 (fun hHeld => ?_);clear hKK K;refine wpAnyH_done (by kernel_rfl) ?_ _;refine NoPanic.normal ?_
   go_wp2_with fail
   refine HFls.out.mono ?_;clear HFls;rintro e w5 ⟨rfl,d5,e5,hA5,hK5⟩;have hK15:ac F w1 w5:=HK14.out.trans hK5 (fun i hi=>hi.imp id (fun h=>h.1));have hD5:=hA5.next (w:=w1) (w1:=w4) HK14.out.size hK5.size;have hL5:=hK15.heap HL1.out HFw.out;have r0:w5.cell? ⟨w.heap.size,0,none⟩=some (.pointer (some ⟨d.p,0,none⟩)):=aa hL5 0;have r1:w5.cell? ⟨w.heap.size,1,none⟩=some (.int .i64 size):=aa hL5 1;have hmw:m<w.heap.size:=HMw.out;have hF5:∀i,F i\/(w1.heap.size<=i/\i<w5.heap.size)->i<w5.heap.size:=fun i hi=>hi.elim (fun h=>by have:=HFl.out i h;have:=HB1.out.size;have:=hK15.size;omega) (fun h=>h.2);have hm5:¬(F m\/(w1.heap.size<=m/\m<w5.heap.size)):=fun h=>h.elim hm (fun h=>by have:=HB1.out.size;omega);have hv5:gk w5 val l (fun i=>F i\/(w1.heap.size<=i/\i<w5.heap.size)):=fun n v hnv=>by
    obtain ⟨ad,c,e,hby,h512,hnf⟩:=HV.out n v hnv;refine ⟨ad,c,e,fun q hq=>hK15.cell ((HB1.out.cell (World.block_lt_of_cell? w _ (hby q hq))).trans (hby q hq)) (by rw [aJ];exact hnf),h512,fun hf=>hf.elim hnf (fun hh => ?_)⟩;have:=World.block_lt_of_cell? w _ (hby 0 (by rw [h512];decide));rw [aJ] at this;have:=HB1.out.size;omega
   have hbr:=sf d5 _ (fun i=>F i\/(w1.heap.size<=i/\i<w5.heap.size)) size m B D N val l w5 hD5 hF5 (HG1.out.keep hK15 hm) hm5 hB hv5 (by show 1+size+N<=(l7 _).length;rw [bL];show 1+size+N<=(l7 _).length;rw [bL,HFaK.out.1];exact hs) (by rw [HKs.out];exact hk) (by simp only [aq.wrote,aq.flushed,List.length_append,List.length_singleton];rw [HFaK.out.2];omega);rw [e5.1,e5.2.1,HKs.out, <- HWS.out] at hbr;unfold eA at hbr;have HBr:=hid hbr;have HK15:=hid hK15;clear hA5 hK5 hK15 e5 hD5 hL5 hF5 hm5 hv5 hbr
   go_wp2_with fail
   refine HBr.out.mono ?_;clear HBr;rintro e w6 ⟨rfl,d6,e6,hA6,hK6⟩;have hK16:ac F w1 w6:=HK15.out.trans hK6 (fun i hi=>hi.imp id (fun h=>h.1));have HD6:=hid (hA6.next (w:=w1) (w1:=w5) HK15.out.size hK6.size);have HK16:=hid hK16;have HE6:=hid (And.intro e6.1 e6.2.1);have HO6:=hid (e6.2.2.next (w:=w1) (w1:=w5) HK15.out.size hK6.size);clear hA6 hK6 hK16 e6;go_wp2;go_returns;have hs01:=HB1.out.size;refine ⟨rfl,d6,⟨HE6.out.1,HE6.out.2,?_⟩,?_,(ac.of_below HB1.out).trans HK16.out (fun i hi => .inl hi)⟩
   ·rw [HKs.out];exact HO6.out.mono (fun i hi=>hi.imp id (fun h=>⟨by omega,h.2⟩))
   ·rw [HKs.out];exact HD6.out.mono (fun i hi=>hi.imp id (fun h=>⟨by omega,h.2⟩))
end
section
open Go.RowKit
section
variable {p:Nat} {d:DL} {S:aq} {size rec:Nat} {F:Nat->Prop}
theorem bH.below {w w':World} (h:bH w p d S size rec F) (k:Below w.heap.size w w'):bH w' p d S size rec F:=⟨ah k h.heap (ae h.heap),h.disk.below k,h.off⟩
theorem oO (w:World) (h:bH w p d S size rec F) (hs:size+1<=S.safe.length):Calls Tryz.prog 57 #[.pointer (some ⟨p,0,none⟩)] w fun e w'=>e = .returned (.int .i64 (pagesS S size:Nat))/\Below w.heap.size w w':=by
 have c0:w.cell? ⟨p,0,none⟩=some (.pointer (some ⟨d.p,0,none⟩)):=aa h.heap 0;have c1:w.cell? ⟨p,1,none⟩=some (.int .i64 size):=aa h.heap 1;have hp:=oD d S size w h.disk.rd hs;unfold eA at hp;have HP:=hid hp;clear h hp;go_enter Tryz.func57,Tryz.ntmps57
 go_wp2_with fail
 refine HP.out.mono ?_;rintro e w1 ⟨rfl,hb⟩;have HB:=hid hb;clear hb;go_wp2;go_ret;exact ⟨rfl,HB.out⟩
theorem po (w:World) (h:bH w p d S size rec F) (hs:size<=4096):Calls Tryz.prog 118 #[.pointer (some ⟨p,0,none⟩)] w fun e w'=>e = .returned (.int .i64 ((min size 100:Nat):Int))/\Below w.heap.size w w':=by
 have c0:w.cell? ⟨p,0,none⟩=some (.pointer (some ⟨d.p,0,none⟩)):=aa h.heap 0;have c1:w.cell? ⟨p,1,none⟩=some (.int .i64 size):=aa h.heap 1;have hp:=eO d.p size w hs;unfold eA at hp;have HP:=hid hp;clear h hp;generalize min size 100=q at *;go_enter Tryz.func118,Tryz.ntmps118
 go_wp2_with fail
 refine HP.out.mono ?_;rintro e w1 ⟨rfl,hb⟩;have HB:=hid hb;clear hb;go_wp2;go_ret;exact ⟨rfl,HB.out⟩
end
end
section
open Go.RowKit
theorem ut (val:Int->Option Value) (n:Int) (v:Value):∀L:List Int,L.Nodup->(L.filter (fun k=>(cG val n v k).isSome)).length<=(L.filter (fun k=>(val k).isSome)).length+1
 | [],_=>by simp
 | k :: L,h=>by
  obtain ⟨h1,h2⟩:=List.nodup_cons.1 h;have ih:=ut val n v L h2;by_cases e:k=n
  ·subst e;have hrest:L.filter (fun q=>(cG val k v q).isSome)=L.filter (fun q=>(val q).isSome):=List.filter_congr (fun q hq=>by
    have:q≠k:=fun e=>h1 (e ▸ hq);simp [cG,this])
   rw [List.filter_cons,List.filter_cons,hrest]
   split <;> split <;> (try simp only [List.length_cons]) <;> omega
  ·have hk:(cG val n v k).isSome=(val k).isSome:=by simp [cG,e]
   rw [List.filter_cons,List.filter_cons,hk]
   split
   ·simp only [List.length_cons];omega
   ·exact ih
theorem mV (ps:List bA) (N:Nat):∀j,(aB (aU ps j) N).length<=j
 | 0=>by simp [aB,aU]
 | j+1=>by
  have ih:=mV ps N j;have hnd:((List.range N).map (fun k:Nat=>(k:Int))).Nodup:=by
   refine List.pairwise_map.2 (List.nodup_range.imp (fun h=>by omega))
  cases hp:ps[j]? with
  | none =>
   have e:aU ps (j+1)=aU ps j:=by rw [aU,hp]
   rw [e];omega
  | some p =>
   have e:aU ps (j+1)=cG (aU ps j) p.n p.val:=by rw [aU,hp]
   have:=ut (aU ps j) p.n p.val _ hnd;rw [e];unfold aB at ih ⊢;omega
section
variable {p:Nat} {d:DL} {S:aq} {size rec:Nat} {F:Nat->Prop}
theorem vJ (ps:List bA) (pa:Option Addr) (pc:Nat) (l:Int->List UInt8) (w:World) (h:bH w p d S size rec F) (hF:∀i,F i->i<w.heap.size) (hs:size+1<=S.safe.length) (hp:iW w pa ps)
  (h1:1<=ps.length) (h2:ps.length<=size) (h3:ps.length<=100) (hin:∀j (hj:j<ps.length),0<=ps[j].n/\ps[j].n<(pagesS S size:Nat)) (he:bm ps ps.length=0)
  (hv:gk w (aU ps ps.length) l F) (ho:S.ops.length<=800000) :
  Calls Tryz.prog 45 #[.pointer (some ⟨p,0,none⟩),.slice pa ps.length pc] w fun e w'=>e = .returned (.int .i64 0)/\∃d',(d'.fv=d.fv/\ie w' d' (bB S size l (aB (aU ps ps.length) (pagesS S size))) (fun i=>F i\/(w.heap.size<=i/\i<w'.heap.size)))/\bH w' p d' (bB S size l (aB (aU ps ps.length) (pagesS S size))) size rec (fun i=>F i\/(w.heap.size<=i/\i<w'.heap.size))/\ac F w w':=by
 have hm:=h.disk.rd.plates.most;have hpl:=ae h.heap;have HC:Hid (∀W,Below w.heap.size w W->W.cell? ⟨p,0,none⟩=some (.pointer (some ⟨d.p,0,none⟩))/\W.cell? ⟨p,1,none⟩=some (.int .i64 size)):=fun W hW=>⟨aa (h.below hW).heap 0,aa (h.below hW).heap 1⟩;have hcp:=eO d.p size w (by omega);have HGr:=hid (fun W (hW:Below w.heap.size w W)=>lS d S size ps pa pc W ((h.below hW).disk.rd) hs (fun j hj=>by
  obtain ⟨b,o,e,hc⟩:=hp j hj;exact ⟨b,o,e,fun i hi=>⟨(hW.cell (p:=⟨b,o+i*2,none⟩) (World.block_lt_of_cell? w _ (hc i hi).1)).trans (hc i hi).1,(hW.cell (p:=⟨b,o+i*2+1,none⟩) (World.block_lt_of_cell? w _ (hc i hi).2)).trans (hc i hi).2⟩⟩) h3)
 unfold eA at hcp HGr;have HCp:=hid hcp;have H:=hid h;have HV:=hid hv;have HFl:=hid hF;have HIn:=hid hin;have HE:=hid he;have HKl:=hid (mV ps (pagesS S size) ps.length);have hcap:ps.length<=min size 100:=by omega
 obtain ⟨c0,c1⟩:=HC.out w (Below.refl _ _);clear h hp hF hin he hv hcp;generalize min size 100=q at *;have hn0:¬((ps.length:Int)=0):=by omega
 have hnq:¬((q:Int)<(ps.length:Int)):=by omega
 go_enter Tryz.func45,Tryz.ntmps45
 go_wp2_with fail
 refine HCp.out.mono ?_;clear HCp;rintro e w1 ⟨rfl,hb1⟩;have HB1:=hid hb1;obtain ⟨d0,d1⟩:=HC.out w1 hb1;clear hb1 c0 c1
 go_wp2_with fail
 refine (HGr.out w1 HB1.out).mono ?_;clear HGr;rintro e w2 ⟨hb2,hg2⟩;rcases hg2 with ⟨j,hj,hbad,-⟩ | ⟨-,m,D,rfl,hm2,hgi⟩
 ·exact absurd (HIn.out j hj) hbad
 rw [HE.out];have hB2:Below w.heap.size w w2:=HB1.out.trans (hb2.mono HB1.out.size);have HB2:=hid hB2;obtain ⟨e0,e1⟩:=HC.out w2 hB2;have hs12:=HB1.out.size;have hs22:=hB2.size;have hv2:gk w2 (aU ps ps.length) l F:=fun n v hnv=>by
  obtain ⟨ad,c,e,hby,h512,hnf⟩:=HV.out n v hnv;exact ⟨ad,c,e,fun q hq=>(hB2.cell (World.block_lt_of_cell? w _ (hby q hq))).trans (hby q hq),h512,hnf⟩
 have hwg:=rg d S F size m 100 D (pagesS S size) (aU ps ps.length) l w2 (H.out.disk.below hB2) (fun i hi=>by have:=HFl.out i hi;omega) hgi (fun hf=>by have:=HFl.out _ hf;omega) (by decide) hv2 (by unfold pagesS;omega) (by have:=HKl.out;omega) (by have:=HKl.out;omega) ho;unfold eA at hwg;have HWg:=hid hwg;clear hb2 hgi hB2 hv2 hwg d0 d1
 go_wp2_with fail
 refine HWg.out.mono ?_;clear HWg;rintro e w3 ⟨rfl,d3,e3,hA3,hK3⟩;have hK:ac F w w3:=(ac.of_below HB2.out).trans hK3 (fun i hi => .inl hi);have HK:=hid hK;have hhp:=hK.heap H.out.heap H.out.off;rw [<- e3.1] at hhp;have HE3:=hid e3.2;have HHp:=hid hhp;have HA3:=hid hA3;have hs3:=hK3.size;clear hA3 hK3 hK hhp e3;go_wp2;go_ret;exact ⟨rfl,d3,⟨HE3.out.1,HE3.out.2.mono (fun i hi=>hi.imp id (fun h=>⟨by omega,h.2⟩))⟩,⟨HHp.out,HA3.out.mono (fun i hi=>hi.imp id (fun h=>⟨by omega,h.2⟩)),fun hf=>hf.elim H.out.off (fun h=>by omega)⟩,HK.out⟩
end
end
section
open Go.RowKit
theorem qt:(Tryz.prog.info? 111).map (fun i=>(i.zero,i.size,i.bytes))=some (some (.agg #[.int .i64 0,.slice none 0 0]),2,32):=by kernel_rfl
end
section
open Go.RowKit
theorem pK (S:aq) (n:Nat) (h:n<S.safe.length):seenS S.flushed.safe S.flushed.waits (n:Int)=seenS S.safe S.waits (n:Int):=by
 have hl:n<(l7 S).length:=by rw [bL];exact h
 show (if ([]:List ByteArray)=[] then (l7 S).getD ((n:Int)).toNat ⟨#[]⟩ else _)=_;rw [if_pos rfl,show ((n:Int)).toNat=n by omega,List.getD_eq_getElem?_getD,List.getElem?_eq_getElem hl,Option.getD_some,yy]
theorem tg (S:aq) (n k:Int) (s:ByteArray) (h:n≠k):seenS (S.wrote k s).safe (S.wrote k s).waits n=seenS S.safe S.waits n:=by
 simp [seenS,aq.wrote,aQ _ _ h]
theorem vv (S:aq) (k:Int) (s:ByteArray):seenS (S.wrote k s).safe (S.wrote k s).waits k=s:=by
 simp [seenS,aq.wrote,eD]
end
section
open Go.RowKit
end
section
set_option maxRecDepth 100000
set_option maxHeartbeats 1000000
open Go.RowKit
def o9 (ps:List bA) (bl:Nat->List UInt8):Nat->Int->List UInt8
 | 0=>fun _=>[]
 | j+1=>fun n=>if (ps[j]?).map bA.n=some n then bl j else o9 ps bl j n
def du (N:Nat) (ps:List bA):Bool:=ps.all (fun p=>decide (0<=p.n/\p.n<(N:Int)))
def dn (N size:Nat) (ps:List bA):Int:=if ps.length=0 then 0 else if min size 100<ps.length then 6 else if du N ps then bm ps ps.length else 2
def fC (S:aq) (size:Nat) (ps:List bA) (bl:Nat->List UInt8):aq:=if dn (pagesS S size) size ps=0/\ps.length≠0 then bB S size (o9 ps bl ps.length) (aB (aU ps ps.length) (pagesS S size)) else S
theorem dB {N:Nat} {ps:List bA}:du N ps=true ↔ ∀j (hj:j<ps.length),0<=ps[j].n/\ps[j].n<(N:Int):=by
 unfold du;rw [List.all_eq_true];constructor
 ·intro h j hj;simpa using h _ (List.getElem_mem hj)
 ·intro h p hp;obtain ⟨j,hj,rfl⟩:=List.mem_iff_getElem.1 hp;simpa using h j hj
theorem iS (ps:List bA) (bl:Nat->List UInt8) (n:Int) (v:Value):∀k,aU ps k n=some v->∃j,j<k/\∃hj:j<ps.length,ps[j].n=n/\v=ps[j].val/\o9 ps bl k n=bl j
 | 0,h=>by simp [aU] at h
 | k+1,h=>by
  cases hp:ps[k]? with
  | none =>
   rw [aU,hp] at h;dsimp only at h;obtain ⟨j,h1,h2,h3,h4,h5⟩:=iS ps bl n v k h;exact ⟨j,by omega,h2,h3,h4,by rw [o9,hp];simpa using h5⟩
  | some p =>
   obtain ⟨hk,hpk⟩:=List.getElem?_eq_some_iff.1 hp;rw [aU,hp] at h;dsimp only at h;unfold cG at h;by_cases e:n=p.n
   ·rw [if_pos e] at h;exact ⟨k,by omega,hk,by rw [hpk,e],by rw [hpk];exact (Option.some.inj h).symm,by rw [o9,hp];simp [e]⟩
   ·rw [if_neg e] at h;obtain ⟨j,h1,h2,h3,h4,h5⟩:=iS ps bl n v k h;exact ⟨j,by omega,h2,h3,h4,by rw [o9,hp];simp [Ne.symm e,h5]⟩
theorem lN {ps:List bA} {k:Nat} (hk:k<ps.length) (h:bm ps (k+1)=0):bm ps k=0/\aU ps k ps[k].n=none/\ps[k].len=512:=by
 rw [bm,List.getElem?_eq_getElem hk] at h;simp only at h
 split at h
 ·cases h
 ·rename_i hn;simp only [not_or,Bool.not_eq_true,Option.isSome_eq_false_iff,Option.isNone_iff_eq_none,Decidable.not_not] at hn;exact ⟨h,hn.1,hn.2⟩
theorem mK {ps:List bA}:∀k,k<=ps.length->bm ps k=0->∀j (hj:j<ps.length),j<k->ps[j].len=512
 | 0,_,_,j,_,h=>by omega
 | k+1,hk,he,j,hj,h=>by
  obtain ⟨h1,h2,h3⟩:=lN (by omega) he;by_cases e:j=k
  ·subst e;exact h3
  ·exact mK k (by omega) h1 j hj (by omega)
theorem qI {w:World} {ps:List bA} {bl:Nat->List UInt8} {F:Nat->Prop} (he:bm ps ps.length=0) (hv:∀j (hj:j<ps.length),ps[j].len=512->∃ad,ps[j].a=some ad/\az w ad (bl j)/\(bl j).length=512/\¬F ad.block):gk w (aU ps ps.length) (o9 ps bl ps.length) F:=fun n v hnv=>by
 obtain ⟨j,h1,h2,h3,h4,h5⟩:=iS ps bl n v ps.length hnv;have hl:=mK ps.length (Nat.le_refl _) he j h2 h2;obtain ⟨ad,e,hb,h512,hf⟩:=hv j h2 hl;refine ⟨ad,ps[j].cap,?_,by rw [h5];exact hb,by rw [h5];exact h512,hf⟩;rw [h4,bA.val,e,hl]
theorem uj (val:Int->Option Value) (n:Int) (v:Value) (hn:val n=none):∀L:List Int,L.Nodup->n∈L->(L.filter (fun k=>(cG val n v k).isSome)).length=(L.filter (fun k=>(val k).isSome)).length+1
 | [],_,h=>by simp at h
 | k :: L,h,hm=>by
  obtain ⟨h1,h2⟩:=List.nodup_cons.1 h;by_cases e:k=n
  ·subst e;have hrest:L.filter (fun q=>(cG val k v q).isSome)=L.filter (fun q=>(val q).isSome):=List.filter_congr (fun q hq=>by
    have:q≠k:=fun e=>h1 (e ▸ hq);simp [cG,this])
   rw [List.filter_cons,List.filter_cons,hrest];simp [cG,hn]
  ·have ih:=uj val n v hn L h2 (by rcases List.mem_cons.1 hm with h | h;exact absurd h.symm e;exact h);have hk:(cG val n v k).isSome=(val k).isSome:=by simp [cG,e]
   rw [List.filter_cons,List.filter_cons,hk]
   split
   ·simp only [List.length_cons,ih]
   ·exact ih
theorem iw (ps:List bA) (N:Nat) (hin:∀j (hj:j<ps.length),0<=ps[j].n/\ps[j].n<(N:Int)):∀k,k<=ps.length->bm ps k=0->(aB (aU ps k) N).length=k
 | 0,_,_=>by simp [aB,aU]
 | k+1,hk,he=>by
  obtain ⟨h1,h2,h3⟩:=lN (by omega) he;have ih:=iw ps N hin k (by omega) h1;have hnd:((List.range N).map (fun k:Nat=>(k:Int))).Nodup:=List.pairwise_map.2 (List.nodup_range.imp (fun h=>by omega));have e:aU ps (k+1)=cG (aU ps k) ps[k].n ps[k].val:=by rw [aU,List.getElem?_eq_getElem (by omega)]
  have hm:ps[k].n∈(List.range N).map (fun k:Nat=>(k:Int)):=by
   obtain ⟨a,b⟩:=hin k (by omega);exact List.mem_map.2 ⟨ps[k].n.toNat,List.mem_range.2 (by omega),by omega⟩
  have:=uj (aU ps k) ps[k].n ps[k].val h2 _ hnd hm;rw [e];unfold aB at ih ⊢;omega
section
variable {p:Nat} {d:DL} {S:aq} {size rec:Nat} {F:Nat->Prop}
theorem bH.more {w w':World} (h:bH w p d S size rec F) (k:Below w.heap.size w w'):bH w' p d S size rec (fun i=>F i\/(w.heap.size<=i/\i<w'.heap.size)) :=
 ⟨(h.below k).heap,(h.below k).disk.mono (fun _ h => .inl h),fun hf=>hf.elim h.off (fun e=>by have:=ae h.heap;omega)⟩
theorem qn (ps:List bA) (pa:Option Addr) (pc:Nat) (w:World) (h:bH w p d S size rec F) (hs:size+1<=S.safe.length) (h2:min size 100<ps.length) :
  Calls Tryz.prog 45 #[.pointer (some ⟨p,0,none⟩),.slice pa ps.length pc] w fun e w'=>e = .returned (.int .i64 6)/\Below w.heap.size w w':=by
 have hm:=h.disk.rd.plates.most;have c0:w.cell? ⟨p,0,none⟩=some (.pointer (some ⟨d.p,0,none⟩)):=aa h.heap 0;have c1:w.cell? ⟨p,1,none⟩=some (.int .i64 size):=aa h.heap 1;have hcp:=eO d.p size w (by omega);unfold eA at hcp;have HCp:=hid hcp;clear h hcp;generalize min size 100=q at *;generalize ps.length=L at *;have hn0:¬((L:Int)=0):=by omega
 have hnq:((q:Int)<(L:Int)):=by omega
 go_enter Tryz.func45,Tryz.ntmps45
 go_wp2_with fail
 refine HCp.out.mono ?_;clear HCp;rintro e w1 ⟨rfl,hb1⟩;have HB1:=hid hb1;clear hb1 c0 c1;go_wp2;go_ret;exact ⟨rfl,HB1.out⟩
theorem pE (pa:Option Addr) (pc:Nat) (w:World):Calls Tryz.prog 45 #[.pointer (some ⟨p,0,none⟩),.slice pa 0 pc] w fun e w'=>e = .returned (.int .i64 0)/\w'=w:=by
 go_enter Tryz.func45,Tryz.ntmps45;go_wp2;go_ret;exact ⟨rfl,rfl⟩
theorem tm (ps:List bA) (pa:Option Addr) (pc:Nat) (w:World) (h:bH w p d S size rec F) (hs:size+1<=S.safe.length) (hp:iW w pa ps) (h1:ps.length≠0) (h2:ps.length<=min size 100)
  (hbad:du (pagesS S size) ps=true->bm ps ps.length≠0) :
  Calls Tryz.prog 45 #[.pointer (some ⟨p,0,none⟩),.slice pa ps.length pc] w fun e w'=>e = .returned (.int .i64 (if du (pagesS S size) ps then bm ps ps.length else 2))/\Below w.heap.size w w':=by
 have hm:=h.disk.rd.plates.most;have HC:Hid (∀W,Below w.heap.size w W->W.cell? ⟨p,0,none⟩=some (.pointer (some ⟨d.p,0,none⟩))/\W.cell? ⟨p,1,none⟩=some (.int .i64 size)):=fun W hW=>⟨aa (h.below hW).heap 0,aa (h.below hW).heap 1⟩;have hcp:=eO d.p size w (by omega);have HGr:=hid (fun W (hW:Below w.heap.size w W)=>lS d S size ps pa pc W ((h.below hW).disk.rd) hs (fun j hj=>by
  obtain ⟨b,o,e,hc⟩:=hp j hj;exact ⟨b,o,e,fun i hi=>⟨(hW.cell (p:=⟨b,o+i*2,none⟩) (World.block_lt_of_cell? w _ (hc i hi).1)).trans (hc i hi).1,(hW.cell (p:=⟨b,o+i*2+1,none⟩) (World.block_lt_of_cell? w _ (hc i hi).2)).trans (hc i hi).2⟩⟩) (by omega))
 unfold eA at hcp HGr;have HCp:=hid hcp;have HBad:=hid hbad;obtain ⟨c0,c1⟩:=HC.out w (Below.refl _ _);obtain ⟨V,hV⟩:∃V,V=(if du (pagesS S size) ps then bm ps ps.length else 2):=⟨_,rfl⟩;rw [<- hV];have HVd:=hid hV;clear h hp hcp hbad hV;generalize min size 100=q at *;have hn0:¬((ps.length:Int)=0):=by omega
 have hnq:¬((q:Int)<(ps.length:Int)):=by omega
 go_enter Tryz.func45,Tryz.ntmps45
 go_wp2_with fail
 refine HCp.out.mono ?_;clear HCp;rintro e w1 ⟨rfl,hb1⟩;have HB1:=hid hb1;obtain ⟨d0,d1⟩:=HC.out w1 hb1;clear hb1 c0 c1
 go_wp2_with fail
 refine (HGr.out w1 HB1.out).mono ?_;clear HGr;rintro e w2 ⟨hb2,hg2⟩;have HB2:=hid (HB1.out.trans (hb2.mono HB1.out.size));rcases hg2 with ⟨j,hj,hbad,rfl⟩ | ⟨hall,m,D,rfl,hm2,hgi⟩
 ·have hni:du (pagesS S size) ps=false:=by
   cases hq:du (pagesS S size) ps with
   | false=>rfl
   | true=>exact absurd (dB.1 hq j hj) hbad
  have HNi:=hid hni;clear hb2 hbad d0 d1 hni;go_wp2;go_ret;have e:V=2:=by rw [HVd.out,if_neg (by rw [HNi.out];decide)]
  subst e;exact ⟨rfl,HB2.out⟩
 ·have hi:=dB.2 hall;have hne:=HBad.out hi;obtain ⟨E,hE⟩:∃E,E=bm ps ps.length:=⟨_,rfl⟩;rw [<- hE] at hne ⊢;have HI:=hid hi;have HE:=hid hE;clear hb2 hgi hi hall d0 d1 hE;go_wp2;go_ret;have e:V=E:=by rw [HVd.out,if_pos HI.out,HE.out]
  subst e;exact ⟨rfl,HB2.out⟩
theorem nY (ps:List bA) (pa:Option Addr) (pc:Nat) (bl:Nat->List UInt8) (w:World) (h:bH w p d S size rec F) (hF:∀i,F i->i<w.heap.size) (hs:size+1<=S.safe.length) (hp:iW w pa ps)
  (hv:∀j (hj:j<ps.length),ps[j].len=512->∃ad,ps[j].a=some ad/\az w ad (bl j)/\(bl j).length=512/\¬F ad.block) (ho:S.ops.length<=800000) :
  Calls Tryz.prog 45 #[.pointer (some ⟨p,0,none⟩),.slice pa ps.length pc] w fun e w'=>e = .returned (.int .i64 (dn (pagesS S size) size ps))/\∃d',(d'.fv=d.fv/\((d'=d/\fC S size ps bl=S/\Below w.heap.size w w')\/ie w' d' (fC S size ps bl) (fun i=>F i\/(w.heap.size<=i/\i<w'.heap.size))))/\bH w' p d' (fC S size ps bl) size rec (fun i=>F i\/(w.heap.size<=i/\i<w'.heap.size))/\ac F w w':=by
 by_cases h0:ps.length=0
 ·have e0:dn (pagesS S size) size ps=0:=by unfold dn;rw [if_pos h0]
  have e1:fC S size ps bl=S:=by unfold fC;rw [if_neg (fun h=>h.2 h0)]
  rw [e0,e1,h0];refine (pE pa pc w).mono ?_;rintro e w' ⟨rfl,rfl⟩;exact ⟨rfl,d,⟨rfl,.inl ⟨rfl,rfl,Below.refl _ _⟩⟩,h.more (Below.refl _ _),ac.refl _ _⟩
 by_cases h1:min size 100<ps.length
 ·have e0:dn (pagesS S size) size ps=6:=by unfold dn;rw [if_neg h0,if_pos h1]
  have e1:fC S size ps bl=S:=by unfold fC;rw [if_neg (fun h=>by rw [e0] at h;exact absurd h.1 (by decide))]
  rw [e0,e1];refine (qn ps pa pc w h hs h1).mono ?_;rintro e w' ⟨rfl,hb⟩;exact ⟨rfl,d,⟨rfl,.inl ⟨rfl,rfl,hb⟩⟩,h.more hb,ac.of_below hb⟩
 have e0:dn (pagesS S size) size ps=if du (pagesS S size) ps then bm ps ps.length else 2:=by unfold dn;rw [if_neg h0,if_neg h1]
 by_cases h2:du (pagesS S size) ps=true/\bm ps ps.length=0
 ·obtain ⟨hi,hg⟩:=h2;have e1:dn (pagesS S size) size ps=0:=by rw [e0,hi,if_pos rfl,hg]
  have e2:fC S size ps bl=bB S size (o9 ps bl ps.length) (aB (aU ps ps.length) (pagesS S size)):=by unfold fC;rw [if_pos ⟨e1,h0⟩]
  rw [e1,e2];refine (vJ ps pa pc (o9 ps bl ps.length) w h hF hs hp (by omega) (by omega) (by omega) (dB.1 hi) hg (qI hg hv) ho).mono ?_;rintro e w' ⟨h1,d',h2,h3⟩;exact ⟨h1,d',⟨h2.1,.inr h2.2⟩,h3⟩
 ·have hne:(if du (pagesS S size) ps then bm ps ps.length else 2)≠0:=by
   split
   ·rename_i hi;exact fun hg=>h2 ⟨hi,hg⟩
   ·decide
  have e2:fC S size ps bl=S:=by unfold fC;rw [if_neg (fun h=>hne (e0 ▸ h.1))]
  rw [e0,e2];refine (tm ps pa pc w h hs hp h0 (by omega) (fun hi hg=>h2 ⟨hi,hg⟩)).mono ?_;rintro e w' ⟨rfl,hb⟩;exact ⟨rfl,d,⟨rfl,.inl ⟨rfl,rfl,hb⟩⟩,h.more hb,ac.of_below hb⟩
theorem tN (ps:List bA) (pa:Option Addr) (pc:Nat) (bl:Nat->List UInt8) (w:World) (h:bH w p d S size rec F) (hF:∀i,F i->i<w.heap.size) (hs:size+1<=S.safe.length) (hp:iW w pa ps)
  (hv:∀j (hj:j<ps.length),ps[j].len=512->∃ad,ps[j].a=some ad/\az w ad (bl j)/\(bl j).length=512/\¬F ad.block) (ho:S.ops.length<=800000) :
  Calls Tryz.prog 45 #[.pointer (some ⟨p,0,none⟩),.slice pa ps.length pc] w fun e w'=>e = .returned (.int .i64 (dn (pagesS S size) size ps))/\∃d',bH w' p d' (fC S size ps bl) size rec (fun i=>F i\/(w.heap.size<=i/\i<w'.heap.size))/\ac F w w':=by
 refine (nY ps pa pc bl w h hF hs hp hv ho).mono ?_;rintro e w' ⟨h1,d',_,h2⟩;exact ⟨h1,d',h2⟩
end
end
section
open Go.RowKit
def bJ (S:aq) (n:Nat):ByteArray:=seenS S.safe S.waits (n:Int)
theorem dP (S:aq) (n:Nat) (h:n<S.safe.length):bJ S.flushed n=bJ S n:=pK S n h
theorem eI (S:aq) (n:Nat) (k:Int) (s:ByteArray) (h:(n:Int)≠k):bJ (S.wrote k s) n=bJ S n:=tg S _ k s h
theorem lU (S:aq) (n:Nat) (k:Int) (s:ByteArray) (h:(n:Int)=k):bJ (S.wrote k s) n=s:=by
 subst h;exact vv S _ s
theorem bW (S:aq):S.flushed.safe.length=S.safe.length:=bL S
theorem gu (S:aq) (k:Int) (s:ByteArray):(S.wrote k s).safe.length=S.safe.length:=rfl
theorem lC (size:Nat) (l:Int->List UInt8) (n:Nat):∀(ks:List Int) (S:aq),(∀k∈ks,0<=k)->bJ (bR S size l ks) n=if size<n/\((n:Int)-1-(size:Int))∈ks then ⟨(l ((n:Int)-1-(size:Int))).toArray⟩ else bJ S n
 | [],S,_=>by simp [bR]
 | k :: ks,S,h=>by
  have ih:=lC size l n ks (S.wrote (1+(size:Int)+k) ⟨(l k).toArray⟩) (fun q hq=>h q (List.mem_cons_of_mem _ hq));have hk:=h k List.mem_cons_self;show bJ (bR (S.wrote (1+(size:Int)+k) ⟨(l k).toArray⟩) size l ks) n=_;rw [ih];by_cases e:(n:Int)=1+(size:Int)+k
  ·have e2:(n:Int)-1-(size:Int)=k:=by omega
   have hn:size<n:=by omega
   rw [e2];rw [if_pos (c:=size<n/\k∈k :: ks) ⟨hn,List.mem_cons_self⟩]
   split
   ·rfl
   ·exact lU S n _ _ e
  ·have e2:(n:Int)-1-(size:Int)≠k:=by omega
   rw [eI S n _ _ e];simp only [List.mem_cons,e2,false_or]
theorem nL (S:aq) (l:Int->List UInt8) (ks:List Int) (n:Nat):∀j,(n=0\/j<n)->bJ (cZ S l ks j) n=bJ S n
 | 0,_=>rfl
 | j+1,h=>by
  have ih:=nL S l ks n j (by omega);rw [show cZ S l ks (j+1)=(cZ S l ks j).wrote (1+(j:Int)) ⟨(l (ks.getD j 0)).toArray⟩ by simp [cZ,List.range_succ,List.foldl_append],eI _ n _ _ (by omega)];exact ih
theorem vP (S:aq) (size:Nat) (l:Int->List UInt8) (ks:List Int):(gx S size l ks).safe.length=S.safe.length:=by
 rw [gx,bW,gu,bW,(dR size l ks S).1]
theorem u5 (S:aq) (size:Nat) (l:Int->List UInt8) (ks:List Int):(gx S size l ks).ops.length=S.ops.length+ks.length+3:=by
 rw [gx];simp only [aq.flushed,aq.wrote,List.length_append,List.length_singleton,(dR size l ks S).2]
theorem r8 (S:aq) (size:Nat) (l:Int->List UInt8) (ks:List Int) (n:Nat) (hn:n<S.safe.length) (hk:∀k∈ks,0<=k):bJ (gx S size l ks) n=if n=0 then ⟨(headS []).toArray⟩ else if size<n/\((n:Int)-1-(size:Int))∈ks then ⟨(l ((n:Int)-1-(size:Int))).toArray⟩ else bJ S n:=by
 have hl1:(bR S size l ks).safe.length=S.safe.length:=by rw [(dR size l ks S).1]
 rw [gx,dP _ n (by rw [gu,bW,hl1];exact hn)];by_cases e:n=0
 ·subst e;rw [if_pos rfl];exact lU _ 0 0 _ rfl
 ·rw [if_neg e,eI _ n _ _ (by omega),dP _ n (by rw [hl1];exact hn),lC size l n ks S hk]
theorem pq (S:aq) (size:Nat) (l:Int->List UInt8) (ks:List Int):(bB S size l ks).safe.length=S.safe.length:=by
 rw [bB,vP,bW,gu,bW,(eE _ _ _ _).1]
theorem pd (S:aq) (size:Nat) (l:Int->List UInt8) (ks:List Int):(bB S size l ks).ops.length=S.ops.length+2*ks.length+6:=by
 rw [bB,u5];simp only [aq.flushed,aq.wrote,List.length_append,List.length_singleton,(eE S l ks _).2];omega
theorem jv (S:aq) (size:Nat) (l:Int->List UInt8) (ks:List Int) (n:Nat) (hn:n<S.safe.length) (hk:∀k∈ks,0<=k) (hks:ks.length<=size) (h:n=0\/size<n):bJ (bB S size l ks) n=if n=0 then ⟨(headS []).toArray⟩ else if ((n:Int)-1-(size:Int))∈ks then ⟨(l ((n:Int)-1-(size:Int))).toArray⟩ else bJ S n:=by
 have hl1:(cZ S l ks ks.length).safe.length=S.safe.length:=by rw [(eE _ _ _ _).1]
 rw [bB,r8 _ size l ks n (by rw [bW,gu,bW,hl1];exact hn) hk];by_cases e:n=0
 ·rw [if_pos e,if_pos e]
 ·rw [if_neg e,if_neg e];have hs:size<n:=by omega
  rw [dP _ n (by rw [gu,bW,hl1];exact hn),eI _ n _ _ (by omega),dP _ n (by rw [hl1];exact hn),nL S l ks n ks.length (by omega)];simp only [hs,true_and]
theorem yi (S:aq) (size:Nat) (ps:List bA) (bl:Nat->List UInt8):(fC S size ps bl).safe.length=S.safe.length:=by
 unfold fC;split
 ·exact pq _ _ _ _
 ·rfl
theorem s7 (S:aq) (size:Nat) (ps:List bA) (bl:Nat->List UInt8) (h:S.waits=fun _=>[]):(fC S size ps bl).waits=fun _=>[]:=by
 unfold fC;split
 ·rfl
 ·exact h
theorem oB {N size:Nat} {ps:List bA} (h:dn N size ps=0/\ps.length≠0):ps.length<=min size 100/\du N ps=true/\bm ps ps.length=0:=by
 obtain ⟨h1,h2⟩:=h;unfold dn at h1;rw [if_neg h2] at h1
 split at h1
 ·cases h1
 ·split at h1
  ·rename_i a b;exact ⟨by omega,b,h1⟩
  ·cases h1
theorem yc (S:aq) (size:Nat) (ps:List bA) (bl:Nat->List UInt8):(fC S size ps bl).ops.length=S.ops.length+if dn (pagesS S size) size ps=0/\ps.length≠0 then 2*ps.length+6 else 0:=by
 unfold fC;split
 ·rename_i h;obtain ⟨h1,h2,h3⟩:=oB h;rw [pd,iw ps _ (dB.1 h2) ps.length (Nat.le_refl _) h3];omega
 ·rfl
def kT (S:aq):Prop:=(bJ S 0).data.toList=zN 512\/bJ S 0=⟨(headS []).toArray⟩
theorem sK (S:aq) (size:Nat) (ps:List bA) (bl:Nat->List UInt8) (h:kT S) (hs:0<S.safe.length):kT (fC S size ps bl):=by
 unfold fC;split
 ·rename_i h;obtain ⟨h1,h2,h3⟩:=oB h;refine .inr ?_;rw [jv S size _ _ 0 hs (fun k hk=>(bX.1 hk).1) (by rw [iw ps _ (dB.1 h2) ps.length (Nat.le_refl _) h3];omega) (.inl rfl),if_pos rfl]
 ·exact h
end
section
open Go.RowKit
def two (b:List UInt8) (i:Nat):Nat:=numS ((b.drop i).take 2)
def zv (b:List UInt8) (N c:Nat):Prop:=∀i,i<c->two b (4+2*i)<N/\(0<i->two b (4+2*(i-1))<two b (4+2*i))
instance (b:List UInt8) (N c:Nat):Decidable (zv b N c):=by unfold zv;exact inferInstance
end
section
open Go.RowKit Go.Maps
def lg (S:aq) (n:Nat):List UInt8:=(seenS S.safe S.waits (n:Int)).data.toList
end
section
open Go.RowKit Go.Maps
end
section
open Go.RowKit
structure iN (S:aq):Prop where
 made:S=dq (bV S.first) S.ops
 ok:∀o∈S.ops,qF S.first.length o
 most:S.first.length<=4096
 size:∀s∈S.first,s.size=512
theorem iN.len {S:aq} (h:iN S):S.safe.length=S.first.length:=by
 have:=(lO (bV S.first) S.ops).2.1;rw [<- h.made] at this;exact this
theorem dU (S:aq) (l m:List OpS):dq S (l ++ m)=dq (dq S l) m:=by simp [dq,List.foldl_append]
theorem iN.more {S:aq} (h:iN S) (l:List OpS) (hl:∀o∈l,qF S.first.length o):iN (dq S l):=by
 obtain ⟨h1,h2,h3⟩:=lO S l;refine ⟨?_,?_,by rw [h1];exact h.most,by rw [h1];exact h.size⟩
 ·rw [h1,h3,dU, <- h.made]
 ·rw [h1,h3];intro o ho;rcases List.mem_append.1 ho with ho | ho
  ·exact h.ok o ho
  ·exact hl o ho
theorem tn (xs:List ByteArray) (h1:xs.length<=4096) (h2:∀s∈xs,s.size=512):iN (bV xs):=⟨rfl,fun o ho=>by simp [bV] at ho,h1,h2⟩
theorem zk {S:aq} {o:OpS} {N:Nat} (h:okS S) (ho:qF N o):okS (eL S o):=by
 cases o with
 | write n s =>
  refine ⟨h.1,fun m t ht => ?_⟩;by_cases e:m=n
  ·subst e;rw [show (eL S (.write m s)).waits m=S.waits m ++ [s] by simp [eL,aq.wrote,upd]] at ht;rcases List.mem_append.1 ht with ht | ht
   ·exact h.2 m t ht
   ·rw [List.mem_singleton.1 ht];exact ho.2.2
  ·rw [show (eL S (.write n s)).waits m=S.waits m by simp [eL,aq.wrote,upd,e]] at ht;exact h.2 m t ht
 | flush =>
  refine ⟨fun s hs => ?_,fun m t ht=>by simp [eL,aq.flushed] at ht⟩;obtain ⟨k,hk,rfl⟩:=List.mem_map.1 hs;exact pk h k (List.mem_range.1 hk)
theorem qN {N:Nat}:∀(l:List OpS) (S:aq),okS S->(∀o∈l,qF N o)->okS (dq S l)
 | [],_,h,_=>h
 | o :: l,S,h,hl=>qN l (eL S o) (zk h (hl o (by simp))) (fun o' ho=>hl o' (by simp [ho]))
theorem iN.okS {S:aq} (h:iN S):okS S:=by
 rw [h.made];exact qN S.ops _ ⟨h.size,fun n s hs=>by simp [bV] at hs⟩ h.ok
theorem iN.sec {S:aq} (h:iN S) (n:Nat) (hn:n<S.safe.length):(lg S n).length=512:=by
 have:=pk h.okS n hn;unfold lg;simpa using this
theorem iN.seen {S:aq} (h:iN S) (n:Nat) (hn:n<S.safe.length):(bJ S n).size=512:=pk h.okS n hn
def pY (l:Int->List UInt8) (ks:List Int) (j:Nat):List OpS:=(List.range j).map (fun i:Nat => .write (1+(i:Int)) ⟨(l (ks.getD i 0)).toArray⟩)
def mh (size:Nat) (l:Int->List UInt8) (ks:List Int):List OpS:=ks.map (fun n => .write (1+(size:Int)+n) ⟨(l n).toArray⟩) ++ [.flush,.write 0 ⟨(headS []).toArray⟩,.flush]
def tW (size:Nat) (l:Int->List UInt8) (ks:List Int):List OpS:=pY l ks ks.length ++ ([.flush,.write 0 ⟨(headS (ks.map Int.toNat)).toArray⟩,.flush] ++ mh size l ks)
theorem oA (S:aq) (l:Int->List UInt8) (ks:List Int):∀j,cZ S l ks j=dq S (pY l ks j)
 | 0=>rfl
 | j+1=>by
  have ih:=oA S l ks j;rw [show cZ S l ks (j+1)=(cZ S l ks j).wrote (1+(j:Int)) ⟨(l (ks.getD j 0)).toArray⟩ by simp [cZ,List.range_succ,List.foldl_append],ih,pY,pY,List.range_succ,List.map_append,dU]
  rfl
theorem mD (size:Nat) (l:Int->List UInt8):∀(ks:List Int) (S:aq),bR S size l ks=dq S (ks.map (fun n => .write (1+(size:Int)+n) ⟨(l n).toArray⟩))
 | [],_=>rfl
 | k :: ks,S=>by
  show bR (S.wrote (1+(size:Int)+k) ⟨(l k).toArray⟩) size l ks=_;rw [mD size l ks];rfl
theorem qH (S:aq) (size:Nat) (l:Int->List UInt8) (ks:List Int):gx S size l ks=dq S (mh size l ks):=by
 rw [gx,mh,dU, <- mD];rfl
theorem mA (S:aq) (size:Nat) (l:Int->List UInt8) (ks:List Int):bB S size l ks=dq S (tW size l ks):=by
 rw [bB,tW,dU, <- oA,dU, <- qH];rfl
theorem jI (l:List UInt8) (h:l.length=512):(⟨l.toArray⟩:ByteArray).size=512:=by
 show l.toArray.size=512;simpa using h
theorem oz (ns:List Nat) (h:ns.length<=254):(⟨(headS ns).toArray⟩:ByteArray).size=512:=jI _ (er _ _ (Nat.le_refl _) h)
theorem sj (size N:Nat) (l:Int->List UInt8) (ks:List Int) (hN:0<N) (h:∀k∈ks,0<=k/\1+(size:Int)+k<N/\(l k).length=512):∀o∈mh size l ks,qF N o:=by
 intro o ho;rcases List.mem_append.1 ho with ho | ho
 ·obtain ⟨k,hk,rfl⟩:=List.mem_map.1 ho;obtain ⟨h0,h1,h2⟩:=h k hk;exact ⟨by omega,h1,jI _ h2⟩
 ·simp only [List.mem_cons,List.mem_nil_iff,or_false] at ho;rcases ho with rfl | rfl | rfl
  ·trivial
  ·exact ⟨by decide,by omega,oz [] (by simp)⟩
  ·trivial
theorem vt (size N:Nat) (l:Int->List UInt8) (ks:List Int) (hN:ks.length<N) (hk:ks.length<=254) (h:∀k∈ks,0<=k/\1+(size:Int)+k<N/\(l k).length=512):∀o∈tW size l ks,qF N o:=by
 intro o ho;rcases List.mem_append.1 ho with ho | ho
 ·obtain ⟨i,hi,rfl⟩:=List.mem_map.1 ho;have hi':=List.mem_range.1 hi;refine ⟨by omega,by omega,jI _ ?_⟩;rw [List.getD_eq_getElem?_getD,List.getElem?_eq_getElem hi',Option.getD_some];exact (h _ (List.getElem_mem hi')).2.2
 ·rcases List.mem_append.1 ho with ho | ho
  ·simp only [List.mem_cons,List.mem_nil_iff,or_false] at ho;rcases ho with rfl | rfl | rfl
   ·trivial
   ·exact ⟨by decide,by omega,oz _ (by simpa using hk)⟩
   ·trivial
  ·exact sj size N l ks (by omega) h o ho
end
section
open Go.RowKit
end
section
open Go.RowKit
end
section
open Go.RowKit
theorem gm {P:Program} {w:World} (t ty e:TypeId) (i:TypeInfo) (ht:P.underlying t=some (.slice e)) (hi:P.info? e=some i) (a:Option Addr) (c:Nat) :
  (Builtin.append_ #[t,t] ty #[.slice none 0 0,.slice a 0 c]).run P w = .ok (.slice none 0 0) w:=by
 cases a <;> simp [Builtin.append_,run_underlying ht,sizeOf,typeInfo,Builtin.lenOf,Builtin.firstCells,loadCells,loadCellsFrom,hi]
theorem gX {P:Program} {w:World} (t ty e:TypeId) (i:TypeInfo) (ht:P.underlying t=some (.slice e)) (hi:P.info? e=some i) (d:Addr) (n cap:Nat) (hn:n<=cap) (a:Option Addr) (c:Nat) :
  (Builtin.append_ #[t,t] ty #[.slice (some d) n cap,.slice a 0 c]).run P w = .ok (.slice (some d) n cap) w:=by
 cases a <;> simp [Builtin.append_,run_underlying ht,sizeOf,typeInfo,Builtin.lenOf,Builtin.firstCells,loadCells,loadCellsFrom,hi,hn,storeCells]
end
section
open Go.RowKit
def fZ (n:Nat):aq:=bV (List.replicate n eH)
theorem jO (n:Nat):(fZ n).safe.length=n:=by simp [fZ,bV]
theorem iF (n k:Nat) (h:k<n):seenS (fZ n).safe (fZ n).waits (k:Int)=eH:=by
 show (if ([]:List ByteArray)=[] then (List.replicate n eH).getD ((k:Int)).toNat ⟨#[]⟩ else _)=_;rw [if_pos rfl,show ((k:Int)).toNat=k by omega,List.getD_eq_getElem?_getD,List.getElem?_eq_getElem (by simpa using h),Option.getD_some,List.getElem_replicate]
end
section
open Go.RowKit
end
section
open Go.ChangeShapes Go.WideShapes Go.ChangeAt Go.RowKit
end
section
open Go.RowKit
end
section
open Go.RowKit
theorem pN (n:Nat) (h:0<n):kT (fZ n) := .inl (by rw [bJ,iF n 0 h];exact iU)
end
section
set_option maxRecDepth 100000
set_option maxHeartbeats 4000000
open Go.RowKit Go.Maps Go.Sort Go.Shelf
section
variable {w w':World} {m B:Nat} {D:DataW Value} {N:Nat} {val:Int->Option Value}
theorem bd.perm (h:bd w m B D N val):(aB val N).Perm (intKeys D):=by
 have hk:∀x,x∈aB val N ↔ Maps.has D (.int .i64 x)=true:=fun x=>by
  rw [bX];constructor
  ·rintro ⟨_,_,hx⟩;obtain ⟨v,hv⟩:=Option.isSome_iff_exists.1 hx;exact h.there x v hv
  ·intro hx;cases hv:val x with
   | none=>rw [h.absent x hv] at hx;cases hx
   | some v=>exact ⟨(h.dom x v hv).1,(h.dom x v hv).2,rfl⟩
 obtain ⟨es,hD,hpw,_⟩:=h.mapOwn.entries (int_keyed Tryz.underlying3);obtain ⟨es',hD',hko⟩:=h.mapOwn.keysOf;obtain rfl:es=es':=by rw [hD] at hD';simpa using hD'
 rw [hD] at hk ⊢;exact perm_intKeys hpw (fun p hp=>by obtain ⟨v,hv⟩:=hko p hp;obtain ⟨x,_,hx,_⟩:=Maps.keyOf_i64 Tryz.underlying3 hv;exact ⟨x,hx⟩) ((dS _ _).imp (fun h=>by omega)) hk
theorem j0 {es:List (Lit×DataW Value)} (hk:∀p∈es,∃x,p.1 = .int .i64 x):(intKeys (.map es)).length=es.length:=by
 induction es with
 | nil=>rfl
 | cons p es ih =>
  obtain ⟨x,hx⟩:=hk p (by simp);have ih:=ih (fun q hq=>hk q (by simp [hq]));simp only [intKeys] at ih ⊢;simp [hx,ih]
theorem bd.size (h:bd w m B D N val):Maps.size D=(aB val N).length:=by
 rw [h.perm.length_eq];obtain ⟨es',hD',hko⟩:=h.mapOwn.keysOf;rw [hD',j0 (fun p hp=>by obtain ⟨v,hv⟩:=hko p hp;obtain ⟨x,_,hx,_⟩:=Maps.keyOf_i64 Tryz.underlying3 hv;exact ⟨x,hx⟩)]
 rfl
theorem dQ (val:Int->Option Value) (N:Nat):(aB val N).length<=N:=by
 have:=List.length_filter_le (fun k=>(val k).isSome) ((List.range N).map (fun k:Nat=>(k:Int)));simpa [aB] using this
theorem eo {P:Program} {k:TypeId} (h:w.ownsMap P k aE m B D) {C:Nat} (hC:Maps.size D<=C):w.ownsMap P k aE m C D:=by
 obtain ⟨es,clock,h1,h2,h3,h4⟩:=h;refine ⟨es,clock,h1,h2,?_,h4⟩;have e1:Maps.size D=es.size:=by rw [h4];simp [Maps.size,length_sorted]
 omega
theorem bd.norm (h:bd w m B D N val) (hN:N<=4096):bd w m 4096 D N val :=
 ⟨eo h.mapOwn (by rw [h.size];exact Nat.le_trans (dQ _ _) hN),h.absent,h.there,h.held,h.dom⟩
theorem iD (hm:w.ownsMap Tryz.prog 3 aE m B (.map [])) (N:Nat):bd w m B (.map []) N (fun _=>none) :=
 ⟨hm,fun _ _=>rfl,fun n v hv=>(by cases hv),fun n v hv=>(by cases hv),fun n v hv=>(by cases hv)⟩
def ma (f:Int->Option Value) (n:Int):Int->Option Value:=fun k=>if k=n then none else f k
theorem bd.del (h:bd w m B D N val) (n:Int) (hm:w'.ownsMap Tryz.prog 3 aE m B (D.del (.int .i64 n))):bd w' m B (D.del (.int .i64 n)) N (ma val n) where
 mapOwn:=hm
 absent:=fun k hk=>by
  by_cases e:k=n
  ·subst e;exact has_del_same
  ·rw [has_del_other (by simpa using e)];exact h.absent k (by simpa [ma,e] using hk)
 there:=fun k u hk=>by
  by_cases e:k=n
  ·subst e;simp [ma] at hk
  ·rw [has_del_other (by simpa using e)];exact h.there k u (by simpa [ma,e] using hk)
 held:=fun k u hk z=>by
  by_cases e:k=n
  ·subst e;simp [ma] at hk
  ·rw [atKey_del_other (by simpa using e)];exact h.held k u (by simpa [ma,e] using hk) z
 dom:=fun k u hk=>by
  by_cases e:k=n
  ·subst e;simp [ma] at hk
  ·exact h.dom k u (by simpa [ma,e] using hk)
theorem cE {ops:Array Oper} {rest:List Oper} {o:Oper} {a:Act} {Q:Exit->Act->World->Prop} (hg:o.guard=none) (mo x:Operand) (t:TypeId) (hop:o.op=Op.lookup t mo x true) (e:TypeId) (ht:Tryz.prog.underlying t=some (.map 3 e)) {z:Value} (hz:(zeroValue e).run Tryz.prog w = .ok z w)
  (hm:a.eval mo = .map (some m)) (h:bd w m B D N val) (n:Int) (hx:a.eval x = .int .i64 n) (hn0 : -9223372036854775808<=n) (hn1:n<9223372036854775808) (u:Value) (q:Bool) (hu:(val n).getD z=u) (hq:(val n).isSome=q)
  (hK:wpList Tryz.prog ops Q rest (a.put o.dst (.tuple #[u,.bool q])) w):wpList Tryz.prog ops Q (o :: rest) a w:=by
 refine wpList_lookup_own_ok w hg mo x t hop 3 e (int_keyed Tryz.underlying3) ht aE hz (.held z) [] rfl m B D hm h.mapOwn (.int .i64 n) (.int .i64 n) hx (ip hn0 hn1) (fun v ps hv => ?_);have e1:=eM hv;cases hval:val n with
 | none =>
  rw [hval] at hu hq;rw [h.absent n hval];rw [atKey_of_not_has (h.absent n hval)] at e1;obtain rfl:=DataW.held.inj e1;subst hu hq;exact hK
 | some s =>
  rw [hval] at hu hq;rw [h.there n s hval];rw [h.held n s hval] at e1;obtain rfl:=DataW.held.inj e1;subst hu hq;exact hK
theorem ko {ops:Array Oper} {rest:List Oper} {o:Oper} {a:Act} {Q:Exit->Act->World->Prop} (hg:o.guard=none) (mo x:Operand) (t:TypeId) (hop:o.op=Op.call { callee:=Callee.builtin Builtin.delete,args:=#[mo,x],argTypes:=#[t,3] }) (e:TypeId) (ht:Tryz.prog.underlying t=some (.map 3 e))
  (hm:a.eval mo = .map (some m)) (h:bd w m B D N val) (n:Int) (hx:a.eval x = .int .i64 n) (hn0 : -9223372036854775808<=n) (hn1:n<9223372036854775808)
  (hK:∀w' D',bd w' m B D' N (ma val n)->w.grownBy w' (some m)->wpList Tryz.prog ops Q rest (a.put o.dst (.tuple #[])) w'):wpList Tryz.prog ops Q (o :: rest) a w :=
 wpList_delete_own w hg mo x t 3 hop e (int_keyed Tryz.underlying3) ht aE m B D hm h.mapOwn (.int .i64 n) (.int .i64 n) hx (ip hn0 hn1) (fun w' hm' ht'=>hK w' _ (h.del n hm') ht'.grown)
end
end
section
open Go.RowKit
structure CS where
 S:aq
 size:Nat
 N:Nat
 dirty:Int->Option (List UInt8)
 most:Nat
 uses:Nat
 used:Int->Option Nat
structure bM where
 p:Nat
 dm:Nat
 um:Nat
 d:DL
 Dd:DataW Value
 Du:DataW Value
 dv:Int->Option Value
 F:Nat->Prop
def dd (f:Int->Option Nat):Int->Option Value:=fun n=>(f n).map (fun u => .int .i64 (u:Int))
def bM.foot (L:bM) (c:Nat) (i:Nat):Prop:=L.F i\/i=c\/i=L.dm\/i=L.um
structure av (w:World) (c:Nat) (L:bM) (C:CS):Prop where
 heap:w.heap[c]? = some (.cells #[.pointer (some ⟨L.p,0,none⟩),.map (some L.dm),.int .i64 C.most,.int .i64 C.uses,.map (some L.um)] 109 (0,0))
 log:bH w L.p L.d C.S C.size 0 L.F
 lt:∀i,L.F i->i<w.heap.size
 dirty:bd w L.dm 4096 L.Dd C.N L.dv
 bytes:∀n v,L.dv n=some v->∃g cap bs,C.dirty n=some bs/\v = .slice (some ⟨g,0,none⟩) 512 cap/\az w ⟨g,0,none⟩ bs/\bs.length=512/\¬L.F g
 clean:∀n,L.dv n=none->C.dirty n=none
 used:bd w L.um 4096 L.Du C.N (dd C.used)
 offc:¬L.F c
 offd:¬L.F L.dm
 offu:¬L.F L.um
 ne:L.dm≠L.um
 pages:C.N=pagesS C.S C.size
 fits:C.size+1<=C.S.safe.length
 few:C.uses<=1000000
 ub:∀n u,C.used n=some u->u<=C.uses
section
variable {w w':World} {c:Nat} {L:bM} {C:CS}
theorem av.four (h:av w c L C):C.S.safe.length<=4096:=h.log.disk.rd.plates.most
theorem av.pagesLe (h:av w c L C):C.N<=4096:=by have:=h.four;rw [h.pages];unfold pagesS;omega
theorem av.dmap (h:av w c L C):∃es k,w.heap[L.dm]? = some (.map es k):=bt h.dirty.mapOwn
theorem av.umap (h:av w c L C):∃es k,w.heap[L.um]? = some (.map es k):=bt h.used.mapOwn
theorem av.cd (h:av w c L C):c≠L.dm:=fun e=>by
 obtain ⟨es,k,hm⟩:=h.dmap;have:=h.heap;rw [e,hm] at this;cases this
theorem av.cu (h:av w c L C):c≠L.um:=fun e=>by
 obtain ⟨es,k,hm⟩:=h.umap;have:=h.heap;rw [e,hm] at this;cases this
theorem av.below (h:av w c L C) (k:Below w.heap.size w w'):av w' c L C :=
 ⟨ah k h.heap (ae h.heap),h.log.below k,fun i hi=>Nat.lt_of_lt_of_le (h.lt i hi) k.size,h.dirty.below k,fun n v hv=>by
  obtain ⟨g,cap,bs,h1,h2,h3,h4,h5⟩:=h.bytes n v hv;exact ⟨g,cap,bs,h1,h2,fun j hj=>(k.cell (World.block_lt_of_cell? w _ (h3 j hj))).trans (h3 j hj),h4,h5⟩,h.clean,h.used.below k,h.offc,h.offd,h.offu,h.ne,h.pages,h.fits,h.few,h.ub⟩
theorem av.cells (h:av w c L C):w.cell? ⟨c,0,none⟩=some (.pointer (some ⟨L.p,0,none⟩))/\w.cell? ⟨c,1,none⟩=some (.map (some L.dm))/\w.cell? ⟨c,2,none⟩=some (.int .i64 C.most)/\w.cell? ⟨c,3,none⟩=some (.int .i64 C.uses)/\w.cell? ⟨c,4,none⟩=some (.map (some L.um)) :=
 ⟨aa h.heap 0,aa h.heap 1,aa h.heap 2,aa h.heap 3,aa h.heap 4⟩
def CS.dirtyKeys (C:CS):List Int:=((List.range C.N).map (fun k:Nat=>(k:Int))).filter (fun k=>(C.dirty k).isSome)
theorem av.some_iff (h:av w c L C) (n:Int):(L.dv n).isSome=(C.dirty n).isSome:=by
 cases hv:L.dv n with
 | none=>rw [h.clean n hv];rfl
 | some v=>obtain ⟨_,_,bs,h1,_⟩:=h.bytes n v hv;rw [h1];rfl
theorem av.keys (h:av w c L C):aB L.dv C.N=C.dirtyKeys:=by
 unfold aB CS.dirtyKeys;exact List.filter_congr (fun n _=>h.some_iff n)
end
end
section
open Go.RowKit Go.Maps
theorem ng (l:List UInt8) (ad:Addr) (c:Nat) (w:World) (hpos:0<l.length) (hn:l.length<=4096) (hb:az w ad l) :
  Calls Tryz.prog 182 #[.slice (some ad) l.length c] w fun e w'=>∃g cap,e = .returned (.slice (some ⟨g,0,none⟩) l.length cap)/\w'.ownsRow w.heap.size 5 1 (.slice (some ⟨g,0,none⟩) l.length cap) l.length (l.map U8)/\Below w.heap.size w w':=by
 obtain ⟨i0,hi,hz0,hz1,hz2⟩:=info_parts iE;have HI:=hid hi;have HX:Hid (∀j u,(l.map U8)[j]? = some u->w.cell? (ad.add j)=some u):=fun j u hu=>by
  have hj:j<l.length:=by simpa using (List.getElem?_eq_some_iff.1 hu).1
  rw [hb j hj];rw [List.getElem?_map,List.getElem?_eq_getElem hj] at hu;exact hu
 clear hi hb;go_enter Tryz.func182,Tryz.ntmps182;have hq:=fun W=>ga 76 _ ad l.length c Tryz.underlying76 W
 go_wp2_with (refine wpList_append_lies _ rfl (.tmp 5) (.tmp 6) 76 rfl w.heap.size 5 i0 (.int .u8 0) 1 1 Tryz.underlying76 HI.out hz0 hz1 hz2 rfl (by omega) (.slice (some ⟨w.heap.size,0,none⟩) 0 0) 0 [] rfl (World.ownsRow_lit w #[] 0 (Nat.le_refl _) (by simp) rfl) ad l.length c (l.map U8) rfl (by simp) (fun j u hu=>by rw [World.cell?_alloc_lt _ _ _ (World.block_lt_of_cell? w _ (HX.out j u hu))];exact HX.out j u hu) (by intro u hu;obtain ⟨x,_,rfl⟩:=List.mem_map.1 hu;rfl) hpos (by unfold maxLen;omega) (by omega) (by simp) (w.heap.size+1) (by simp) ?_;intro g cap w1 hown hgr hat hlt)
 go_ret;rw [List.nil_append,Nat.zero_add] at hown;refine ⟨g,cap,by simp,hown,?_⟩;exact ((Below.refl _ _).alloc (Nat.le_refl _) _).trans ⟨hgr.os,hgr.tape,hgr.output,hgr.size,fun k hk=>hgr.block k (by simp;omega) (by simp [Value.ownBlock];omega)⟩
theorem lI {w:World} {lo g n cap:Nat} {l:List UInt8} (h:w.ownsRow lo 5 1 (.slice (some ⟨g,0,none⟩) n cap) n (l.map U8)) (hl:l.length=n):az w ⟨g,0,none⟩ l:=fun j hj=>by
 rw [Addr.add_mid,Nat.zero_add,h.cellAt j (by omega),List.getElem?_map,List.getElem?_eq_getElem hj];rfl
section
variable {c um:Nat} {D:DataW Value} {N:Nat}
theorem kQ (val:Int->Option Value) (n:Int) (hn0 : -9223372036854775808<=n) (hn1:n<9223372036854775808) (w:World) (c4:w.cell? ⟨c,4,none⟩=some (.map (some um))) (h:bd w um 4096 D N val) :
  Calls Tryz.prog 183 #[.pointer (some ⟨c,2,none⟩),.int .i64 n] w fun e w'=>e = .returned (.tuple #[])/\∃D',bd w' um 4096 D' N (ma val n)/\w.grownBy w' (some um):=by
 have H:=hid h;clear h;go_enter Tryz.func183,Tryz.ntmps183
 go_wp2_with (refine ko rfl (.tmp 7) (.tmp 8) 105 rfl 3 Tryz.underlying105 rfl H.out n rfl hn0 hn1 ?_;intro w1 D1 hG1 hg1;have HG1:=hid hG1;have Hg1:=hid hg1;clear hG1 hg1)
 go_end0
 first | exact ⟨rfl,D1,HG1.out,Hg1.out⟩ | exact ⟨rfl,⟨D1,HG1.out⟩,Hg1.out⟩
def nk (u:Int->Option Nat) (x:Int):Prop:=∃k,u x=some k/\∀y j,u y=some j->k<=j
theorem sV {u:Int->Option Nat} {n:Int} {v:Value} (h:dd u n=some v):∃k:Nat,u n=some k/\v = .int .i64 (k:Int):=by
 unfold dd at h;cases hu:u n with
 | none=>rw [hu] at h;cases h
 | some k=>rw [hu] at h;exact ⟨k,rfl,(Option.some.inj h).symm⟩
def uA (u:Int->Option Nat) (uses:Nat) (left:Lit->Bool) (pg:Int) (fi:Nat):Prop :=
 (∀y j,u y=some j->left (.int .i64 y)=false->fi<=j)/\(fi=uses+1\/u pg=some fi)
theorem qW (u:Int->Option Nat) (uses:Nat) (hu:uses<=1000000) (hub:∀n k,u n=some k->k<=uses) (n0:Int) (hn0:(u n0).isSome) (w:World) (c3:w.cell? ⟨c,3,none⟩=some (.int .i64 uses)) (c4:w.cell? ⟨c,4,none⟩=some (.map (some um))) (h:bd w um 4096 D N (dd u)) :
  Calls Tryz.prog 245 #[.pointer (some ⟨c,2,none⟩)] w fun e w'=>∃x,e = .returned (.int .i64 x)/\nk u x/\Below w.heap.size w w':=by
 have H:=hid h;have HUb:=hid hub;have Hn0:=hid hn0;clear h hub hn0;have e1:IntKind.i64.wrap ((uses:Int)+1)=(uses:Int)+1:=IntWalk.i64_in _ (by omega);go_enter Tryz.func245,Tryz.ntmps245;go_wp2;refine wp_region_noPanic ?_;refine wp_region_held_drew (S:=fun W=>W.cell? ⟨c,3,none⟩=some (.int .i64 uses)) (by kernel_rfl) c3 (fun hHeld => ?_);refine tq 0 _ ?_
 try simp only [tS]
 refine tq 1 _ ?_
 try simp only [tS]
 refine tq 2 _ ?_
 try simp only [tS]
 refine tq 3 _ ?_
 try simp only [tS]
 refine tq 4 (.int .i64 ((uses:Int)+1)) ?_
 try simp only [tS]
 refine tq 5 _ ?_
 try simp only [tS]
 refine tq 6 _ ?_
 try simp only [tS]
 refine wpAnyH_done (by kernel_rfl) ?_ _;refine NoPanic.normal ?_;clear hHeld c3;have c4d:w.drew.cell? ⟨c,4,none⟩=some (.map (some um)):=c4;have HD:=hid (H.out.below (Below.refl _ w).drew);have HBd:Hid (Below w.heap.size w w.drew):=(Below.refl _ w).drew;clear c4;generalize w.drew=wd at *
 go_wp2_with (first
  | (at_range;refine wpList_range_own _ rfl (.tmp 15) 105 rfl 3 3 (int_keyed Tryz.underlying3) Tryz.underlying105 aE um 4096 D rfl HD.out.mapOwn ?_;intro w0 hrg0 hg0 hs0)
  | go_in)
 go_frame
 have hBg:Below wd.heap.size wd w0:=⟨hg0.os,hg0.tape,hg0.output,hg0.size,fun k hk=>hg0.block k hk (by simp)⟩;have HB0:Hid (Below w.heap.size w w0):=HBd.out.trans (hBg.mono HBd.out.size);have HRg0:=hid hrg0;have HOl0:Hid (uA u uses (Maps.has D) 0 (uses+1)):=⟨fun y j hy hl=>(by
  have:=H.out.there y (.int .i64 (j:Int)) (by simp [dd,hy]);rw [this] at hl;cases hl),.inl rfl⟩
 have hri0:w.heap.size<=wd.heap.size:=HBd.out.size;clear hrg0 hg0 hs0 hBg HD;generalize hri:wd.heap.size=ri at *;clear hri c4d
 go_loopw [3,4] (fun a b wr=>∃(left:Lit->Bool) (cnt:Nat) (pg:Int) (fi:Nat),a = .int .i64 pg/\b = .int .i64 (fi:Int)/\fi<=1000001/\Hid (wr.ranges Tryz.prog 3 aE um ri 4096 D left cnt)/\Hid (uA u uses left pg fi)/\Hid (Below w.heap.size w wr)) (fun _ _ wr=>wr.rangeLeft um ri)
 case atStart=>exact ⟨_,_,0,uses+1,rfl,by simp,by omega,HRg0,HOl0,HB0⟩
 case round =>
  obtain ⟨left,cnt,pg,fi,rfl,rfl,hfi,hrg,hOl,hBr⟩:=hrel;clear HRg0 HOl0 HB0
  go_wp2_with (first
   | (at_next;refine wpList_next_ranges _ rfl (.tmp 16) rfl 3 (int_keyed Tryz.underlying3) aE encZ id (fun key kl hk=>by obtain ⟨x,hx,_⟩:=Maps.keyOf_i64 Tryz.underlying3 hk;exact ⟨x,hx⟩) (fun v _ _=>⟨v,rfl⟩) um ri 4096 _ _ _ rfl hrg.out ?_ ?_)
   | go_in)
  ·-- nothing is left
   intro hc0 hl0;have HOa:Hid (nk u pg):=by
    obtain ⟨k0,hk0⟩:=Option.isSome_iff_exists.1 Hn0.out;have h1:=hOl.out.1 n0 k0 hk0 (hl0 _);have h2:=HUb.out n0 k0 hk0;rcases hOl.out.2 with e | e
    ·omega
    ·exact ⟨fi,e,fun y j hy=>hOl.out.1 y j hy (hl0 _)⟩
   clear hc0 hl0 hrg;go_wp2;go_ret;exact ⟨pg,rfl,HOa.out,hBr.out⟩
  ·-- one has come
   intro x cv kl yd yp w2 cnt2 hkey hlk hv hat hrg2 hlt hg2 hs2 hen;obtain ⟨x',ex,rfl,_⟩:=Maps.keyOf_i64 Tryz.underlying3 hkey;obtain rfl:x=x':=encZ_inj ex;have hsome:∃v,dd u x=some v:=by
    cases hv0:dd u x with
    | some v=>exact ⟨v,rfl⟩
    | none =>
     have h1:=H.out.absent x hv0;rw [has_true_of_atKey hat] at h1;cases h1
   obtain ⟨v,hvx⟩:=hsome;obtain ⟨k,hk,rfl⟩:=sV hvx;have hcv:cv = .int .i64 (k:Int):=by
    have e1:=eM hv;have e2:=hat (.held cv);rw [H.out.held x _ hvx] at e2;rw [e1] at e2;exact (DataW.held.inj e2).symm
   subst hcv;have hku:=HUb.out x k hk;have HRg2:=hid hrg2;have hKn:ac (fun i=>i=ri) wr w2:=ac.of_grown hg2 (fun i e=>(Option.some.inj e).symm);have HBr2:Hid (Below w.heap.size w w2):=hBr.out.trans (hKn.below hBr.out.size (fun i e=>by omega));have HLt:=hid hlt;have hsk:∀y,y≠x->(Lit.int .i64 y).sameKey (.int .i64 x)=false:=fun y e=>by simp [Lit.sameKey,e]
   by_cases hkf:k<fi
   ·have HO2:Hid (uA u uses (fun z=>left z && !z.sameKey (.int .i64 x)) x k):=⟨fun y j hy hl=>(by
     by_cases e:y=x
     ·subst e;rw [hk] at hy;have:=Option.some.inj hy;omega
     ·have:=hOl.out.1 y j hy (by simpa [hsk y e] using hl);omega),.inr hk⟩
    have hkf':(k:Int)<(fi:Int):=by omega
    clear hv hat hrg2 hg2 hs2 hKn hsk hvx hkf;go_wp2;refine ⟨⟨_,cnt2,x,k,rfl,rfl,by omega,HRg2,HO2,HBr2⟩,?_⟩;have h1:w2.rangeLeft um ri=cnt2:=HRg2.out.left_eq;rw [h1,hrg.out.left_eq];exact HLt.out
   ·have HO2:Hid (uA u uses (fun z=>left z && !z.sameKey (.int .i64 x)) pg fi):=⟨fun y j hy hl=>(by
     by_cases e:y=x
     ·subst e;rw [hk] at hy;have:=Option.some.inj hy;omega
     ·exact hOl.out.1 y j hy (by simpa [hsk y e] using hl)),hOl.out.2⟩
    have hkf':¬((k:Int)<(fi:Int)):=by omega
    clear hv hat hrg2 hg2 hs2 hKn hsk hvx hkf;go_wp2;refine ⟨⟨_,cnt2,pg,fi,rfl,rfl,hfi,HRg2,HO2,HBr2⟩,?_⟩;have h1:w2.rangeLeft um ri=cnt2:=HRg2.out.left_eq;rw [h1,hrg.out.left_eq];exact HLt.out
def iG (u:Int->Option Nat) (n:Int) (k:Nat):Int->Option Nat:=fun y=>if y=n then some k else u y
def od (u:Int->Option Nat) (n:Int):Int->Option Nat:=fun y=>if y=n then none else u y
theorem vk (u:Int->Option Nat) (n:Int) (k:Nat):cG (dd u) n (.int .i64 (k:Int))=dd (iG u n k):=by
 funext y;unfold cG dd iG;by_cases e:y=n <;> simp [e]
theorem ld (u:Int->Option Nat) (n:Int):ma (dd u) n=dd (od u n):=by
 funext y;unfold ma dd od;by_cases e:y=n <;> simp [e]
def kP (u:Int->Option Nat) (N:Nat):Nat:=(aB (dd u) N).length
def uL (u:Int->Option Nat) (most N k:Nat) (n:Int) (u':Int->Option Nat):Prop :=
 (kP (iG u n k) N<=most/\u'=iG u n k)\/(most<kP (iG u n k) N/\∃x,nk (iG u n k) x/\u'=od (iG u n k) x)
theorem uL.ub {u u':Int->Option Nat} {most N k:Nat} {n:Int} (h:uL u most N k n u') (hu:∀y j,u y=some j->j<=k):∀y j,u' y=some j->j<=k:=by
 have h1:∀y j,iG u n k y=some j->j<=k:=fun y j hy=>by
  unfold iG at hy
  split at hy
  ·have:=Option.some.inj hy;omega
  ·exact hu y j hy
 rcases h with ⟨_,rfl⟩ | ⟨_,x,_,rfl⟩
 ·exact h1
 ·intro y j hy;unfold od at hy
  split at hy
  ·cases hy
  ·exact h1 y j hy
theorem xB (u:Int->Option Nat) (a0 a1:Value) (t:TypeId) (most uses:Nat) (hu:uses<1000000) (hub:∀n k,u n=some k->k<=uses) (n:Int) (hn0:0<=n) (hn1:n<N) (hN:N<=4096) (w:World)
  (hc:w.heap[c]? = some (.cells #[a0,a1,.int .i64 most,.int .i64 uses,.map (some um)] t (0,0))) (h:bd w um 4096 D N (dd u)) :
  Calls Tryz.prog 223 #[.pointer (some ⟨c,2,none⟩),.int .i64 n] w fun e w'=>e = .returned (.tuple #[])/\∃u' D',w'.heap[c]? = some (.cells #[a0,a1,.int .i64 most,.int .i64 (uses+1:Nat),.map (some um)] t (0,0))/\bd w' um 4096 D' N (dd u')/\uL u most N (uses+1) n u'/\ac (fun i=>i=c\/i=um) w w':=by
 have c2:w.cell? ⟨c,2,none⟩=some (.int .i64 most):=aa hc 2;have c3:w.cell? ⟨c,3,none⟩=some (.int .i64 uses):=aa hc 3;have c4:w.cell? ⟨c,4,none⟩=some (.map (some um)):=aa hc 4;have f3:=ai hc 3;have e1:IntKind.i64.wrap ((uses:Int)+1)=(uses:Int)+1:=IntWalk.i64_in _ (by omega);have hcu:c≠um:=fun e=>by
  obtain ⟨es,k,hm⟩:=bt h.mapOwn;rw [e,hm] at hc;cases hc
 have hc1:=ap hc 3 (.int .i64 ((uses:Int)+1));have hK1:ac (fun i=>i=c) w (w.setCell ⟨c,3,none⟩ (.int .i64 ((uses:Int)+1))):=(ac.refl _ _).grown (ak (ar _ _) _ _) (fun i e => .inl (Option.some.inj e).symm);have HG1:=hid (h.keep hK1 (fun e=>hcu e.symm));have HK1:=hid hK1;have HC1:=hid hc1;have HUb:=hid hub;have hcl:=ae hc;clear hc h hK1 hub;go_enter Tryz.func223,Tryz.ntmps223;go_wp2;have d2:(w.setCell ⟨c,3,none⟩ (.int .i64 ((uses:Int)+1))).cell? ⟨c,2,none⟩=some (.int .i64 most):=aa hc1 2;have d3:(w.setCell ⟨c,3,none⟩ (.int .i64 ((uses:Int)+1))).cell? ⟨c,3,none⟩=some (.int .i64 ((uses:Int)+1)):=aa hc1 3;have d4:(w.setCell ⟨c,3,none⟩ (.int .i64 ((uses:Int)+1))).cell? ⟨c,4,none⟩=some (.map (some um)):=aa hc1 4;clear c2 c3 c4 f3 hc1;generalize w.setCell ⟨c,3,none⟩ (.int .i64 ((uses:Int)+1))=w1 at *;refine wp_region_noPanic ?_;refine wp_region_held_drew (S:=fun W=>W.cell? ⟨c,3,none⟩=some (.int .i64 ((uses:Int)+1))/\W.cell? ⟨c,4,none⟩=some (.map (some um))) (by kernel_rfl) ⟨d3,d4⟩ (fun hHeld => ?_);refine tq 0 _ ?_
 try simp only [tS]
 refine tq 1 _ ?_
 try simp only [tS]
 refine tq 2 _ ?_
 try simp only [tS]
 refine tq 3 _ ?_
 try simp only [tS]
 refine tq 4 _ ?_
 try simp only [tS]
 refine tq 5 _ ?_
 try simp only [tS]
 refine tq 6 _ ?_
 try simp only [tS]
 refine tq 7 _ ?_
 try simp only [tS]
 refine tq 8 _ ?_
 try simp only [tS]
 refine tr 9 (fun K hK => ?_);refine bh (.tmp 14) (.tmp 15) (.tmp 19) 105 rfl 3 3 (int_keyed Tryz.underlying3) Tryz.underlying105 um 4096 D rfl (HG1.out.below (Below.refl _ _).drew).mapOwn (by unfold maxLen;omega) (.int .i64 n) (.int .i64 ((uses:Int)+1)) (.int .i64 n) rfl rfl (ip (by omega) (by omega)) ?_;intro w2 hown2 hgr2;have hG2:=((HG1.out.below (Below.refl _ w1).drew).put hn0 hn1 hown2).norm hN;rw [show ((uses:Int)+1)=((uses+1:Nat):Int) by omega,vk] at hG2;have HG2:=hid hG2;have hK2:ac (fun i=>i=um) w1 w2:=(ac.of_below (Below.refl _ w1).drew).grown hgr2 (fun i e => .inl (Option.some.inj e).symm);have hc2:=hK2.heap HC1.out (fun e=>hcu e);have HC2:=hid hc2;have HK2:=hid ((HK1.out.mono (G:=fun i=>i=c\/i=um) (fun i e => .inl e)).trans hK2 (fun i e => .inl (.inr e)));have t2:w2.cell? ⟨c,2,none⟩=some (.int .i64 most):=aa hc2 2;have t3:w2.cell? ⟨c,3,none⟩=some (.int .i64 ((uses:Int)+1)):=aa hc2 3;have t4:w2.cell? ⟨c,4,none⟩=some (.map (some um)):=aa hc2 4;obtain ⟨M,hM⟩:∃M,M=kP (iG u n (uses+1)) N:=⟨_,rfl⟩;have hlen:∀ty,(Builtin.len_ #[105] ty #[.map (some um)]).run Tryz.prog w2.drew = .ok (.int .i64 (M:Int)) w2.drew:=fun ty=>by
  have:=(hG2.below (Below.refl _ w2).drew).mapOwn.len Tryz.underlying105 ty;rw [hG2.size] at this;rw [hM];exact this
 have HM:=hid hM;generalize hD2:D.put (Lit.int .i64 n) (.held (.int .i64 ((uses:Int)+1)))=D2 at *;clear hG2 hK2 hc2 hown2 hgr2 hD2 d2 d3 d4 HG1 HC1 hM HK1;refine hK.out _ _ ⟨t3,t4⟩ (fun hHeld => ?_);clear hK K;refine wpAnyH_done (by kernel_rfl) ?_ _;refine NoPanic.normal ?_;clear hHeld;have hMu:Hid (M<=4096):=by
  unfold Hid;rw [HM.out];exact Nat.le_trans (dQ _ _) hN
 have hM4:=hMu.out;by_cases hmm:most<M
 ·have hd:decide ((M:Int) > (most:Int))=true:=decide_eq_true (by omega);have hub2:∀y k,iG u n (uses+1) y=some k->k<=uses+1:=fun y k hy=>by
   unfold iG at hy
   split at hy
   ·have:=Option.some.inj hy;omega
   ·have:=HUb.out y k hy;omega
  have t3':w2.drew.cell? ⟨c,3,none⟩=some (.int .i64 (uses+1:Nat)):=t3;have HOl:=hid (qW (c:=c) (iG u n (uses+1)) (uses+1) (by omega) hub2 n (by simp [iG]) w2.drew t3' t4 (HG2.out.below (Below.refl _ _).drew));go_wp2;refine wp_region_noPanic ?_;refine wp_region_held_drew (S:=fun W=>W.cell? ⟨c,2,none⟩=some (.int .i64 most)/\W.cell? ⟨c,4,none⟩=some (.map (some um))/\∀ty,(Builtin.len_ #[105] ty #[.map (some um)]).run Tryz.prog W = .ok (.int .i64 (M:Int)) W) (by kernel_rfl) ⟨t2,t4,hlen⟩ (fun hHeld => ?_);refine tq 0 _ ?_
  try simp only [List.getElem_toArray,List.getElem_cons_zero,Act.put,List.setIfInBounds_toArray]
  refine tq 1 _ ?_
  try simp only [tS]
  refine tq 2 _ ?_
  try simp only [tS]
  refine tq 3 _ ?_
  try simp only [tS]
  refine tq 4 (.int .i64 (M:Int)) ?_
  try simp only [tS]
  refine tq 5 _ ?_
  try simp only [tS]
  refine tq 6 _ ?_
  try simp only [tS]
  refine tq 7 _ ?_
  try simp only [tS]
  refine tq 8 _ ?_
  try simp only [tS]
  refine tq 9 (.bool true) ?_
  try simp only [tS]
  refine wpAnyH_done (by kernel_rfl) ?_ _;refine NoPanic.normal ?_;clear hHeld
  go_wp2_with fail
  refine HOl.out.mono ?_;clear HOl;rintro e w3 ⟨x,rfl,hO3,hb3⟩;have hb23:Below w2.heap.size w2 w3:=(Below.refl _ w2).drew.trans (hb3.mono (Nat.le_refl _));have hG3:=HG2.out.below hb23;have HC3:=hid (ah hb23 HC2.out (ae HC2.out));have x4:w3.cell? ⟨c,4,none⟩=some (.map (some um)):=(hb23.cell (p:=⟨c,4,none⟩) (World.block_lt_of_cell? w2 _ t4)).trans t4;have HO3:=hid hO3;obtain ⟨xk,hxk,-⟩:=hO3;have hxd:=hG3.dom x (.int .i64 (xk:Int)) (by simp [dd,hxk]);have HDr:=hid (kQ (c:=c) (dd (iG u n (uses+1))) x (by omega) (by omega) w3 x4 hG3);have HK3:=hid (HK2.out.andBelow hb23);clear hb3 hb23 hG3
  go_wp2_with fail
  refine HDr.out.mono ?_;clear HDr;rintro e w4 ⟨rfl,D4,hG4,hg4⟩;rw [ld] at hG4;have HG4:=hid hG4;have hK34:ac (fun i=>i=um) w3 w4:=(ac.refl _ w3).grown hg4 (fun i e => .inl (Option.some.inj e).symm);have HC4:=hid (hK34.heap HC3.out (fun e=>hcu e));have HK4:=hid (HK3.out.trans hK34 (fun i e => .inl (.inr e)));clear hG4 hg4 hK34;go_wp2
  go_end0
  exact ⟨rfl,od (iG u n (uses+1)) x,D4,(by have h:=HC4.out;rw [show ((uses:Int)+1)=((uses+1:Nat):Int) by omega] at h;exact h),HG4.out,.inr ⟨by rw [<- HM.out];exact hmm,x,HO3.out,rfl⟩,HK4.out⟩
 ·have hd:decide ((M:Int) > (most:Int))=false:=decide_eq_false (by omega);go_wp2;refine wp_region_noPanic ?_;refine wp_region_held_drew (S:=fun W=>W.cell? ⟨c,2,none⟩=some (.int .i64 most)/\W.cell? ⟨c,4,none⟩=some (.map (some um))/\∀ty,(Builtin.len_ #[105] ty #[.map (some um)]).run Tryz.prog W = .ok (.int .i64 (M:Int)) W) (by kernel_rfl) ⟨t2,t4,hlen⟩ (fun hHeld => ?_);refine tq 0 _ ?_
  try simp only [List.getElem_toArray,List.getElem_cons_zero,Act.put,List.setIfInBounds_toArray]
  refine tq 1 _ ?_
  try simp only [tS]
  refine tq 2 _ ?_
  try simp only [tS]
  refine tq 3 _ ?_
  try simp only [tS]
  refine tq 4 (.int .i64 (M:Int)) ?_
  try simp only [tS]
  refine tq 5 _ ?_
  try simp only [tS]
  refine tq 6 _ ?_
  try simp only [tS]
  refine tq 7 _ ?_
  try simp only [tS]
  refine tq 8 _ ?_
  try simp only [tS]
  refine tq 9 (.bool false) ?_
  try simp only [tS]
  refine wpAnyH_done (by kernel_rfl) ?_ _;refine NoPanic.normal ?_;clear hHeld;go_wp2
  go_end0
  exact ⟨rfl,iG u n (uses+1),_,(by have h:=HC2.out;rw [show ((uses:Int)+1)=((uses+1:Nat):Int) by omega] at h;exact h),HG2.out.below (Below.refl _ _).drew,.inl ⟨by rw [<- HM.out];omega,rfl⟩,HK2.out.drew⟩
end
end
section
open Go.RowKit Go.Maps Go.Sort Go.Shelf
section
variable {c:Nat} {L:bM} {C:CS}
theorem xX (w:World) (h:av w c L C):Calls Tryz.prog 56 #[.pointer (some ⟨c,0,none⟩)] w fun e w'=>e = .returned (.pointer (some ⟨L.p,0,none⟩))/\w'=w:=by
 obtain ⟨c0,-⟩:=h.cells;clear h;go_enter Tryz.func56,Tryz.ntmps56;go_wp2;go_ret;exact ⟨rfl,rfl⟩
theorem oX (w:World) (h:av w c L C):Calls Tryz.prog 58 #[.pointer (some ⟨c,0,none⟩)] w fun e w'=>e = .returned (.int .i64 (((min C.size 100:Nat):Int)-(C.dirtyKeys.length:Int)))/\Below w.heap.size w w':=by
 obtain ⟨c0,c1,-⟩:=h.cells;have h4:=h.four;have hf:=h.fits;have hcl:=ae h.heap;have HCp:=hid (po w.drew (h.log.below (Below.refl _ w).drew) (by omega));have HLe:Hid (∀W,Below w.heap.size w W->∀ty,(Builtin.len_ #[104] ty #[.map (some L.dm)]).run Tryz.prog W = .ok (.int .i64 (C.dirtyKeys.length:Int)) W):=fun W hW ty=>by
  have:=(h.dirty.below hW).mapOwn.len Tryz.underlying104 ty;rw [h.dirty.size,h.keys] at this;exact this
 have hlen:=HLe.out w.drew (Below.refl _ w).drew;have hdk:C.dirtyKeys.length<=4096:=by rw [<- h.keys];exact Nat.le_trans (dQ _ _) h.pagesLe
 clear h;have hcp:min C.size 100<=100:=by omega
 generalize min C.size 100=cp at *;generalize C.dirtyKeys.length=dk at *;have e1:IntKind.i64.wrap ((cp:Int)-(dk:Int))=(cp:Int)-(dk:Int):=IntWalk.i64_in _ (by omega);go_enter Tryz.func58,Tryz.ntmps58;go_wp2;refine wp_region_noPanic ?_;refine wp_region_held_drew (S:=fun W=>W.cell? ⟨c,0,none⟩=some (.pointer (some ⟨L.p,0,none⟩))/\W.cell? ⟨c,1,none⟩=some (.map (some L.dm))/\∀ty,(Builtin.len_ #[104] ty #[.map (some L.dm)]).run Tryz.prog W = .ok (.int .i64 (dk:Int)) W) (by kernel_rfl) ⟨c0,c1,hlen⟩ (fun hHeld => ?_);refine tq 0 _ ?_
 try simp only [tS]
 refine tq 1 _ ?_
 try simp only [tS]
 refine tq 2 _ ?_
 try simp only [tS]
 refine tq 3 _ ?_
 try simp only [tS]
 refine tq 5 _ ?_
 try simp only [tS]
 refine tq 6 _ ?_
 try simp only [tS]
 refine tq 7 _ ?_
 try simp only [tS]
 refine tq 8 _ ?_
 try simp only [tS]
 refine tr 4 (fun K hK => ?_);go_simp;refine HCp.out.mono ?_;clear HCp;rintro e w2 ⟨rfl,hb2⟩;have hb:Below w.heap.size w w2:=(Below.refl _ w).drew.trans (hb2.mono (Nat.le_refl _));have HB:=hid hb;have d0:w2.cell? ⟨c,0,none⟩=some (.pointer (some ⟨L.p,0,none⟩)):=(hb.cell (p:=⟨c,0,none⟩) hcl).trans c0;have d1:w2.cell? ⟨c,1,none⟩=some (.map (some L.dm)):=(hb.cell (p:=⟨c,1,none⟩) hcl).trans c1;have d2:=HLe.out w2 hb;clear hb hb2 hlen
 go_wp2_with fail
 refine hK.out _ _ ⟨d0,d1,d2⟩ (fun hHeld => ?_);clear hK K
 try simp only [tS]
 refine tq 9 (.int .i64 (dk:Int)) ?_
 try simp only [tS]
 refine tq 10 (.int .i64 ((cp:Int)-(dk:Int))) ?_
 try simp only [tS]
 refine tq 11 _ ?_
 try simp only [tS]
 refine wpAnyH_done (by kernel_rfl) ?_ _;refine NoPanic.normal ?_;clear hHeld d0 d1 d2;go_wp2;go_ret;exact ⟨rfl,HB.out⟩
theorem mq (w:World) (h:av w c L C) :
  Calls Tryz.prog 44 #[.pointer (some ⟨c,0,none⟩)] w fun e w'=>∃v,e = .returned v/\w'.ownsRow w.heap.size 3 1 v C.dirtyKeys.length (C.dirtyKeys.map encZ)/\(v = .slice none 0 0 ↔ C.dirtyKeys=[])/\Below w.heap.size w w':=by
 obtain ⟨c0,c1,-⟩:=h.cells;have hke:=h.keys;refine (callsIn_wide (n:=6)).1 ?_;have hown:=h.dirty.mapOwn;have hbl:=hown.lt;have hsz:=hown.size_le;have hmax:Maps.size L.Dd<=maxLen:=by unfold maxLen;omega
 have hbytes:Maps.size L.Dd*8<=140737488355328:=by omega
 have hseq:SeqGives Fence.wide 2 Tryz.prog 169 #[.pointer (some ⟨w.heap.size,0,none⟩)] encZ (fun ss=>ss.Perm (intKeys L.Dd)) (Maps.size L.Dd) (w.alloc (.cells #[.map (some L.dm)] 104)) :=
  AnyZI.keys_gives (ρ := Tryz.keysB_ren) { Tryz.keysB with } Fence.wide _ trivial rfl (by omega) w.heap.size L.dm 4096 L.Dd _ (by simp) (by simp) (by
   obtain ⟨es,clock,hb,Ft,hs,hD⟩:=hown;exact ⟨es,clock,(Below.heap_alloc _ _ L.dm hbl).trans hb,Ft,hs,hD⟩)
 have cK:∀mb W,CallsIn Fence.wide 5 Tryz.prog 93 #[.map mb] W fun e w'=>e = .returned (.func (.func 169) #[] #[.pointer (some ⟨W.heap.size,0,none⟩)])/\w'=W.alloc (.cells #[.map mb] 104):=fun mb W=>AnyZI.keys_in Tryz.keysB Fence.wide 5 trivial rfl mb W;have cS:=AnyZI.sorted_in Tryz.sortedA Fence.wide 5 trivial trivial trivial trivial rfl (by omega) (xY _) (enters_of Tryz.func168 (by kernel_rfl) rfl) 169 #[.pointer (some ⟨w.heap.size,0,none⟩)] trivial (enters_of Tryz.func169 (by kernel_rfl) rfl) _ _ hmax hbytes _ hseq;change CallsIn _ _ Tryz.prog 92 _ _ _ at cS;have hfK:Fence.wide.fn 93:=trivial;have hfS:Fence.wide.fn 92:=trivial;have H:=hid h.dirty;have HKe:=hid hke;clear h hown hseq hsz hke;refine callsIn_of_wp Tryz.func44 rfl trivial ?_ rfl;simp only [Tryz.ntmps44,List.size_toArray,List.length_cons,List.length_nil,Nat.reduceAdd,Nat.reduceSub,Array.replicate_succ,Array.replicate_zero,List.push_toArray,List.append_toArray,List.nil_append,List.cons_append]
 gi_wp2_with (first
  | (gi_at_call 93;refine (cK _ _).mono ?_;rintro e w' ⟨rfl,rfl⟩)
  | (gi_at_call 92;refine cS.mono ?_;rintro e w' ⟨v,ss,rfl,hS,hrow,hnil,hb⟩))
 go_ret;have hk:=H.out.keys hS;rw [hk] at hrow;have hlen:ss.length=(aB L.dv C.N).length:=by rw [<- hk,List.length_mergeSort]
 rw [HKe.out] at hrow hlen;refine ⟨v,rfl,?_,?_,((Below.refl _ w).alloc (Nat.le_refl _) _).trans (hb.mono (by simp))⟩
 ·rw [<- hlen];exact ownsRow_base_a hrow (by simp)
 ·rw [hnil, <- List.length_eq_zero_iff,hlen,List.length_eq_zero_iff]
end
theorem yP (p:Nat) (d:DL) (S:aq) (size:Nat) (F:Nat->Prop) (most:Nat) (hm1:1<=most) (hm2:most<=64) (w:World) (h:bH w p d S size 0 F) (hF:∀i,F i->i<w.heap.size) (hs:size+1<=S.safe.length) :
  Calls Tryz.prog 19 #[.pointer (some ⟨p,0,none⟩),.int .i64 most] w fun e w'=>Below w.heap.size w w'/\∃c L,e = .returned (.tuple #[.pointer (some ⟨c,0,none⟩),.int .i64 0])/\w.heap.size<=c/\L.dv=(fun _=>none)/\L.F=F/\(∀i,L.foot c i->F i\/w.heap.size<=i)/\av w' c L ⟨S,size,pagesS S size,fun _=>none,most,0,fun _=>none⟩:=by
 have H:=hid h;have HF:=hid hF;clear h hF;have k1:(1:Int)<=(most:Int):=by omega
 have k2:(most:Int)<=64:=by omega
 have hmk:∀W:World,(Instr.makeMap 104 none).run Tryz.prog W = .ok (.map (some W.heap.size)) (W.alloc (.map #[] 0)):=fun W=>by kernel_rfl
 have hmk2:∀W:World,(Instr.makeMap 105 none).run Tryz.prog W = .ok (.map (some W.heap.size)) (W.alloc (.map #[] 0)):=fun W=>by kernel_rfl
 go_enter Tryz.func19,Tryz.ntmps19;go_wp2;go_returns;obtain ⟨-,-,m3,-⟩:=zc w (.map #[] 0) (.map #[] 0);have hB2:Below w.heap.size w ((w.alloc (.map #[] 0)).alloc (.map #[] 0)):=m3;have hB3:Below w.heap.size w (((w.alloc (.map #[] 0)).alloc (.map #[] 0)).alloc (.cells #[.pointer (some ⟨p,0,none⟩),.map (some w.heap.size),.int .i64 most,.int .i64 0,.map (some (w.heap.size+1))] 109)):=hB2.alloc hB2.size _;refine ⟨hB3,w.heap.size+2,⟨p,w.heap.size,w.heap.size+1,d,.map [],.map [],fun _=>none,F⟩,?_,by omega,rfl,rfl,?_,?_⟩
 ·simp
 ·rintro i (hi | hi | hi | hi)
  ·exact .inl hi
  ·exact .inr (by omega)
  ·exact .inr (by simp only at hi;omega)
  ·exact .inr (by simp only at hi;omega)
 ·obtain ⟨n1,n2,n3,-⟩:=Ag w (.map #[] 0) (.map #[] 0) (.cells #[.pointer (some ⟨p,0,none⟩),.map (some w.heap.size),.int .i64 most,.int .i64 0,.map (some (w.heap.size+1))] 109);exact {
   heap:=n3
   log:=H.out.below hB3
   lt:=fun i hi=>Nat.lt_of_lt_of_le (HF.out i hi) hB3.size
   dirty:=iD (eo (gn n1) (Nat.zero_le _)) _
   bytes:=fun n v hv=>(by cases hv)
   clean:=fun _ _=>rfl
   used:=iD (eo (gn n2) (Nat.zero_le _)) _
   offc:=fun hi=>(by have:=HF.out _ hi;omega)
   offd:=fun hi=>Nat.lt_irrefl _ (HF.out _ hi)
   offu:=fun hi=>absurd (HF.out _ hi) (show ¬(w.heap.size+1<w.heap.size) by omega)
   ne:=Nat.ne_of_lt (Nat.lt_succ_self _)
   pages:=rfl
   fits:=hs
   few:=Nat.zero_le _
   ub:=fun n u hu=>(by cases hu) }
end
section
open Go.RowKit
theorem bq.keepN {w w':World} {d:DL} {S:aq} {F G:Nat->Prop} (h:bq w d S F) (hF:∀i,F i->¬G i) (hop:∀ad o,w.cell? ad=some (cO o)->¬G ad.block) (hst:∀ad s,w.cell? ad=some (.string s)->¬G ad.block) (k:ac G w w'):bq w' d S F:=by
 rcases h with ⟨h,hf⟩ | ⟨h,hf⟩
 ·refine .inl ⟨?_,hf⟩;have hne:∀i,d.cutFoot S.waits i->¬G i:=fun i hi=>hF i (hf i hi);obtain ⟨h1,⟨a,e1,e2,e3⟩,⟨ad,c,e4,e5,e6⟩,h4⟩:=h;refine ⟨h1.keep k (hne _ (.inl rfl)) (fun i hi=>hne i (.inr hi)),⟨a,e1,e2,fun q hq=>⟨fun j u hu => ?_,Nat.lt_of_lt_of_le (e3 q hq).2 k.size⟩⟩,⟨ad,c,e4,fun j s hj => ?_,e6⟩,h4⟩
  ·have hc:=(e3 q hq).1 j u hu;rw [List.getElem?_map] at hu;cases ho:S.ops[j]? with
   | none=>rw [ho] at hu;cases hu
   | some o =>
    rw [ho] at hu;obtain rfl:=Option.some.inj hu;exact k.cell hc (hop _ o hc)
  ·exact k.cell (e5 j s hj) (hst _ _ (e5 j s hj))
 ·refine .inr ⟨?_,hf⟩;have hne:∀i,d.foot S.waits i->¬G i:=fun i hi=>hF i (hf i hi);refine h.keep k hne (fun i hi e => ?_);obtain ⟨ad,c,e4,e5,e6⟩:=h.first;have hpos:0<S.first.length:=by rw [h.flen];exact h.plates.pos
  have hc:=e5 0 S.first[0] (List.getElem?_eq_getElem hpos);have h1:=hst _ _ hc;rw [aJ] at h1;rw [e4] at hi;exact h1 ((Option.some.inj hi).symm ▸ e)
theorem bH.keepN {w w':World} {p:Nat} {d:DL} {S:aq} {size rec:Nat} {F G:Nat->Prop} (h:bH w p d S size rec F) (hp:¬G p) (hF:∀i,F i->¬G i) (hop:∀ad o,w.cell? ad=some (cO o)->¬G ad.block) (hst:∀ad s,w.cell? ad=some (.string s)->¬G ad.block) (k:ac G w w'):bH w' p d S size rec F :=
 ⟨k.heap h.heap hp,h.disk.keepN hF hop hst k,h.off⟩
theorem ry {w:World} {b:Nat} {es:Array MapEntry} {c:Nat} (h:w.heap[b]? = some (.map es c)) {ad:Addr} {v:Value} (hc:w.cell? ad=some v):ad.block≠b:=fun e=>by
 have hp:=ef hc;rw [hp,e] at hc;simp [World.cell?,h] at hc
end
section
open Go.RowKit Go.Maps
section
variable {w w':World} {c:Nat} {L:bM} {C:CS} {G:Nat->Prop}
theorem av.out (h:av w c L C) (hG:∀i,G i->i=c\/i=L.dm\/i=L.um) {ad:Addr} {v:Value} (hc:w.cell? ad=some v) (h1:∀x,v ≠ .pointer x) (h2:∀x,v ≠ .map x) (h3:∀x,v ≠ .int .i64 x):¬G ad.block:=fun hg=>by
 obtain ⟨es,k,hd⟩:=h.dmap;obtain ⟨es',k',hu⟩:=h.umap;rcases hG _ hg with e | e | e
 ·have hp:=ef hc;rw [hp,e,aa h.heap] at hc
  match ad.off,hc with
  | 0,hc=>simp at hc;exact h1 _ hc.symm
  | 1,hc=>simp at hc;exact h2 _ hc.symm
  | 2,hc=>simp at hc;exact h3 _ hc.symm
  | 3,hc=>simp at hc;exact h3 _ hc.symm
  | 4,hc=>simp at hc;exact h2 _ hc.symm
  | (n+5),hc=>simp at hc
 ·exact ry hd hc e
 ·exact ry hu hc e
theorem av.logKeep (h:av w c L C) (hG:∀i,G i->i=c\/i=L.dm\/i=L.um) (k:ac G w w'):bH w' L.p L.d C.S C.size 0 L.F:=by
 obtain ⟨es,kk,hd⟩:=h.dmap;obtain ⟨es',kk',hu⟩:=h.umap;refine h.log.keepN (fun hg => ?_) (fun i hi hg => ?_) (fun ad o hc=>h.out hG hc (fun x=>by cases o <;> simp [cO]) (fun x=>by cases o <;> simp [cO]) (fun x=>by cases o <;> simp [cO])) (fun ad s hc=>h.out hG hc (fun x=>by simp) (fun x=>by simp) (fun x=>by simp)) k
 ·have hp:=h.log.heap;rcases hG _ hg with e | e | e
  ·rw [e,h.heap] at hp;simp only [Option.some.injEq,Obj.cells.injEq] at hp;exact absurd hp.2.1 (by decide)
  ·rw [e,hd] at hp;cases hp
  ·rw [e,hu] at hp;cases hp
 ·rcases hG _ hg with e | e | e
  ·subst e;exact h.offc hi
  ·subst e;exact h.offd hi
  ·subst e;exact h.offu hi
theorem av.bytesKeep (h:av w c L C) (hG:∀i,G i->i=c\/i=L.dm\/i=L.um) (k:ac G w w'):∀n v,L.dv n=some v->∃g cap bs,C.dirty n=some bs/\v = .slice (some ⟨g,0,none⟩) 512 cap/\az w' ⟨g,0,none⟩ bs/\bs.length=512/\¬L.F g:=fun n v hv=>by
 obtain ⟨g,cap,bs,h1,h2,h3,h4,h5⟩:=h.bytes n v hv;exact ⟨g,cap,bs,h1,h2,fun j hj=>k.cell (h3 j hj) (h.out hG (h3 j hj) (fun x=>by simp) (fun x=>by simp) (fun x=>by simp)),h4,h5⟩
theorem av.use {n:Int} (h:av w c L C) {u':Int->Option Nat} {D':DataW Value} (hc:w'.heap[c]? = some (.cells #[.pointer (some ⟨L.p,0,none⟩),.map (some L.dm),.int .i64 C.most,.int .i64 (C.uses+1:Nat),.map (some L.um)] 109 (0,0))) (hU:bd w' L.um 4096 D' C.N (dd u')) (hT:uL C.used C.most C.N (C.uses+1) n u') (hk:ac (fun i=>i=c\/i=L.um) w w') (hu:C.uses<1000000) :
  av w' c { L with Du:=D' } { C with uses:=C.uses+1,used:=u' } where
 heap:=hc
 log:=h.logKeep (fun _ hi=>hi.elim .inl (fun e => .inr (.inr e))) hk
 lt:=fun i hi=>Nat.lt_of_lt_of_le (h.lt i hi) hk.size
 dirty:=h.dirty.keep hk (fun e=>e.elim (fun e=>h.cd e.symm) (fun e=>h.ne e))
 bytes:=h.bytesKeep (fun _ hi=>hi.elim .inl (fun e => .inr (.inr e))) hk
 clean:=h.clean
 used:=hU
 offc:=h.offc
 offd:=h.offd
 offu:=h.offu
 ne:=h.ne
 pages:=h.pages
 fits:=h.fits
 few:=hu
 ub:=hT.ub (fun y j hy=>Nat.le_succ_of_le (h.ub y j hy))
end
section
variable {c:Nat} {L:bM} {C:CS}
def iA (f:Int->Option (List UInt8)) (n:Int) (l:List UInt8):Int->Option (List UInt8):=fun k=>if k=n then some l else f k
theorem av.wrote {w w1 w2 w3:World} (h:av w c L C) {n:Int} {l:List UInt8} {g cap:Nat} {Dd Du:DataW Value} (hl:l.length=512) (hb1:Below w.heap.size w w1) (hrow:w1.ownsRow w.heap.size 5 1 (.slice (some ⟨g,0,none⟩) 512 cap) 512 (l.map U8)) (hd:bd w2 L.dm 4096 Dd C.N (cG L.dv n (.slice (some ⟨g,0,none⟩) 512 cap))) (hk2:ac (fun i=>i=L.dm) w1 w2) (hu:bd w3 L.um 4096 Du C.N (dd (od C.used n))) (hk3:ac (fun i=>i=L.um) w2 w3) :
  av w3 c { L with dv:=cG L.dv n (.slice (some ⟨g,0,none⟩) 512 cap),Dd:=Dd,Du:=Du } { C with dirty:=iA C.dirty n l,used:=od C.used n }:=by
 have h1:=h.below hb1;have hk13:ac (fun i=>i=L.dm\/i=L.um) w1 w3:=(hk2.mono (G:=fun i=>i=L.dm\/i=L.um) (fun i e => .inl e)).trans hk3 (fun i e => .inl (.inr e));have hG:∀i,(i=L.dm\/i=L.um)->i=c\/i=L.dm\/i=L.um:=fun i hi => .inr hi;have hby:=lI hrow hl;obtain ⟨hg1,hg2⟩:=hrow.lt g rfl;exact {
  heap:=hk13.heap h1.heap (fun e=>e.elim h.cd h.cu)
  log:=h1.logKeep hG hk13
  lt:=fun i hi=>Nat.lt_of_lt_of_le (h1.lt i hi) hk13.size
  dirty:=hd.keep hk3 (fun e=>h.ne e)
  bytes:=fun k v hv=>by
   by_cases e:k=n
   ·subst e;simp only [cG,if_true,Option.some.injEq] at hv;refine ⟨g,cap,l,by simp [iA],hv.symm,fun j hj=>hk13.cell (hby j hj) (h1.out hG (hby j hj) (fun x=>by simp) (fun x=>by simp) (fun x=>by simp)),hl,fun hf => ?_⟩;have:=h.lt g hf;omega
   ·have hv':L.dv k=some v:=by simpa [cG,e] using hv
    obtain ⟨g',cap',bs,a1,a2,a3,a4,a5⟩:=h1.bytesKeep hG hk13 k v hv';exact ⟨g',cap',bs,by simpa [iA,e] using a1,a2,a3,a4,a5⟩
  clean:=fun k hk=>by
   by_cases e:k=n
   ·subst e;simp [cG] at hk
   ·simp only [iA,if_neg e];exact h.clean k (by simpa [cG,e] using hk)
  used:=hu
  offc:=h.offc
  offd:=h.offd
  offu:=h.offu
  ne:=h.ne
  pages:=h.pages
  fits:=h.fits
  few:=h.few
  ub:=fun y j hy=>by
   simp only [od] at hy
   split at hy
   ·cases hy
   ·exact h.ub y j hy }
def yt (w w':World) (c:Nat) (L:bM) (C:CS) (n:Nat) (l:List UInt8) (e:Ending):Prop :=
 e = .returned (.int .i64 0)/\∃g cap Dd Du,w.heap.size<=g/\av w' c { L with dv:=cG L.dv n (.slice (some ⟨g,0,none⟩) 512 cap),Dd:=Dd,Du:=Du } { C with dirty:=iA C.dirty n l,used:=od C.used n }/\ac (fun i=>i=L.dm\/i=L.um) w w'
theorem u0 (n:Nat) (l:List UInt8) (ad:Addr) (cp:Nat) (w:World) (h:av w c L C) (hn:n<C.N) (hl:l.length=512) (hb:az w ad l) (hr:(C.dirty n).isSome\/C.dirtyKeys.length<min C.size 100) :
  Calls Tryz.prog 120 #[.pointer (some ⟨c,0,none⟩),.int .i64 n,.slice (some ad) 512 cp] w fun e w'=>yt w w' c L C n l e:=by
 obtain ⟨c0,c1,-,-,c4⟩:=h.cells;have H:=hid h;have hcl:=ae h.heap;have hpg:=oO w h.log h.fits;rw [<- h.pages] at hpg;have HPg:=hid hpg;have hN:=h.pagesLe;have HRm:=hid (fun W (hW:Below w.heap.size w W)=>oX W (h.below hW));have hb':∀W,Below w.heap.size w W->az W ad l:=fun W hW j hj=>(hW.cell (World.block_lt_of_cell? w _ (hb j hj))).trans (hb j hj);have HCl:Hid (∀W,Below w.heap.size w W->Calls Tryz.prog 182 #[.slice (some ad) 512 cp] W fun e w'=>∃g cap,e = .returned (.slice (some ⟨g,0,none⟩) 512 cap)/\w'.ownsRow W.heap.size 5 1 (.slice (some ⟨g,0,none⟩) 512 cap) 512 (l.map U8)/\Below W.heap.size W w'):=fun W hW=>by
  have:=ng l ad cp W (by omega) (by omega) (hb' W hW);rw [hl] at this;exact this
 have HL:=hid hl;have hsi:=h.some_iff (n:Int);have HC:Hid (∀W,Below w.heap.size w W->W.cell? ⟨c,0,none⟩=some (.pointer (some ⟨L.p,0,none⟩))/\W.cell? ⟨c,1,none⟩=some (.map (some L.dm))/\W.cell? ⟨c,4,none⟩=some (.map (some L.um))):=fun W hW=>by
  obtain ⟨x0,x1,-,-,x4⟩:=(h.below hW).cells;exact ⟨x0,x1,x4⟩
 clear h hpg hb hb' hl;have hn0:¬((n:Int)<0):=by omega
 have hn1:¬((n:Int) ≥ (C.N:Int)):=by omega
 have hn2:(n:Int)<9223372036854775808:=by omega
 have hn3:(-9223372036854775808:Int)<=(n:Int):=by omega
 have HN4:=hid hN;have HN5:=hid hn;have HCl0:=hid hcl;clear hn2 hn3 hN hn hcl;cases hdv:L.dv (n:Int) with
 | some v =>
  have HDv:=hid hdv;clear hdv hr hsi;go_enter Tryz.func120,Tryz.ntmps120
  go_wp2_with fail
  refine HPg.out.mono ?_;clear HPg;rintro e w1 ⟨rfl,hb1⟩;have HB1:=hid hb1;have HD1:=hid (H.out.dirty.below hb1);obtain ⟨d0,d1,-⟩:=HC.out w1 hb1;clear hb1 c0 c1 c4
  go_wp2_with (first
   | (at_lookup;refine cE rfl (.tmp 29) (.tmp 30) 104 rfl 76 Tryz.underlying104 (Tryz.zeroValue76 _) rfl HD1.out (n:Int) rfl (by omega) (by have:=HN4.out;have:=HN5.out;omega) v true (by rw [HDv.out];rfl) (by rw [HDv.out];rfl) ?_)
   | fail)
  clear d0 d1;obtain ⟨y0,y1,y4⟩:=HC.out w1 HB1.out;have HK0:=hid (HCl.out w1.drew HB1.out.drew);go_wp2;refine wp_region_noPanic ?_;refine wp_region_held_drew (S:=fun W=>W.cell? ⟨c,1,none⟩=some (.map (some L.dm))) (by kernel_rfl) y1 (fun hHeld => ?_);refine tq 0 _ ?_
  try simp only [tS]
  refine tq 1 _ ?_
  try simp only [tS]
  refine tq 2 _ ?_
  try simp only [tS]
  refine tq 3 _ ?_
  try simp only [tS]
  refine tq 4 _ ?_
  try simp only [tS]
  refine tq 5 _ ?_
  try simp only [tS]
  refine tr 6 (fun K hK => ?_);go_simp;refine HK0.out.mono ?_;clear HK0;rintro e w3 ⟨g,cap,rfl,hrow,hb3⟩;have hB3:Below w.heap.size w w3:=HB1.out.drew.trans (hb3.mono HB1.out.drew.size);have H3:=hid (H.out.below hB3);have HRw:=hid (World.ownsRow.mono hrow HB1.out.drew.size);have HB3:=hid hB3;obtain ⟨z0,z1,z4⟩:=HC.out w3 hB3;clear hb3 hrow hB3 y0 y1 y4
  go_wp2_with fail
  refine hK.out _ _ z1 (fun hHeld => ?_);clear hK K
  try simp only [tS]
  refine tr 7 (fun K hK => ?_);refine bh (.tmp 44) (.tmp 45) (.tmp 47) 104 rfl 3 76 (int_keyed Tryz.underlying3) Tryz.underlying104 L.dm 4096 L.Dd rfl H3.out.dirty.mapOwn (by unfold maxLen;omega) (.int .i64 (n:Int)) (.slice (some ⟨g,0,none⟩) 512 cap) (.int .i64 (n:Int)) rfl rfl (ip (by omega) (by have:=HN4.out;have:=HN5.out;omega)) ?_;intro w4 hown4 hgr4;have HG4:=hid ((H3.out.dirty.put (by omega) (by have:=HN5.out;omega) hown4).norm HN4.out);have hK34:ac (fun i=>i=L.dm) w3 w4:=(ac.refl _ w3).grown hgr4 (fun i e => .inl (Option.some.inj e).symm);have HK34:=hid hK34;have x1:w4.cell? ⟨c,1,none⟩=some (.map (some L.dm)):=hK34.cell (ad:=⟨c,1,none⟩) z1 (fun e=>H.out.cd e);have x4:w4.cell? ⟨c,4,none⟩=some (.map (some L.um)):=hK34.cell (ad:=⟨c,4,none⟩) z4 (fun e=>H.out.cd e);have HU4:=hid (H3.out.used.keep hK34 (fun e=>H.out.ne e.symm));have HDr:=hid (kQ (c:=c) (dd C.used) (n:Int) (by omega) (by have:=HN4.out;have:=HN5.out;omega) w4 x4 HU4.out);clear hown4 hgr4 hK34 z0 z1 z4;refine hK.out _ _ x1 (fun hHeld => ?_);clear hK K;refine wpAnyH_done (by kernel_rfl) ?_ _;refine NoPanic.normal ?_;clear hHeld x1 x4
  go_wp2_with fail
  refine HDr.out.mono ?_;clear HDr;rintro e w5 ⟨rfl,D5,hG5,hg5⟩;rw [ld] at hG5;have hK45:ac (fun i=>i=L.um) w4 w5:=(ac.refl _ w4).grown hg5 (fun i e => .inl (Option.some.inj e).symm);have HC5:=hid (H.out.wrote HL.out HB3.out HRw.out HG4.out HK34.out hG5 hK45);have HK5:Hid (ac (fun i=>i=L.dm\/i=L.um) w w5):=((ac.of_below HB3.out).trans HK34.out (fun i e => .inl (.inl e))).trans hK45 (fun i e => .inl (.inr e));have HGe:Hid (w.heap.size<=g):=(HRw.out.lt g rfl).1;clear hG5 hg5 hK45;go_wp2;go_ret;exact ⟨rfl,g,cap,_,D5,HGe.out,HC5.out,HK5.out⟩
 | none =>
  have HDv:=hid hdv;have hdk:C.dirtyKeys.length<min C.size 100:=by
   rcases hr with h1 | h1
   ·rw [hdv] at hsi;rw [<- hsi] at h1;cases h1
   ·exact h1
  clear hdv hr hsi;have hcp:min C.size 100<=100:=by omega
  generalize min C.size 100=cpp at *;generalize C.dirtyKeys.length=dk at *;have hne:((cpp:Int)-(dk:Int)==0)=false:=beq_eq_false_iff_ne.2 (by omega);have hne':¬((cpp:Int)-(dk:Int)=0):=by omega
  go_enter Tryz.func120,Tryz.ntmps120
  go_wp2_with fail
  refine HPg.out.mono ?_;clear HPg;rintro e w1 ⟨rfl,hb1⟩;have HB1:=hid hb1;have HD1:=hid (H.out.dirty.below hb1);obtain ⟨d0,d1,-⟩:=HC.out w1 hb1;have HR1:=hid (HRm.out w1 hb1);clear hb1 c0 c1 c4 HRm
  go_wp2_with (first
   | (at_lookup;refine cE rfl (.tmp 29) (.tmp 30) 104 rfl 76 Tryz.underlying104 (Tryz.zeroValue76 _) rfl HD1.out (n:Int) rfl (by omega) (by have:=HN4.out;have:=HN5.out;omega) (.slice none 0 0) false (by rw [HDv.out];rfl) (by rw [HDv.out];rfl) ?_)
   | fail)
  refine HR1.out.mono ?_;clear HR1;rintro e w2 ⟨rfl,hb2⟩;have HB2:=hid (HB1.out.trans (hb2.mono HB1.out.size));clear hb2 d0 d1;obtain ⟨y0,y1,y4⟩:=HC.out w2 HB2.out;have HK0:=hid (HCl.out w2.drew HB2.out.drew);go_wp2;refine wp_region_noPanic ?_;refine wp_region_held_drew (S:=fun W=>W.cell? ⟨c,1,none⟩=some (.map (some L.dm))) (by kernel_rfl) y1 (fun hHeld => ?_);refine tq 0 _ ?_
  try simp only [tS]
  refine tq 1 _ ?_
  try simp only [tS]
  refine tq 2 _ ?_
  try simp only [tS]
  refine tq 3 _ ?_
  try simp only [tS]
  refine tq 4 _ ?_
  try simp only [tS]
  refine tq 5 _ ?_
  try simp only [tS]
  refine tr 6 (fun K hK => ?_);go_simp;refine HK0.out.mono ?_;clear HK0;rintro e w3 ⟨g,cap,rfl,hrow,hb3⟩;have hB3:Below w.heap.size w w3:=HB2.out.drew.trans (hb3.mono HB2.out.drew.size);have H3:=hid (H.out.below hB3);have HRw:=hid (World.ownsRow.mono hrow HB2.out.drew.size);have HB3:=hid hB3;obtain ⟨z0,z1,z4⟩:=HC.out w3 hB3;clear hb3 hrow hB3 y0 y1 y4
  go_wp2_with fail
  refine hK.out _ _ z1 (fun hHeld => ?_);clear hK K
  try simp only [tS]
  refine tr 7 (fun K hK => ?_);refine bh (.tmp 44) (.tmp 45) (.tmp 47) 104 rfl 3 76 (int_keyed Tryz.underlying3) Tryz.underlying104 L.dm 4096 L.Dd rfl H3.out.dirty.mapOwn (by unfold maxLen;omega) (.int .i64 (n:Int)) (.slice (some ⟨g,0,none⟩) 512 cap) (.int .i64 (n:Int)) rfl rfl (ip (by omega) (by have:=HN4.out;have:=HN5.out;omega)) ?_;intro w4 hown4 hgr4;have HG4:=hid ((H3.out.dirty.put (by omega) (by have:=HN5.out;omega) hown4).norm HN4.out);have hK34:ac (fun i=>i=L.dm) w3 w4:=(ac.refl _ w3).grown hgr4 (fun i e => .inl (Option.some.inj e).symm);have HK34:=hid hK34;have x1:w4.cell? ⟨c,1,none⟩=some (.map (some L.dm)):=hK34.cell (ad:=⟨c,1,none⟩) z1 (fun e=>H.out.cd e);have x4:w4.cell? ⟨c,4,none⟩=some (.map (some L.um)):=hK34.cell (ad:=⟨c,4,none⟩) z4 (fun e=>H.out.cd e);have HU4:=hid (H3.out.used.keep hK34 (fun e=>H.out.ne e.symm));have HDr:=hid (kQ (c:=c) (dd C.used) (n:Int) (by omega) (by have:=HN4.out;have:=HN5.out;omega) w4 x4 HU4.out);clear hown4 hgr4 hK34 z0 z1 z4;refine hK.out _ _ x1 (fun hHeld => ?_);clear hK K;refine wpAnyH_done (by kernel_rfl) ?_ _;refine NoPanic.normal ?_;clear hHeld x1 x4
  go_wp2_with fail
  refine HDr.out.mono ?_;clear HDr;rintro e w5 ⟨rfl,D5,hG5,hg5⟩;rw [ld] at hG5;have hK45:ac (fun i=>i=L.um) w4 w5:=(ac.refl _ w4).grown hg5 (fun i e => .inl (Option.some.inj e).symm);have HC5:=hid (H.out.wrote HL.out HB3.out HRw.out HG4.out HK34.out hG5 hK45);have HK5:Hid (ac (fun i=>i=L.dm\/i=L.um) w w5):=((ac.of_below HB3.out).trans HK34.out (fun i e => .inl (.inl e))).trans hK45 (fun i e => .inl (.inr e));have HGe:Hid (w.heap.size<=g):=(HRw.out.lt g rfl).1;clear hG5 hg5 hK45;go_wp2;go_ret;exact ⟨rfl,g,cap,_,D5,HGe.out,HC5.out,HK5.out⟩
end
end
section
open Go.RowKit Go.Maps
theorem sD {w:World} {m:Nat} {es:Array MapEntry} {clock:Nat} (hb:w.heap[m]? = some (.map es clock)):∃w',(∀ty,(Builtin.clear_ #[104] ty #[.map (some m)]).run Tryz.prog w = .ok (.tuple #[]) w')/\w'.heap[m]? = some (.map #[] clock)/\w.grownBy w' (some m):=by
 refine ⟨{ w with heap:=w.heap.setIfInBounds m (.map #[] clock) },fun ty => ?_,?_,⟨rfl,rfl,rfl,by simp,fun k _ hk => ?_⟩⟩
 ·simp [Builtin.clear_,run_underlying Tryz.underlying104,MapKept.run_getObj_map hb,MapKept.run_setObj_map _ hb,Result.andThen]
 ·simp [ae hb]
 ·have hne:m≠k:=fun e=>hk (by rw [e]);simp [hne]
section
variable {w w':World} {c:Nat} {L:bM} {C:CS}
theorem av.cleared (h:av w c L C) {clock:Nat} (hm:w'.heap[L.dm]? = some (.map #[] clock)) (hg:w.grownBy w' (some L.dm)):av w' c { L with Dd := .map [],dv:=fun _=>none } { C with dirty:=fun _=>none }:=by
 have hk:ac (fun i=>i=L.dm) w w':=(ac.refl _ w).grown hg (fun i e => .inl (Option.some.inj e).symm);have hG:∀i,i=L.dm->i=c\/i=L.dm\/i=L.um:=fun i e => .inr (.inl e);exact {
  heap:=hk.heap h.heap (fun e=>h.cd e)
  log:=h.logKeep hG hk
  lt:=fun i hi=>Nat.lt_of_lt_of_le (h.lt i hi) hk.size
  dirty:=iD (eo (C:=4096) ⟨#[],clock,hm,⟨by simp,MapKept.stamped_empty _,by simp⟩,Nat.le_refl _,rfl⟩ (Nat.zero_le _)) _
  bytes:=fun n v hv=>(by cases hv)
  clean:=fun _ _=>rfl
  used:=h.used.keep hk (fun e=>h.ne e.symm)
  offc:=h.offc
  offd:=h.offd
  offu:=h.offu
  ne:=h.ne
  pages:=h.pages
  fits:=h.fits
  few:=h.few
  ub:=h.ub }
end
section
variable {w w':World} {c:Nat} {L:bM} {C:CS}
theorem av.committed (h:av w c L C) {S':aq} {d':DL} {F':Nat->Prop} (hlog:bH w' L.p d' S' C.size 0 F') (hk:ac L.F w w') (hF:∀i,F' i->L.F i\/(w.heap.size<=i/\i<w'.heap.size)) (hS:S'.safe.length=C.S.safe.length):av w' c { L with d:=d',F:=F' } { C with S:=S' }:=by
 have hoff:∀i,i<w.heap.size->¬L.F i->¬F' i:=fun i h1 h2 h3=>by
  rcases hF i h3 with h4 | h4
  ·exact h2 h4
  ·omega
 obtain ⟨es,kk,hd⟩:=h.dmap;obtain ⟨es',kk',hu⟩:=h.umap;exact {
  heap:=hk.heap h.heap h.offc
  log:=hlog
  lt:=fun i hi=>by
   rcases hF i hi with h4 | h4
   ·exact Nat.lt_of_lt_of_le (h.lt i h4) hk.size
   ·exact h4.2
  dirty:=h.dirty.keep hk h.offd
  bytes:=fun n v hv=>by
   obtain ⟨g,cap,bs,a1,a2,a3,a4,a5⟩:=h.bytes n v hv;have hlt:g<w.heap.size:=World.block_lt_of_cell? w _ (a3 0 (by omega));exact ⟨g,cap,bs,a1,a2,fun j hj=>hk.cell (a3 j hj) (by rw [aJ];exact a5),a4,hoff g hlt a5⟩
  clean:=h.clean
  used:=h.used.keep hk h.offu
  offc:=hoff c (ae h.heap) h.offc
  offd:=hoff _ (ae hd) h.offd
  offu:=hoff _ (ae hu) h.offu
  ne:=h.ne
  pages:=by rw [h.pages];simp only [pagesS,hS]
  fits:=by rw [show ({ C with S:=S' }:CS).S.safe.length=C.S.safe.length from hS];exact h.fits
  few:=h.few
  ub:=h.ub }
end
def CS.com (C:CS):aq:=if C.dirtyKeys=[] then C.S else bB C.S C.size (fun n=>(C.dirty n).getD []) C.dirtyKeys
def bM.page (L:bM) (n:Int):bA:=match L.dv n with
 | some (.slice a l c)=>⟨n,a,l,c⟩
 | _=>⟨n,none,0,0⟩
def bM.ps (L:bM) (ks:List Int):List bA:=ks.map L.page
def bM.cells (L:bM) (ks:List Int):List Value:=ks.flatMap (fun n=>[.int .i64 n,(L.page n).val])
theorem re (L:bM):∀(ks:List Int) (j:Nat) (hj:j<ks.length),(L.cells ks)[j*2]? = some (.int .i64 ks[j])/\(L.cells ks)[j*2+1]? = some (L.page ks[j]).val
 | n :: ks,0,_=>⟨rfl,rfl⟩
 | n :: ks,j+1,hj=>by
  have:=re L ks j (by simpa using hj);have e:L.cells (n :: ks) = .int .i64 n :: (L.page n).val :: L.cells ks:=rfl;rw [e,show (j+1)*2=j*2+1+1 by omega];simpa using this
theorem tl (L:bM) (ks:List Int) (n:Int):L.cells (ks ++ [n])=L.cells ks ++ [.int .i64 n,(L.page n).val]:=by simp [bM.cells]
section
variable {w:World} {c:Nat} {L:bM} {C:CS}
theorem av.page (h:av w c L C) {n:Int} (hn:n∈C.dirtyKeys):∃g cap bs,L.dv n=some (.slice (some ⟨g,0,none⟩) 512 cap)/\L.page n=⟨n,some ⟨g,0,none⟩,512,cap⟩/\C.dirty n=some bs/\az w ⟨g,0,none⟩ bs/\bs.length=512/\¬L.F g/\0<=n/\n<(C.N:Int):=by
 rw [<- h.keys,bX] at hn;obtain ⟨h0,h1,h2⟩:=hn;obtain ⟨v,hv⟩:=Option.isSome_iff_exists.1 h2;obtain ⟨g,cap,bs,a1,rfl,a3,a4,a5⟩:=h.bytes n v hv;exact ⟨g,cap,bs,hv,by simp [bM.page,hv],a1,a3,a4,a5,h0,h1⟩
theorem av.psLen (_:av w c L C) (j:Nat) (hj:j<C.dirtyKeys.length):(L.ps C.dirtyKeys)[j]? = some (L.page C.dirtyKeys[j]):=by simp [bM.ps,hj]
theorem mp (L:bM) (n:Int):(L.page n).n=n:=by
 unfold bM.page
 split <;> rfl
theorem av.grpVal (h:av w c L C):∀(j:Nat),j<=C.dirtyKeys.length->∀n,Go.Proofs.YtpiieilffkickaaGreatDoor.aU (L.ps C.dirtyKeys) j n=if n∈C.dirtyKeys.take j then L.dv n else none
 | 0,_,n=>by simp [Go.Proofs.YtpiieilffkickaaGreatDoor.aU]
 | j+1,hj,n=>by
  rw [Go.Proofs.YtpiieilffkickaaGreatDoor.aU,h.psLen j hj];simp only [cG,mp,h.grpVal j (by omega) n];rw [List.take_succ_eq_append_getElem hj];simp only [List.mem_append,List.mem_singleton];by_cases e:n=C.dirtyKeys[j]
  ·obtain ⟨g,cap,bs,h1,h2,-⟩:=h.page (n:=n) (by rw [e];exact List.getElem_mem hj);simp only [e,if_true,or_true];rw [<- e,h1,h2];rfl
  ·simp [e]
theorem av.grpL (h:av w c L C):∀(j:Nat),j<=C.dirtyKeys.length->∀n,Go.Proofs.YtpiieilffkickaaGreatDoor.o9 (L.ps C.dirtyKeys) (fun j=>(C.dirty (C.dirtyKeys.getD j 0)).getD []) j n=if n∈C.dirtyKeys.take j then (C.dirty n).getD [] else []
 | 0,_,n=>by simp [Go.Proofs.YtpiieilffkickaaGreatDoor.o9]
 | j+1,hj,n=>by
  rw [Go.Proofs.YtpiieilffkickaaGreatDoor.o9,h.psLen j hj];simp only [Option.map_some,Option.some.injEq,mp,h.grpL j (by omega) n];rw [List.take_succ_eq_append_getElem hj];simp only [List.mem_append,List.mem_singleton];by_cases e:n=C.dirtyKeys[j]
  ·subst e;have hj':j<C.dirtyKeys.length:=hj;simp [List.getElem?_eq_getElem hj']
  ·simp [e,Ne.symm e]
theorem av.grpErr (h:av w c L C):∀(j:Nat),j<=C.dirtyKeys.length->Go.Proofs.YtpiieilffkickaaGreatDoor.bm (L.ps C.dirtyKeys) j=0
 | 0,_=>rfl
 | j+1,hj=>by
  rw [Go.Proofs.YtpiieilffkickaaGreatDoor.bm,h.psLen j hj];simp only [mp,h.grpErr j (by omega),h.grpVal j (by omega)];obtain ⟨g,cap,bs,h1,h2,-⟩:=h.page (n:=C.dirtyKeys[j]) (List.getElem_mem hj);have hno:¬C.dirtyKeys[j]∈C.dirtyKeys.take j:=fun hm=>by
   obtain ⟨i,hi,e⟩:=List.mem_iff_getElem.1 hm;have hp:=dS L.dv C.N;rw [h.keys] at hp;have hi':i<j:=by simp at hi;omega
   have:=List.pairwise_iff_getElem.1 hp i j (by omega) hj hi';rw [List.getElem_take] at e;omega
  rw [if_neg hno,if_neg (by rw [h2];simp)]
theorem av.com (h:av w c L C) (hr:C.dirtyKeys.length<=min C.size 100):dn (pagesS C.S C.size) C.size (L.ps C.dirtyKeys)=0/\fC C.S C.size (L.ps C.dirtyKeys) (fun j=>(C.dirty (C.dirtyKeys.getD j 0)).getD [])=C.com:=by
 have hl:(L.ps C.dirtyKeys).length=C.dirtyKeys.length:=by simp [bM.ps]
 have he:dn (pagesS C.S C.size) C.size (L.ps C.dirtyKeys)=0:=by
  unfold dn;rw [hl]
  split
  ·rfl
  ·rw [if_neg (by omega),if_pos,h.grpErr _ (Nat.le_refl _)];rw [dB];intro j hj;rw [hl] at hj;have e:(L.ps C.dirtyKeys)[j]=L.page C.dirtyKeys[j]:=by simp [bM.ps]
   obtain ⟨g,cap,bs,-,-,-,-,-,-,h1,h2⟩:=h.page (n:=C.dirtyKeys[j]) (List.getElem_mem hj);rw [e,mp, <- h.pages];exact ⟨h1,h2⟩
 refine ⟨he,?_⟩;unfold fC CS.com;rw [hl];by_cases h0:C.dirtyKeys=[]
 ·rw [if_neg (fun hh=>hh.2 (by rw [h0];rfl)),if_pos h0]
 ·rw [if_pos ⟨he,fun e=>h0 (List.length_eq_zero_iff.1 e)⟩,if_neg h0];have e1:Go.Proofs.YtpiieilffkickaaGreatDoor.o9 (L.ps C.dirtyKeys) (fun j=>(C.dirty (C.dirtyKeys.getD j 0)).getD []) C.dirtyKeys.length=fun n=>(C.dirty n).getD []:=by
   funext n
   rw [h.grpL _ (Nat.le_refl _),List.take_length]
   split
   ·rfl
   ·rename_i hn;cases hv:L.dv n with
    | none=>rw [h.clean n hv];rfl
    | some v =>
     exact absurd (by rw [<- h.keys,bX];exact ⟨(h.dirty.dom n v hv).1,(h.dirty.dom n v hv).2,by rw [hv];rfl⟩) hn
  have e2:aB (Go.Proofs.YtpiieilffkickaaGreatDoor.aU (L.ps C.dirtyKeys) C.dirtyKeys.length) (pagesS C.S C.size)=C.dirtyKeys:=by
   rw [<- h.pages];refine Eq.trans ?_ h.keys;unfold aB;refine List.filter_congr (fun n hn => ?_);rw [h.grpVal _ (Nat.le_refl _),List.take_length]
   split
   ·rfl
   ·rename_i hq;cases hv:L.dv n with
    | none=>rfl
    | some v=>exact absurd (by rw [<- h.keys,bX];exact ⟨(h.dirty.dom n v hv).1,(h.dirty.dom n v hv).2,by rw [hv];rfl⟩) hq
  rw [e1,e2]
theorem av.pagesOf (_:av w c L C) {W:World} {B:Nat} {v:Value} (hrow:W.ownsRow B 111 2 v C.dirtyKeys.length (L.cells C.dirtyKeys)):∃pa cap,v = .slice pa C.dirtyKeys.length cap/\iW W pa (L.ps C.dirtyKeys):=by
 have hl:(L.ps C.dirtyKeys).length=C.dirtyKeys.length:=by simp [bM.ps]
 rcases Joins.ownsRow_forms hrow with ⟨rfl,h0⟩ | ⟨g,cap,rfl⟩
 ·rw [h0];exact ⟨none,0,rfl,fun j hj=>by omega⟩
 ·refine ⟨some ⟨g,0,none⟩,cap,rfl,fun j hj=>⟨g,0,rfl,fun i hi => ?_⟩⟩;rw [hl] at hi;obtain ⟨a,b⟩:=re L C.dirtyKeys i hi;have c0:=hrow.cellAt (i*2) (by omega);have c1:=hrow.cellAt (i*2+1) (by omega);rw [a] at c0;rw [b] at c1;have e:(L.ps C.dirtyKeys)[i]=L.page C.dirtyKeys[i]:=by simp [bM.ps]
  rw [e,mp,Nat.zero_add];exact ⟨c0,c1⟩
theorem qX (w:World) (h:av w c L C) (hr:C.dirtyKeys.length<=min C.size 100) (ho:C.S.ops.length<=800000) :
  Calls Tryz.prog 15 #[.pointer (some ⟨c,0,none⟩)] w fun e w'=>e = .returned (.int .i64 0)/\∃d' F',(∀i,L.F i->F' i)/\(∀i,F' i->L.F i\/w.heap.size<=i)/\av w' c { L with d:=d',F:=F',Dd := .map [],dv:=fun _=>none } { C with S:=C.com,dirty:=fun _=>none }/\ac (fun i=>L.F i\/i=L.dm) w w':=by
 obtain ⟨c0,c1,-⟩:=h.cells;obtain ⟨i0,hi,hz0,hz1,hz2⟩:=info_parts qt;have HI0:=hid hi;have HDi:=hid (mq w h);have H:=hid h;have HPg:=hid (fun n (hn:n∈C.dirtyKeys)=>h.page hn);have HCo:=hid (h.com hr);have HSl:Hid (C.com.safe.length=C.S.safe.length):=by unfold Hid;rw [<- (h.com hr).2];exact yi _ _ _ _
 have hks:C.dirtyKeys.length<=100:=by omega
 have hcl:=ae h.heap;clear h hi hr;go_enter Tryz.func15,Tryz.ntmps15
 go_wp2_with fail
 refine HDi.out.mono ?_;clear HDi;rintro e w1 ⟨v,rfl,hrow,-,hb1⟩;obtain ⟨ra,rc,rfl,hints⟩:=kU hrow;have HI:=hid hints;have HB1:=hid hb1;have hs1:=hb1.size;clear hrow hb1 hints;have hlook:∀n∈C.dirtyKeys,∀W:World,Below w.heap.size w W->(Instr.lookup 104 (.map (some L.dm)) (.int .i64 n) false).run Tryz.prog W = .ok (L.page n).val W:=fun n hn W hW=>by
  have hgW:=H.out.dirty.below hW;obtain ⟨g,cap,bs,h1,h2,-,-,-,-,h0,h3⟩:=HPg.out n hn;have hN:=H.out.pagesLe;obtain ⟨u,hr,hu⟩:=fI hgW.mapOwn (int_keyed Tryz.underlying3) Tryz.underlying104 (Tryz.zeroValue76 W) (ip (n:=n) (by omega) (by omega));rw [hr];rw [hgW.held n _ h1] at hu;rw [<- DataW.held.inj hu,h2]
  rfl
 have HLk:=hid hlook;clear hlook;have HPo:=hid (fun (W:World) (B:Nat) (v:Value) hrow=>H.out.pagesOf (W:=W) (B:=B) (v:=v) hrow);generalize hkeq:C.dirtyKeys=ks at *;go_wp2
 go_loopw [3,12] (fun v i wr=>∃k:Nat,k<=ks.length/\i = .int .i64 k/\Hid (wr.ownsRow w1.heap.size 111 2 v k (L.cells (ks.take k)))/\Hid (Below w1.heap.size w1 wr)) (fun _ i _=>ks.length-(intOf i).toNat)
 case atStart=>exact ⟨0,by omega,rfl,World.ownsRow_nil _ _ _ _,Below.refl _ _⟩
 case round =>
  obtain ⟨k,hk,rfl,hO,hB⟩:=hrel;have hBw:=HB1.out.trans (hB.out.mono hs1);have c1r:wr.cell? ⟨c,1,none⟩=some (.map (some L.dm)):=(hBw.cell (p:=⟨c,1,none⟩) hcl).trans c1;have c0r:wr.cell? ⟨c,0,none⟩=some (.pointer (some ⟨L.p,0,none⟩)):=(hBw.cell (p:=⟨c,0,none⟩) hcl).trans c0;have HBw:=hid hBw;clear hBw;by_cases hlt:k<ks.length
  ·have hk0:(0:Int)<=(k:Int):=by omega
   have hk1:(k:Int)<(ks.length:Int):=by omega
   obtain ⟨g,rfl,hg1,hg2,hgc⟩:=HI.out k hlt;have hcj:wr.cell? ⟨g,k,none⟩=some (.int .i64 ks[k]):=by
    refine (hB.out.cell (p:=⟨g,k,none⟩) hg1).trans ?_;rw [hgc k hlt];simp [hlt]
   have hmem:ks[k]∈ks:=List.getElem_mem hlt;obtain ⟨gp,cap,bs,-,hpg,-⟩:=HPg.out _ hmem;have hlk:=HLk.out _ hmem wr HBw.out;rw [hpg] at hlk;simp only [bA.val] at hlk;have HSn:Hid (L.cells (ks.take (k+1))=L.cells (ks.take k) ++ [.int .i64 ks[k],.slice (some ⟨gp,0,none⟩) 512 cap]):=by unfold Hid;rw [List.take_succ_eq_append_getElem hlt,tl,hpg];rfl
   clear hgc hmem hpg hg1 hg2 c0r;generalize ks[k]=x at *;have hsr:=hB.out.size
   go_wp2_with (refine wpList_append_lies _ rfl (.tmp 16) (.tmp 25) 101 rfl w1.heap.size 111 i0 (.agg #[.int .i64 0,.slice none 0 0]) 2 32 Tryz.underlying101 HI0.out hz0 hz1 hz2 rfl (by omega) u3 k _ rfl (hO.out.alloc _) ⟨wr.heap.size,0,none⟩ 1 1 [.int .i64 x,.slice (some ⟨gp,0,none⟩) 512 cap] rfl rfl (World.news_of_block (cs:=#[.int .i64 x,.slice (some ⟨gp,0,none⟩) 512 cap]) (af wr _)) (by intro u hu;rcases List.mem_cons.1 hu with rfl | hu;rfl;rw [List.mem_singleton.1 hu];rfl) (by omega) (by unfold maxLen;omega) (by omega) (by simp;omega) (wr.heap.size+1) (by simp) ?_;intro g2 cap2 w5 hown hgr hat hlt2;have HOw:=hid hown;have HGr:=hid hgr;clear hown hgr hat hlt2)
   refine ⟨⟨k+1,by omega,by go_num,?_,?_⟩,by simp [intOf];omega⟩
   ·unfold Hid;rw [HSn.out];exact HOw.out
   ·have hb2:=hB.out.trans (((Below.refl wr.heap.size wr).alloc (Nat.le_refl _) (.cells #[.int .i64 x,.slice (some ⟨gp,0,none⟩) 512 cap] 111)).mono hB.out.size);exact hb2.trans (dW HGr.out hb2.size (fun i hi=>(hO.out.lt i hi).1))
  ·obtain rfl:k=ks.length:=by omega
   have hge:¬((ks.length:Int)<(ks.length:Int)):=by omega
   have hOf:=hO.out;rw [List.take_length] at hOf;obtain ⟨pa,pc,rfl,hps⟩:=HPo.out _ _ _ hOf;have HPs:=hid hps;have Hr:=hid (H.out.below HBw.out);have HCm:=hid (tN (L.ps ks) pa pc (fun j=>(C.dirty (ks.getD j 0)).getD []) wr Hr.out.log Hr.out.lt Hr.out.fits HPs.out (fun j hj _=>by
    have hj':j<ks.length:=by simpa [bM.ps] using hj
    obtain ⟨gp,cap,bs,-,hpg,h1,h2,h3,h4,-⟩:=HPg.out ks[j] (List.getElem_mem hj');have e:(L.ps ks)[j]=L.page ks[j]:=by simp [bM.ps]
    have e2:(C.dirty (ks.getD j 0)).getD []=bs:=by simp [List.getElem?_eq_getElem hj',h1]
    rw [e,hpg];simp only [e2];exact ⟨⟨gp,0,none⟩,rfl,fun i hi=>(HBw.out.cell (World.block_lt_of_cell? w _ (h2 i hi))).trans (h2 i hi),h3,h4⟩) ho)
   have hpl:(L.ps ks).length=ks.length:=by simp [bM.ps]
   rw [hpl,HCo.out.1,HCo.out.2] at HCm;clear hOf hps hpl hO c1r
   go_wp2_with fail
   refine HCm.out.mono ?_;clear HCm;rintro e w5 ⟨rfl,d',hlog,hk5⟩;have HC5:=hid (Hr.out.committed hlog hk5 (fun i hi=>hi) HSl.out);have HK5:=hid hk5;obtain ⟨z0,z1,-⟩:=HC5.out.cells;have z1':w5.cell? ⟨c,1,none⟩=some (.map (some L.dm)):=z1;obtain ⟨es,clock,hmb⟩:=HC5.out.dmap;have hmb':w5.heap[L.dm]? = some (.map es clock):=hmb;obtain ⟨w9,hclear,hm9,hg9⟩:=sD hmb';have HC9:=hid (HC5.out.cleared hm9 hg9);have HK9:Hid (ac (fun i=>L.F i\/i=L.dm) w w9):=((ac.of_below HBw.out).trans hk5 (fun i e => .inl (.inl e))).grown hg9 (fun i e => .inl (.inr (Option.some.inj e).symm));have hsw:=HBw.out.size;clear hlog hk5 z0 z1 hmb hmb' hm9 hg9 c0r;go_wp2;go_ret;exact ⟨rfl,d',_,fun i hi => .inl hi,fun i hi=>hi.elim .inl (fun h => .inr (by omega)),HC9.out,HK9.out⟩
end
end
section
open Go.RowKit Go.Maps Go.Sort Go.Shelf
end
section
open Go.RowKit
end
section
open Go.RowKit
theorem CS.mem_dirtyKeys {C:CS} {k:Int}:k∈C.dirtyKeys ↔ (0<=k/\k<C.N/\(C.dirty k).isSome=true):=by
 simp only [CS.dirtyKeys,List.mem_filter,List.mem_map,List.mem_range];constructor
 ·rintro ⟨⟨j,hj,rfl⟩,h⟩;exact ⟨by omega,by omega,h⟩
 ·rintro ⟨h0,h1,h2⟩;exact ⟨⟨k.toNat,by omega,by omega⟩,h2⟩
theorem CS.dirtyKeys_none {C:CS} (h:C.dirty=fun _=>none):C.dirtyKeys=[]:=by
 unfold CS.dirtyKeys;rw [h];simp
def CS.see (C:CS) (n:Nat):List UInt8:=(C.dirty n).getD (lg C.S (1+C.size+n))
section
variable {w:World} {c:Nat} {L:bM} {C:CS}
theorem av.dom (h:av w c L C) {n:Int} {bs:List UInt8} (hn:C.dirty n=some bs):0<=n/\n<(C.N:Int)/\bs.length=512:=by
 cases hv:L.dv n with
 | none=>rw [h.clean n hv] at hn;cases hn
 | some v =>
  obtain ⟨g,cap,bs',h1,-,-,h4,-⟩:=h.bytes n v hv;rw [hn] at h1;obtain rfl:=Option.some.inj h1;exact ⟨(h.dirty.dom n v hv).1,(h.dirty.dom n v hv).2,h4⟩
theorem av.comMade (h:av w c L C) (hM:iN C.S) (hr:C.dirtyKeys.length<=min C.size 100):iN C.com:=by
 unfold CS.com
 split
 ·exact hM
 ·rw [mA];have hl:=hM.len;have hf:=h.fits;refine hM.more _ (vt C.size _ _ _ (by omega) (by omega) (fun k hk => ?_));obtain ⟨a,b,d⟩:=CS.mem_dirtyKeys.1 hk;obtain ⟨bs,hb⟩:=Option.isSome_iff_exists.1 d;refine ⟨a,?_,by rw [hb];exact (h.dom hb).2.2⟩;have hp:=h.pages;unfold pagesS at hp;omega
theorem av.comSee (h:av w c L C) (hr:C.dirtyKeys.length<=min C.size 100) (n:Nat) (hn:n<C.N):lg C.com (1+C.size+n)=C.see n:=by
 have hp:=h.pages;have hf:=h.fits;unfold pagesS at hp;have key:bJ C.com (1+C.size+n)=match C.dirty (n:Int) with
  | some bs=>⟨bs.toArray⟩
  | none=>bJ C.S (1+C.size+n):=by
  unfold CS.com;by_cases h0:C.dirtyKeys=[]
  ·rw [if_pos h0];cases hd:C.dirty (n:Int) with
   | none=>rfl
   | some bs =>
    have:(n:Int)∈C.dirtyKeys:=CS.mem_dirtyKeys.2 ⟨by omega,by omega,by rw [hd];rfl⟩;rw [h0] at this;cases this
  ·rw [if_neg h0,jv C.S C.size _ C.dirtyKeys (1+C.size+n) (by omega) (fun k hk=>(CS.mem_dirtyKeys.1 hk).1) (by omega) (.inr (by omega)),if_neg (by omega)];have e:(((1+C.size+n:Nat):Int)-1-(C.size:Int))=(n:Int):=by omega
   rw [e];cases hd:C.dirty (n:Int) with
   | none =>
    rw [if_neg (fun hm=>by have:=(CS.mem_dirtyKeys.1 hm).2.2;rw [hd] at this;cases this)]
   | some bs=>rw [if_pos (CS.mem_dirtyKeys.2 ⟨by omega,by omega,by rw [hd];rfl⟩)];rfl
 unfold CS.see;cases hd:C.dirty (n:Int) with
 | none =>
  rw [hd] at key;exact congrArg (fun b:ByteArray=>b.data.toList) key
 | some bs =>
  rw [hd] at key;have:=congrArg (fun b:ByteArray=>b.data.toList) key;simpa [lg,bJ] using this
end
end
section
open Go.RowKit
end
section
open Go.RowKit Go.Maps Go.Sort Go.Shelf
end
section
open Go.RowKit
end
section
open Go.RowKit
end
section
open Go.ChangeShapes Go.WideShapes Go.ChangeAt Go.RowKit
end
section
open Go.RowKit
theorem nA (p q:Int->Bool) (n:Int) (h:∀k,k≠n->q k=p k):∀l:List Int,l.Pairwise (fun a b=>a<b)->(l.filter q).length<=(l.filter p).length+1
 | [],_=>by simp
 | k :: l,hp=>by
  obtain ⟨h1,h2⟩:=List.pairwise_cons.1 hp;by_cases e:k=n
  ·have:l.filter q=l.filter p:=List.filter_congr (fun x hx=>h x (by have:=h1 x hx;omega));simp only [List.filter_cons,this]
   split <;> split <;> (try simp only [List.length_cons]) <;> omega
  ·simp only [List.filter_cons,h k e];have:=nA p q n h l h2
   split <;> (try simp only [List.length_cons]) <;> omega
theorem eR (N:Nat):((List.range N).map (fun k:Nat=>(k:Int))).Pairwise (fun a b=>a<b):=by
 rw [List.pairwise_map];exact List.pairwise_lt_range.imp (fun h=>by omega)
theorem wJ (C:CS) (n:Int) (l:List UInt8) (u:Int->Option Nat) (m:Nat) (hm:C.dirtyKeys.length<=m) (h:(C.dirty n).isSome\/C.dirtyKeys.length<m):({ C with dirty:=iA C.dirty n l,used:=u }:CS).dirtyKeys.length<=m:=by
 unfold CS.dirtyKeys at hm h ⊢;rcases h with h | h
 ·have:∀k,((iA C.dirty n l) k).isSome=(C.dirty k).isSome:=fun k=>by
   unfold iA;by_cases e:k=n
   ·rw [if_pos e,e,h];rfl
   ·rw [if_neg e]
  have e:(((List.range C.N).map (fun k:Nat=>(k:Int))).filter (fun k=>((iA C.dirty n l) k).isSome))=((List.range C.N).map (fun k:Nat=>(k:Int))).filter (fun k=>(C.dirty k).isSome):=List.filter_congr (fun k _=>this k);show (((List.range C.N).map (fun k:Nat=>(k:Int))).filter (fun k=>((iA C.dirty n l) k).isSome)).length<=m;rw [e];exact hm
 ·have:=nA (fun k=>(C.dirty k).isSome) (fun k=>((iA C.dirty n l) k).isSome) n (fun k e=>by simp only [iA,if_neg e]) _ (eR C.N);show (((List.range C.N).map (fun k:Nat=>(k:Int))).filter (fun k=>((iA C.dirty n l) k).isSome)).length<=m;omega
end
section
open Go.RowKit
theorem wO (s:ByteArray) (cap:Nat):s.size<=(bytesRow s cap).size:=by
 rcases Nat.eq_zero_or_pos s.size with h | h
 ·omega
 ·have:=mO s cap (s.size-1) (by show _<s.data.toList.length;have:s.data.toList.length=s.size:=(by simp);omega);have h2:=(Array.getElem?_eq_some_iff.1 this).1;omega
end
section
set_option maxRecDepth 100000
set_option maxHeartbeats 2000000
open Go.RowKit
def bT (w:World) (g:Nat) (l:List UInt8):Prop:=az w ⟨g,0,none⟩ l/\(∀j,j<l.length->w.frozen? ⟨g,j,none⟩=false)/\∃cs fz,w.heap[g]? = some (.cells cs 5 fz) 
section
variable {w w':World} {g:Nat} {l:List UInt8} {G:Nat->Prop}
theorem bT.lt (h:bT w g l):g<w.heap.size:=by obtain ⟨-,-,cs,fz,h⟩:=h;exact ae h
theorem bT.keep (h:bT w g l) (k:ac G w w') (hg:¬G g):bT w' g l:=by
 obtain ⟨h1,h2,cs,fz,h3⟩:=h;have h5:=k.heap h3 hg;refine ⟨fun j hj=>k.cell (h1 j hj) (by rw [aJ];exact hg),fun j hj => ?_,cs,fz,h5⟩;have:=h2 j hj;simp only [World.frozen?,h3] at this;simp only [World.frozen?,h5];exact this
theorem bT.below (h:bT w g l) (hb:Below w.heap.size w w'):bT w' g l:=h.keep (G:=fun _=>False) (ac.of_below hb) (fun h=>h)
theorem bT.cell (h:bT w g l) (j:Nat) (hj:j<l.length):w.cell? ⟨g,j,none⟩=some (.int .u8 (l[j].toNat:Int)):=by
 have:=h.1 j hj
 rwa [Addr.add_mid,Nat.zero_add] at this
theorem bT.frozen (h:bT w g l) (j:Nat) (hj:j<l.length):w.frozen? ⟨g,j,none⟩=false:=h.2.1 j hj
theorem bT.set (h:bT w g l) (j:Nat) (hj:j<l.length) (x:UInt8):bT (w.setCell ⟨g,j,none⟩ (.int .u8 (x.toNat:Int))) g (l.set j x):=by
 obtain ⟨h1,h2,cs,fz,h3⟩:=h;have h5:=ap h3 j (.int .u8 (x.toNat:Int));refine ⟨fun i hi => ?_,fun i hi => ?_,_,fz,h5⟩
 ·have hi':i<l.length:=by simpa using hi
  have c1:=h1 i hi';have cj:=h1 j hj;rw [Addr.add_mid,Nat.zero_add,aa h3] at c1 cj;rw [Addr.add_mid,Nat.zero_add,aa h5];have hjs:j<cs.size:=(Array.getElem?_eq_some_iff.1 cj).1;by_cases e:i=j
  ·subst e;rw [Array.getElem?_setIfInBounds_self_of_lt hjs,List.getElem_set_self]
  ·rw [Array.getElem?_setIfInBounds_ne (fun h=>e h.symm),c1,List.getElem_set_ne (fun h=>e h.symm)]
 ·have:=h2 i (by simpa using hi);simp only [World.frozen?,h3] at this;simp only [World.frozen?,h5];exact this
theorem qs (h:aV w g l):bT w g l:=⟨h.at,fun j _=>h.frozen j,_,_,h⟩
theorem xG (w:World) (s:ByteArray) (cap:Nat):bT ((w.alloc (.cells (bytesRow s cap) 5 ((bytesRow s cap).size,(bytesRow s cap).size+1))).drew) w.heap.size s.data.toList:=by
 have hb:=af w (.cells (bytesRow s cap) 5 ((bytesRow s cap).size,(bytesRow s cap).size+1));have hsz:=wO s cap;refine ⟨fun j hj => ?_,fun j hj => ?_,_,_,hb⟩
 ·have hj':j<s.data.size:=by simpa using hj
  rw [Addr.add_mid,Nat.zero_add];refine (aa hb j).trans ?_;rw [bytesRow_at s _ j hj'];simp
 ·have hj':j<s.size:=by simpa using hj
  have hb':((w.alloc (.cells (bytesRow s cap) 5 ((bytesRow s cap).size,(bytesRow s cap).size+1))).drew).heap[w.heap.size]? = _:=hb;simp only [World.frozen?,hb'];simp;omega
theorem lH {lo n cap:Nat} (h:w.ownsRow lo 5 1 (.slice (some ⟨g,0,none⟩) n cap) n (l.map U8)) (hl:l.length=n):bT w g l:=by
 rcases h.2 with ⟨e,-⟩ | ⟨g',cap',cur,e,-,hh,-⟩
 ·cases e
 ·obtain ⟨rfl,-⟩:g=g'/\cap=cap':=by simpa using e
  exact ⟨lI h hl,fun j _=>ai hh j,_,_,hh⟩
end
theorem wH (d:DL) (S:aq) (n:Int) (w:World) (h:di w d S) (h0:0<=n) (h1:n<S.safe.length) :
  Calls Tryz.prog 106 #[.pointer (some ⟨d.p,0,none⟩),.int .i64 n] w fun e w'=>∃b c,e = .returned (.tuple #[.slice (some ⟨b,0,none⟩) (seenS S.safe S.waits n).size c,.int .i64 0])/\(seenS S.safe S.waits n).size<=c/\w.heap.size<=b/\bT w' b (seenS S.safe S.waits n).data.toList/\Below w.heap.size w w':=by
 have c2:w.cell? ⟨d.p,2,none⟩=some (.slice (some ⟨d.L.g,0,none⟩) S.safe.length d.L.cap):=by rw [aa h.heap];rfl
 have c3:w.cell? ⟨d.p,3,none⟩=some (.map (some d.L.m)):=by rw [aa h.heap];rfl
 have HD:=hid (decide_eq_true (And.intro h0 h1));have HC2:=hid c2;have HS:=hid (nO d.p d.L S.safe S.waits S.ops.length n w c2 c3 h.plates h0 h1);clear h c2 c3;generalize seenS S.safe S.waits n=s at *;have hconv:=fun W=>run_bytes_of_string (P:=Tryz.prog) W 114 76 5 s Tryz.underlying114 Tryz.underlying76 Tryz.underlying5;go_enter Tryz.func106,Tryz.ntmps106
 go_wp2_with fail
 refine (mn d.p 2 _ _ _ _ _ HC2.out).mono ?_;rintro e w9 ⟨rfl,h9⟩;obtain rfl:=h9.symm;rw [HD.out]
 go_wp2_with fail
 refine HS.out.mono ?_;rintro e w9 ⟨rfl,h9⟩;obtain rfl:=h9.symm;go_wp2;go_returns;refine ⟨w.heap.size,grownCap w s.size 0 5,rfl,grownCap_ge _ _ _ _,Nat.le_refl _,xG w s _,((Below.refl _ w).alloc (Nat.le_refl _) _).drew⟩
section
variable {p:Nat} {d:DL} {S:aq} {size rec:Nat} {F:Nat->Prop}
theorem pw (n:Nat) (w:World) (h:bH w p d S size rec F) (hs:size+1<=S.safe.length) (hn:n<pagesS S size) :
  Calls Tryz.prog 222 #[.pointer (some ⟨p,0,none⟩),.int .i64 n] w fun e w'=>∃b c,e = .returned (.tuple #[.slice (some ⟨b,0,none⟩) (seenS S.safe S.waits (1+(size:Int)+(n:Int))).size c,.int .i64 0])/\(seenS S.safe S.waits (1+(size:Int)+(n:Int))).size<=c/\w.heap.size<=b/\bT w' b (seenS S.safe S.waits (1+(size:Int)+(n:Int))).data.toList/\Below w.heap.size w w':=by
 have hm:=h.disk.rd.plates.most;have hpm:1+size+n<S.safe.length:=by unfold pagesS at hn;omega
 have HH:=hid (fun W (hW:Below w.heap.size w W)=>uk d S size (n:Int) W ((h.below hW).disk.rd) hs);have HHm:=hid (fun W=>qV d.p size (n:Int) W (by omega) (by omega) (by omega));have HR:=hid (fun W (hW:Below w.heap.size w W)=>wH d S (1+(size:Int)+(n:Int)) W ((h.below hW).disk.rd) (by omega) (by omega));have HC:Hid (∀W,Below w.heap.size w W->W.cell? ⟨p,0,none⟩=some (.pointer (some ⟨d.p,0,none⟩))/\W.cell? ⟨p,1,none⟩=some (.int .i64 size)):=fun W hW=>⟨aa (h.below hW).heap 0,aa (h.below hW).heap 1⟩;have hd:decide (0<=(n:Int)/\(n:Int)<(pagesS S size:Nat))=true:=decide_eq_true ⟨by omega,by omega⟩;unfold eA at HH HHm;rw [hd] at HH;obtain ⟨c0,c1⟩:=HC.out w (Below.refl _ _);clear h hd;generalize seenS S.safe S.waits (1+(size:Int)+(n:Int))=T at *;go_enter Tryz.func222,Tryz.ntmps222
 go_wp2_with fail
 refine (HH.out _ (Below.refl _ _)).mono ?_;rintro e w1 ⟨rfl,hb1⟩;have HB1:=hid hb1;obtain ⟨d0,d1⟩:=HC.out w1 hb1;clear hb1 c0 c1 HH
 go_wp2_with fail
 refine wp_region_noPanic ?_;refine wp_region_held_drew (S:=fun W=>W.cell? ⟨p,0,none⟩=some (.pointer (some ⟨d.p,0,none⟩))/\W.cell? ⟨p,1,none⟩=some (.int .i64 size)) (by kernel_rfl) ⟨d0,d1⟩ (fun hHeld => ?_);refine tq 0 _ ?_
 try simp only [tS]
 refine tq 1 _ ?_
 try simp only [tS]
 refine tq 2 _ ?_
 try simp only [tS]
 refine tq 3 _ ?_
 try simp only [tS]
 refine tq 4 _ ?_
 try simp only [tS]
 refine tq 5 _ ?_
 try simp only [tS]
 refine tq 6 _ ?_
 try simp only [tS]
 refine tq 7 _ ?_
 try simp only [tS]
 refine tq 8 _ ?_
 try simp only [tS]
 refine tq 9 _ ?_
 try simp only [tS]
 refine wpAnyH_ready (rs:=[10]) (by kernel_rfl) (by simp) (AllReadyH.cons rfl (fun K hKK => ?_) AllReadyH.nil);rw [if_pos (by rfl)];go_simp;refine (HHm.out w1.drew).mono ?_;clear HHm;rintro e w2 ⟨rfl,hb2⟩;have hB2:Below w.heap.size w w2:=HB1.out.drew.trans (hb2.mono HB1.out.size);have HB2:=hid hB2;obtain ⟨e0,e1⟩:=HC.out w2 hB2;clear hb2 hB2
 go_wp2_with fail
 refine hKK.out _ _ ⟨e0,e1⟩ (fun hHeld => ?_);clear hKK K
 try simp only [tS]
 refine wpAnyH_ready (rs:=[11]) (by kernel_rfl) (by simp) (AllReadyH.cons rfl (fun K hKK => ?_) AllReadyH.nil);rw [if_pos (by rfl)];go_simp;refine (HR.out w2 HB2.out).mono ?_;clear HR;rintro e w3 ⟨b,c,rfl,hcc,hbb,hat,hb3⟩;have hB3:Below w.heap.size w w3:=HB2.out.trans (hb3.mono HB2.out.size);have HB3:=hid hB3;have HAt:=hid hat;have hs2:=HB2.out.size;obtain ⟨f0,f1⟩:=HC.out w3 hB3;clear hb3 hB3 hat
 go_wp2_with fail
 refine hKK.out _ _ ⟨f0,f1⟩ (fun hHeld => ?_);clear hKK K
 try simp only [tS]
 refine tq 12 _ ?_
 try simp only [tS]
 refine tq 13 _ ?_
 try simp only [tS]
 refine tq 14 _ ?_
 try simp only [tS]
 refine tq 15 _ ?_
 try simp only [tS]
 refine wpAnyH_done (by kernel_rfl) ?_ _;refine NoPanic.normal ?_;go_wp2;go_returns;exact ⟨b,c,rfl,hcc,by omega,HAt.out,HB3.out⟩
end
def yv (w0 w w':World) (c:Nat) (L:bM) (C:CS) (n:Nat) (e:Ending):Prop :=
 ∃g cap D' u' k,e = .returned (.tuple #[.slice (some ⟨g,0,none⟩) 512 cap,.int .i64 0])/\512<=cap/\w.heap.size<=g/\bT w' g (C.see n)/\k<=1/\(∀W,ac (fun i=>w0.heap.size<=i) w' W->av W c { L with Du:=D' } { C with uses:=C.uses+k,used:=u' })/\ac (fun i=>i=c\/i=L.um) w w'
section
variable {c:Nat} {L:bM} {C:CS}
theorem oy {w0:World} (n:Nat) (w:World) (h0:av w0 c L C) (hw:Below w0.heap.size w0 w) (hM:iN C.S) (hu:C.uses<1000000) (hn:n<C.N) :
  Calls Tryz.prog 187 #[.pointer (some ⟨c,0,none⟩),.int .i64 n] w fun e w'=>yv w0 w w' c L C n e:=by
 have h:=h0.below hw;have H0:=hid h0;have HBw:=hid hw;clear h0 hw;obtain ⟨c0,c1,-,-,-⟩:=h.cells;have hpl:=h.pagesLe;have hn0 : -9223372036854775808<=(n:Int):=by omega
 have hn1:(n:Int)<9223372036854775808:=by omega
 have H:=hid h;have HM:=hid hM;cases hdv:L.dv n with
 | some v =>
  obtain ⟨g0,cap0,bs,h1,rfl,h3,h4,h5⟩:=h.bytes n v hdv;have HDv:=hid hdv;have HDi:=hid h1;have hcl:=ng bs ⟨g0,0,none⟩ cap0 w (by omega) (by omega) h3;rw [h4] at hcl;have HCl:=hid hcl;have H4:=hid h4;clear h hM hdv h1 h3 h4 h5 hcl;go_enter Tryz.func187,Tryz.ntmps187
  go_wp2_with (refine cE rfl (.tmp 16) (.tmp 17) 104 rfl 76 Tryz.underlying104 (Tryz.zeroValue76 _) rfl H.out.dirty n rfl hn0 hn1 (.slice (some ⟨g0,0,none⟩) 512 cap0) true (by rw [HDv.out];rfl) (by rw [HDv.out];rfl) ?_)
  refine HCl.out.mono ?_;clear HCl;rintro e w1 ⟨g,cap,rfl,hrow,hb⟩;have HB:=hid hb;have HR:=hid hrow;clear hb hrow;go_wp2;go_returns;have hsee:C.see n=bs:=by unfold CS.see;rw [HDi.out];rfl
  have hg:=(HR.out.lt g rfl).1;refine ⟨g,cap,L.Du,C.used,0,rfl,?_,hg,by rw [hsee];exact lH HR.out H4.out,by omega,fun W hW => ?_,ac.of_below HB.out⟩
  ·rcases HR.out.2 with ⟨e,-⟩ | ⟨g',cap',cur,e,-,-,hc,-⟩
   ·cases e
   ·obtain ⟨-,rfl⟩:g=g'/\cap=cap':=by simpa using e
    exact hc
  ·have hb2:=HBw.out.trans (HB.out.mono HBw.out.size);exact H0.out.below (hb2.trans (hW.below hb2.size (fun i e=>e)))
 | none =>
  have HDv:=hid hdv;have HDi:=hid (h.clean n hdv);clear h hM hdv;have hxp:n<pagesS C.S C.size:=by rw [<- H.out.pages];omega
  have hx1:C.size+1+n<C.S.safe.length:=by unfold pagesS at hxp;omega
  have hsz:(seenS C.S.safe C.S.waits ((1+C.size+n:Nat):Int)).size=512:=HM.out.seen (1+C.size+n) (by omega);have hlr:=pw n w H.out.log H.out.fits hxp;rw [show (1+(C.size:Int)+(n:Int))=((1+C.size+n:Nat):Int) by omega,hsz] at hlr;have HLr:=hid hlr;have HS5:Hid ((lg C.S (1+C.size+n)).length=512):=HM.out.sec _ (by omega);have hcl:=ae H.out.heap;clear hlr hsz hx1 hxp;go_enter Tryz.func187,Tryz.ntmps187
  go_wp2_with (refine cE rfl (.tmp 16) (.tmp 17) 104 rfl 76 Tryz.underlying104 (Tryz.zeroValue76 _) rfl H.out.dirty (n:Int) rfl hn0 hn1 (.slice none 0 0) false (by rw [HDv.out];rfl) (by rw [HDv.out];rfl) ?_)
  refine HLr.out.mono ?_;clear HLr;rintro e w1 ⟨g,cap,rfl,hcap,hg1,hby,hb1⟩;have H1:=hid (H.out.below hb1);have HBy:=hid hby;have HB1:=hid hb1;have HUs:=hid (xB C.used _ _ _ C.most C.uses hu H.out.ub (n:Int) (by omega) (by omega) hpl w1 H1.out.heap H1.out.used);clear hby hb1
  go_wp2_with fail
  refine HUs.out.mono ?_;clear HUs;rintro e w2 ⟨rfl,u',D',hc2,hU2,hT2,hK2⟩;have h0:0<(lg C.S (1+C.size+n)).length:=by rw [HS5.out];omega
  have hgn:¬(g=c\/g=L.um):=by
   have h1:=HBy.out.1 0 h0;have h2:=H1.out.out (G:=fun i=>i=c\/i=L.um) (fun i hi=>hi.elim .inl (fun e => .inr (.inr e))) h1 (fun y=>by simp) (fun y=>by simp) (fun y=>by simp);rw [aJ] at h2;exact h2
  have HBy2:Hid (bT w2 g (lg C.S (1+C.size+n))):=HBy.out.keep hK2 hgn;have HK2:Hid (ac (fun i=>i=c\/i=L.um) w w2):=(ac.of_below HB1.out).trans hK2 (fun i e => .inl e);have HW2:Hid (∀W,ac (fun i=>w0.heap.size<=i) w2 W->av W c { L with Du:=D' } { C with uses:=C.uses+1,used:=u' }):=fun W hW=>by
   obtain ⟨es',kk',hm'⟩:=H0.out.umap;have hcl0:=ae H0.out.heap;have hul0:=ae hm';exact H0.out.use (hW.heap hc2 (by omega)) (hU2.keep hW (by omega)) hT2 (((ac.of_below HBw.out).trans HK2.out (fun i e => .inl e)).trans hW (fun i e => .inr e)) hu
  clear hc2 hU2 hT2 hK2 h0 hgn;go_wp2;go_returns;have hsee:C.see n=lg C.S (1+C.size+n):=by unfold CS.see;rw [HDi.out];rfl
  exact ⟨g,cap,D',u',1,rfl,hcap,hg1,by rw [hsee];exact HBy2.out,by omega,HW2.out,HK2.out⟩
end
end
section
open Go.RowKit
end
section
open Go.RowKit
def Ah (C:aq) (n:Nat) (s:ByteArray):Prop:=C.safe[n]? = some s\/s∈C.waits (n:Int)
structure Left (C X:aq):Prop where
 waits:X.waits=fun _=>[]
 ops:X.ops=[]
 len:X.safe.length=C.safe.length
 cand:∀n,n<C.safe.length->Ah C n (bJ X n)
end
section
open Go.RowKit Go.Maps
end
section
open Go.RowKit
end
section
open Go.RowKit
end
section
open Go.RowKit
section
variable {w:World} {c:Nat} {L:bM} {C:CS}
theorem av.footLt (h:av w c L C) (i:Nat) (hi:L.foot c i):i<w.heap.size:=by
 obtain ⟨es,k,hm⟩:=h.dmap;obtain ⟨es',k',hm'⟩:=h.umap;rcases hi with hi | hi | hi | hi
 ·exact h.lt i hi
 ·rw [hi];exact ae h.heap
 ·rw [hi];exact ae hm
 ·rw [hi];exact ae hm'
theorem av.comWaits (h:av w c L C) (hr:C.dirtyKeys.length<=min C.size 100) (hw:C.S.waits=fun _=>[]):C.com.waits=fun _=>[]:=by
 rw [<- (h.com hr).2];exact s7 _ _ _ _ hw
theorem av.comHead (h:av w c L C) (hr:C.dirtyKeys.length<=min C.size 100) (hh:kT C.S):kT C.com:=by
 rw [<- (h.com hr).2];exact sK _ _ _ _ hh (by have:=h.fits;omega)
end
end
section
open Go.RowKit Go.Maps
def dkD (N:Nat) (D:Int->Bool):List Int:=((List.range N).map (fun k:Nat=>(k:Int))).filter D
def rR (hs:Nat) (L:bM) (N:Nat) (Pg Cm:Nat->List UInt8):Prop:=∀g,(Pg (N+1+g)=[7]\/Cm (N+1+g)=[7])->g<hs/\¬L.F g/\∀n cap,L.dv n≠some (.slice (some ⟨g,0,none⟩) 512 cap)
theorem rR.mono {hs hs':Nat} {L:bM} {N:Nat} {Pg Cm:Nat->List UInt8} (h:rR hs L N Pg Cm) (hl:hs<=hs'):rR hs' L N Pg Cm:=fun g hg=>⟨Nat.lt_of_lt_of_le (h g hg).1 hl,(h g hg).2⟩
theorem rR.zeros (hs:Nat) (L:bM) (N:Nat):rR hs L N (fun _=>zN 512) (fun _=>zN 512):=fun g hg=>by
 have:(zN 512).length=[(7:UInt8)].length:=hg.elim (fun e=>congrArg List.length e) (fun e=>congrArg List.length e);rw [aO] at this;cases this
structure zi (w:World) (c:Nat) (F:Nat->Prop) (size N:Nat) (Pg Cm:Nat->List UInt8) (D:Int->Bool) (o u:Nat) (L:bM) (C:CS):Prop where
 at_:av w c L C
 sz:C.size=size
 nn:C.N=N
 made:iN C.S
 ops:C.S.ops.length<=o
 uses:C.uses<=u
 pg:∀n,n<N->C.see n=Pg n
 cm:∀n,n<N->lg C.S (1+size+n)=Cm n
 dirty:∀n:Int,(C.dirty n).isSome=D n
 room:C.dirtyKeys.length<=min size 100
 foot:∀i,L.foot c i->F i
 lt:∀i,F i->i<w.heap.size
 p0:L.p<w.heap.size
 sep:rR w.heap.size L N Pg Cm
 quiet:C.S.waits=(fun _=>[])/\kT C.S
def Pc (w:World) (c:Nat) (F:Nat->Prop) (size N:Nat) (Pg Cm:Nat->List UInt8) (D:Int->Bool) (o u:Nat):Prop:=∃L C,zi w c F size N Pg Cm D o u L C
theorem zi.keys {w:World} {c:Nat} {F:Nat->Prop} {size N:Nat} {Pg Cm:Nat->List UInt8} {D:Int->Bool} {o u:Nat} {L:bM} {C:CS} (h:zi w c F size N Pg Cm D o u L C):C.dirtyKeys=dkD N D:=by
 unfold CS.dirtyKeys dkD;rw [h.nn];exact List.filter_congr (fun k _=>h.dirty k)
section
variable {w w':World} {c:Nat} {F:Nat->Prop} {size N:Nat} {Pg Cm:Nat->List UInt8} {D:Int->Bool} {o u:Nat}
theorem Pc.below (h:Pc w c F size N Pg Cm D o u) (hb:Below w.heap.size w w'):Pc w' c F size N Pg Cm D o u:=by
 obtain ⟨L,C,h⟩:=h;exact ⟨L,C,h.at_.below hb,h.sz,h.nn,h.made,h.ops,h.uses,h.pg,h.cm,h.dirty,h.room,h.foot,fun i hi=>Nat.lt_of_lt_of_le (h.lt i hi) hb.size,Nat.lt_of_lt_of_le h.p0 hb.size,h.sep.mono hb.size,h.quiet⟩
theorem Pc.more {o' u':Nat} (h:Pc w c F size N Pg Cm D o u) (ho:o<=o') (hu:u<=u'):Pc w c F size N Pg Cm D o' u':=by
 obtain ⟨L,C,h⟩:=h;exact ⟨L,C,h.at_,h.sz,h.nn,h.made,Nat.le_trans h.ops ho,Nat.le_trans h.uses hu,h.pg,h.cm,h.dirty,h.room,h.foot,h.lt,h.p0,h.sep,h.quiet⟩
theorem Pc.lt (h:Pc w c F size N Pg Cm D o u) (i:Nat) (hi:F i):i<w.heap.size:=by obtain ⟨L,C,h⟩:=h;exact h.lt i hi
theorem Pc.len (h:Pc w c F size N Pg Cm D o u) (n:Nat) (hn:n<N):(Pg n).length=512:=by
 obtain ⟨L,C,h⟩:=h;rw [<- h.pg n hn];unfold CS.see;cases hd:C.dirty (n:Int) with
 | some bs=>exact (h.at_.dom hd).2.2
 | none =>
  have hp:=h.at_.pages;have h5:=h.at_.fits;have hN:=h.nn;exact h.made.sec _ (by unfold pagesS at hp;omega)
theorem Pc.keysLen (h:Pc w c F size N Pg Cm D o u):(dkD N D).length<=min size 100:=by obtain ⟨L,C,h⟩:=h;rw [<- h.keys];exact h.room
theorem Pc.four (h:Pc w c F size N Pg Cm D o u):N<=4096:=by obtain ⟨L,C,h⟩:=h;have:=h.at_.pagesLe;rw [h.nn] at this;exact this
theorem Pc.read {w0:World} (h:Pc w0 c F size N Pg Cm D o u) (hw:Below w0.heap.size w0 w) (n:Nat) (hn:n<N) (hu:u<1000000) :
  Calls Tryz.prog 187 #[.pointer (some ⟨c,0,none⟩),.int .i64 n] w fun e w'=>∃g cap,e = .returned (.tuple #[.slice (some ⟨g,0,none⟩) 512 cap,.int .i64 0])/\512<=cap/\w.heap.size<=g/\bT w' g (Pg n)/\ac F w w'/\∀W,ac (fun i=>w0.heap.size<=i) w' W->Pc W c F size N Pg Cm D o (u+1):=by
 obtain ⟨L,C,h⟩:=h;refine (oy n w h.at_ hw h.made (by have:=h.uses;omega) (by rw [h.nn];exact hn)).mono ?_;rintro e w' ⟨g,cap,D',u',k,rfl,hc,hg,hr,hk,hW,hK⟩;have hf:∀i,(i=c\/i=L.um)->F i:=fun i hi=>h.foot i (hi.elim (fun e => .inr (.inl e)) (fun e => .inr (.inr (.inr e))));refine ⟨g,cap,rfl,hc,hg,by rw [<- h.pg n hn];exact hr,hK.mono hf,fun W hWk=>⟨_,_,hW W hWk,h.sz,h.nn,h.made,h.ops,by show C.uses+k<=u+1;have:=h.uses;omega,h.pg,h.cm,h.dirty,h.room,h.foot,fun i hi => ?_,?_,h.sep.mono (Nat.le_trans hw.size (Nat.le_trans hK.size hWk.size)),h.quiet⟩⟩
 ·exact Nat.lt_of_lt_of_le (h.lt i hi) (Nat.le_trans hw.size (Nat.le_trans hK.size hWk.size))
 ·exact Nat.lt_of_lt_of_le h.p0 (Nat.le_trans hw.size (Nat.le_trans hK.size hWk.size))
def bf (Pg:Nat->List UInt8) (n:Nat) (l:List UInt8):Nat->List UInt8:=fun k=>if k=n then l else Pg k
def br (D:Int->Bool) (n:Int):Int->Bool:=fun k=>if k=n then true else D k
theorem Pc.write (h:Pc w c F size N Pg Cm D o u) (n:Nat) (hn:n<N) (l:List UInt8) (hl:l.length=512) (ad:Addr) (cp:Nat) (hb:az w ad l) (hr:D n=true\/(dkD N D).length<min size 100) :
  Calls Tryz.prog 120 #[.pointer (some ⟨c,0,none⟩),.int .i64 n,.slice (some ad) 512 cp] w fun e w'=>e = .returned (.int .i64 0)/\ac F w w'/\Pc w' c F size N (bf Pg n l) Cm (br D n) o u:=by
 obtain ⟨L,C,h⟩:=h;have hr':(C.dirty n).isSome\/C.dirtyKeys.length<min C.size 100:=by
  rw [h.keys,h.sz,h.dirty];exact hr
 refine (u0 n l ad cp w h.at_ (by rw [h.nn];exact hn) hl hb hr').mono ?_;rintro e w' ⟨rfl,g,cap,Dd,Du,hg,hC,hK⟩;have hf:∀i,(i=L.dm\/i=L.um)->F i:=fun i hi=>h.foot i (hi.elim (fun e => .inr (.inr (.inl e))) (fun e => .inr (.inr (.inr e))));have hsp:rR w'.heap.size { L with dv:=cG L.dv n (.slice (some ⟨g,0,none⟩) 512 cap),Dd:=Dd,Du:=Du } N (bf Pg n l) Cm:=fun q hq=>by
  have hq':Pg (N+1+q)=[7]\/Cm (N+1+q)=[7]:=hq.imp (fun e=>by unfold bf at e;rw [if_neg (by omega)] at e;exact e) id;obtain ⟨h1,h2,h3⟩:=h.sep q hq';refine ⟨Nat.lt_of_lt_of_le h1 hK.size,h2,fun k cp e => ?_⟩;have e':cG L.dv n (.slice (some ⟨g,0,none⟩) 512 cap) k=some (.slice (some ⟨q,0,none⟩) 512 cp):=e;unfold cG at e'
  split at e'
  ·have e2:=Option.some.inj e';rw [Value.slice.injEq] at e2;have e3:g=q:=congrArg Addr.block (Option.some.inj e2.1);omega
  ·exact h3 k cp e'
 refine ⟨rfl,hK.mono hf,_,_,hC,h.sz,h.nn,h.made,h.ops,h.uses,fun k hk => ?_,h.cm,fun k => ?_,?_,h.foot,fun i hi=>Nat.lt_of_lt_of_le (h.lt i hi) hK.size,Nat.lt_of_lt_of_le h.p0 hK.size,hsp,h.quiet⟩
 ·show (iA C.dirty n l k).getD (lg C.S (1+C.size+k))=bf Pg n l k;unfold iA bf;by_cases e:k=n
  ·rw [if_pos (by omega),if_pos e];rfl
  ·rw [if_neg (by omega),if_neg e, <- h.pg k hk];rfl
 ·show (iA C.dirty n l k).isSome=br D n k;unfold iA br;by_cases e:k=(n:Int)
  ·rw [if_pos e,if_pos e];rfl
  ·rw [if_neg e,if_neg e];exact h.dirty k
 ·have:=wJ C n l (od C.used n) (min size 100) h.room (by rw [h.sz] at hr';exact hr');exact this
theorem Pc.dirtyRow (h:Pc w c F size N Pg Cm D o u) :
  Calls Tryz.prog 44 #[.pointer (some ⟨c,0,none⟩)] w fun e w'=>∃v,e = .returned v/\w'.ownsRow w.heap.size 3 1 v (dkD N D).length ((dkD N D).map encZ)/\Below w.heap.size w w':=by
 obtain ⟨L,C,h⟩:=h;have hk:=h.keys;refine (mq w h.at_).mono ?_;rintro e w' ⟨v,rfl,hrow,-,hb⟩;rw [hk] at hrow;exact ⟨v,rfl,hrow,hb⟩
theorem Pc.roomC (h:Pc w c F size N Pg Cm D o u) :
  Calls Tryz.prog 58 #[.pointer (some ⟨c,0,none⟩)] w fun e w'=>e = .returned (.int .i64 (((min size 100:Nat):Int)-((dkD N D).length:Int)))/\Below w.heap.size w w':=by
 obtain ⟨L,C,h⟩:=h;have:=oX w h.at_;rw [h.keys,h.sz] at this;exact this
theorem Pc.logPages (h:Pc w c F size N Pg Cm D o u):∃p,(Calls Tryz.prog 56 #[.pointer (some ⟨c,0,none⟩)] w fun e w'=>e = .returned (.pointer (some ⟨p,0,none⟩))/\w'=w) /\
  (Calls Tryz.prog 57 #[.pointer (some ⟨p,0,none⟩)] w fun e w'=>e = .returned (.int .i64 (N:Nat))/\Below w.heap.size w w'):=by
 obtain ⟨L,C,h⟩:=h;refine ⟨L.p,xX w h.at_,?_⟩;have:=oO w h.at_.log h.at_.fits
 rwa [<- h.at_.pages,h.nn] at this
theorem rV (N:Nat):dkD N (fun _=>false)=[]:=by simp [dkD]
theorem Pc.commitT (h:Pc w c F size N Pg Cm D o u) (ho:o<=800000) :
  Calls Tryz.prog 15 #[.pointer (some ⟨c,0,none⟩)] w fun e w'=>e = .returned (.int .i64 0)/\ac F w w'/\∃F',(∀i,F i->F' i)/\(∀i,F' i->F i\/w.heap.size<=i)/\Pc w' c F' size N Pg Pg (fun _=>false) (o+(2*(dkD N D).length+6)) u:=by
 obtain ⟨L,C,h⟩:=h;have hr:C.dirtyKeys.length<=min C.size 100:=by rw [h.sz];exact h.room
 have hmd:=h.at_.comMade h.made hr;have hco:C.com.ops.length<=C.S.ops.length+(2*(dkD N D).length+6):=by
  have:=yc C.S C.size (L.ps C.dirtyKeys) (fun j=>(C.dirty (C.dirtyKeys.getD j 0)).getD []);rw [(h.at_.com hr).2] at this;have hpl:(L.ps C.dirtyKeys).length=C.dirtyKeys.length:=by simp [bM.ps]
  rw [hpl,h.keys] at this
  split at this <;> omega
 have hse:=h.at_.comSee hr;refine (qX w h.at_ hr (by have:=h.ops;omega)).mono ?_;rintro e w' ⟨rfl,d',F',hF1,hF2,hC,hK⟩;have hft:∀i,L.F i\/i=L.dm->F i:=fun i hi=>h.foot i (hi.elim .inl (fun e => .inr (.inr (.inl e))));refine ⟨rfl,hK.mono hft,fun i=>F i\/(F' i/\w.heap.size<=i),fun i hi => .inl hi,fun i hi=>hi.imp id (fun h=>h.2),_,_,hC,h.sz,h.nn,hmd,?_,h.uses,fun n hn => ?_,fun n hn => ?_,fun n=>rfl,?_,fun i hi => ?_,fun i hi => ?_,Nat.lt_of_lt_of_le h.p0 hK.size,fun q hq => ?_,⟨h.at_.comWaits hr h.quiet.1,h.at_.comHead hr h.quiet.2⟩⟩
 ·show C.com.ops.length<=_;have:=h.ops;omega
 ·have h1:=hse n (by rw [h.nn];exact hn);rw [h.pg n hn] at h1;exact h1
 ·have h1:=hse n (by rw [h.nn];exact hn);rw [h.pg n hn,h.sz] at h1;exact h1
 ·rw [CS.dirtyKeys_none rfl];simp
 ·rcases hi with hi | hi | hi | hi
  ·rcases hF2 i hi with h1 | h1
   ·exact .inl (h.foot i (.inl h1))
   ·exact .inr ⟨hi,h1⟩
  ·exact .inl (h.foot i (.inr (.inl hi)))
  ·exact .inl (h.foot i (.inr (.inr (.inl hi))))
  ·exact .inl (h.foot i (.inr (.inr (.inr hi))))
 ·rcases hi with hi | hi
  ·exact Nat.lt_of_lt_of_le (h.lt i hi) hK.size
  ·exact hC.lt i hi.1
 ·obtain ⟨h1,h2,h3⟩:=h.sep q (.inl (hq.elim id id));exact ⟨Nat.lt_of_lt_of_le h1 hK.size,fun hh=>(hF2 q hh).elim h2 (fun e=>by omega),fun k cp e=>by cases e⟩
theorem Pc.commit (h:Pc w c F size N Pg Cm D o u) (ho:o<=800000) :
  Calls Tryz.prog 15 #[.pointer (some ⟨c,0,none⟩)] w fun e w'=>e = .returned (.int .i64 0)/\ac F w w'/\∃F',(∀i,F i->F' i)/\(∀i,F' i->F i\/w.heap.size<=i)/\Pc w' c F' size N Pg Pg (fun _=>false) (o+(2*size+6)) u:=by
 have hl:=h.keysLen;refine (h.commitT ho).mono ?_;rintro e w' ⟨rfl,hk,F',h1,h2,hp⟩;exact ⟨rfl,hk,F',h1,h2,hp.more (by omega) (Nat.le_refl _)⟩
end
end
section
open Go.RowKit Go.Maps
def fW (w:World) (b:Nat):Prop:=∃cs t fr,w.heap[b]? = some (.cells cs t fr)/\(t≠128/\t≠109/\t≠100)/\∀v∈cs.toList,(∃n,v = .int .i64 n)\/(∃x,v = .bool x)\/(∃a n c,v = .slice a n c)\/(∃a,v = .pointer a)\/∃s:ByteArray,v = .string s/\s.size≠512
theorem fW.not {w:World} {b:Nat} {ad:Addr} {v:Value} (h:fW w b) (hc:w.cell? ad=some v) (hv:(∀n,v ≠ .int .i64 n)/\(∀x,v ≠ .bool x)/\(∀a n c,v ≠ .slice a n c)/\(∀a,v ≠ .pointer a)/\∀s:ByteArray,v = .string s->s.size=512):ad.block≠b:=fun e=>by
 obtain ⟨cs,t,fr,hb,-,hk⟩:=h;have hp:=ef hc;rw [hp,e,aa hb] at hc;have hm:v∈cs.toList:=by
  obtain ⟨h1,h2⟩:=Array.getElem?_eq_some_iff.1 hc;rw [<- h2];simp
 rcases hk v hm with ⟨n,rfl⟩ | ⟨x,rfl⟩ | ⟨a,n,c,rfl⟩ | ⟨a,rfl⟩ | ⟨s,rfl,h5⟩
 ·exact hv.1 n rfl
 ·exact hv.2.1 x rfl
 ·exact hv.2.2.1 a n c rfl
 ·exact hv.2.2.2.1 a rfl
 ·exact h5 (hv.2.2.2.2 s rfl)
theorem fW.noMap {w:World} {b:Nat} (h:fW w b) (e:Array MapEntry) (k:Nat):w.heap[b]? ≠ some (.map e k):=fun hm=>by
 obtain ⟨cs,t,fr,hb,-⟩:=h;rw [hb] at hm;cases hm
theorem fW.type {w:World} {b:Nat} (h:fW w b) {cs:Array Value} {t:TypeId} {fr:Nat×Nat} (hm:w.heap[b]? = some (.cells cs t fr)):t≠128/\t≠109/\t≠100:=by
 obtain ⟨cs',t',fr',hb,ht,-⟩:=h;rw [hb] at hm;simp only [Option.some.injEq,Obj.cells.injEq] at hm;rw [<- hm.2.1];exact ht
theorem bq.keepY {w w':World} {d:DL} {S:aq} {F G:Nat->Prop} (h:bq w d S F) (hz:∀s∈S.first,s.size=512) (hb:∀b,G b->fW w b) (hF:∀b,G b->¬F b) (k:ac G w w'):bq w' d S F:=by
 rcases h with ⟨h,hf⟩ | ⟨h,hf⟩
 ·refine .inl ⟨?_,hf⟩;have hne:∀i,d.cutFoot S.waits i->¬G i:=fun i hi e=>hF i e (hf i hi);obtain ⟨h1,⟨a,e1,e2,e3⟩,⟨ad,c,e4,e5,e6⟩,h4⟩:=h;refine ⟨h1.keep k (hne _ (.inl rfl)) (fun i hi=>hne i (.inr hi)),⟨a,e1,e2,fun q hq=>⟨fun j u hu => ?_,Nat.lt_of_lt_of_le (e3 q hq).2 k.size⟩⟩,⟨ad,c,e4,fun j s hj => ?_,e6⟩,h4⟩
  ·refine k.cell ((e3 q hq).1 j u hu) (fun hG=>(hb _ hG).not ((e3 q hq).1 j u hu) ?_ rfl);rw [List.getElem?_map] at hu;cases ho:S.ops[j]? with
   | none=>rw [ho] at hu;cases hu
   | some o=>rw [ho] at hu;obtain rfl:=Option.some.inj hu;cases o <;> simp [cO]
  ·exact k.cell (e5 j s hj) (fun hG=>(hb _ hG).not (e5 j s hj) ⟨by simp,by simp,by simp,by simp,fun s' e=>by cases e;exact hz _ (List.mem_of_getElem? hj)⟩ rfl)
 ·refine .inr ⟨?_,hf⟩;have hne:∀i,d.foot S.waits i->¬G i:=fun i hi e=>hF i e (hf i hi);refine h.keep k hne (fun i hi e => ?_);obtain ⟨ad,c,e4,e5,e6⟩:=h.first;have hpos:0<S.first.length:=by rw [h.flen];exact h.plates.pos
  have hc:=e5 0 S.first[0] (List.getElem?_eq_getElem hpos);have h1:=(hb i e).not hc ⟨by simp,by simp,by simp,by simp,fun s' e=>by cases e;exact hz _ (List.getElem_mem _)⟩;rw [aJ] at h1;rw [e4] at hi;exact h1 (Option.some.inj hi)
theorem bH.keepY {w w':World} {p:Nat} {d:DL} {S:aq} {size rec:Nat} {F G:Nat->Prop} (h:bH w p d S size rec F) (hz:∀s∈S.first,s.size=512) (hb:∀b,G b->fW w b) (hF:∀b,G b->¬F b) (k:ac G w w'):bH w' p d S size rec F:=by
 refine ⟨k.heap h.heap (fun e => ?_),h.disk.keepY hz hb hF k,h.off⟩;exact absurd ((hb p e).type h.heap) (by decide)
theorem av.keepY {w w':World} {c:Nat} {L:bM} {C:CS} (h:av w c L C) (hz:∀s∈C.S.first,s.size=512) {G:Nat->Prop} (hg:∀b,G b->fW w b) (hF:∀b,G b->¬L.F b) (k:ac G w w'):av w' c L C:=by
 obtain ⟨es,kk,hm⟩:=h.dmap;obtain ⟨es',kk',hu⟩:=h.umap;have hmap:∀m e k0,w.heap[m]? = some (.map e k0)->¬G m:=fun m e k0 hm e1=>(hg m e1).noMap _ _ hm;exact {
  heap:=k.heap h.heap (fun e=>absurd ((hg c e).type h.heap) (by decide))
  log:=h.log.keepY hz hg hF k
  lt:=fun i hi=>Nat.lt_of_lt_of_le (h.lt i hi) k.size
  dirty:=h.dirty.keep k (hmap _ _ _ hm)
  bytes:=fun n v hv=>by
   obtain ⟨g',cap,bs,h1,h2,h3,h4,h5⟩:=h.bytes n v hv;subst h2;refine ⟨g',cap,bs,h1,rfl,fun j hj=>k.cell (h3 j hj) (fun hG=>(hg _ hG).not (h3 j hj) (by simp) rfl),h4,h5⟩
  clean:=h.clean
  used:=h.used.keep k (hmap _ _ _ hu)
  offc:=h.offc
  offd:=h.offd
  offu:=h.offu
  ne:=h.ne
  pages:=h.pages
  fits:=h.fits
  few:=h.few
  ub:=h.ub }
section
variable {w w':World} {c:Nat} {F:Nat->Prop} {size N:Nat} {Pg Cm:Nat->List UInt8} {D:Int->Bool} {o u:Nat}
theorem Pc.keepYs (h:Pc w c F size N Pg Cm D o u) {G:Nat->Prop} (hg:∀b,G b->fW w b) (hF:∀b,G b->¬F b) (k:ac G w w'):Pc w' c F size N Pg Cm D o u:=by
 obtain ⟨L,C,h⟩:=h;exact ⟨L,C,h.at_.keepY h.made.size hg (fun b hb hf=>hF b hb (h.foot _ (.inl hf))) k,h.sz,h.nn,h.made,h.ops,h.uses,h.pg,h.cm,h.dirty,h.room,h.foot,fun i hi=>Nat.lt_of_lt_of_le (h.lt i hi) k.size,Nat.lt_of_lt_of_le h.p0 k.size,h.sep.mono k.size,h.quiet⟩
theorem Pc.keepY (h:Pc w c F size N Pg Cm D o u) {b:Nat} (hg:fW w b) (hF:¬F b) (k:ac (fun i=>i=b) w w'):Pc w' c F size N Pg Cm D o u:=h.keepYs (G:=fun i=>i=b) (fun i e=>by have e':i=b:=e;rw [e'];exact hg) (fun i e=>by have e':i=b:=e;rw [e'];exact hF) k
end
end
section
open Go.RowKit
def dG (w:World) (b:Nat) (L:List Bool):Prop:=w.heap[b]? = some (.cells (L.map Value.bool).toArray 4 (0,0))
theorem dG.cell {w:World} {b:Nat} {L:List Bool} (h:dG w b L) (j:Nat) (hj:j<L.length):w.cell? ⟨b,j,none⟩=some (.bool L[j]):=by
 rw [aa h];simp [hj]
theorem dG.set {w:World} {b:Nat} {L:List Bool} (h:dG w b L) (j:Nat) (x:Bool):dG (w.setCell ⟨b,j,none⟩ (.bool x)) b (L.set j x):=by
 have h1:=ap h j (.bool x);rw [List.setIfInBounds_toArray] at h1;unfold dG;rw [h1,List.map_set]
theorem sY:(Tryz.prog.info? 4).map (fun i=>(i.zero,i.size,i.bytes))=some (some (.bool false),1,1):=by kernel_rfl
theorem zQ (n:Nat):madeCells (Value.bool false).cells (n*1)=(List.replicate n (Value.bool false)).toArray:=by
 apply Array.ext
 ·simp [madeCells]
 ·intro i h1 h2;simp [madeCells,Value.cells,Nat.mod_one]
end
end Go.Proofs.YtpiieilffkickaaGreatDoor
