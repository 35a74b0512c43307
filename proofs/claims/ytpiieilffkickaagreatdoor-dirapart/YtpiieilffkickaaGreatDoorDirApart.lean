/- DirApart: what is added to one directory is in no other one, for every deeds and every slice of texts; the calls do what is asked of them: the statement, as a card. No condition but the form's own. -/
import Derived.Test.YtpiieilffkickaaGreatDoorJoined8
import Derived.Test.YtpiieilffkickaaGreatDoorDRow
set_option maxRecDepth 100000
namespace Go.Proofs.YtpiieilffkickaaGreatDoor
open Go.ChangeShapes Go.WideShapes Go.ChangeAt Go.RowKit
theorem uJ (os:Os):laidMet Tryz.prog Rows.dirApartRow.laid ((iu (World.holding Tryz.prog os ⟨#[],#[],[]⟩)).forCall (fun _ _=>0) ⟨#[],#[.slice none 0 0,.slice none 0 0],[]⟩).memory :=
 laidMet_of_run' 8 (by kernel_rfl) (by kernel_rfl)
theorem xJ (os:Os) {H:Type} (enc:TypeId×Value->H):∃places,DataW.whole enc Tryz.prog ((iu (World.holding Tryz.prog os ⟨#[],#[],[]⟩)).forCall (fun _ _=>0) ⟨#[],#[.slice none 0 0,.slice none 0 0],[]⟩).memory Tryz.f4.params.toList Rows.dirApartSpec.vars false #[Value.slice none 0 0,Value.slice none 0 0].toList 8=some ([.nil,.nil],[],places) :=
 ⟨[],by kernel_rfl⟩
theorem ur:∀t∈Tryz.f4.params.toList,Tryz.prog.readableRec t=true/\t<Tryz.prog.types.size:=by
 rw [Tryz.params4];intro t ht;simp only [List.mem_cons,List.mem_nil_iff,or_false] at ht;rcases ht with rfl | rfl <;> exact ⟨by kernel_rfl,of_decide_eq_true (by kernel_rfl)⟩
theorem ul (H:Type) (enc:TypeId×Value->H) (W:World) (base:Nat) (args:Array Value) (ds gs:List (DataW H)) (before:List MemPlace)
  (hval:∀(j:Nat) t v,Tryz.f4.params[j]? = some t->args[j]? = some v->Value.okWide Tryz.prog W .any base t v)
  (hW:DataW.Whole enc Tryz.prog Tryz.f4.params.toList Rows.dirApartSpec.vars false W args.toList ds gs before)
  (hS:W.ShapedOpen Tryz.prog) :
  Calls Tryz.prog 4 args W fun e W'=>∃v,e = .returned v/\Rows.dirApartSpec.post enc Tryz.prog Tryz.f4 false true false false W args v W':=by
 have hW':=hW;obtain ⟨p,q,hA0,hV,rfl,_,_⟩:=hW;have hA:DataW.TrodAll enc Tryz.prog W 0 (fun _=>true) true Tryz.f4.params.toList args.toList ds p:=hA0;rw [Tryz.params4] at hA hval;obtain ⟨v0,vs0,d0,ds0,p0,q0,hargs,rfl,rfl,h0,r0⟩:=trodAll_cons hA;obtain ⟨v1,vs1,d1,ds1,p1,q1,rfl,rfl,rfl,h1,r1⟩:=trodAll_cons r0;obtain ⟨rfl,rfl,rfl⟩:=trodAll_nil r1;obtain rfl:args=#[v0,v1]:=by cases args;simp_all
 obtain ⟨rfl,rfl⟩:=trodVars_none hV;obtain ⟨xs,a,c,rfl,hr,-⟩:=yj (hval 0 22 v0 rfl rfl) h0;obtain ⟨ys,hy,hy9⟩:=xD (hval 1 36 v1 rfl rfl) h1;refine (rZ xs a c v1 ys W hr hy hy9 (uU hS)).mono fun e W' ⟨he,hg⟩ => ?_;subst he;exact ⟨_,rfl,wR hW' rfl (by kernel_rfl) rfl ur hg⟩
theorem wt (os:Os) (started:os.Started) (H:Type) (enc:TypeId×Value->H) (F:Stop.Interp) :
  ReturnsInHanded {} Tryz.checked os 4 .any ((OpenSpec.ofChange Rows.dirApartSpec).preRow enc Tryz.prog Tryz.f4 Rows.dirApartRow.domain false Rows.dirApartRow.laid) (((OpenSpec.ofChange Rows.dirApartSpec).at F).post enc Tryz.prog Tryz.f4 false true false false):=by
 obtain ⟨places,hx⟩:=xJ os enc;refine returnsInHanded_of_row (C:=Tryz.checked) (s:=OpenSpec.ofChange Rows.dirApartSpec) own started (by kernel_rfl) Tryz.func4
  (witness_row_at (enc:=enc) (C:=Tryz.checked) false (iu (World.holding Tryz.prog os ⟨#[],#[],[]⟩)) #[.slice none 0 0,.slice none 0 0] rfl (by kernel_rfl) (by kernel_rfl) (by kernel_rfl)
   (OpenSpec.preRow_of_cond 8 hx (by kernel_rfl) (fun k hk=>by cases hk) (by kernel_rfl) (uJ os))) ?_
 intro W base args ds gs before hval hW _ _ _ _ hS _;exact ul H enc W base args ds gs before hval hW hS
theorem yq:Rows.DirApartSaid :=
 OpenClaim.holds_of_cond 4 Tryz.f4 rfl rfl rfl rfl rfl rfl rfl ⟨rfl,rfl,rfl,rfl,rfl⟩ rfl rfl rfl rfl rfl (by kernel_rfl) Tryz.func4 (by kernel_rfl)
  (of_decide_eq_true (by kernel_rfl)) (by unfold Func.isWrapper;first | (rw [if_pos (by decide +kernel)];kernel_rfl) | (rw [if_neg (by decide +kernel)];exact ⟨rfl,rfl⟩))
  (fun os started H enc _ F=>by rw [OpenClaim.pre_eq_preRow];exact wt os started H enc F)
theorem xC (f:FuncId) (fn:Func) (hf:Tryz.pinned.checked.prog.funcNamed "dunnage/dunnagelaw07.DirApart" = some f) (hfn:Tryz.pinned.checked.prog.funcs[f]? = some fn) :
  true=Tryz.pinned.checked.prog.looks []/\∀(j:Nat) t,fn.params[j]? = some t->Tryz.pinned.checked.prog.wantsStandIn t=false:=by
 obtain rfl:f=4:=Option.some.inj ((show Tryz.prog.funcNamed "dunnage/dunnagelaw07.DirApart" = some 4 by kernel_rfl).symm.trans hf) |>.symm;obtain rfl:fn=Tryz.f4:=(Option.some.inj (Tryz.func4.symm.trans hfn)).symm;refine ⟨by kernel_rfl,fun j t ht => ?_⟩;rw [Tryz.params4] at ht;have hm:=Array.mem_of_getElem? ht;simp only [List.mem_toArray,List.mem_cons,List.mem_nil_iff,or_false] at hm;rcases hm with hm | hm
 ·subst hm;exact (show Tryz.prog.wantsStandIn 22=false by kernel_rfl)
 ·subst hm;exact (show Tryz.prog.wantsStandIn 36=false by kernel_rfl)
theorem dirApart_card:Rows.DirApartCardSaid :=
 Claim7.holds_tied_plain_at .later [] _ _ _ _ yq (fun _ h=>by cases h) (by kernel_rfl) (fun _ h=>by cases h) dirApart_row_tie rfl ⟨rfl,rfl⟩ (by kernel_rfl) rfl xC (by kernel_rfl)
end Go.Proofs.YtpiieilffkickaaGreatDoor
