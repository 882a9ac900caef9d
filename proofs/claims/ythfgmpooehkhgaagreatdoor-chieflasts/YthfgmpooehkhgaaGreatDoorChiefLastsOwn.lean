/-
 ChiefLasts (wharfingerlaw22) is true for every input,and its arguments read behind the call as they read before;the card that ties the listed package-level variables of the library to the program's text. No other condition.
-/
import Derived.Test.YthfgmpooehkhgaaGreatDoorCards
import Derived.Test.YthfgmpooehkhgaaGreatDoorTie
import Derived.Test.YthfgmpooehkhgaaGreatDoorSmdaonml
import Derived.Lay
import Derived.Deep.DeepHandedRow
namespace Go.Proofs.YthfgmpooehkhgaaGreatDoor.chiefLasts
open Go.ChangeShapes Go.WideShapes Go.ChangeAt Go.RowKit
open Go.ChangeMaps (open_string shut_string)
open Sg
set_option linter.unusedVariables false
theorem own:ownKnob Tryz.prog.godebug=none:=by kernel_rfl
theorem laidOut:laidOutB Tryz.prog=true:=by kernel_rfl
theorem walk(o0:Od)(a0:Option Addr)(cap0:Nat)(l1:List C22.Cl)(a1:Option Addr)(cap1:Nat)(w:World)(w0:OdIn w o0 a0 cap0)(w1:C22.ClsIn w l1 a1)(hg:Gl w):
 Calls Tryz.prog 4 #[.agg #[.int .i64 o0.id,.int .i64 o0.item,.int .i64 o0.qty,.int .i64 o0.client,.int .i64 o0.price,.slice a0 o0.steps.length cap0],.slice a1 l1.length cap1] w fun e w'=>e= .returned (.bool true)∧Below w.heap.size w w':=by
 exact chiefLasts_walk o0 a0 cap0 l1 a1 cap1 w w0 w1 hg
theorem plainLaid:(Rows.chiefLastsRow.laid.all fun x=>x.2.handleName?.isNone)=true:=by kernel_rfl
theorem laid_met(os:Os):laidMetH Tryz.prog Rows.chiefLastsRow.laid ((World.laidAll Tryz.prog os Rows.chiefLastsRow.laid).forCall (fun _ _=>0) ⟨#[],#[.agg #[.int .i64 0,.int .i64 0,.int .i64 0,.int .i64 0,.int .i64 0,.slice none 0 0],.slice none 0 0],[]⟩).memory :=by
 rw[MakeChecks.laidMetH_plain _ _ _ plainLaid]
 exact laidMet_laidAll _ (by kernel_rfl) (by kernel_rfl)
theorem reads(os:Os){H:Type}(enc:TypeId×Value→H):∃places,DataW.whole enc Tryz.prog ((World.laidAll Tryz.prog os Rows.chiefLastsRow.laid).forCall (fun _ _=>0) ⟨#[],#[.agg #[.int .i64 0,.int .i64 0,.int .i64 0,.int .i64 0,.int .i64 0,.slice none 0 0],.slice none 0 0],[]⟩).memory Tryz.f4.params.toList Rows.chiefLastsSpec.vars false (#[.agg #[.int .i64 0,.int .i64 0,.int .i64 0,.int .i64 0,.int .i64 0,.slice none 0 0],.slice none 0 0]:Array Value).toList 8=some ([.agg [.lit (.int .i64 0),.lit (.int .i64 0),.lit (.int .i64 0),.lit (.int .i64 0),.lit (.int .i64 0),.nil],.nil],[],places):=
 ⟨[],by kernel_rfl⟩
set_option maxRecDepth 100000 in
theorem lifted(os:Os)(started:os.Started)(H:Type)(enc:TypeId×Value→H)(X:Stop.Interp):
 ReturnsInHanded {} Tryz.checked os 4 .any ((OpenSpec.ofChange Rows.chiefLastsSpec).preRow enc Tryz.prog Tryz.f4 Rows.chiefLastsRow.domain false Rows.chiefLastsRow.laid) (((OpenSpec.ofChange Rows.chiefLastsSpec).at X).post enc Tryz.prog Tryz.f4 false true false false):=by
 obtain⟨places,hx⟩:=reads os enc
 refine returnsInHanded_of_row (C:=Tryz.checked) (s:=OpenSpec.ofChange Rows.chiefLastsSpec) own started (by kernel_rfl) Tryz.func4
  ⟨World.laidAll Tryz.prog os Rows.chiefLastsRow.laid,fun _ _=>0,⟨#[],#[.agg #[.int .i64 0,.int .i64 0,.int .i64 0,.int .i64 0,.int .i64 0,.slice none 0 0],.slice none 0 0],[]⟩,World.laidAll_os _ _ _,World.shaped_of_ZipB (by kernel_rfl) (by kernel_rfl),rfl,(Input.okWide_of_okWideB (by kernel_rfl)).2,
    OpenSpec.preRow_of_cond 8 hx (by kernel_rfl) (fun k hk=>by cases hk) (by kernel_rfl) (laid_met os),by simp[Assume.holds]⟩ ?_
 intro W base args ds gs before hval0 hW _ _ _ hL hS _
 have hval:∀(j:Nat) t v,Tryz.f4.params[j]?=some t→args[j]?=some v→Value.okWide Tryz.prog W .any base t v:=hval0
 have hW':=hW
 obtain⟨p,q,hA0,hV,rfl,hfz,hnd⟩:=hW
 have hA:DataW.TrodAll enc Tryz.prog W 0 (fun _=>true) true Tryz.f4.params.toList args.toList ds p:=hA0
 rw[Tryz.params4]at hA hval
 obtain⟨v0,vs0,d0,ds0,p0,q0,hargs,rfl,rfl,h0,r0⟩:=trodAll_cons hA
 obtain⟨v1,vs1,d1,ds1,p1,q1,rfl,rfl,rfl,h1,r1⟩:=trodAll_cons r0
 obtain⟨rfl,rfl,rfl⟩:=trodAll_nil r1
 obtain rfl:args= #[v0,v1]:=by cases args;simp_all
 obtain⟨rfl,rfl⟩:=trodVars_none hV
 have k_0:=h0
 have lt0:∀x∈p0,x.block<W.heap.size:=by obtain⟨m,hm⟩:=k_0;exact DataW.trod_lt m _ _ _ hm
 obtain⟨cs0,ecs0,hcs0⟩:=okWide_struct Tryz.underlying32 (hval 0 32 v0 rfl rfl)
 obtain⟨c00,c01,c02,c03,c04,c05,rfl⟩:=ord_six (hcs0.trans (show Tryz.prog.cellsOf 32=6 by kernel_rfl))
 subst ecs0
 obtain⟨o0,a0,cap0,e00,e01,e02,e03,e04,e05,w0⟩:=order_opens h0
 subst e00 e01 e02 e03 e04 e05
 have k_1:=h1
 have lt1:∀x∈p1,x.block<W.heap.size:=by obtain⟨m,hm⟩:=k_1;exact DataW.trod_lt m _ _ _ hm
 obtain⟨a1,len1,cap1,rfl⟩:=okWide_slice Tryz.underlying22 (hval 1 22 v1 rfl rfl)
 obtain⟨l1,rfl,w1⟩:=C22.cls_opens h1
 have hg:Gl W:=gl_laid plainLaid hL hS
 clear hA0 hval0
 refine(walk o0 a0 cap0 l1 a1 cap1 W w0 w1 hg).mono fun e W' ⟨he,bel⟩=>?_
 subst he
 exact⟨_,rfl,_,_,_,[],_,[],hW',trodAll_cons_mk (shut_bool Tryz.underlying4 _) trodAll_mk0,(trodAll_cons_mk (Below.trod laidOut (by kernel_rfl) (of_decide_eq_true (by kernel_rfl)) k_0 bel lt0) (trodAll_cons_mk (Below.trod laidOut (by kernel_rfl) (of_decide_eq_true (by kernel_rfl)) k_1 bel lt1) trodAll_mk0)),rfl,bel.frame _,fun h=>by cases h⟩
theorem joined:joinedFacts Tryz.pinned.checked.prog 4 Tryz.f4 (OpenSpec.ofChange Rows.chiefLastsSpec).bare Rows.chiefLastsRow=true:=by kernel_rfl
theorem said:Rows.ChiefLastsSaid:=
 OpenClaim.holds_of_cond 4 Tryz.f4 rfl rfl rfl rfl rfl rfl rfl ⟨rfl,rfl,rfl,rfl,rfl⟩ rfl rfl rfl rfl rfl (by kernel_rfl) Tryz.func4 joined
  (of_decide_eq_true (by kernel_rfl)) (by unfold Func.isWrapper;first|(rw[if_pos (by decide+kernel)];kernel_rfl)|(rw[if_neg (by decide+kernel)];exact⟨rfl,rfl⟩))
  (fun os started H enc _ X=>by rw[OpenClaim.pre_eq_preRow];exact lifted os started H enc X)
theorem plain(f:FuncId)(fn:Func)(hf:Tryz.pinned.checked.prog.funcNamed "wharfinger/wharfingerlaw22.ChiefLasts" =some f)(hfn:Tryz.pinned.checked.prog.funcs[f]?=some fn):
 true=Tryz.pinned.checked.prog.looks []∧∀(j:Nat) t,fn.params[j]?=some t→Tryz.pinned.checked.prog.wantsStandIn t=false:=by
 obtain rfl:f=4:=Option.some.inj ((show Tryz.prog.funcNamed "wharfinger/wharfingerlaw22.ChiefLasts" =some 4 by kernel_rfl).symm.trans hf)|>.symm
 obtain rfl:fn=Tryz.f4:=(Option.some.inj (Tryz.func4.symm.trans hfn)).symm
 refine⟨by kernel_rfl,fun j t ht=>?_⟩
 rw[Tryz.params4]at ht
 have hm:t∈[32,22]:=by simpa using Array.mem_of_getElem? ht
 have hall:([32,22].all fun u=> !Tryz.prog.wantsStandIn u)=true:=by kernel_rfl
 exact(show Tryz.prog.wantsStandIn t=false by simpa using List.all_eq_true.1 hall t hm)
end Go.Proofs.YthfgmpooehkhgaaGreatDoor.chiefLasts
namespace Go.Proofs.YthfgmpooehkhgaaGreatDoor
theorem chiefLasts_holds:Rows.ChiefLastsCardSaid:=
 Claim7.holds_tied_plain_at .later [] _ _ _ _ chiefLasts.said (fun _ h=>by cases h) (by kernel_rfl) (fun _ h=>by cases h) chiefLasts_row_tie rfl ⟨rfl,rfl⟩ (by kernel_rfl) rfl chiefLasts.plain (by kernel_rfl)
#print axioms chiefLasts_holds
end Go.Proofs.YthfgmpooehkhgaaGreatDoor
