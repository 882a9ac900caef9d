/-
 DeskDamage (wharfingerlaw24) is true for every input,and its arguments read behind the call as they read before;the card that ties the listed package-level variables of the library to the program's text. No other condition.
-/
import Derived.Test.YthfgmpooehkhgaaGreatDoorCards
import Derived.Test.YthfgmpooehkhgaaGreatDoorTie
import Derived.Test.YthfgmpooehkhgaaGreatDoorSmhfldjh
import Derived.Lay
import Derived.Deep.DeepHandedRow
namespace Go.Proofs.YthfgmpooehkhgaaGreatDoor.deskDamage
open Go.ChangeShapes Go.WideShapes Go.ChangeAt Go.RowKit
open Go.ChangeMaps (open_string shut_string)
set_option linter.unusedVariables false
theorem own:ownKnob Tryz.prog.godebug=none:=by kernel_rfl
theorem laidOut:laidOutB Tryz.prog=true:=by kernel_rfl
theorem walk(a0:Int)(a1:Bool)(l2:List C22.Cl)(a2:Option Addr)(cap2:Nat)(w:World)(w0:(Lit.int .i64 a0).wf =true)(w2:C22.ClsIn w l2 a2)(hg:Gl w):
 Calls Tryz.prog 6 #[.int .i64 a0,.bool a1,.slice a2 l2.length cap2] w fun e w'=>e= .returned (.bool true)∧Below w.heap.size w w':=by
 exact deskDamage_walk a0 a1 l2 a2 cap2 w w0 w2 hg
theorem plainLaid:(Rows.deskDamageRow.laid.all fun x=>x.2.handleName?.isNone)=true:=by kernel_rfl
theorem laid_met(os:Os):laidMetH Tryz.prog Rows.deskDamageRow.laid ((World.laidAll Tryz.prog os Rows.deskDamageRow.laid).forCall (fun _ _=>0) ⟨#[],#[.int .i64 0,.bool false,.slice none 0 0],[]⟩).memory :=by
 rw[MakeChecks.laidMetH_plain _ _ _ plainLaid]
 exact laidMet_laidAll _ (by kernel_rfl) (by kernel_rfl)
theorem reads(os:Os){H:Type}(enc:TypeId×Value→H):∃places,DataW.whole enc Tryz.prog ((World.laidAll Tryz.prog os Rows.deskDamageRow.laid).forCall (fun _ _=>0) ⟨#[],#[.int .i64 0,.bool false,.slice none 0 0],[]⟩).memory Tryz.f6.params.toList Rows.deskDamageSpec.vars false (#[.int .i64 0,.bool false,.slice none 0 0]:Array Value).toList 8=some ([.lit (.int .i64 0),.lit (.bool false),.nil],[],places):=
 ⟨[],by kernel_rfl⟩
set_option maxRecDepth 100000 in
theorem lifted(os:Os)(started:os.Started)(H:Type)(enc:TypeId×Value→H)(X:Stop.Interp):
 ReturnsInHanded {} Tryz.checked os 6 .any ((OpenSpec.ofChange Rows.deskDamageSpec).preRow enc Tryz.prog Tryz.f6 Rows.deskDamageRow.domain false Rows.deskDamageRow.laid) (((OpenSpec.ofChange Rows.deskDamageSpec).at X).post enc Tryz.prog Tryz.f6 false true false false):=by
 obtain⟨places,hx⟩:=reads os enc
 refine returnsInHanded_of_row (C:=Tryz.checked) (s:=OpenSpec.ofChange Rows.deskDamageSpec) own started (by kernel_rfl) Tryz.func6
  ⟨World.laidAll Tryz.prog os Rows.deskDamageRow.laid,fun _ _=>0,⟨#[],#[.int .i64 0,.bool false,.slice none 0 0],[]⟩,World.laidAll_os _ _ _,World.shaped_of_ZipB (by kernel_rfl) (by kernel_rfl),rfl,(Input.okWide_of_okWideB (by kernel_rfl)).2,
    OpenSpec.preRow_of_cond 8 hx (by kernel_rfl) (fun k hk=>by cases hk) (by kernel_rfl) (laid_met os),by simp[Assume.holds]⟩ ?_
 intro W base args ds gs before hval0 hW _ _ _ hL hS _
 have hval:∀(j:Nat) t v,Tryz.f6.params[j]?=some t→args[j]?=some v→Value.okWide Tryz.prog W .any base t v:=hval0
 have hW':=hW
 obtain⟨p,q,hA0,hV,rfl,hfz,hnd⟩:=hW
 have hA:DataW.TrodAll enc Tryz.prog W 0 (fun _=>true) true Tryz.f6.params.toList args.toList ds p:=hA0
 rw[Tryz.params6]at hA hval
 obtain⟨v0,vs0,d0,ds0,p0,q0,hargs,rfl,rfl,h0,r0⟩:=trodAll_cons hA
 obtain⟨v1,vs1,d1,ds1,p1,q1,rfl,rfl,rfl,h1,r1⟩:=trodAll_cons r0
 obtain⟨v2,vs2,d2,ds2,p2,q2,rfl,rfl,rfl,h2,r2⟩:=trodAll_cons r1
 obtain⟨rfl,rfl,rfl⟩:=trodAll_nil r2
 obtain rfl:args= #[v0,v1,v2]:=by cases args;simp_all
 obtain⟨rfl,rfl⟩:=trodVars_none hV
 obtain⟨a0,rfl,rfl,rfl,w0⟩:=open_int Tryz.underlying3 (hval 0 3 v0 rfl rfl) h0
 obtain⟨a1,rfl,rfl,rfl⟩:=open_bool Tryz.underlying4 (hval 1 4 v1 rfl rfl) h1
 have k_2:=h2
 have lt2:∀x∈p2,x.block<W.heap.size:=by obtain⟨m,hm⟩:=k_2;exact DataW.trod_lt m _ _ _ hm
 obtain⟨a2,len2,cap2,rfl⟩:=okWide_slice Tryz.underlying22 (hval 2 22 v2 rfl rfl)
 obtain⟨l2,rfl,w2⟩:=C22.cls_opens h2
 have hg:Gl W:=gl_laid plainLaid hL hS
 clear hA0 hval0
 refine(walk a0 a1 l2 a2 cap2 W w0 w2 hg).mono fun e W' ⟨he,bel⟩=>?_
 subst he
 exact⟨_,rfl,_,_,_,[],_,[],hW',trodAll_cons_mk (shut_bool Tryz.underlying4 _) trodAll_mk0,(trodAll_cons_mk (shut_int Tryz.underlying3 w0) (trodAll_cons_mk (shut_bool Tryz.underlying4 _) (trodAll_cons_mk (Below.trod laidOut (by kernel_rfl) (of_decide_eq_true (by kernel_rfl)) k_2 bel lt2) trodAll_mk0))),rfl,bel.frame _,fun h=>by cases h⟩
theorem joined:joinedFacts Tryz.pinned.checked.prog 6 Tryz.f6 (OpenSpec.ofChange Rows.deskDamageSpec).bare Rows.deskDamageRow=true:=by kernel_rfl
theorem said:Rows.DeskDamageSaid:=
 OpenClaim.holds_of_cond 6 Tryz.f6 rfl rfl rfl rfl rfl rfl rfl ⟨rfl,rfl,rfl,rfl,rfl⟩ rfl rfl rfl rfl rfl (by kernel_rfl) Tryz.func6 joined
  (of_decide_eq_true (by kernel_rfl)) (by unfold Func.isWrapper;first|(rw[if_pos (by decide+kernel)];kernel_rfl)|(rw[if_neg (by decide+kernel)];exact⟨rfl,rfl⟩))
  (fun os started H enc _ X=>by rw[OpenClaim.pre_eq_preRow];exact lifted os started H enc X)
theorem plain(f:FuncId)(fn:Func)(hf:Tryz.pinned.checked.prog.funcNamed "wharfinger/wharfingerlaw24.DeskDamage" =some f)(hfn:Tryz.pinned.checked.prog.funcs[f]?=some fn):
 true=Tryz.pinned.checked.prog.looks []∧∀(j:Nat) t,fn.params[j]?=some t→Tryz.pinned.checked.prog.wantsStandIn t=false:=by
 obtain rfl:f=6:=Option.some.inj ((show Tryz.prog.funcNamed "wharfinger/wharfingerlaw24.DeskDamage" =some 6 by kernel_rfl).symm.trans hf)|>.symm
 obtain rfl:fn=Tryz.f6:=(Option.some.inj (Tryz.func6.symm.trans hfn)).symm
 refine⟨by kernel_rfl,fun j t ht=>?_⟩
 rw[Tryz.params6]at ht
 have hm:t∈[3,4,22]:=by simpa using Array.mem_of_getElem? ht
 have hall:([3,4,22].all fun u=> !Tryz.prog.wantsStandIn u)=true:=by kernel_rfl
 exact(show Tryz.prog.wantsStandIn t=false by simpa using List.all_eq_true.1 hall t hm)
end Go.Proofs.YthfgmpooehkhgaaGreatDoor.deskDamage
namespace Go.Proofs.YthfgmpooehkhgaaGreatDoor
theorem deskDamage_holds:Rows.DeskDamageCardSaid:=
 Claim7.holds_tied_plain_at .later [] _ _ _ _ deskDamage.said (fun _ h=>by cases h) (by kernel_rfl) (fun _ h=>by cases h) deskDamage_row_tie rfl ⟨rfl,rfl⟩ (by kernel_rfl) rfl deskDamage.plain (by kernel_rfl)
#print axioms deskDamage_holds
end Go.Proofs.YthfgmpooehkhgaaGreatDoor
