import Derived.Deep.RegionHeld
namespace Go.Proofs.YthfgmpooehkhgaaGreatDoor
open Go
section
variable {P:Program}{ops:Array Oper}{Q:Exit→Act→World→Prop}{md:Region.Mode}{S:World→Prop}{T:List Nat}
def wpAnyT(P:Program)(md:Region.Mode)(ops:Array Oper)(Q:Exit→Act→World→Prop)(S:World→Prop)(T:List Nat):Nat→Array Bool→Act→World→Prop
 |0,listed,a,w=>Region.ready md ops listed= []∧Q .normal a w
 |fuel+1,listed,a,w=>
  (Region.ready md ops listed= []→Q .normal a w)∧
  ∀i∈Region.ready md ops listed,wpOp P ops Q i (fun a' w'=>(T.contains i=false→S w')∧wpAnyT P md ops Q S T fuel (listed.setIfInBounds i true) a' w') a w
theorem wpAny_of_T:∀(fuel:Nat)(listed:Array Bool)(a:Act)(w:World),wpAnyT P md ops Q S T fuel listed a w→wpAny P md ops Q fuel listed a w
 |0,_,_,_,h=>h
 |fuel+1,_,_,_,h=>⟨h.1,fun i hi=>wpOp_mono (fun a' w' h'=>wpAny_of_T fuel _ a' w' h'.2) (h.2 i hi)⟩
def waitsT(md:Region.Mode)(ops:Array Oper)(listed:Array Bool)(i:Nat)(T D:List Nat):Bool:=
 T.all (fun j=>listed.getD j true||D.contains j)&&D.all (fun j=> !listed.getD j true&&(match ops[j]?with|some o=>o.after.any (fun e=>Region.binds md e&&(e.on==i||D.contains e.on))|none=>false))
theorem wpAnyT_first{i:Nat}{oi:Oper}{v:Value}{D:List Nat}(hi:ops[i]?=some oi)(hsel:∀(j:Nat)(o:Oper) cs b,ops[j]?=some o→o.op≠ .select cs b)
 (hQ:∀c a w,Q (.panic c) (a.put oi.dst v) w→Q (.panic c) a w):
 ∀(fuel:Nat)(listed:Array Bool)(a:Act)(w:World),
  (∀j oj,ops[j]?=some oj→j≠i→listed.getD j true=false→(∀e∈oj.after,Region.binds md e=true→e.on≠i)→oi.apart ops oj=true)→
  waitsT md ops listed i T D=true→
  i∈Region.ready md ops listed→YieldsIf P ops S oi v a→S w→
  wpAnyT P md ops Q S T fuel (listed.setIfInBounds i true) (a.put oi.dst v) w→wpAnyT P md ops Q S T (fuel+1) listed a w:=by
 intro fuel
 induction fuel with
 |zero=>
  intro listed a w _ _ hr hy hS H;refine⟨fun h=>(by rw[h]at hr;cases hr),fun j hj=>?_⟩;by_cases hji:j=i
  ·subst hji;exact hy.wpOp hi hS ⟨fun _=>hS,H⟩
  ·have:=ready_mono hj hji
   rw[H.1]at this;cases this
 |succ fuel ih=>
  intro listed a w hfree hD hr hy hS H;refine⟨fun h=>(by rw[h]at hr;cases hr),fun j hj=>?_⟩;by_cases hji:j=i
  ·subst hji;exact hy.wpOp hi hS ⟨fun _=>hS,H⟩
  ·have h1:=H.2 j (ready_mono hj hji)
   obtain⟨hjun,oj,hoj,hall⟩:=mem_ready.1 hj;have un:∀ {k:Nat},listed.getD k true=false→listed.getD k false=true→False:=fun {k} h0 h1=>by
    rcases Nat.lt_or_ge k listed.size with h'|h'
    ·simp[h']at h0 h1;rw[h0]at h1;cases h1
    ·simp[Array.getElem?_eq_none h']at h1
   have hnot:∀e∈oj.after,Region.binds md e=true→e.on≠i:=fun e he hb heq=>un (mem_ready.1 hr).1 (heq▸hall e he hb)
   obtain⟨hT,hD1⟩:T.all (fun j=>listed.getD j true||D.contains j)=true∧D.all (fun j=> !listed.getD j true&&(match ops[j]?with|some o=>o.after.any (fun e=>Region.binds md e&&(e.on==i||D.contains e.on))|none=>false))=true:=by
    unfold waitsT at hD;exact Bool.and_eq_true_iff.1 hD
   have hDu:∀k∈D,listed.getD k true=false:=fun k hk=>by
    have:=List.all_eq_true.1 hD1 k hk
    simp only[Bool.and_eq_true,Bool.not_eq_true']at this;exact this.1
   have hjD:j∉D:=fun hj2=>by
    have h2:=List.all_eq_true.1 hD1 j hj2
    rw[hoj]at h2;simp only[Bool.and_eq_true]at h2;obtain⟨e,he,hb⟩:=Array.any_eq_true'.1 h2.2;simp only[Bool.and_eq_true,Bool.or_eq_true,beq_iff_eq,List.contains_iff_mem]at hb;rcases hb.2 with h3|h3
    ·exact hnot e he hb.1 h3
    ·exact un (hDu _ h3) (hall e he hb.1)
   have hjT:T.contains j=false:=by
    cases h:T.contains j
    ·rfl
    ·have h3:=List.all_eq_true.1 hT j (by simpa using h)
     rw[hjun,Bool.false_or]at h3;exact absurd (by simpa using h3) hjD
   have h2:=wpOp_putIf hoj (hfree j oj hoj hji hjun hnot) (fun cs b=>hsel i oi cs b hi) (fun cs b=>hsel j oj cs b hoj) hQ hy h1
   have hfree':∀k ok,ops[k]?=some ok→k≠i→(listed.setIfInBounds j true).getD k true=false→
    (∀e∈ok.after,Region.binds md e=true→e.on≠i)→oi.apart ops ok=true:=fun k ok hk hki hun hno=>by
    refine hfree k ok hk hki ?_ hno;by_cases hjk:j=k
    ·subst hjk;exact hjun
    ·rw[getD_set_ne true hjk]at hun;exact hun
   have hD':waitsT md ops (listed.setIfInBounds j true) i T D=true:=by
    unfold waitsT;rw[Bool.and_eq_true_iff];refine⟨List.all_eq_true.2 fun k hk=>?_,List.all_eq_true.2 fun k hk=>?_⟩
    ·have h4:=List.all_eq_true.1 hT k hk
     rw[Bool.or_eq_true]at h4 ⊢;refine h4.imp (fun h4=>?_) id;by_cases hjk:j=k
     ·subst hjk;rw[hjun]at h4;cases h4
     ·rw[getD_set_ne true hjk];exact h4
    ·rw[getD_set_ne true (fun e=>hjD (by rw[e];exact hk))];exact List.all_eq_true.1 hD1 k hk
   refine wpOp_mono (fun a' w' h3=>⟨h3.2.1,ih (listed.setIfInBounds j true) a' w' hfree' hD' (ready_mono hr (Ne.symm hji)) h3.1 (h3.2.1 hjT) ?_⟩) h2;rw[Array.setIfInBounds_comm _ _ hji];exact h3.2.2
theorem wpAnyT_take{i:Nat}{oi:Oper}{v:Value}(D:List Nat){fuel:Nat}{listed:Array Bool}{a:Act}{w:World}(hi:ops[i]?=some oi)
 (hs:Region.noSelect ops=true) (hf:Region.free md ops listed i=true) (hr:(Region.ready md ops listed).contains i=true) (hD:waitsT md ops listed i T D=true)
 (hQ:∀c a w,Q (.panic c) (a.put oi.dst v) w→Q (.panic c) a w) (hy:YieldsIf P ops S oi v a) (hS:S w)
 (h:wpAnyT P md ops Q S T fuel (listed.setIfInBounds i true) (a.put oi.dst v) w):wpAnyT P md ops Q S T (fuel+1) listed a w:=
 wpAnyT_first hi (Region.noSelect_spec hs) hQ fuel listed a w (Region.free_spec hi hf) hD (by simpa using hr) hy hS h
theorem wpAnyT_pure{i:Nat}{oi:Oper}{v:Value}{fuel:Nat}{listed:Array Bool}{a:Act}{w:World}(hi:ops[i]?=some oi)
 (hs:Region.noSelect ops=true) (hf:Region.free md ops listed i=true) (hr:(Region.ready md ops listed).contains i=true)
 (hQ:∀c a w,Q (.panic c) (a.put oi.dst v) w→Q (.panic c) a w) (hy:Yields P ops oi v a)
 (hi2:T.contains i=true)
 (h:wpAnyT P md ops Q S T fuel (listed.setIfInBounds i true) (a.put oi.dst v) w):wpAnyT P md ops Q S T (fuel+1) listed a w:=by
 have hfree:=Region.free_spec hi hf
 have hr1:=(by simpa using hr:i∈Region.ready md ops listed)
 have hsel:=Region.noSelect_spec hs
 have key:∀w,T.contains i=false→S w:=fun w e=>by rw[hi2]at e;cases e
 clear hf hs hi2 hr
 induction fuel generalizing listed a w with
 |zero=>
  refine⟨fun h=>(by rw[h]at hr1;cases hr1),fun j hj=>?_⟩;by_cases hji:j=i
  ·subst hji;exact hy.wpOp hi ⟨key w,h⟩
  ·have:=ready_mono hj hji
   rw[h.1]at this;cases this
 |succ fuel ih=>
  refine⟨fun h=>(by rw[h]at hr1;cases hr1),fun j hj=>?_⟩;by_cases hji:j=i
  ·subst hji;exact hy.wpOp hi ⟨key w,h⟩
  ·have h1:=h.2 j (ready_mono hj hji)
   obtain⟨hjun,oj,hoj,hall⟩:=mem_ready.1 hj;have hnot:∀e∈oj.after,Region.binds md e=true→e.on≠i:=fun e he hb heq=>by
    have h1:=hall e he hb
    have h0:=(mem_ready.1 hr1).1
    rw[heq]at h1;rcases Nat.lt_or_ge i listed.size with h'|h'
    ·simp[h']at h0 h1;rw[h0]at h1;cases h1
    ·simp[Array.getElem?_eq_none h']at h1
   have h2:=wpOp_put hoj (hfree j oj hoj hji hjun hnot) (fun cs b=>hsel i oi cs b hi) (fun cs b=>hsel j oj cs b hoj) hQ hy h1
   refine wpOp_mono (fun a' w' h3=>⟨h3.2.1,ih h3.1 ?_ ?_ (ready_mono hr1 (Ne.symm hji))⟩) h2
   ·rw[Array.setIfInBounds_comm _ _ hji];exact h3.2.2
   ·intro k ok hk hki hun hno;refine hfree k ok hk hki ?_ hno;by_cases hjk:j=k
    ·subst hjk;exact hjun
    ·rw[getD_set_ne true hjk]at hun;exact hun
def AllReadyT(P:Program)(md:Region.Mode)(ops:Array Oper)(Q:Exit→Act→World→Prop)(S:World→Prop)(T:List Nat)(fuel:Nat)(listed:Array Bool)(a:Act)(w:World)(rs:List Nat):Prop:=
 ∀i∈rs,wpOp P ops Q i (fun a' w'=>(T.contains i=false→S w')∧wpAnyT P md ops Q S T fuel (listed.setIfInBounds i true) a' w') a w
theorem AllReadyT.nil{fuel:Nat}{listed:Array Bool}{a:Act}{w:World}:AllReadyT P md ops Q S T fuel listed a w []:=fun _ h=>by cases h
theorem AllReadyT.cons{fuel:Nat}{listed:Array Bool}{a:Act}{w:World}{i:Nat}{o:Oper}{rs:List Nat}(ho:ops[i]?=some o)
 (h:∀K':Act→World→Prop,Shut (∀a w,S w→(S w→wpAnyT P md ops Q S T fuel (listed.setIfInBounds i true) a w)→K' a w)→if Region.wanted o (yielded ops a.tmps)=true then Oper.wp P o a w K' Q else K' (a.put o.dst undef) w)
 (hs:AllReadyT P md ops Q S T fuel listed a w rs):AllReadyT P md ops Q S T fuel listed a w (i::rs):=fun j hj=>by
 rcases List.mem_cons.1 hj with rfl|hj
 ·exact wpOp_step ho (fun K' hK=>h K' (fun a w hS hW=>hK a w ⟨fun _=>hS,hW hS⟩))
 ·exact hs j hj
theorem AllReadyT.free{fuel:Nat}{listed:Array Bool}{a:Act}{w:World}{i:Nat}{o:Oper}{rs:List Nat}(ho:ops[i]?=some o)(hT:T.contains i=true)
 (h:∀K':Act→World→Prop,Shut (∀a w,wpAnyT P md ops Q S T fuel (listed.setIfInBounds i true) a w→K' a w)→if Region.wanted o (yielded ops a.tmps)=true then Oper.wp P o a w K' Q else K' (a.put o.dst undef) w)
 (hs:AllReadyT P md ops Q S T fuel listed a w rs):AllReadyT P md ops Q S T fuel listed a w (i::rs):=fun j hj=>by
 rcases List.mem_cons.1 hj with rfl|hj
 ·exact wpOp_step ho (fun K' hK=>h K' (fun a w hW=>hK a w ⟨(fun e=>by rw[hT]at e;cases e),hW⟩))
 ·exact hs j hj
theorem wpAnyT_ready{rs:List Nat}{fuel:Nat}{listed:Array Bool}{a:Act}{w:World}(hr:Region.ready md ops listed=rs)(hne:rs≠[])
 (h:AllReadyT P md ops Q S T fuel listed a w rs):wpAnyT P md ops Q S T (fuel+1) listed a w:=⟨fun h0=>absurd (hr▸h0) hne,hr▸h⟩
theorem wpAnyT_done{listed:Array Bool}{a:Act}{w:World}(hr:Region.ready md ops listed= [])(h:Q .normal a w):∀fuel,wpAnyT P md ops Q S T fuel listed a w
 |0=>⟨hr,h⟩
 |_+1=>⟨fun _=>h,by rw[hr];simp⟩
theorem wp_region_T{id:Nat}{a:Act}{w:World}(S:World→Prop)(T:List Nat)(hm:P.follows .mixedOrders =true)(hS:S w.drew)
 (h:S w.drew→wpAnyT P .any ops Q S T ops.size (Array.replicate ops.size false) a w.drew):(Code.region id ops true).wp P Q a w:=
 wp_region_any hm (wpAny_of_T _ _ _ _ (h hS))
end
end Go.Proofs.YthfgmpooehkhgaaGreatDoor
