import Derived.Test.YthfgmpooehkhgaaGreatDoorRows
import Derived.WalkKit
import Derived.ProofKit
import Derived.OpenShut
namespace Go.Proofs.YthfgmpooehkhgaaGreatDoor.Hd
open Go.ChangeShapes Go.WideShapes Go.ChangeAt Go.RowKit
end Go.Proofs.YthfgmpooehkhgaaGreatDoor.Hd
namespace Go.Proofs.YthfgmpooehkhgaaGreatDoor.Hd
open Go.RowKit
end Go.Proofs.YthfgmpooehkhgaaGreatDoor.Hd
namespace Go.Proofs.YthfgmpooehkhgaaGreatDoor
open Go.ChangeShapes Go.WideShapes Go.ChangeAt Go.RowKit
end Go.Proofs.YthfgmpooehkhgaaGreatDoor
namespace Go.Proofs.YthfgmpooehkhgaaGreatDoor.Gd
open Go.ChangeShapes Go.WideShapes Go.ChangeAt Go.RowKit
end Go.Proofs.YthfgmpooehkhgaaGreatDoor.Gd
namespace Go.Proofs.YthfgmpooehkhgaaGreatDoor.Gd
open Go.RowKit
def upd(h:Int→Int)(id v:Int):Int→Int:=fun x=>if x=id then v else h x
theorem upd_same(h:Int→Int)(id v:Int):upd h id v id=v:=by simp[upd]
theorem upd_other(h:Int→Int){id x:Int}(v:Int)(hx:x≠id):upd h id v x=h x:=by simp[upd,hx]
def sumTo(h:Int→Int):Nat→Int
 |0=>0
 |n+1=>sumTo h n+h n
theorem sumTo_congr{h g:Int→Int}{n:Nat}(e:∀k:Nat,k<n→h k=g k):sumTo h n=sumTo g n:=by
 induction n with
 |zero=>rfl
 |succ n ih=>rw[sumTo,sumTo,ih (fun k hk=>e k (by omega)),e n (by omega)]
theorem sumTo_upd(h:Int→Int)(id v:Int)(n:Nat):sumTo (upd h id v) n=sumTo h n+(if 0≤id∧id<n then v-h id else 0):=by
 induction n with
 |zero=>
  rw[if_neg (by omega)];rfl
 |succ n ih=>
  rw[sumTo,sumTo,ih];by_cases e:(n:Int)=id
  ·subst e;rw[upd_same,if_neg (by omega),if_pos (by omega)];omega
  ·rw[upd_other h v e];by_cases hc:0≤id∧id<n
   ·rw[if_pos hc,if_pos (by omega)];omega
   ·rw[if_neg hc,if_neg (by omega)];omega
theorem sumTo_zero{n:Nat}:sumTo (fun _=>0) n=0:=by
 induction n with
 |zero=>rfl
 |succ n ih=>rw[sumTo,ih];rfl
end Go.Proofs.YthfgmpooehkhgaaGreatDoor.Gd
namespace Go.Proofs.YthfgmpooehkhgaaGreatDoor.Sg
open Go.ChangeShapes Go.WideShapes Go.ChangeAt Go.RowKit
def may(a:Int):Bool:=decide (0≤a∧a≤1000000000)
theorem may_iff{a:Int}:may a=true↔0≤a∧a≤1000000000:=by unfold may;simp
theorem may_not{a:Int}:may a=false↔a<0∨1000000000<a:=by unfold may;simp;omega
def addE(a b:Int):Int:=if may a=true∧may b=true then(if a+b≤1000000000 then 0 else 4)else 1
theorem may_any(a:Int)(w:World):Calls Tryz.prog 174 #[.int .i64 a] w fun e w'=>e= .returned (.bool (may a))∧w=w':=by
 by_cases h0:0≤a
 ·by_cases h1:a≤1000000000
  ·have hm:true=may a:=(may_iff.2 ⟨h0,h1⟩).symm
   rw[←hm];clear hm;go_enter Tryz.func174,Tryz.ntmps174
   go_wp2
   go_ret
   exact⟨rfl,rfl⟩
  ·have hm:may a=false:=may_not.2 (by omega)
   go_enter Tryz.func174,Tryz.ntmps174
   go_wp2
   go_ret
   exact⟨rfl,rfl⟩
 ·have hm:may a=false:=may_not.2 (by omega)
  go_enter Tryz.func174,Tryz.ntmps174
  go_wp2
  go_ret
  exact⟨rfl,rfl⟩
end Go.Proofs.YthfgmpooehkhgaaGreatDoor.Sg
namespace Go.Proofs.YthfgmpooehkhgaaGreatDoor.Bl
open Go.ChangeShapes Go.WideShapes Go.ChangeAt Go.RowKit
def may(a:Int):Bool:=decide (0≤a∧a≤1000000000)
def addE(a b:Int):Int:=if may a=true∧may b=true then(if a+b≤1000000000 then 0 else 4)else 1
end Go.Proofs.YthfgmpooehkhgaaGreatDoor.Bl
namespace Go.Proofs.YthfgmpooehkhgaaGreatDoor.Bl
open Go.RowKit
def upd(h:Int→Int)(id v:Int):Int→Int:=fun x=>if x=id then v else h x
theorem upd_same(h:Int→Int)(id v:Int):upd h id v id=v:=by simp[upd]
theorem upd_other(h:Int→Int){id x:Int}(v:Int)(hx:x≠id):upd h id v x=h x:=by simp[upd,hx]
def isI(id:Int):Bool:=decide (1≤id∧id≤999)
theorem isI_iff{a:Int}:isI a=true↔1≤a∧a≤999:=by unfold isI;simp
theorem upd_id{h:Int→Int}{id v:Int}(e:h id=v):upd h id v=h:=by
 funext x
 by_cases hx:x=id
 ·subst hx;rw[upd_same,e]
 ·rw[upd_other h v hx]
def idsTo(h:Int→Int)(n:Nat):List Int:=((List.range n).map (fun k:Nat=>(k:Int))).filter (fun x=>decide (h x≠0))
def idsL(h:Int→Int):List Int:=idsTo h 1000
theorem idsTo_len(h:Int→Int)(n:Nat):(idsTo h n).length ≤n:=by
 unfold idsTo
 refine Nat.le_trans (List.length_filter_le _ _) (by simp)
theorem mem_idsL{h:Int→Int}(hat:∀x,h x≠0→1≤x∧x≤999)(x:Int):x∈idsL h↔h x≠0:=by
 unfold idsL idsTo
 rw[List.mem_filter,List.mem_map]
 constructor
 ·rintro⟨_,h2⟩;simpa using h2
 ·intro hx;have:=hat x hx
  exact⟨⟨x.toNat,by simp;omega,by omega⟩,by simpa using hx⟩
theorem idsTo_rise(h:Int→Int)(n:Nat):(idsTo h n).Pairwise (· < ·):=by
 unfold idsTo
 refine List.Pairwise.filter _ ?_
 rw[List.pairwise_map]
 refine List.pairwise_lt_range.imp (fun h=>by omega)
theorem idsL_zero:idsL (fun _=>0)= []:=by
 unfold idsL idsTo
 rw[List.filter_eq_nil_iff]
 simp
def clampT(r:Int):Int:=if r<1 then 1 else if r≤20 then r else 20
theorem clampT_bd(r:Int):1≤clampT r∧clampT r≤20:=by unfold clampT;split<;>(try split)<;>omega
theorem clampT_in{r:Int}(h1:1≤r)(h2:r≤20):clampT r=r:=by unfold clampT;rw[if_neg (by omega),if_pos h2]
def lf(v:Int):Int:=if v≤1 then 0 else v-1
theorem lf_up{v:Int}(h:0≤v):lf (v+1)=v:=by unfold lf;split<;>omega
structure GoodT (t:Int) (h:Int→Int):Prop where
 lo:1≤t
 hi:t≤20
 pos:∀x,0≤h x
 top:∀x,h x≤t+1
 at_:∀x,h x≠0→1≤x∧x≤999
theorem GoodT.new{r:Int}:GoodT (clampT r) (fun _=>0):=⟨(clampT_bd r).1,(clampT_bd r).2,fun _=>Int.le_refl _,fun _=>by have:=(clampT_bd r).1;show(0:Int)≤_;omega,fun _ h=>absurd rfl h⟩
theorem GoodT.upd{t:Int}{h:Int→Int}(g:GoodT t h){id v:Int}(h0:0≤v)(h1:v≤t+1)(hi:v≠0→1≤id∧id≤999):GoodT t (upd h id v):=by
 refine⟨g.lo,g.hi,fun x=>?_,fun x=>?_,fun x hx=>?_⟩
 all_goals by_cases e:x=id
 ·subst e;rw[upd_same];exact h0
 ·rw[upd_other h v e];exact g.pos x
 ·subst e;rw[upd_same];exact h1
 ·rw[upd_other h v e];exact g.top x
 ·subst e;rw[upd_same]at hx;exact hi hx
 ·rw[upd_other h v e]at hx;exact g.at_ x hx
def hangB(h:Int→Int)(id:Int):Bool:=isI id&&decide (h id=0)
def hangH(t:Int)(h:Int→Int)(id:Int):Int→Int:=if hangB h id=true then upd h id (t+1)else h
def hasB(h:Int→Int)(id:Int):Bool:=decide (h id≠0)
def cutH(h:Int→Int)(id:Int):Int→Int:=upd h id 0
def oftB(h:Int→Int)(id:Int):Bool:=decide (h id=1)
def ringH(h:Int→Int)(id:Int):Int→Int:=if h id≤1 then h else upd h id (h id-1)
def agnH(t:Int)(h:Int→Int)(id:Int):Int→Int:=if h id=0 then h else upd h id (t+1)
theorem GoodT.hang{t:Int}{h:Int→Int}(g:GoodT t h)(id:Int):GoodT t (hangH t h id):=by
 unfold hangH
 split
 ·rename_i e;unfold hangB at e;simp only[Bool.and_eq_true]at e;exact g.upd (by have:=g.lo;omega) (Int.le_refl _) (fun _=>isI_iff.1 e.1)
 ·exact g
theorem GoodT.cut{t:Int}{h:Int→Int}(g:GoodT t h)(id:Int):GoodT t (cutH h id):=g.upd (Int.le_refl _) (by have:=g.lo;omega) (fun e=>absurd rfl e)
theorem GoodT.ring{t:Int}{h:Int→Int}(g:GoodT t h)(id:Int):GoodT t (ringH h id):=by
 unfold ringH
 split
 ·exact g
 ·exact g.upd (by omega) (by have:=g.top id;omega) (fun _=>g.at_ id (by omega))
theorem GoodT.agn{t:Int}{h:Int→Int}(g:GoodT t h)(id:Int):GoodT t (agnH t h id):=by
 unfold agnH
 split
 ·exact g
 ·rename_i e;exact g.upd (by have:=g.lo;omega) (Int.le_refl _) (fun _=>g.at_ id e)
theorem cutH_no{h:Int→Int}{id:Int}(e:h id=0):cutH h id=h:=upd_id e
end Go.Proofs.YthfgmpooehkhgaaGreatDoor.Bl
