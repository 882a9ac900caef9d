import Derived.Test.YthfgmpooehkhgaaGreatDoorSmabdogb
import Derived.Maps.RangeWalk
import Derived.Lib.SlKeysI
namespace Go.Proofs.YthfgmpooehkhgaaGreatDoor.Gd
open Go Go.RowKit Go.Maps
def FitsG{α:Type}(enc:α→DataW Unit)(D:DataW Unit)(g:Int→Option α):Prop:=
 IsMap D∧∀x:Int,(∀z,D.atKey (.int .i64 x) z=(g x).elim z enc)∧Maps.has D (.int .i64 x)=(g x).isSome
def updO{α:Type}(g:Int→Option α)(id:Int)(v:Option α):Int→Option α:=fun x=>if x=id then v else g x
theorem updO_same{α:Type}(g:Int→Option α)(id:Int)(v:Option α):updO g id v id=v:=by simp[updO]
theorem updO_other{α:Type}(g:Int→Option α){id x:Int}(v:Option α)(hx:x≠id):updO g id v x=g x:=by simp[updO,hx]
theorem FitsG.new{α:Type}(enc:α→DataW Unit):FitsG enc (.map []) (fun _=>none):=⟨isMap_empty,fun _=>⟨fun _=>rfl,rfl⟩⟩
theorem FitsG.put{α:Type}{enc:α→DataW Unit}{D:DataW Unit}{g:Int→Option α}(f:FitsG enc D g)(id:Int)(c:α):FitsG enc (D.put (.int .i64 id) (enc c)) (updO g id (some c)):=by
 refine⟨f.1.put _ _,fun x=>?_⟩
 by_cases e:x=id
 ·subst e;have hk:WideAt.IsKeyLit (Lit.int .i64 x):=trivial
  rw[updO_same,has_put_same f.1 hk];exact⟨fun z=>atKey_put_same f.1 hk _ z,rfl⟩
 ·rw[updO_other g _ e,has_put_other (by simpa using e)];exact⟨fun z=>by rw[atKey_put_other (by simpa using e)];exact(f.2 x).1 z,(f.2 x).2⟩
section
variable {P:Program}{t k e:TypeId}{w:World}{b n:Nat}{D:DataW Unit}{g:Int→Option (Int×Int)}
end
section
variable {P:Program}{k:TypeId}{w:World}{b r n:Nat}{D:DataW Unit}{g:Int→Option (Int×Int)}{left:Lit→Bool}{cnt:Nat}{ss:List Int}
 {ops:Array Oper} {rest:List Oper} {o:Oper} {a:Act} {Q:Exit→Act→World→Prop}
end
theorem sum_nodup{N:Nat}:∀(l:List Int)(v:Int→Int),l.Nodup→(∀x∈l,0≤x∧x<N)→(∀x,x∉l→v x=0)→(l.map v).sum =sumTo v N
 | [],v,_,_,h=>by
   rw[List.map_nil,List.sum_nil,sumTo_congr (g:=fun _=>0) (fun k _=>h k (by simp)),sumTo_zero]
 |a::l,v,hn,hb,h=>by
  rw[List.nodup_cons]at hn;have ih:=sum_nodup l (upd v a 0) hn.2 (fun x hx=>hb x (by simp[hx])) (fun x hx=>by
   by_cases e:x=a
   ·subst e;exact upd_same _ _ _
   ·rw[upd_other _ _ e];exact h x (by simp[e,hx]))
  rw[sumTo_upd,if_pos (hb a (by simp))]at ih;have e1:l.map (upd v a 0)=l.map v:=List.map_congr_left (fun x hx=>upd_other _ _ (fun e=>hn.1 (e▸hx)))
  rw[e1]at ih;rw[List.map_cons,List.sum_cons];omega
end Go.Proofs.YthfgmpooehkhgaaGreatDoor.Gd
namespace Go.Proofs.YthfgmpooehkhgaaGreatDoor.Gd
open Go.RowKit
end Go.Proofs.YthfgmpooehkhgaaGreatDoor.Gd
namespace Go.Proofs.YthfgmpooehkhgaaGreatDoor.Gd.Pu.Pa
open Go.RowKit
theorem nodup_few:∀(N:Nat)(l:List Int),l.Nodup→(∀x∈l,0≤x∧x<N)→l.length≤N:=fun N l hn hb=>by
 have h1:=sum_nodup (N:=N) l (fun x=>if x∈l then 1 else 0) hn hb (fun x hx=>if_neg hx)
 have h2:l.map (fun x=>if x∈l then(1:Int)else 0)=l.map (fun _=>1):=List.map_congr_left (fun x hx=>if_pos hx)
 have h3:∀m:List Int,(m.map (fun _=>(1:Int))).sum =m.length:=fun m=>by
  induction m with
  |nil=>rfl
  |cons a m ih=>rw[List.map_cons,List.sum_cons,ih,List.length_cons];omega
 have h4:∀n:Nat,sumTo (fun x=>if x∈l then(1:Int)else 0) n≤n:=fun n=>by
  induction n with
  |zero=>exact Int.le_refl _
  |succ n ih=>
   rw[sumTo];have:(if((n:Int))∈l then(1:Int)else 0)≤1:=by split<;>omega
   omega
 rw[h2,h3]at h1
 have:=h4 N
 omega
end Go.Proofs.YthfgmpooehkhgaaGreatDoor.Gd.Pu.Pa
