import Derived.Test.YthfgmpooehkhgaaGreatDoorSmpnffkl
import Derived.Test.YthfgmpooehkhgaaGreatDoorSmmbjmoa
import Derived.Test.YthfgmpooehkhgaaGreatDoorSmahkjnn
import Derived.Test.YthfgmpooehkhgaaGreatDoorSmpmjama
import Derived.Test.YthfgmpooehkhgaaGreatDoorSmbijhae
namespace Go.Proofs.YthfgmpooehkhgaaGreatDoor
open Go.RowKit Sg Bl
structure Et where
 k:Nat
 id:Int
 n:List Int
def kC:Nat→ByteArray
 |0=>⟨#[98,101,103,105,110]⟩
 |1=>⟨#[115,116,101,112]⟩
 |2=>⟨#[100,111,110,101]⟩
 |3=>⟨#[97,115,107,101,100]⟩
 |4=>⟨#[121,101,115]⟩
 |5=>⟨#[116,117,114,110]⟩
 |6=>⟨#[117,110,100,111,110,101]⟩
 |7=>⟨#[97,99,107]⟩
 |8=>⟨#[100,97,109,97,103,101]⟩
 |9=>⟨#[115,104,105,112,112,101,100]⟩
 |_=>⟨#[97,99,99,101,112,116]⟩
def lnC(e:Et):ByteArray:=lineV (kC e.k) e.id e.n
structure OkC (e:Et):Prop where
 i1:1≤e.id
 i2:e.id≤999
 k:e.k≤10
 n:numsB e.n=true
theorem kC_may(k:Nat):kindB (kC k)=true:=by
 unfold kC
 split<;>decide
theorem kC_len(k:Nat):(kC k).size ≤maxLen:=by
 unfold kC
 split<;>decide
theorem OkC.may{e:Et}(h:OkC e):mayB (kC e.k) e.id e.n=true:=by
 have h1:idB e.id=true:=by have:=h.i1;have:=h.i2;unfold idB;simp;omega
 unfold mayB
 rw[kC_may,h1,h.n]
 rfl
theorem OkC.parse{e:Et}(h:OkC e){k:ByteArray}{id:Int}{l:List Int}(hp:ParseR (lnC e) k id l 0):k=kC e.k∧id=e.id∧l=e.n:=by
 unfold lnC lineV at hp
 rw[if_pos h.may]at hp
 obtain⟨h1,h2,h3,_⟩:=hp.uniq (parse_line h.may)
 exact⟨h1,h2,h3⟩
structure Lk where
 o:Od
 f:Fa
 y:Option (Bool×Bool)
def fa00:Fa:=⟨[],[],false,false,false,false,false,false,false,false,false⟩
def Lk.dec(l:Lk):Bool:=l.f.yes||l.f.turned
def Lk.wt(l:Lk):Bool:=l.f.asked&& !l.dec
def folL(l:Lk):Nat→List Int→Lk
 |1,n=>⟨{l.o with steps:=l.o.steps++ [(n.getD 1 0,n.getD 2 0)]},{l.f with dn:=l.f.dn++ [false],un:=l.f.un++ [false]},l.y⟩
 |2,n=>⟨l.o,{l.f with dn:=l.f.dn.set (n.getD 0 0).toNat true},l.y⟩
 |3,_=>⟨l.o,{l.f with asked:=true},some (false,false)⟩
 |4,_=>⟨l.o,{l.f with yes:=true},none⟩
 |5,_=>⟨l.o,{l.f with turned:=true},none⟩
 |6,n=>⟨l.o,{l.f with un:=l.f.un.set (n.getD 0 0).toNat true},l.y⟩
 |7,n=>⟨l.o,if n.getD 0 0=1 then {l.f with k0:=true}else {l.f with k1:=true},l.y⟩
 |8,n=>⟨l.o,if n.getD 0 0=1 then {l.f with k0:=true,d0:=true}else {l.f with k1:=true,d1:=true},l.y⟩
 |9,_=>⟨l.o,{l.f with ship:=true},l.y⟩
 |10,_=>⟨l.o,{l.f with acc:=true},l.y⟩
 |_,_=>l
def newL(id:Int)(n:List Int):Lk:=⟨⟨id,n.getD 0 0,n.getD 1 0,n.getD 2 0,n.getD 3 0,[]⟩,fa00,none⟩
def fol(L:Int→Option Lk)(e:Et):Int→Option Lk:=
 Gd.updO L e.id (if e.k=0 then some (newL e.id e.n)else(L e.id).map (fun l=>folL l e.k e.n))
structure FitL (l:Lk) (k:Nat) (n:List Int):Prop where
 step:k=1→l.o.steps.length≤2∧∃i a b,n= [i,a,b]
 done:k=2→∃i:Nat,n= [(i:Int)]∧i<l.f.dn.length
 undone:k=6→∃i:Nat,n= [(i:Int)]∧i<l.f.un.length
 node:k=7∨k=8→n= [1]∨n= [2]
 none:k=3∨k=4∨k=5∨k=9∨k=10→n= []
structure FitE (L:Int→Option Lk) (e:Et):Prop where
 ok:OkC e
 new:e.k=0→L e.id=none∧∃a b c d,e.n= [a,b,c,d]
 old:e.k≠0→∃l,L e.id=some l∧FitL l e.k e.n
def Fits22:(Int→Option Lk)→List Et→Prop
 |_,[]=>True
 |L,e::T=>FitE L e∧Fits22 (fol L e) T
theorem fits_app:∀ {T R:List Et}{L:Int→Option Lk},Fits22 L (T++R)↔Fits22 L T∧Fits22 (T.foldl fol L) R
 | [],R,L=>by simp[Fits22]
 |e::T,R,L=>by
  show FitE L e∧Fits22 (fol L e) (T++R)↔(FitE L e∧Fits22 (fol L e) T)∧Fits22 (T.foldl fol (fol L e)) R
  rw[fits_app,and_assoc]
theorem fits_take{T:List Et}{L:Int→Option Lk}(h:Fits22 L T)(n:Nat):Fits22 L (T.take n):=by
 rw[←List.take_append_drop n T]at h
 exact(fits_app.1 h).1
theorem fits_ok:∀ {T:List Et}{L:Int→Option Lk},Fits22 L T→∀e∈T,OkC e
 | [],_,_,e,he=>by cases he
 |x::T,L,h,e,he=>by
  rcases List.mem_cons.1 he with rfl|he
  ·exact h.1.ok
  ·exact fits_ok h.2 e he
def core(L:Int→Option Lk):Int→Option (Od×Fa):=fun id=>(L id).map fun l=>(l.o,l.f)
theorem folL_core(l l':Lk)(h:l.o=l'.o∧l.f=l'.f)(k:Nat)(n:List Int):(folL l k n).o =(folL l' k n).o ∧(folL l k n).f =(folL l' k n).f :=by
 obtain⟨o,f,y⟩:=l
 obtain⟨o',f',y'⟩:=l'
 obtain⟨h1,h2⟩:=h
 simp only at h1 h2
 subst h1 h2
 unfold folL
 split<;>exact⟨rfl,rfl⟩
theorem core_at{L L':Int→Option Lk}(h:core L=core L')(id:Int):(L id=none∧L' id=none)∨∃l l',L id=some l∧L' id=some l'∧l.o=l'.o∧l.f=l'.f:=by
 have h1:(L id).map (fun l=>(l.o,l.f))=(L' id).map (fun l=>(l.o,l.f)):=congrFun h id
 cases e1:L id<;>cases e2:L' id<;>rw[e1,e2]at h1<;>simp at h1
 ·exact .inl ⟨rfl,rfl⟩
 ·exact .inr ⟨_,_,rfl,rfl,h1.1,h1.2⟩
theorem core_fol{L L':Int→Option Lk}(h:core L=core L')(e:Et):core (fol L e)=core (fol L' e):=by
 funext id
 unfold core fol
 by_cases hi:id=e.id
 ·subst hi;rw[Gd.updO_same,Gd.updO_same];split
  ·rfl
  ·rcases core_at h e.id with⟨e1,e2⟩|⟨l,l',e1,e2,e3⟩
   ·rw[e1,e2]
   ·rw[e1,e2];have:=folL_core l l' e3 e.k e.n
    simp[this.1,this.2]
 ·rw[Gd.updO_other _ _ hi,Gd.updO_other _ _ hi];exact congrFun h id
theorem core_fols:∀(T:List Et){L L':Int→Option Lk},core L=core L'→core (T.foldl fol L)=core (T.foldl fol L')
 | [],_,_,h=>h
 |e::T,_,_,h=>core_fols T (core_fol h e)
theorem FitE.core{L L':Int→Option Lk}(h:core L=core L'){e:Et}(f:FitE L e):FitE L' e:=by
 refine⟨f.ok,fun hk=>?_,fun hk=>?_⟩
 ·obtain⟨h1,h2⟩:=f.new hk;rcases core_at h e.id with⟨_,e2⟩|⟨l,l',e1,_⟩
  ·exact⟨e2,h2⟩
  ·rw[h1]at e1;cases e1
 ·obtain⟨l,h1,h2⟩:=f.old hk;rcases core_at h e.id with⟨e1,_⟩|⟨l1,l',e1,e2,e3,e4⟩
  ·rw[h1]at e1;cases e1
  ·rw[h1]at e1;cases e1;exact⟨l',e2,⟨by rw[←e3];exact h2.step,by rw[←e4];exact h2.done,by rw[←e4];exact h2.undone,h2.node,h2.none⟩⟩
theorem Fits22.core:∀ {T:List Et}{L L':Int→Option Lk},Go.Proofs.YthfgmpooehkhgaaGreatDoor.core L=Go.Proofs.YthfgmpooehkhgaaGreatDoor.core L'→Fits22 L T→Fits22 L' T
 | [],_,_,_,_=>trivial
 |_::_,_,_,h,f=>⟨f.1.core h,Fits22.core (core_fol h _) f.2⟩
structure GoodL (id:Int) (l:Lk):Prop where
 i1:1≤id
 i2:id≤999
 oid:l.o.id=id
 dl:l.f.dn.length=l.o.steps.length
 ul:l.f.un.length=l.o.steps.length
 st:l.o.steps.length≤3
 y:l.wt=true→∃y,l.y=some y
def GoodM(L:Int→Option Lk):Prop:=∀id l,L id=some l→GoodL id l
theorem wt_of{l:Lk}(h:l.wt=true):l.f.asked=true∧l.f.yes=false∧l.f.turned=false:=by
 unfold Lk.wt Lk.dec at h
 simp only[Bool.and_eq_true,Bool.not_eq_true',Bool.or_eq_false_iff]at h
 exact⟨h.1,h.2.1,h.2.2⟩
theorem newL_good{id:Int}(h1:1≤id)(h2:id≤999)(n:List Int):GoodL id (newL id n):=
 ⟨h1,h2,rfl,rfl,rfl,by simp[newL],fun h=>by cases (wt_of h).1⟩
theorem folL_good{id:Int}{l:Lk}(g:GoodL id l){k:Nat}{n:List Int}(f:FitL l k n):GoodL id (folL l k n):=by
 obtain⟨i1,i2,oid,dl,ul,st,y⟩:=g
 have hy:∀(f':Fa),f'.asked=l.f.asked→f'.yes=l.f.yes→f'.turned=l.f.turned→∀(o':Od),(⟨o',f',l.y⟩:Lk).wt =true→∃y,(⟨o',f',l.y⟩:Lk).y =some y:=fun f' e1 e2 e3 o' h=>by
  refine y ?_;unfold Lk.wt Lk.dec at h ⊢;simp only[e1,e2,e3]at h;exact h
 have key:∀(o':Od)(f':Fa)(y':Option (Bool×Bool)),o'.id=id→f'.dn.length=o'.steps.length→f'.un.length=o'.steps.length→o'.steps.length≤3→((⟨o',f',y'⟩:Lk).wt =true→∃z,y'=some z)→GoodL id ⟨o',f',y'⟩:=fun o' f' y' a b c d e=>⟨i1,i2,a,b,c,d,e⟩
 unfold folL
 split
 ·obtain⟨h1,_⟩:=f.step rfl;exact key _ _ _ oid (by simp[dl]) (by simp[ul]) (by simp;omega) (hy _ rfl rfl rfl _)
 ·exact key _ _ _ oid (by simp[dl]) ul st (hy _ rfl rfl rfl _)
 ·exact key _ _ _ oid dl ul st (fun _=>⟨_,rfl⟩)
 ·exact key _ _ _ oid dl ul st (fun h=>by have:=(wt_of h).2.1;cases this)
 ·exact key _ _ _ oid dl ul st (fun h=>by have:=(wt_of h).2.2;cases this)
 ·exact key _ _ _ oid dl (by simp[ul]) st (hy _ rfl rfl rfl _)
 ·split
  ·exact key _ _ _ oid dl ul st (hy _ rfl rfl rfl _)
  ·exact key _ _ _ oid dl ul st (hy _ rfl rfl rfl _)
 ·split
  ·exact key _ _ _ oid dl ul st (hy _ rfl rfl rfl _)
  ·exact key _ _ _ oid dl ul st (hy _ rfl rfl rfl _)
 ·exact key _ _ _ oid dl ul st (hy _ rfl rfl rfl _)
 ·exact key _ _ _ oid dl ul st (hy _ rfl rfl rfl _)
 ·exact⟨i1,i2,oid,dl,ul,st,y⟩
theorem GoodM.fol{L:Int→Option Lk}(g:GoodM L){e:Et}(f:FitE L e):GoodM (fol L e):=by
 intro id l h
 unfold Go.Proofs.YthfgmpooehkhgaaGreatDoor.fol at h
 by_cases hi:id=e.id
 ·subst hi;rw[Gd.updO_same]at h;by_cases hk:e.k=0
  ·rw[if_pos hk]at h;cases h;exact newL_good f.ok.i1 f.ok.i2 _
  ·rw[if_neg hk]at h;obtain⟨l0,h1,h2⟩:=f.old hk;rw[h1]at h;cases h;exact folL_good (g _ _ h1) h2
 ·rw[Gd.updO_other _ _ hi]at h;exact g id l h
theorem GoodM.fols:∀ {T:List Et}{L:Int→Option Lk},GoodM L→Fits22 L T→GoodM (T.foldl Go.Proofs.YthfgmpooehkhgaaGreatDoor.fol L)
 | [],_,g,_=>g
 |_::T,_,g,f=>GoodM.fols (T:=T) (GoodM.fol g f.1) f.2
def noL:Int→Option Lk:=fun _=>none
theorem noL_good:GoodM noL:=fun _ _ h=>by cases h
def runT(T:List Et):Int→Option Lk:=T.foldl fol noL
structure Ch where
 most:Int
 room:Int
 t:Int
 T:List Et
 su:Nat
 down:Bool
 L:Int→Option Lk
 h:Int→Int
structure GoodCh (v:Ch):Prop where
 m1:1≤v.most
 m2:v.most≤64
 r1:1≤v.room
 r2:v.room≤4096
 len:(v.T.length:Int)≤v.room
 su:v.su≤v.T.length
 ok:Fits22 noL v.T
 dn:v.down=true→v.L=noL∧v.h=fun _=>0
 up:v.down=false→core v.L=core (runT v.T)
 gm:GoodM v.L
 bl:∀id,v.h id≠0→∃l,v.L id=some l
def roomC(v:Ch)(n:Nat):Bool:=decide ((v.T.length:Int)+n≤v.room)
def addC(v:Ch)(es:List Et):Ch:=⟨v.most,v.room,v.t,v.T++es,v.su,v.down,es.foldl fol v.L,v.h⟩
def sureC(v:Ch)(es:List Et):Ch:=⟨v.most,v.room,v.t,v.T++es,v.T.length+es.length,v.down,es.foldl fol v.L,v.h⟩
def noteS(v:Ch)(es:List Et):Ch:=if roomC v es.length=true then addC v es else v
def sureS(v:Ch)(es:List Et):Ch:=if roomC v es.length=true then sureC v es else v
def noE(v:Ch)(n:Nat):Int:=if roomC v n=true then 0 else 5
def setH(v:Ch)(h:Int→Int):Ch:=⟨v.most,v.room,v.t,v.T,v.su,v.down,v.L,h⟩
theorem roomC_of{v:Ch}{n:Nat}(h:roomC v n=true):(v.T.length:Int)+n≤v.room:=by unfold roomC at h;simpa using h
theorem fol_some{L:Int→Option Lk}{e:Et}{id:Int}{l:Lk}(h:L id=some l):∃l',fol L e id=some l':=by
 unfold fol
 by_cases hi:id=e.id
 ·subst hi;rw[Gd.updO_same,h];split
  ·exact⟨_,rfl⟩
  ·exact⟨_,rfl⟩
 ·rw[Gd.updO_other _ _ hi];exact⟨l,h⟩
theorem fols_some:∀ {T:List Et}{L:Int→Option Lk},Fits22 L T→∀ {id:Int}{l:Lk},L id=some l→∃l',T.foldl fol L id=some l'
 | [],_,_,_,l,h=>⟨l,h⟩
 |_::_,_,f,_,_,h=>by
  obtain⟨l',h'⟩:=fol_some (e:=_) h;exact fols_some f.2 h'
theorem addC_good{v:Ch}(g:GoodCh v)(hd:v.down=false){es:List Et}(hf:Fits22 v.L es)(hr:roomC v es.length=true):GoodCh (addC v es)∧GoodCh (sureC v es):=by
 have h1:=roomC_of hr
 have hc:=g.up hd
 have hok:Fits22 noL (v.T++es):=fits_app.2 ⟨g.ok,Fits22.core hc hf⟩
 have hup:core (es.foldl fol v.L)=core (runT (v.T++es)):=by
  unfold runT;rw[List.foldl_append];exact core_fols es hc
 have hbl:∀id,v.h id≠0→∃l,es.foldl fol v.L id=some l:=fun id h=>by
  obtain⟨l,hl⟩:=g.bl id h;exact fols_some hf hl
 constructor
 ·exact⟨g.m1,g.m2,g.r1,g.r2,by simp[addC];omega,by have:=g.su;simp[addC];omega,hok,(fun h=>by rw[show(addC v es).down =v.down from rfl,hd]at h;cases h),fun _=>hup,g.gm.fols hf,hbl⟩
 ·exact⟨g.m1,g.m2,g.r1,g.r2,by simp[sureC];omega,by simp[sureC],hok,(fun h=>by rw[show(sureC v es).down =v.down from rfl,hd]at h;cases h),fun _=>hup,g.gm.fols hf,hbl⟩
theorem setH_good{v:Ch}(g:GoodCh v){h:Int→Int}(hd:v.down=true→h=fun _=>0)(hb:∀id,h id≠0→∃l,v.L id=some l):GoodCh (setH v h):=
 ⟨g.m1,g.m2,g.r1,g.r2,g.len,g.su,g.ok,fun e=>⟨(g.dn e).1,hd e⟩,g.up,g.gm,hb⟩
def prepB(l:Lk):Bool:=
 match nextF l.o l.f with
 | []=>false
 |m::_=>decide (m.k=6)
def askE(id:Int):Et:=⟨3,id,[]⟩
def sendS(v:Ch)(l:Lk):Ch:=if(prepB l&& !l.f.asked)=true then noteS v [askE l.o.id]else v
def sendA(v:Ch)(l:Lk):List Mg:=if(prepB l&& !l.f.asked&& !roomC v 1)=true then[]else nextF l.o l.f
def agnC(v:Ch)(id:Int):Ch:=setH v (agnH v.t v.h id)
def goS(v:Ch)(l:Lk):Ch:=if overF l.o l.f=true then setH v (cutH (agnH v.t v.h l.o.id) l.o.id)else sendS (agnC v l.o.id) l
def goA(v:Ch)(l:Lk):List Mg:=if overF l.o l.f=true then[]else sendA v l
def ngS(v:Ch)(l:Lk)(k:Nat)(n:List Int):Ch:=if roomC v 1=true then goS (addC v [⟨k,l.o.id,n⟩]) (folL l k n)else v
def ngA(v:Ch)(l:Lk)(k:Nat)(n:List Int):List Mg:=if roomC v 1=true then goA (addC v [⟨k,l.o.id,n⟩]) (folL l k n)else[]
def sgS(v:Ch)(l:Lk)(k:Nat)(n:List Int):Ch:=if roomC v 1=true then goS (sureC v [⟨k,l.o.id,n⟩]) (folL l k n)else v
def sgA(v:Ch)(l:Lk)(k:Nat)(n:List Int):List Mg:=if roomC v 1=true then goA (sureC v [⟨k,l.o.id,n⟩]) (folL l k n)else[]
def keepB(n:Int):Bool:=n==1||n==2
def ansA(L:Option Lk)(m:Mg):List Mg:=
 match L with
 |none=>[⟨14,0,m.fr,m.id,0,0,0⟩]
 |some l=>if l.f.turned=true then[⟨14,0,m.fr,m.id,0,0,0⟩]else if l.f.yes=true then[⟨13,0,m.fr,m.id,0,0,0⟩]else[]
def setL(v:Ch)(id:Int)(l:Lk):Ch:=⟨v.most,v.room,v.t,v.T,v.su,v.down,Gd.updO v.L id (some l),v.h⟩
def sayY(y:Bool×Bool)(who:Int):Bool×Bool:=if who=0 then(true,y.2)else(y.1,true)
def yesS(v:Ch)(l:Lk)(who:Int):Ch:=
 if sayY (l.y.getD (true,true)) who=(true,true)then sgS v l 4 []else setL v l.o.id ⟨l.o,l.f,some (sayY (l.y.getD (true,true)) who)⟩
def yesA(v:Ch)(l:Lk)(who:Int):List Mg:=if sayY (l.y.getD (true,true)) who=(true,true)then sgA v l 4 []else[]
def dmgB(l:Lk)(n:Int):Bool:=if n=1 then l.f.d0 else l.f.d1
def ackB(l:Lk)(n:Int):Bool:=if n=1 then l.f.k0 else l.f.k1
def dmgS(v:Ch)(l:Lk)(m:Mg):Ch:=if dmgB l m.fr=true then v else sgS v l 8 [m.fr]
def dmgA(v:Ch)(l:Lk)(m:Mg):List Mg:=
 if dmgB l m.fr=true then[⟨18,0,m.fr,m.id,0,0,0⟩]else if roomC v 1=true then⟨18,0,m.fr,m.id,0,0,0⟩::sgA v l 8 [m.fr]else[]
def srvB(l:Lk)(m:Mg):Bool:=decide (0≤m.st)&&decide (m.st<l.o.steps.length)&&((stAt l.o.steps m.st.toNat).1 ==m.fr)
def dnxB(l:Lk)(st:Int):Bool:= !l.f.asked&& !l.dec&&(idxB l.f.dn false==st)
def unxB(l:Lk)(st:Int):Bool:=l.f.turned&& !(l.f.un.getD st.toNat false)&& !Sg.hasB (l.f.un.drop (st.toNat+1)) false
def keepSA(v:Ch)(l:Lk)(m:Mg):Ch×List Mg:=
 if m.k=7∧l.wt=true then(yesS v l (m.fr-1),yesA v l (m.fr-1))
 else if m.k=8∧l.wt=true then(sgS v l 5 [],sgA v l 5 [])
 else if m.k=11∧(l.dec&& !ackB l m.fr)=true then(ngS v l 7 [m.fr],ngA v l 7 [m.fr])
 else if m.k=17∧l.dec=true then(dmgS v l m,dmgA v l m)
 else(v,[])
def shipSA(v:Ch)(l:Lk)(m:Mg):Ch×List Mg:=if m.k=16∧(l.f.yes&& !l.f.ship)=true then(ngS v l 9 [],ngA v l 9 [])else(v,[])
def servSA(v:Ch)(l:Lk)(m:Mg):Ch×List Mg:=
 if m.k=2∧dnxB l m.st=true then(ngS v l 2 [m.st],ngA v l 2 [m.st])
 else if m.k=3∧l.dec=false then(sgS v l 5 [],sgA v l 5 [])
 else if m.k=5∧unxB l m.st=true then(ngS v l 6 [m.st],ngA v l 6 [m.st])
 else(v,[])
def hdSA(v:Ch)(m:Mg):Ch×List Mg:=
 if v.down=true∨m.to≠0 then(v,[])
 else if m.k=12∧keepB m.fr=true then(v,ansA (v.L m.id) m)
 else match v.L m.id with
  |none=>(v,[])
  |some l=>if keepB m.fr=true then keepSA v l m else if m.fr=3 then shipSA v l m else if srvB l m=true then servSA v l m else(v,[])
end Go.Proofs.YthfgmpooehkhgaaGreatDoor
namespace Go.Proofs.YthfgmpooehkhgaaGreatDoor
open Go.ChangeShapes Go.WideShapes Go.ChangeAt Go.RowKit Go.Maps Sg Bl
open List renaming setIfInBounds_toArray→zA,set_cons_zero→zB,set_cons_succ→zC
open Nat renaming le_refl→zD,lt_of_lt_of_le→zJ,le_trans→zK
open Rg.Kept renaming of_below→zE,setCell→zO
open Below renaming refl→zF,heap_setCell→zN
open Go.World renaming alloc_heap_new→zI
def ptV:Option Nat→Value
 |none=> .pointer none
 |some a=> .pointer (some ⟨a,0,none⟩)
def ptE:Option Nat→DataW Unit
 |none=> .nil
 |some a=> .lit (.int .i64 (a:Int))
def ptElem(v:Value):Option (DataW Unit×List MemPlace):=
 match v with
 | .pointer none=>some (.nil,[])
 | .pointer (some ⟨a,0,none⟩)=>some (.lit (.int .i64 (a:Int)),[])
 |_=>none
theorem ptElem_inv{v:Value}{y:DataW Unit×List MemPlace}(h:ptElem v=some y):∃c,v=ptV c∧y=(ptE c,[]):=by
 unfold ptElem at h
 split at h
 ·cases h;exact⟨none,rfl,rfl⟩
 ·cases h;exact⟨some _,rfl,rfl⟩
 ·cases h
theorem ptV_inj{c d:Option Nat}(h:ptV c=ptV d):c=d:=by
 cases c<;>cases d<;>simp[ptV]at h
 ·rfl
 ·rw[h]
theorem ptE_inj{c d:Option Nat}(h:ptE c=ptE d):c=d:=by
 cases c<;>cases d<;>simp[ptE]at h
 ·rfl
 ·rw[show _=_ from Int.ofNat.inj h]
def ptX:Gd.Pu.Pa.ElemOf (Option Nat):=⟨ptV,ptE,ptElem,fun c=>by cases c<;>rfl,fun _ _ h=>ptElem_inv h,fun _ _ h=>ptE_inj h,fun _ _ h=>ptV_inj h⟩
theorem ids_nodup(P:Int→Bool):(((List.range 999).map (fun i:Nat=>(i:Int)+1)).filter P).Nodup :=by
 refine List.Pairwise.filter _ ?_
 rw[List.pairwise_map]
 exact List.nodup_range.imp (fun h e=>h (by omega))
theorem ids_len(P:Int→Bool):(((List.range 999).map (fun i:Nat=>(i:Int)+1)).filter P).length ≤999:=by
 refine zK (List.length_filter_le _ _) ?_
 simp
theorem ids_mem(P:Int→Bool)(hP:∀x,P x=true→1≤x∧x≤999)(x:Int):x∈((List.range 999).map (fun i:Nat=>(i:Int)+1)).filter P↔P x=true:=by
 rw[List.mem_filter]
 constructor
 ·exact fun h=>h.2
 ·intro h;have:=hP x h
  refine⟨List.mem_map.2 ⟨(x-1).toNat,List.mem_range.2 (by omega),by omega⟩,h⟩
theorem own_tight{P:Program}{k:TypeId}{R:Value→Option (DataW Unit×List MemPlace)}{w:World}{b n:Nat}{D:DataW Unit}(h:w.ownsMap P k R b n D)(hk:P.underlying k=some (.int .i64))(hr:∀x:Int,Maps.has D (.int .i64 x)=true→1≤x∧x≤999):w.ownsMap P k R b 999 D:=by
 have hC:CollectedI D (fun _=>false) (((List.range 999).map (fun i:Nat=>(i:Int)+1)).filter (fun x=>Maps.has D (.int .i64 x))):=⟨ids_nodup _,fun x=>by rw[ids_mem _ hr];simp⟩
 have hp:=(hC.perm h (int_keyed hk) hk (fun _=>rfl)).length_eq
 have hl:=ids_len (fun x=>Maps.has D (.int .i64 x))
 obtain⟨es,clock,hb,F,_,hD⟩:=h
 refine⟨es,clock,hb,F,?_,hD⟩
 have e1:(intKeys D).length =es.size:=by
  rw[hD];simp[intKeys,length_read]
 omega
theorem mx_tight{α:Type}{X:Gd.Pu.Pa.ElemOf α}{P:Program}{k:TypeId}{w:World}{b n:Nat}{r:Int→Option α}(h:Gd.Pu.Pa.Mx X P k w b n r)(hk:P.underlying k=some (.int .i64))(hr:∀x,(r x).isSome =true→1≤x∧x≤999):Gd.Pu.Pa.Mx X P k w b 999 r:=by
 obtain⟨D,hD,f⟩:=h
 exact⟨D,own_tight hD hk (fun x hx=>hr x (by rw[←(f.2 x).2];exact hx)),f⟩
theorem bt_tight{B:Nat}{E:Nat→Prop}{w:World}{p:Nat}{t:Int}{h:Int→Int}{n:Nat}(k:Bt B E w p t h n):Bt B E w p t h 999:=by
 obtain⟨h1,h2,h3,mv,h4,h5⟩:=k
 refine⟨h1,h2,h3,mv,h4,?_⟩
 rcases h5 with h5|⟨b,e1,e2,D,e3,e4⟩
 ·exact .inl h5
 ·refine .inr ⟨b,e1,e2,D,own_tight e3 Tryz.underlying3 (fun x hx=>?_),e4⟩;rw[(e4.2 x).2]at hx;exact h3.at_ x (by simpa using hx)
theorem bt_wide{B:Nat}{E E':Nat→Prop}{w:World}{p:Nat}{t:Int}{h:Int→Int}{n:Nat}(k:Bt B E w p t h n)(hE:∀k,E k→E' k)(hb:∀k,E' k→B≤k∧k<w.heap.size):Bt B E' w p t h n:=by
 obtain⟨_,h2,h3,mv,h4⟩:=k
 exact⟨hb,hE _ h2,h3,mv,h4.mono (zD _) hE⟩
theorem own_keptR{F:Nat→Obj→Prop}{w w':World}{B:Nat}{e:TypeId}{s:Nat}{v:Value}{n:Nat}{xs:List Value}(h:w.ownsRow B e s v n xs)(hk:Rg.Kept F w w')(hF:∀k o,v.ownBlock=some k→¬F k o):w'.ownsRow B e s v n xs:=by
 obtain⟨h1,h2⟩:=h
 refine⟨h1,?_⟩
 rcases h2 with h2|⟨g,cap,cur,rfl,hg,hc,rest⟩
 ·exact .inl h2
 ·exact .inr ⟨g,cap,cur,rfl,hg,hk.block _ _ hc (hF g _ rfl),rest⟩
theorem tk_kept{F:Nat→Obj→Prop}{w w':World}{B p:Nat}{t:Ta}(h:Tk B w p t)(hk:Rg.Kept F w w')(hF:∀o,¬F p o):Tk B w' p t:=⟨⟨hk.block _ _ h.1.1 (hF _),h.1.2⟩,h.2⟩
def taY(y:Bool×Bool):Ta:=⟨2,fun k=>if k=0 then y.1 else if k=1 then y.2 else false,y.1&&y.2⟩
structure LdV (B:Nat) (S:Nat→Prop) (w:World) (a:Nat) (l:Lk) (sa:Option Addr) (sc:Nat) (da:Option Addr) (dc:Nat) (ua:Option Addr) (uc:Nat) (tp:Option Nat):Prop where
 blk:w.heap[a]?=some (.cells #[.int .i64 l.o.id,.int .i64 l.o.item,.int .i64 l.o.qty,.int .i64 l.o.client,.int .i64 l.o.price,.slice sa l.o.steps.length sc,.slice da l.f.dn.length dc,.slice ua l.f.un.length uc,.bool l.f.asked,.bool l.f.yes,.bool l.f.turned,.bool l.f.k0,.bool l.f.k1,.bool l.f.ship,.bool l.f.d0,.bool l.f.d1,.bool l.f.acc,(ptV tp)] 145 (0,0))
 low:B≤a
 sr:w.ownsRow B 107 2 (.slice sa l.o.steps.length sc) l.o.steps.length (stCells l.o.steps)
 dr:w.ownsRow B 4 1 (.slice da l.f.dn.length dc) l.f.dn.length (l.f.dn.map Value.bool)
 ur:w.ownsRow B 4 1 (.slice ua l.f.un.length uc) l.f.un.length (l.f.un.map Value.bool)
 ne:∀x y,da=some x→ua=some y→x.block≠y.block
 tl:(tp=none∧l.y=none)∨∃t y,tp=some t∧l.y=some y∧Tk B w t (taY y)
 ia:S a
 is:∀x,sa=some x→S x.block
 id:∀x,da=some x→S x.block
 iu:∀x,ua=some x→S x.block
 it:∀t,tp=some t→S t
def Ld(B:Nat)(S:Nat→Prop)(w:World)(a:Nat)(l:Lk):Prop:=∃sa sc da dc ua uc tp,LdV B S w a l sa sc da dc ua uc tp
theorem own_some{a:Option Addr}{n c k:Nat}(h:(Value.slice a n c).ownBlock =some k):∃x,a=some x∧x.block=k:=by
 cases a with
 |none=>cases h
 |some x=>exact⟨x,rfl,by simpa[Value.ownBlock]using h⟩
section
variable {B:Nat}{S S':Nat→Prop}{w w':World}{a:Nat}{l:Lk}{sa:Option Addr}{sc:Nat}{da:Option Addr}{dc:Nat}{ua:Option Addr}{uc:Nat}{tp:Option Nat}
theorem LdV.kept{F:Nat→Obj→Prop}(k:LdV B S w a l sa sc da dc ua uc tp)(hk:Rg.Kept F w w')(hF:∀k o,S k→¬F k o):LdV B S w' a l sa sc da dc ua uc tp:=by
 refine⟨hk.block _ _ k.blk (hF _ _ k.ia),k.low,own_keptR k.sr hk (fun i o e=>?_),own_keptR k.dr hk (fun i o e=>?_),own_keptR k.ur hk (fun i o e=>?_),k.ne,?_,k.ia,k.is,k.id,k.iu,k.it⟩
 ·obtain⟨x,e1,rfl⟩:=own_some e;exact hF _ _ (k.is x e1)
 ·obtain⟨x,e1,rfl⟩:=own_some e;exact hF _ _ (k.id x e1)
 ·obtain⟨x,e1,rfl⟩:=own_some e;exact hF _ _ (k.iu x e1)
 ·rcases k.tl with h|⟨t,y,h1,h2,h3⟩
  ·exact .inl h
  ·exact .inr ⟨t,y,h1,h2,tk_kept h3 hk (fun o=>hF _ _ (k.it t h1))⟩
theorem LdV.wide(k:LdV B S w a l sa sc da dc ua uc tp)(h:∀k,S k→S' k):LdV B S' w a l sa sc da dc ua uc tp:=
 ⟨k.blk,k.low,k.sr,k.dr,k.ur,k.ne,k.tl,h _ k.ia,fun x e=>h _ (k.is x e),fun x e=>h _ (k.id x e),fun x e=>h _ (k.iu x e),fun x e=>h _ (k.it x e)⟩
theorem LdV.on(k:LdV B S w a l sa sc da dc ua uc tp)(hb:Below w.heap.size w w'):LdV B S w' a l sa sc da dc ua uc tp:=k.kept (F:=fun _ _=>False) (zE hb) (fun _ _ _ h=>h)
theorem LdV.lt(k:LdV B S w a l sa sc da dc ua uc tp):a<w.heap.size:=(Array.getElem?_eq_some_iff.1 k.blk).1
theorem Ld.kept{F:Nat→Obj→Prop}(k:Ld B S w a l)(hk:Rg.Kept F w w')(hF:∀k o,S k→¬F k o):Ld B S w' a l:=by
 obtain⟨sa,sc,da,dc,ua,uc,tp,h⟩:=k
 exact⟨sa,sc,da,dc,ua,uc,tp,h.kept hk hF⟩
theorem Ld.wide(k:Ld B S w a l)(h:∀k,S k→S' k):Ld B S' w a l:=by
 obtain⟨sa,sc,da,dc,ua,uc,tp,h1⟩:=k
 exact⟨sa,sc,da,dc,ua,uc,tp,h1.wide h⟩
theorem Ld.on(k:Ld B S w a l)(hb:Below w.heap.size w w'):Ld B S w' a l:=k.kept (F:=fun _ _=>False) (zE hb) (fun _ _ _ h=>h)
theorem row_cap{e:TypeId}{s:Nat}{ad:Option Addr}{n c:Nat}{xs:List Value}(h:w.ownsRow B e s (.slice ad n c) n xs):n≤c∧c≤9223372036854775807:=by
 rcases h.2 with⟨e,rfl⟩|⟨g,cap,cur,e,_,_,h1,h2,_⟩
 ·cases e;exact⟨zD _,by omega⟩
 ·cases e;exact⟨h1,by unfold maxLen at h2;omega⟩
theorem LdV.fin(k:LdV B S w a l sa sc da dc ua uc tp):FaIn w l.f da dc ua uc:=⟨row_bls k.dr,row_bls k.ur,(row_cap k.dr).1,(row_cap k.ur).1,(row_cap k.dr).2,(row_cap k.ur).2⟩
theorem LdV.sts(k:LdV B S w a l sa sc da dc ua uc tp):Sts w sa l.o.steps∧l.o.steps.length≤9223372036854775807:=⟨row_sts k.sr,by have:=row_cap k.sr;omega⟩
theorem LdV.cells(k:LdV B S w a l sa sc da dc ua uc tp):
 (w.cell? ⟨a,0,none⟩=some (.int .i64 l.o.id)∧w.cell? ⟨a,1,none⟩=some (.int .i64 l.o.item)∧w.cell? ⟨a,2,none⟩=some (.int .i64 l.o.qty)∧w.cell? ⟨a,3,none⟩=some (.int .i64 l.o.client)∧w.cell? ⟨a,4,none⟩=some (.int .i64 l.o.price)∧w.cell? ⟨a,5,none⟩=some (.slice sa l.o.steps.length sc))∧
 w.cell? ⟨a,6,none⟩=some (.slice da l.f.dn.length dc)∧w.cell? ⟨a,7,none⟩=some (.slice ua l.f.un.length uc)∧w.cell? ⟨a,8,none⟩=some (.bool l.f.asked)∧w.cell? ⟨a,9,none⟩=some (.bool l.f.yes)∧w.cell? ⟨a,10,none⟩=some (.bool l.f.turned)∧
 w.cell? ⟨a,11,none⟩=some (.bool l.f.k0)∧w.cell? ⟨a,12,none⟩=some (.bool l.f.k1)∧w.cell? ⟨a,13,none⟩=some (.bool l.f.ship)∧w.cell? ⟨a,14,none⟩=some (.bool l.f.d0)∧w.cell? ⟨a,15,none⟩=some (.bool l.f.d1)∧w.cell? ⟨a,16,none⟩=some (.bool l.f.acc)∧w.cell? ⟨a,17,none⟩=some (ptV tp):=by
 refine⟨⟨?_,?_,?_,?_,?_,?_⟩,?_,?_,?_,?_,?_,?_,?_,?_,?_,?_,?_,?_⟩<;>(rw[cell_of k.blk];rfl)
theorem LdV.frozen(k:LdV B S w a l sa sc da dc ua uc tp)(i:Nat):w.frozen? ⟨a,i,none⟩=false:=frozen_of_row _ _ _ _ _ k.blk
end
abbrev Pt:Type:=Sum Nat Int
abbrev Pt.nd:Pt:=Sum.inl 0
abbrev Pt.jr:Pt:=Sum.inl 1
abbrev Pt.bl:Pt:=Sum.inl 2
abbrev Pt.mp:Pt:=Sum.inl 3
abbrev Pt.ld(i:Int):Pt:=Sum.inr i
def grO(O:Pt→Nat→Prop)(x:Pt)(w w':World):Pt→Nat→Prop:=fun y k=>O y k∨(y=x∧w.heap.size≤k∧k<w'.heap.size)
def Eo(O:Pt→Nat→Prop):Nat→Prop:=fun k=>∃x,O x k
def JL(Lq:List ByteArray)(v:Ch):Prop:=Lq.take v.T.length=v.T.map lnC∧(v.down=false→Lq=v.T.map lnC)∧(v.down=true→(wholeD fun s=>Classical.propDecidable (Ok s)) Lq=v.T.length)
structure CkV (B:Nat) (O:Pt→Nat→Prop) (w:World) (p:Nat) (v:Ch) (q:Nat) (r:Value) (b bt:Nat) (loc:Int→Option Nat) (Lq:List ByteArray):Prop where
 bd:∀x k,O x k→B≤k∧k<w.heap.size
 dj:∀x y k,O x k→O y k→x=y
 op:O .nd p
 blk:w.heap[p]?=some (.cells #[.int .i64 v.most,.int .i64 v.room,.pointer (some ⟨q,0,none⟩),.map (some b),.pointer (some ⟨bt,0,none⟩)] 94 (0,0))
 jr:Jr B w q r v.room Lq v.su v.down
 oq:O .jr q
 or:∀k,r.ownBlock=some k→O .jr k
 bl:Bt B (O .bl) w bt v.t v.h 999
 mp:Gd.Pu.Pa.Mx ptX Tryz.prog 3 w b 999 (fun id=>(loc id).map some)
 ob:O .mp b
 ld:∀id l,v.L id=some l→∃a,loc id=some a∧Ld B (O (.ld id)) w a l
 no:∀id,v.L id=none→loc id=none
section
variable {B:Nat}{O:Pt→Nat→Prop}{w w':World}{p:Nat}{v:Ch}{q:Nat}{r:Value}{b bt:Nat}{loc:Int→Option Nat}{Lq:List ByteArray}
theorem CkV.low(k:CkV B O w p v q r b bt loc Lq):B≤w.heap.size:=by have:=k.bd _ _ k.op;omega
theorem CkV.kept{F:Nat→Obj→Prop}(k:CkV B O w p v q r b bt loc Lq)(hk:Rg.Kept F w w')(hF:∀x k o,O x k→¬F k o):CkV B O w' p v q r b bt loc Lq:=
 ⟨fun x i e=>⟨(k.bd x i e).1,zJ (k.bd x i e).2 hk.size⟩,k.dj,k.op,hk.block _ _ k.blk (hF _ _ _ k.op),k.jr.kept hk (fun o=>hF _ _ o k.oq) (fun i o e=>hF _ _ o (k.or i e)),k.oq,k.or,k.bl.kept hk (fun i o e=>hF _ i o e),k.mp.kept hk (fun o=>hF _ _ o k.ob),k.ob,
   fun id l e=>by obtain⟨a,h1,h2⟩:=k.ld id l e;exact⟨a,h1,h2.kept hk (fun i o e=>hF _ i o e)⟩,k.no⟩
theorem CkV.on(k:CkV B O w p v q r b bt loc Lq)(hb:Below w.heap.size w w'):CkV B O w' p v q r b bt loc Lq:=k.kept (F:=fun _ _=>False) (zE hb) (fun _ _ _ _ h=>h)
theorem gr_bd{x:Pt}(h:∀x k,O x k→B≤k∧k<w.heap.size)(hB:B≤w.heap.size)(hs:w.heap.size≤w'.heap.size):∀y k,grO O x w w' y k→B≤k∧k<w'.heap.size:=fun y k e=>by
 rcases e with e|e
 ·have:=h y k e;omega
 ·omega
theorem gr_dj{x:Pt}(h:∀x k,O x k→B≤k∧k<w.heap.size)(hd:∀x y k,O x k→O y k→x=y):∀y z k,grO O x w w' y k→grO O x w w' z k→y=z:=fun y z k e1 e2=>by
 rcases e1 with e1|e1
 ·rcases e2 with e2|e2
  ·exact hd y z k e1 e2
  ·have:=h y k e1;omega
 ·rcases e2 with e2|e2
  ·have:=h z k e2;omega
  ·rw[e1.1,e2.1]
theorem gr_eo{x:Pt}{k:Nat}(h:Eo (grO O x w w') k):growE (Eo O) w w' k:=by
 obtain⟨y,h|h⟩:=h
 ·exact .inl ⟨y,h⟩
 ·exact .inr h.2
theorem CkV.far(k:CkV B O w p v q r b bt loc Lq){x y:Pt}(h:x≠y):∀(i:Nat)(_:Obj),O x i→¬O y i:=fun i _ e1 e2=>h (k.dj x y i e1 e2)
theorem CkV.jstep(k:CkV B O w p v q r b bt loc Lq){T':List Et}{su':Nat}{d':Bool}{r':Value}{Lq':List ByteArray}(j:Jr B w' q r' v.room Lq' su' d')(ho:Off q r r' w w'):
 CkV B (grO O .jr w w') w' p ⟨v.most,v.room,v.t,T',su',d',v.L,v.h⟩ q r' b bt loc Lq'∧Rg.Kept (fun i _=>O .jr i) w w':=by
 have hk:Rg.Kept (fun i _=>O .jr i) w w':=ho.kept.mono (fun i _ e=>e.elim (fun e=>e▸k.oq) (fun e=>k.or i e))
 have hs:=hk.size
 refine⟨⟨gr_bd k.bd k.low hs,gr_dj k.bd k.dj,.inl k.op,hk.block _ _ k.blk (k.far (by intro e;cases e) p (.cells #[] 0 (0,0)) k.op),j,.inl k.oq,fun i e=>?_,
  bt_wide (k.bl.kept hk (fun i o e=>k.far (by intro e;cases e) i o e)) (fun i e=> .inl e) (fun i e=>gr_bd k.bd k.low hs .bl i e),k.mp.kept hk (fun o=>k.far (by intro e;cases e) b o k.ob),.inl k.ob,fun id l e=>?_,k.no⟩,hk⟩
 ·by_cases hi:i<w.heap.size
  ·by_cases h1:i=q
   ·subst h1;exact .inl k.oq
   ·by_cases h2:r.ownBlock=some i
    ·exact .inl (k.or i h2)
    ·exact absurd e (ho.2 i hi h1 h2).2
  ·exact .inr ⟨rfl,by omega,(j.2.2.1.lt i e).2⟩
 ·obtain⟨a,h1,h2⟩:=k.ld id l e;exact⟨a,h1,(h2.kept hk (fun i o e=>k.far (by intro e;cases e) i o e)).wide (fun i e=> .inl e)⟩
theorem CkV.bstep(k:CkV B O w p v q r b bt loc Lq){h':Int→Int}{n:Nat}(hb:Bt B (growE (O .bl) w w') w' bt v.t h' n)(hk:Rg.Kept (fun i _=>O .bl i) w w'):
 CkV B (grO O .bl w w') w' p ⟨v.most,v.room,v.t,v.T,v.su,v.down,v.L,h'⟩ q r b bt loc Lq:=by
 have hs:=hk.size
 refine⟨gr_bd k.bd k.low hs,gr_dj k.bd k.dj,.inl k.op,hk.block _ _ k.blk (k.far (by intro e;cases e) p (.cells #[] 0 (0,0)) k.op),k.jr.kept hk (fun o=>k.far (by intro e;cases e) q o k.oq) (fun i o e=>k.far (by intro e;cases e) i o (k.or i e)),.inl k.oq,fun i e=> .inl (k.or i e),
  bt_wide (bt_tight hb) (fun i e=>e.imp (fun e=>e) (fun e=>⟨rfl,e⟩)) (fun i e=>gr_bd k.bd k.low hs .bl i e),k.mp.kept hk (fun o=>k.far (by intro e;cases e) b o k.ob),.inl k.ob,fun id l e=>?_,k.no⟩
 obtain⟨a,h1,h2⟩:=k.ld id l e
 exact⟨a,h1,(h2.kept hk (fun i o e=>k.far (by intro e;cases e) i o e)).wide (fun i e=> .inl e)⟩
theorem CkV.lstep(k:CkV B O w p v q r b bt loc Lq){id:Int}{l l':Lk}{a:Nat}(hl:v.L id=some l)(ha:loc id=some a)(h:Ld B (growE (O (.ld id)) w w') w' a l')(hk:Rg.Kept (fun i _=>O (.ld id) i) w w'):
 CkV B (grO O (.ld id) w w') w' p ⟨v.most,v.room,v.t,v.T,v.su,v.down,Gd.updO v.L id (some l'),v.h⟩ q r b bt loc Lq:=by
 have hs:=hk.size
 refine⟨gr_bd k.bd k.low hs,gr_dj k.bd k.dj,.inl k.op,hk.block _ _ k.blk (k.far (by intro e;cases e) p (.cells #[] 0 (0,0)) k.op),k.jr.kept hk (fun o=>k.far (by intro e;cases e) q o k.oq) (fun i o e=>k.far (by intro e;cases e) i o (k.or i e)),.inl k.oq,fun i e=> .inl (k.or i e),
  bt_wide (k.bl.kept hk (fun i o e=>k.far (by intro e;cases e) i o e)) (fun i e=> .inl e) (fun i e=>gr_bd k.bd k.low hs .bl i e),k.mp.kept hk (fun o=>k.far (by intro e;cases e) b o k.ob),.inl k.ob,fun id' l1 e=>?_,fun id' e=>?_⟩
 ·dsimp only at e;by_cases hi:id'=id
  ·subst hi;rw[Gd.updO_same]at e;cases e;exact⟨a,ha,h.wide (fun i e=>e.imp (fun e=>e) (fun e=>⟨rfl,e⟩))⟩
  ·rw[Gd.updO_other _ _ hi]at e;obtain⟨a',h1,h2⟩:=k.ld id' l1 e;exact⟨a',h1,(h2.kept hk (fun i o e=>k.far (by intro e;cases e;exact hi rfl) i o e)).wide (fun i e=> .inl e)⟩
 ·dsimp only at e;by_cases hi:id'=id
  ·subst hi;rw[Gd.updO_same]at e;cases e
  ·rw[Gd.updO_other _ _ hi]at e;exact k.no id' e
theorem CkV.mstep(k:CkV B O w p v q r b bt loc Lq){w1:World}{id:Int}{l':Lk}{a:Nat}(hl:v.L id=none)(hb:Below w.heap.size w w1)(h:Ld B (fun i=>w.heap.size≤i∧i<w1.heap.size) w1 a l'){n:Nat}
 (hm:Gd.Pu.Pa.Mx ptX Tryz.prog 3 w' b n (Gd.updO (fun id=>(loc id).map some) id (some (some a)))) (hk:Rg.Kept (fun i _=>i=b) w1 w') (hi:1≤id∧id≤999) (hlo:∀x a,loc x=some a→1≤x∧x≤999):
 CkV B (grO O (.ld id) w w') w' p ⟨v.most,v.room,v.t,v.T,v.su,v.down,Gd.updO v.L id (some l'),v.h⟩ q r b bt (Gd.updO loc id (some a)) Lq∧Rg.Kept (fun i _=>O .mp i) w w':=by
 have k1:=k.on hb
 have s1:=hb.size
 have hs:=hk.size
 have ne:∀ {x:Pt}{i:Nat},x≠ .mp →O x i→i≠b:=fun hx e e2=>hx (k.dj _ _ _ e (e2▸k.ob))
 have hbw:b<w.heap.size:=(k.bd _ _ k.ob).2
 have e0:Gd.updO (fun id=>(loc id).map some) id (some (some a))=fun x=>(Gd.updO loc id (some a) x).map some:=by
  funext x
  unfold Gd.updO;split<;>rfl
 rw[e0]at hm
 refine⟨⟨gr_bd k.bd k.low (by omega),gr_dj k.bd k.dj,.inl k.op,hk.block _ _ k1.blk (ne (by intro e;cases e) k.op),k1.jr.kept hk (fun o=>ne (by intro e;cases e) k.oq) (fun i o e=>ne (by intro e;cases e) (k.or i e)),.inl k.oq,fun i e=> .inl (k.or i e),
  bt_wide (k1.bl.kept hk (fun i o e=>ne (by intro e;cases e) e)) (fun i e=> .inl e) (fun i e=>gr_bd k.bd k.low (by omega) .bl i e),mx_tight hm Tryz.underlying3 (fun x hx=>?_),.inl k.ob,fun id' l1 e=>?_,fun id' e=>?_⟩,(zE hb).trans (hk.mono (fun i _ e=>by rw[e];exact k.ob))⟩
 ·by_cases hx2:x=id
  ·rw[hx2];exact hi
  ·rw[Gd.updO_other _ _ hx2]at hx;cases h0:loc x with
   |none=>rw[h0]at hx;cases hx
   |some a0=>exact hlo x a0 h0
 ·dsimp only at e;by_cases hx:id'=id
  ·subst hx;rw[Gd.updO_same]at e;cases e;exact⟨a,Gd.updO_same _ _ _,(h.kept hk (fun i o e=>by omega)).wide (fun i e=> .inr ⟨rfl,e.1,by omega⟩)⟩
  ·rw[Gd.updO_other _ _ hx]at e;obtain⟨a',h1,h2⟩:=k1.ld id' l1 e;exact⟨a',by rw[Gd.updO_other _ _ hx];exact h1,(h2.kept hk (fun i o e=>ne (by intro e;cases e) e)).wide (fun i e=> .inl e)⟩
 ·dsimp only at e;by_cases hx:id'=id
  ·subst hx;rw[Gd.updO_same]at e;cases e
  ·rw[Gd.updO_other _ _ hx]at e ⊢;exact k.no id' e
end
theorem cplace_any(n:Int)(w:World)(h1:1≤n)(h2:n≤2):Calls Tryz.prog 156 #[.int .i64 n] w fun e w'=>e= .returned (.int .i64 (n-1))∧w=w':=by
 go_enter Tryz.func156,Tryz.ntmps156
 go_wp2
 go_ret
 exact⟨rfl,rfl⟩
theorem ckeep_any(n:Int)(w:World):Calls Tryz.prog 95 #[.int .i64 n] w fun e w'=>e= .returned (.bool (keepB n))∧w=w':=by
 unfold keepB
 by_cases h1:n=1
 ·subst h1;go_enter Tryz.func95,Tryz.ntmps95
  go_wp2
  go_ret
  exact⟨rfl,rfl⟩
 ·by_cases h2:n=2
  ·subst h2;go_enter Tryz.func95,Tryz.ntmps95
   go_wp2
   go_ret
   exact⟨rfl,rfl⟩
  ·have e1:(n==1)=false:=by simpa using h1
   have e2:(n==2)=false:=by simpa using h2
   have HE:Hid (false=(n==1||n==2)):=by show _=_;rw[e1,e2];rfl
   go_enter Tryz.func95,Tryz.ntmps95
   go_wp2
   go_ret
   exact⟨by rw[←HE.out];rfl,rfl⟩
section
variable {B:Nat}{S:Nat→Prop}{w:World}{a:Nat}{l:Lk}{sa:Option Addr}{sc:Nat}{da:Option Addr}{dc:Nat}{ua:Option Addr}{uc:Nat}{tp:Option Nat}
theorem ldec_any(k:LdV B S w a l sa sc da dc ua uc tp):Calls Tryz.prog 67 #[.pointer (some ⟨a,0,none⟩)] w fun e w'=>e= .returned (.bool l.dec)∧w=w':=by
 obtain⟨-,-,-,-,c9,c10,-⟩:=k.cells
 unfold Lk.dec
 generalize l.f.yes=y at *
 generalize l.f.turned=t at *
 clear k
 cases y<;>cases t
 all_goals go_enter Tryz.func67,Tryz.ntmps67
 all_goals go_wp2
 all_goals go_ret
 all_goals exact⟨rfl,rfl⟩
theorem lwt_any(k:LdV B S w a l sa sc da dc ua uc tp):Calls Tryz.prog 152 #[.pointer (some ⟨a,0,none⟩)] w fun e w'=>e= .returned (.bool l.wt)∧w=w':=by
 obtain⟨-,-,-,c8,-⟩:=k.cells
 have D:=ldec_any k
 unfold Lk.wt
 generalize l.f.asked=y at *
 generalize l.dec=t at *
 clear k
 cases y<;>cases t
 all_goals go_enter Tryz.func152,Tryz.ntmps152
 all_goals go_wp2_with(go_at_call 67;refine D.mono ?_;clear D;rintro e w' ⟨rfl,rfl⟩)
 all_goals go_ret
 all_goals exact⟨rfl,rfl⟩
set_option maxRecDepth 100000 in
theorem lover_any(k:LdV B S w a l sa sc da dc ua uc tp):Calls Tryz.prog 73 #[.pointer (some ⟨a,0,none⟩)] w fun e w'=>e= .returned (.bool (overF l.o l.f))∧Below w.heap.size w w':=by
 have AF:∀u:Later w,Calls Tryz.prog 128 #[.agg #[.int .i64 l.o.id,.int .i64 l.o.item,.int .i64 l.o.qty,.int .i64 l.o.client,.int .i64 l.o.price,.slice sa l.o.steps.length sc],.agg #[.slice da l.f.dn.length dc,.slice ua l.f.un.length uc,.bool l.f.asked,.bool l.f.yes,.bool l.f.turned,.bool l.f.k0,.bool l.f.k1,.bool l.f.ship,.bool l.f.d0,.bool l.f.d1,.bool l.f.acc]] u.w fun x w'=>x= .returned (.bool (overF l.o l.f))∧∃u':Later w,w'=u'.w:=fun u=>calls_later u (sover_any l.o sa sc l.f da dc ua uc u.w (k.on u.below).sts.1 k.sts.2 (k.on u.below).fin)
 obtain⟨⟨c0,c1,c2,c3,c4,c5⟩,c6,c7,c8,c9,c10,c11,c12,c13,c14,c15,c16,-⟩:=k.cells
 generalize overF l.o l.f=r at AF ⊢
 obtain⟨z0,z1,z2,z3,z4,z5⟩:_∧_∧_∧_∧_∧_:=⟨Later.cell c0,Later.cell c1,Later.cell c2,Later.cell c3,Later.cell c4,Later.cell c5⟩
 obtain⟨z6,z7,z8,z9,z10,z11,z12,z13,z14,z15,z16⟩:_∧_∧_∧_∧_∧_∧_∧_∧_∧_∧_:=⟨Later.cell c6,Later.cell c7,Later.cell c8,Later.cell c9,Later.cell c10,Later.cell c11,Later.cell c12,Later.cell c13,Later.cell c14,Later.cell c15,Later.cell c16⟩
 have hne:Nonempty (Later w):=⟨Later.now w⟩
 clear k c0 c1 c2 c3 c4 c5 c6 c7 c8 c9 c10 c11 c12 c13 c14 c15 c16
 go_enter Tryz.func73,Tryz.ntmps73
 go_wp2_with fail
 refine region_later (by kernel_rfl) (by kernel_rfl) ?_
 repeat(first|go_big_quiet_step (exact AF _)|quiet_step (exact AF _))
 refine wpQuiet_nil ?_
 intro u
 go_wp2
 go_ret
 exact⟨rfl,u.below⟩
set_option maxRecDepth 100000 in
theorem lstate_any(k:LdV B S w a l sa sc da dc ua uc tp):Calls Tryz.prog 71 #[.pointer (some ⟨a,0,none⟩)] w fun e w'=>e= .returned (.int .i64 (stF l.o l.f))∧Below w.heap.size w w':=by
 have AF:∀u:Later w,Calls Tryz.prog 140 #[.agg #[.int .i64 l.o.id,.int .i64 l.o.item,.int .i64 l.o.qty,.int .i64 l.o.client,.int .i64 l.o.price,.slice sa l.o.steps.length sc],.agg #[.slice da l.f.dn.length dc,.slice ua l.f.un.length uc,.bool l.f.asked,.bool l.f.yes,.bool l.f.turned,.bool l.f.k0,.bool l.f.k1,.bool l.f.ship,.bool l.f.d0,.bool l.f.d1,.bool l.f.acc]] u.w fun x w'=>x= .returned (.int .i64 (stF l.o l.f))∧∃u':Later w,w'=u'.w:=fun u=>calls_later u (sstate_any l.o sa sc l.f da dc ua uc u.w (k.on u.below).sts.1 k.sts.2 (k.on u.below).fin)
 obtain⟨⟨c0,c1,c2,c3,c4,c5⟩,c6,c7,c8,c9,c10,c11,c12,c13,c14,c15,c16,-⟩:=k.cells
 generalize stF l.o l.f=r at AF ⊢
 obtain⟨z0,z1,z2,z3,z4,z5⟩:_∧_∧_∧_∧_∧_:=⟨Later.cell c0,Later.cell c1,Later.cell c2,Later.cell c3,Later.cell c4,Later.cell c5⟩
 obtain⟨z6,z7,z8,z9,z10,z11,z12,z13,z14,z15,z16⟩:_∧_∧_∧_∧_∧_∧_∧_∧_∧_∧_:=⟨Later.cell c6,Later.cell c7,Later.cell c8,Later.cell c9,Later.cell c10,Later.cell c11,Later.cell c12,Later.cell c13,Later.cell c14,Later.cell c15,Later.cell c16⟩
 have hne:Nonempty (Later w):=⟨Later.now w⟩
 clear k c0 c1 c2 c3 c4 c5 c6 c7 c8 c9 c10 c11 c12 c13 c14 c15 c16
 go_enter Tryz.func71,Tryz.ntmps71
 go_wp2_with fail
 refine region_later (by kernel_rfl) (by kernel_rfl) ?_
 repeat(first|go_big_quiet_step (exact AF _)|quiet_step (exact AF _))
 refine wpQuiet_nil ?_
 intro u
 go_wp2
 go_ret
 exact⟨rfl,u.below⟩
theorem ldoes_any(k:LdV B S w a l sa sc da dc ua uc tp)(hl:l.f.dn.length≤3)(st:Int):Calls Tryz.prog 159 #[.pointer (some ⟨a,0,none⟩),.int .i64 st] w fun e w'=>e= .returned (.bool (dnxB l st))∧w=w':=by
 obtain⟨-,c6,-,c8,-⟩:=k.cells
 have D:=ldec_any k
 have IX:=index_any l.f.dn da dc false w k.fin.dn (by omega)
 unfold dnxB
 generalize l.f.asked=y at *
 generalize l.dec=t at *
 generalize idxB l.f.dn false=i at *
 clear k hl
 cases y<;>cases t
 all_goals go_enter Tryz.func159,Tryz.ntmps159
 all_goals go_wp2_with(first
  |(go_at_call 67;refine D.mono ?_;clear D;rintro e w' ⟨rfl,rfl⟩)
  |(go_at_call 195;refine IX.mono ?_;clear IX;rintro e w' ⟨rfl,rfl⟩))
 all_goals go_ret
 all_goals exact⟨rfl,rfl⟩
theorem row_obj{e:TypeId}{s:Nat}{ad:Option Addr}{n c:Nat}{xs:List Value}(h:w.ownsRow B e s (.slice ad n c) n xs){x:Addr}(hx:ad=some x):∃cur,w.heap[x.block]?=some (.cells cur e (0,0)):=by
 subst hx
 rcases h.2 with⟨e,_⟩|⟨g,cap,cur,e,_,hc,_⟩
 ·cases e
 ·cases e;exact⟨cur,hc⟩
theorem LdV.far(k:LdV B S w a l sa sc da dc ua uc tp):(∀x,sa=some x→x.block≠a)∧(∀x,da=some x→x.block≠a)∧(∀x,ua=some x→x.block≠a)∧(∀t,tp=some t→t≠a):=by
 refine⟨fun x e=>?_,fun x e=>?_,fun x e=>?_,fun t e=>?_⟩
 ·obtain⟨cur,h⟩:=row_obj k.sr e;exact two_cells h k.blk (by decide)
 ·obtain⟨cur,h⟩:=row_obj k.dr e;exact two_cells h k.blk (by decide)
 ·obtain⟨cur,h⟩:=row_obj k.ur e;exact two_cells h k.blk (by decide)
 ·rcases k.tl with⟨h,_⟩|⟨t',y,h1,_,h3⟩
  ·rw[h]at e;cases e
  ·rw[h1]at e;cases e;exact two_cells h3.1.1 k.blk (by decide)
theorem LdV.put(k:LdV B S w a l sa sc da dc ua uc tp){w':World}(hk:Rg.Kept (fun i _=>i=a) w w'){l':Lk}{tp':Option Nat}(ho:l'.o=l.o)(hd:l'.f.dn=l.f.dn)(hu:l'.f.un=l.f.un)
 (hb:w'.heap[a]?=some (.cells #[.int .i64 l'.o.id,.int .i64 l'.o.item,.int .i64 l'.o.qty,.int .i64 l'.o.client,.int .i64 l'.o.price,.slice sa l'.o.steps.length sc,.slice da l'.f.dn.length dc,.slice ua l'.f.un.length uc,.bool l'.f.asked,.bool l'.f.yes,.bool l'.f.turned,.bool l'.f.k0,.bool l'.f.k1,.bool l'.f.ship,.bool l'.f.d0,.bool l'.f.d1,.bool l'.f.acc,(ptV tp')] 145 (0,0))) (ht:(tp'=none∧l'.y=none)∨∃t y,tp'=some t∧l'.y=some y∧Tk B w' t (taY y)) (hi:∀t,tp'=some t→S t):LdV B S w' a l' sa sc da dc ua uc tp':=by
 obtain⟨n1,n2,n3,n4⟩:=k.far
 refine⟨hb,k.low,?_,?_,?_,k.ne,ht,k.ia,k.is,k.id,k.iu,hi⟩
 ·rw[ho];exact own_keptR k.sr hk (fun i _ e=>by obtain⟨x,e1,rfl⟩:=own_some e;exact n1 x e1)
 ·rw[hd];exact own_keptR k.dr hk (fun i _ e=>by obtain⟨x,e1,rfl⟩:=own_some e;exact n2 x e1)
 ·rw[hu];exact own_keptR k.ur hk (fun i _ e=>by obtain⟨x,e1,rfl⟩:=own_some e;exact n3 x e1)
theorem kept_set(w:World)(a i:Nat)(x:Value):Rg.Kept (fun k _=>k=a) w (w.setCell ⟨a,i,none⟩ x):=zO _ (fun _=>rfl)
theorem LdV.bit(k:LdV B S w a l sa sc da dc ua uc tp)(i:Nat)(f':Fa)(hd:f'.dn=l.f.dn)(hu:f'.un=l.f.un)
 (hc:(#[.int .i64 l.o.id,.int .i64 l.o.item,.int .i64 l.o.qty,.int .i64 l.o.client,.int .i64 l.o.price,.slice sa l.o.steps.length sc,.slice da l.f.dn.length dc,.slice ua l.f.un.length uc,.bool l.f.asked,.bool l.f.yes,.bool l.f.turned,.bool l.f.k0,.bool l.f.k1,.bool l.f.ship,.bool l.f.d0,.bool l.f.d1,.bool l.f.acc,(ptV tp)]:Array Value).setIfInBounds i (.bool true)= #[.int .i64 (⟨l.o,f',l.y⟩:Lk).o.id,.int .i64 (⟨l.o,f',l.y⟩:Lk).o.item,.int .i64 (⟨l.o,f',l.y⟩:Lk).o.qty,.int .i64 (⟨l.o,f',l.y⟩:Lk).o.client,.int .i64 (⟨l.o,f',l.y⟩:Lk).o.price,.slice sa (⟨l.o,f',l.y⟩:Lk).o.steps.length sc,.slice da (⟨l.o,f',l.y⟩:Lk).f.dn.length dc,.slice ua (⟨l.o,f',l.y⟩:Lk).f.un.length uc,.bool (⟨l.o,f',l.y⟩:Lk).f.asked,.bool (⟨l.o,f',l.y⟩:Lk).f.yes,.bool (⟨l.o,f',l.y⟩:Lk).f.turned,.bool (⟨l.o,f',l.y⟩:Lk).f.k0,.bool (⟨l.o,f',l.y⟩:Lk).f.k1,.bool (⟨l.o,f',l.y⟩:Lk).f.ship,.bool (⟨l.o,f',l.y⟩:Lk).f.d0,.bool (⟨l.o,f',l.y⟩:Lk).f.d1,.bool (⟨l.o,f',l.y⟩:Lk).f.acc,(ptV tp)]):LdV B S (w.setCell ⟨a,i,none⟩ (.bool true)) a ⟨l.o,f',l.y⟩ sa sc da dc ua uc tp:=by
 have hk:=kept_set w a i (.bool true)
 refine k.put hk rfl hd hu (by rw[heap_setCell_same _ _ _ _ _ _ k.blk,hc]) ?_ k.it
 rcases k.tl with h|⟨t,y,h1,h2,h3⟩
 ·exact .inl h
 ·exact .inr ⟨t,y,h1,h2,tk_kept h3 hk (fun _=>k.far.2.2.2 t h1)⟩
theorem LdV.tal(k:LdV B S w a l sa sc da dc ua uc tp)(tp':Option Nat)(y':Option (Bool×Bool))(ht:(tp'=none∧y'=none)∨∃t y,tp'=some t∧y'=some y∧Tk B w t (taY y))(hi:∀t,tp'=some t→S t):LdV B S (w.setCell ⟨a,17,none⟩ (ptV tp')) a ⟨l.o,l.f,y'⟩ sa sc da dc ua uc tp':=by
 have hk:=kept_set w a 17 (ptV tp')
 refine k.put hk rfl rfl rfl (by rw[heap_setCell_same _ _ _ _ _ _ k.blk];rfl) ?_ hi
 rcases ht with h|⟨t,y,h1,h2,h3⟩
 ·exact .inl h
 ·exact .inr ⟨t,y,h1,h2,tk_kept h3 hk (fun _=>two_cells h3.1.1 k.blk (by decide))⟩
end
def LFol(B:Nat)(S:Nat→Prop)(w:World)(a:Nat)(l':Lk)(e:Ending)(w':World):Prop:=(∃x,e= .returned x)∧Ld B (growE S w w') w' a l'∧Rg.Kept (fun i _=>S i) w w'
section
variable {B:Nat}{S:Nat→Prop}{w:World}{a:Nat}{l:Lk}{sa:Option Addr}{sc:Nat}{da:Option Addr}{dc:Nat}{ua:Option Addr}{uc:Nat}{tp:Option Nat}
theorem lfol_of{w':World}{l':Lk}{tp':Option Nat}{e:Ending}{x:Value}(he:e= .returned x)(k:LdV B S w' a l' sa sc da dc ua uc tp')(hk:Rg.Kept (fun i _=>S i) w w'):LFol B S w a l' e w':=⟨⟨x,he⟩,⟨_,_,_,_,_,_,_,k.wide (fun _ e=> .inl e)⟩,hk⟩
theorem lfol4(k:LdV B S w a l sa sc da dc ua uc tp)(id:Int)(na:Option Addr)(nc:Nat):
 Calls Tryz.prog 151 #[.pointer (some ⟨a,0,none⟩),.agg #[.string ⟨#[121,101,115]⟩,.int .i64 id,.slice na 0 nc]] w (LFol B S w a (folL l 4 [])):=by
 obtain⟨W,hW⟩:∃W,W=w.alloc (.cells #[.string ⟨#[121,101,115]⟩,.int .i64 id,.slice na 0 nc] 104):=⟨_,rfl⟩
 have hbW:Below w.heap.size w W:=by rw[hW];exact(zF _ _).alloc (zD _) _
 have kW:=k.on hbW
 obtain⟨b0,b1,b2⟩:=three_new w (.string ⟨#[121,101,115]⟩) (.int .i64 id) (.slice na 0 nc) 104
 have hlt:=kW.lt
 obtain⟨⟨c0,c1,c2,c3,c4,c5⟩,c6,c7,c8,c9,c10,c11,c12,c13,c14,c15,c16,c17⟩:=kW.cells
 have f9:=kW.frozen 9
 have f17:=kW.frozen 17
 have FX:=hide ((kW.bit 9 {l.f with yes:=true} rfl rfl rfl).tal none none (.inl ⟨rfl,rfl⟩) (fun _ e=>by cases e))
 have KX:Hid (Rg.Kept (fun i _=>S i) w ((W.setCell ⟨a,9,none⟩ (.bool true)).setCell ⟨a,17,none⟩ (ptV none))):=(zE hbW).trans ((zO _ (fun _=>k.ia)).trans (zO _ (fun _=>k.ia)))
 clear c0 c1 c2 c3 c4 c5 c6 c7 c8 c10 c11 c12 c13 c14 c15 c16 k kW hbW b1 b2
 subst hW
 go_enter Tryz.func151,Tryz.ntmps151
 go_wp2
 go_end0
 exact lfol_of rfl FX.out KX.out
theorem lfol5(k:LdV B S w a l sa sc da dc ua uc tp)(id:Int)(na:Option Addr)(nc:Nat):
 Calls Tryz.prog 151 #[.pointer (some ⟨a,0,none⟩),.agg #[.string ⟨#[116,117,114,110]⟩,.int .i64 id,.slice na 0 nc]] w (LFol B S w a (folL l 5 [])):=by
 obtain⟨W,hW⟩:∃W,W=w.alloc (.cells #[.string ⟨#[116,117,114,110]⟩,.int .i64 id,.slice na 0 nc] 104):=⟨_,rfl⟩
 have hbW:Below w.heap.size w W:=by rw[hW];exact(zF _ _).alloc (zD _) _
 have kW:=k.on hbW
 obtain⟨b0,b1,b2⟩:=three_new w (.string ⟨#[116,117,114,110]⟩) (.int .i64 id) (.slice na 0 nc) 104
 have hlt:=kW.lt
 obtain⟨⟨c0,c1,c2,c3,c4,c5⟩,c6,c7,c8,c9,c10,c11,c12,c13,c14,c15,c16,c17⟩:=kW.cells
 have f10:=kW.frozen 10
 have f17:=kW.frozen 17
 have FX:=hide ((kW.bit 10 {l.f with turned:=true} rfl rfl rfl).tal none none (.inl ⟨rfl,rfl⟩) (fun _ e=>by cases e))
 have KX:Hid (Rg.Kept (fun i _=>S i) w ((W.setCell ⟨a,10,none⟩ (.bool true)).setCell ⟨a,17,none⟩ (ptV none))):=(zE hbW).trans ((zO _ (fun _=>k.ia)).trans (zO _ (fun _=>k.ia)))
 clear c0 c1 c2 c3 c4 c5 c6 c7 c8 c9 c11 c12 c13 c14 c15 c16 k kW hbW b1 b2
 subst hW
 go_enter Tryz.func151,Tryz.ntmps151
 go_wp2
 go_end0
 exact lfol_of rfl FX.out KX.out
theorem lfol9(k:LdV B S w a l sa sc da dc ua uc tp)(id:Int)(na:Option Addr)(nc:Nat):
 Calls Tryz.prog 151 #[.pointer (some ⟨a,0,none⟩),.agg #[.string ⟨#[115,104,105,112,112,101,100]⟩,.int .i64 id,.slice na 0 nc]] w (LFol B S w a (folL l 9 [])):=by
 obtain⟨W,hW⟩:∃W,W=w.alloc (.cells #[.string ⟨#[115,104,105,112,112,101,100]⟩,.int .i64 id,.slice na 0 nc] 104):=⟨_,rfl⟩
 have hbW:Below w.heap.size w W:=by rw[hW];exact(zF _ _).alloc (zD _) _
 have kW:=k.on hbW
 obtain⟨b0,b1,b2⟩:=three_new w (.string ⟨#[115,104,105,112,112,101,100]⟩) (.int .i64 id) (.slice na 0 nc) 104
 have hlt:=kW.lt
 obtain⟨⟨c0,c1,c2,c3,c4,c5⟩,c6,c7,c8,c9,c10,c11,c12,c13,c14,c15,c16,c17⟩:=kW.cells
 have f13:=kW.frozen 13
 have FX:=hide (kW.bit 13 {l.f with ship:=true} rfl rfl rfl)
 have KX:Hid (Rg.Kept (fun i _=>S i) w (W.setCell ⟨a,13,none⟩ (.bool true))):=(zE hbW).trans (zO _ (fun _=>k.ia))
 clear c0 c1 c2 c3 c4 c5 c6 c7 c8 c9 c10 c11 c12 c14 c15 c16 c17 k kW hbW b1 b2
 subst hW
 go_enter Tryz.func151,Tryz.ntmps151
 go_wp2
 go_end0
 exact lfol_of rfl FX.out KX.out
theorem lfol10(k:LdV B S w a l sa sc da dc ua uc tp)(id:Int)(na:Option Addr)(nc:Nat):
 Calls Tryz.prog 151 #[.pointer (some ⟨a,0,none⟩),.agg #[.string ⟨#[97,99,99,101,112,116]⟩,.int .i64 id,.slice na 0 nc]] w (LFol B S w a (folL l 10 [])):=by
 obtain⟨W,hW⟩:∃W,W=w.alloc (.cells #[.string ⟨#[97,99,99,101,112,116]⟩,.int .i64 id,.slice na 0 nc] 104):=⟨_,rfl⟩
 have hbW:Below w.heap.size w W:=by rw[hW];exact(zF _ _).alloc (zD _) _
 have kW:=k.on hbW
 obtain⟨b0,b1,b2⟩:=three_new w (.string ⟨#[97,99,99,101,112,116]⟩) (.int .i64 id) (.slice na 0 nc) 104
 have hlt:=kW.lt
 obtain⟨⟨c0,c1,c2,c3,c4,c5⟩,c6,c7,c8,c9,c10,c11,c12,c13,c14,c15,c16,c17⟩:=kW.cells
 have f16:=kW.frozen 16
 have FX:=hide (kW.bit 16 {l.f with acc:=true} rfl rfl rfl)
 have KX:Hid (Rg.Kept (fun i _=>S i) w (W.setCell ⟨a,16,none⟩ (.bool true))):=(zE hbW).trans (zO _ (fun _=>k.ia))
 clear c0 c1 c2 c3 c4 c5 c6 c7 c8 c9 c10 c11 c12 c13 c14 c15 c17 k kW hbW b1 b2
 subst hW
 go_enter Tryz.func151,Tryz.ntmps151
 go_wp2
 go_end0
 exact lfol_of rfl FX.out KX.out
theorem taY_new:newT (cutN 2)=taY (false,false):=by
 show(⟨2,fun _=>false,false⟩:Ta)=⟨2,_,false⟩
 congr 1
 funext k
 by_cases h0:k=0
 ·simp[h0]
 ·by_cases h1:k=1<;>simp[h0,h1]
theorem lfol_gr{w':World}{l':Lk}{tp':Option Nat}{S':Nat→Prop}{e:Ending}{x:Value}(he:e= .returned x)(k:LdV B S' w' a l' sa sc da dc ua uc tp')(hS:∀i,S' i→growE S w w' i)(hk:Rg.Kept (fun i _=>S i) w w'):LFol B S w a l' e w':=⟨⟨x,he⟩,⟨_,_,_,_,_,_,_,k.wide hS⟩,hk⟩
theorem lfol3(k:LdV B S w a l sa sc da dc ua uc tp)(id:Int)(na:Option Addr)(nc:Nat):
 Calls Tryz.prog 151 #[.pointer (some ⟨a,0,none⟩),.agg #[.string ⟨#[97,115,107,101,100]⟩,.int .i64 id,.slice na 0 nc]] w (LFol B S w a (folL l 3 [])):=by
 obtain⟨W,hW⟩:∃W,W=w.alloc (.cells #[.string ⟨#[97,115,107,101,100]⟩,.int .i64 id,.slice na 0 nc] 104):=⟨_,rfl⟩
 have hbW:Below w.heap.size w W:=by rw[hW];exact(zF _ _).alloc (zD _) _
 have kW:=k.on hbW
 obtain⟨b0,b1,b2⟩:=three_new w (.string ⟨#[97,115,107,101,100]⟩) (.int .i64 id) (.slice na 0 nc) 104
 have hlt:=kW.lt
 have N:=tnew_any 2 W
 have NX:Hid (∀(t:Nat)(u:World),Tk W.heap.size u t (newT (cutN 2))→Below W.heap.size W u→(u.cell? ⟨a,8,none⟩=some (.bool l.f.asked)∧u.cell? ⟨a,17,none⟩=some (ptV tp)∧u.frozen? ⟨a,8,none⟩=false∧u.frozen? ⟨a,17,none⟩=false)∧∀x,LFol B S w a (folL l 3 []) (.returned x) ((u.setCell ⟨a,8,none⟩ (.bool true)).setCell ⟨a,17,none⟩ (.pointer (some ⟨t,0,none⟩)))):=fun t u ht hb=>by
  have kU:=kW.on hb
  obtain⟨-,-,-,c8,-,-,-,-,-,-,-,-,c17⟩:=kU.cells;refine⟨⟨c8,c17,kU.frozen 8,kU.frozen 17⟩,fun x=>?_⟩;have hsz:=hb.size
  have htl:=ht.1.lt
  have k1:=(kU.wide (S':=growE S w u) (fun _ e=> .inl e)).bit 8 {l.f with asked:=true} rfl rfl rfl
  have kt:Tk B (u.setCell ⟨a,8,none⟩ (.bool true)) t (taY (false,false)):=by
   rw[←taY_new];refine tk_kept ⟨⟨ht.1.1,?_⟩,ht.2⟩ (kept_set u a 8 (.bool true)) (fun _ e=>?_)
   ·have:=ht.1.2;have:=k.low;omega
   ·have:=ht.1.2;omega
  have k2:=k1.tal (some t) (some (false,false)) (.inr ⟨t,_,rfl,rfl,kt⟩) (fun t' e=>by cases e;exact .inr ⟨by have:=ht.1.2;have:=hbW.size;omega,htl⟩)
  refine lfol_gr rfl k2 (fun i e=>e.imp (fun e=>e) (fun e=>⟨e.1,by simpa using e.2⟩)) ((zE (bel_on' hbW hb)).trans ((zO _ (fun _=>k.ia)).trans (zO _ (fun _=>k.ia))))
 have HW:=hide hW
 rw[hW]at N
 clear k kW hbW b1 b2 hW
 go_enter Tryz.func151,Tryz.ntmps151
 go_wp2_with(go_at_call 188;refine N.mono ?_;clear N;rintro e u ⟨t,rfl,ht,hb⟩;rw[←HW.out]at ht hb;obtain⟨⟨c8,c17,f8,f17⟩,hx⟩:=NX.out t u ht hb;have HX:=hide hx;have hlu:a<u.heap.size:=zJ hlt hb.size;clear ht hb NX hx)
 go_end0
 exact HX.out _
set_option maxRecDepth 100000 in
set_option maxHeartbeats 4000000 in
theorem lfol7_1(k:LdV B S w a l sa sc da dc ua uc tp)(id:Int)(nb no nc:Nat)(hn:w.cell? ⟨nb,no,none⟩=some (.int .i64 1))(hnS:¬S nb):
 Calls Tryz.prog 151 #[.pointer (some ⟨a,0,none⟩),.agg #[.string ⟨#[97,99,107]⟩,.int .i64 id,.slice (some ⟨nb,no,none⟩) 1 nc]] w (LFol B S w a (folL l 7 [1])):=by
 obtain⟨W,hW⟩:∃W,W=w.alloc (.cells #[.string ⟨#[97,99,107]⟩,.int .i64 id,.slice (some ⟨nb,no,none⟩) 1 nc] 104):=⟨_,rfl⟩
 have hbW:Below w.heap.size w W:=by rw[hW];exact(zF _ _).alloc (zD _) _
 have kW:=k.on hbW
 obtain⟨b0,b1,b2⟩:=three_new w (.string ⟨#[97,99,107]⟩) (.int .i64 id) (.slice (some ⟨nb,no,none⟩) 1 nc) 104
 rw[←hW]at b0 b1 b2
 have hlt:=kW.lt
 have hna:nb≠a:=fun e=>hnS (e▸k.ia)
 have hlw:a<w.heap.size:=k.lt
 have hne:a≠w.heap.size:=by omega
 have n0:=cellL hn hbW
 obtain⟨⟨c0,c1,c2,c3,c4,c5⟩,c6,c7,c8,c9,c10,c11,c12,c13,c14,c15,c16,c17⟩:=kW.cells
 have f11:=kW.frozen 11
 have FX0:=hide (kW.bit 11 {l.f with k0:=true} rfl rfl rfl)
 have KX0:Hid (Rg.Kept (fun i _=>S i) w (W.setCell ⟨a,11,none⟩ (.bool true))):=(zE hbW).trans (zO _ (fun _=>k.ia))
 have P:=fun u=>cplace_any 1 u (by decide) (by decide)
 have HW:=hide hW
 clear c0 c1 c2 c3 c4 c5 c6 c7 c8 c9 c10 c12 c13 c14 c15 c16 c17 k kW hbW b1 hn hW hlw hnS
 go_enter Tryz.func151,Tryz.ntmps151
 go_wp2_with fail
 rw[←HW.out]
 go_region_with(go_at_call 156;refine(P _).mono ?_;rintro e w' ⟨rfl,rfl⟩)
 all_goals go_wp2
 all_goals go_end0
 all_goals first
  |exact lfol_of rfl (FX0.out.on (zF _ _).drew) (KX0.out.trans (zE (zF _ _).drew))
  |exact lfol_of rfl FX0.out KX0.out
set_option maxRecDepth 100000 in
set_option maxHeartbeats 4000000 in
theorem lfol7_2(k:LdV B S w a l sa sc da dc ua uc tp)(id:Int)(nb no nc:Nat)(hn:w.cell? ⟨nb,no,none⟩=some (.int .i64 2))(hnS:¬S nb):
 Calls Tryz.prog 151 #[.pointer (some ⟨a,0,none⟩),.agg #[.string ⟨#[97,99,107]⟩,.int .i64 id,.slice (some ⟨nb,no,none⟩) 1 nc]] w (LFol B S w a (folL l 7 [2])):=by
 obtain⟨W,hW⟩:∃W,W=w.alloc (.cells #[.string ⟨#[97,99,107]⟩,.int .i64 id,.slice (some ⟨nb,no,none⟩) 1 nc] 104):=⟨_,rfl⟩
 have hbW:Below w.heap.size w W:=by rw[hW];exact(zF _ _).alloc (zD _) _
 have kW:=k.on hbW
 obtain⟨b0,b1,b2⟩:=three_new w (.string ⟨#[97,99,107]⟩) (.int .i64 id) (.slice (some ⟨nb,no,none⟩) 1 nc) 104
 rw[←hW]at b0 b1 b2
 have hlt:=kW.lt
 have hna:nb≠a:=fun e=>hnS (e▸k.ia)
 have hlw:a<w.heap.size:=k.lt
 have hne:a≠w.heap.size:=by omega
 have n0:=cellL hn hbW
 obtain⟨⟨c0,c1,c2,c3,c4,c5⟩,c6,c7,c8,c9,c10,c11,c12,c13,c14,c15,c16,c17⟩:=kW.cells
 have f12:=kW.frozen 12
 have FX0:=hide (kW.bit 12 {l.f with k1:=true} rfl rfl rfl)
 have KX0:Hid (Rg.Kept (fun i _=>S i) w (W.setCell ⟨a,12,none⟩ (.bool true))):=(zE hbW).trans (zO _ (fun _=>k.ia))
 have P:=fun u=>cplace_any 2 u (by decide) (by decide)
 have HW:=hide hW
 clear c0 c1 c2 c3 c4 c5 c6 c7 c8 c9 c10 c11 c13 c14 c15 c16 c17 k kW hbW b1 hn hW hlw hnS
 go_enter Tryz.func151,Tryz.ntmps151
 go_wp2_with fail
 rw[←HW.out]
 go_region_with(go_at_call 156;refine(P _).mono ?_;rintro e w' ⟨rfl,rfl⟩)
 all_goals go_wp2
 all_goals go_end0
 all_goals first
  |exact lfol_of rfl (FX0.out.on (zF _ _).drew) (KX0.out.trans (zE (zF _ _).drew))
  |exact lfol_of rfl FX0.out KX0.out
set_option maxRecDepth 100000 in
set_option maxHeartbeats 4000000 in
theorem lfol8_1(k:LdV B S w a l sa sc da dc ua uc tp)(id:Int)(nb no nc:Nat)(hn:w.cell? ⟨nb,no,none⟩=some (.int .i64 1))(hnS:¬S nb):
 Calls Tryz.prog 151 #[.pointer (some ⟨a,0,none⟩),.agg #[.string ⟨#[100,97,109,97,103,101]⟩,.int .i64 id,.slice (some ⟨nb,no,none⟩) 1 nc]] w (LFol B S w a (folL l 8 [1])):=by
 obtain⟨W,hW⟩:∃W,W=w.alloc (.cells #[.string ⟨#[100,97,109,97,103,101]⟩,.int .i64 id,.slice (some ⟨nb,no,none⟩) 1 nc] 104):=⟨_,rfl⟩
 have hbW:Below w.heap.size w W:=by rw[hW];exact(zF _ _).alloc (zD _) _
 have kW:=k.on hbW
 obtain⟨b0,b1,b2⟩:=three_new w (.string ⟨#[100,97,109,97,103,101]⟩) (.int .i64 id) (.slice (some ⟨nb,no,none⟩) 1 nc) 104
 rw[←hW]at b0 b1 b2
 have hlt:=kW.lt
 have hna:nb≠a:=fun e=>hnS (e▸k.ia)
 have hlw:a<w.heap.size:=k.lt
 have hne:a≠w.heap.size:=by omega
 have n0:=cellL hn hbW
 obtain⟨⟨c0,c1,c2,c3,c4,c5⟩,c6,c7,c8,c9,c10,c11,c12,c13,c14,c15,c16,c17⟩:=kW.cells
 have f14:=kW.frozen 14
 have f11:=kW.frozen 11
 have FX0:=hide ((kW.bit 14 {l.f with d0:=true} rfl rfl rfl).bit 11 {l.f with d0:=true,k0:=true} rfl rfl rfl)
 have KX0:Hid (Rg.Kept (fun i _=>S i) w ((W.setCell ⟨a,14,none⟩ (.bool true)).setCell ⟨a,11,none⟩ (.bool true))):=(zE hbW).trans ((zO _ (fun _=>k.ia)).trans (zO _ (fun _=>k.ia)))
 have FX1:=hide ((kW.bit 11 {l.f with k0:=true} rfl rfl rfl).bit 14 {l.f with d0:=true,k0:=true} rfl rfl rfl)
 have KX1:Hid (Rg.Kept (fun i _=>S i) w ((W.setCell ⟨a,11,none⟩ (.bool true)).setCell ⟨a,14,none⟩ (.bool true))):=(zE hbW).trans ((zO _ (fun _=>k.ia)).trans (zO _ (fun _=>k.ia)))
 have P:=fun u=>cplace_any 1 u (by decide) (by decide)
 have HW:=hide hW
 clear c0 c1 c2 c3 c4 c5 c6 c7 c8 c9 c10 c12 c13 c15 c16 c17 k kW hbW b1 hn hW hlw hnS
 go_enter Tryz.func151,Tryz.ntmps151
 go_wp2_with fail
 rw[←HW.out]
 go_region_with(go_at_call 156;refine(P _).mono ?_;rintro e w' ⟨rfl,rfl⟩)
 all_goals go_wp2
 all_goals go_end0
 all_goals first
  |exact lfol_of rfl (FX0.out.on (zF _ _).drew) (KX0.out.trans (zE (zF _ _).drew))
  |exact lfol_of rfl FX0.out KX0.out
  |exact lfol_of rfl (FX1.out.on (zF _ _).drew) (KX1.out.trans (zE (zF _ _).drew))
  |exact lfol_of rfl FX1.out KX1.out
set_option maxRecDepth 100000 in
set_option maxHeartbeats 4000000 in
theorem lfol8_2(k:LdV B S w a l sa sc da dc ua uc tp)(id:Int)(nb no nc:Nat)(hn:w.cell? ⟨nb,no,none⟩=some (.int .i64 2))(hnS:¬S nb):
 Calls Tryz.prog 151 #[.pointer (some ⟨a,0,none⟩),.agg #[.string ⟨#[100,97,109,97,103,101]⟩,.int .i64 id,.slice (some ⟨nb,no,none⟩) 1 nc]] w (LFol B S w a (folL l 8 [2])):=by
 obtain⟨W,hW⟩:∃W,W=w.alloc (.cells #[.string ⟨#[100,97,109,97,103,101]⟩,.int .i64 id,.slice (some ⟨nb,no,none⟩) 1 nc] 104):=⟨_,rfl⟩
 have hbW:Below w.heap.size w W:=by rw[hW];exact(zF _ _).alloc (zD _) _
 have kW:=k.on hbW
 obtain⟨b0,b1,b2⟩:=three_new w (.string ⟨#[100,97,109,97,103,101]⟩) (.int .i64 id) (.slice (some ⟨nb,no,none⟩) 1 nc) 104
 rw[←hW]at b0 b1 b2
 have hlt:=kW.lt
 have hna:nb≠a:=fun e=>hnS (e▸k.ia)
 have hlw:a<w.heap.size:=k.lt
 have hne:a≠w.heap.size:=by omega
 have n0:=cellL hn hbW
 obtain⟨⟨c0,c1,c2,c3,c4,c5⟩,c6,c7,c8,c9,c10,c11,c12,c13,c14,c15,c16,c17⟩:=kW.cells
 have f15:=kW.frozen 15
 have f12:=kW.frozen 12
 have FX0:=hide ((kW.bit 15 {l.f with d1:=true} rfl rfl rfl).bit 12 {l.f with d1:=true,k1:=true} rfl rfl rfl)
 have KX0:Hid (Rg.Kept (fun i _=>S i) w ((W.setCell ⟨a,15,none⟩ (.bool true)).setCell ⟨a,12,none⟩ (.bool true))):=(zE hbW).trans ((zO _ (fun _=>k.ia)).trans (zO _ (fun _=>k.ia)))
 have FX1:=hide ((kW.bit 12 {l.f with k1:=true} rfl rfl rfl).bit 15 {l.f with d1:=true,k1:=true} rfl rfl rfl)
 have KX1:Hid (Rg.Kept (fun i _=>S i) w ((W.setCell ⟨a,12,none⟩ (.bool true)).setCell ⟨a,15,none⟩ (.bool true))):=(zE hbW).trans ((zO _ (fun _=>k.ia)).trans (zO _ (fun _=>k.ia)))
 have P:=fun u=>cplace_any 2 u (by decide) (by decide)
 have HW:=hide hW
 clear c0 c1 c2 c3 c4 c5 c6 c7 c8 c9 c10 c11 c13 c14 c16 c17 k kW hbW b1 hn hW hlw hnS
 go_enter Tryz.func151,Tryz.ntmps151
 go_wp2_with fail
 rw[←HW.out]
 go_region_with(go_at_call 156;refine(P _).mono ?_;rintro e w' ⟨rfl,rfl⟩)
 all_goals go_wp2
 all_goals go_end0
 all_goals first
  |exact lfol_of rfl (FX0.out.on (zF _ _).drew) (KX0.out.trans (zE (zF _ _).drew))
  |exact lfol_of rfl FX0.out KX0.out
  |exact lfol_of rfl (FX1.out.on (zF _ _).drew) (KX1.out.trans (zE (zF _ _).drew))
  |exact lfol_of rfl FX1.out KX1.out
end
theorem own_setB{w:World}{B g c:Nat}{l:List Bool}(h:w.ownsRow B 4 1 (.slice (some ⟨g,0,none⟩) l.length c) l.length (l.map Value.bool))(i:Nat):
 (w.setCell ⟨g,i,none⟩ (.bool true)).ownsRow B 4 1 (.slice (some ⟨g,0,none⟩) (l.set i true).length c) (l.set i true).length ((l.set i true).map Value.bool):=by
 rcases h.2 with⟨e,_⟩|⟨g',cap,cur,e,h1,h2,h3,h4,h5,h6⟩
 ·cases e
 ·cases e;refine⟨by simp,.inr ⟨g,c,_,rfl,h1,heap_setCell_same _ _ _ _ _ _ h2,by simpa using h3,h4,by simpa using h5,?_⟩⟩;simp only[Nat.mul_one,List.length_set]at h6 ⊢;rw[Array.toList_setIfInBounds,List.take_set,h6,List.map_set]
theorem row_at{w:World}{B:Nat}{ad:Option Addr}{c:Nat}{l:List Bool}(h:w.ownsRow B 4 1 (.slice ad l.length c) l.length (l.map Value.bool)){i:Nat}(hi:i<l.length):∃g x,ad=some ⟨g,0,none⟩∧l[i]?=some x∧w.cell? ⟨g,i,none⟩=some (.bool x)∧w.frozen? ⟨g,i,none⟩=false:=by
 rcases h.2 with⟨_,h0⟩|⟨g,cap,cur,e,h1,h2,_⟩
 ·omega
 ·cases e;have hx:l[i]?=some l[i]:=List.getElem?_eq_getElem hi
  have:=h.cells (g:=g) rfl i (.bool l[i]) (by rw[List.getElem?_map,hx];rfl)
  rw[hc_add,Nat.zero_add]at this;exact⟨g,l[i],rfl,hx,this,frozen_of_row _ _ _ _ _ h2⟩
section
variable {B:Nat}{S:Nat→Prop}{w:World}{a:Nat}{l:Lk}{sa:Option Addr}{sc:Nat}{da:Option Addr}{dc:Nat}{ua:Option Addr}{uc:Nat}{tp:Option Nat}
theorem LdV.setD{g:Nat}(k:LdV B S w a l sa sc (some ⟨g,0,none⟩) dc ua uc tp)(i:Nat):LdV B S (w.setCell ⟨g,i,none⟩ (.bool true)) a ⟨l.o,{l.f with dn:=l.f.dn.set i true},l.y⟩ sa sc (some ⟨g,0,none⟩) dc ua uc tp:=by
 have hk:=kept_set w g i (.bool true)
 obtain⟨cg,hg⟩:=row_obj k.dr rfl
 have n1:a≠g:=(k.far.2.1 _ rfl).symm
 refine⟨?_,k.low,own_keptR k.sr hk (fun j _ e=>?_),own_setB k.dr i,own_keptR k.ur hk (fun j _ e=>?_),k.ne,?_,k.ia,k.is,k.id,k.iu,k.it⟩
 ·have:=hk.block _ _ k.blk n1
  rw[this];simp only[List.length_set]
 ·obtain⟨x,e1,rfl⟩:=own_some e;obtain⟨cs,h⟩:=row_obj k.sr e1;exact two_cells h hg (by decide)
 ·obtain⟨x,e1,rfl⟩:=own_some e;exact fun e2=>k.ne _ x rfl e1 e2.symm
 ·rcases k.tl with h|⟨t,y,h1,h2,h3⟩
  ·exact .inl h
  ·exact .inr ⟨t,y,h1,h2,tk_kept h3 hk (fun _=>two_cells h3.1.1 hg (by decide))⟩
theorem LdV.setU{g:Nat}(k:LdV B S w a l sa sc da dc (some ⟨g,0,none⟩) uc tp)(i:Nat):LdV B S (w.setCell ⟨g,i,none⟩ (.bool true)) a ⟨l.o,{l.f with un:=l.f.un.set i true},l.y⟩ sa sc da dc (some ⟨g,0,none⟩) uc tp:=by
 have hk:=kept_set w g i (.bool true)
 obtain⟨cg,hg⟩:=row_obj k.ur rfl
 have n1:a≠g:=(k.far.2.2.1 _ rfl).symm
 refine⟨?_,k.low,own_keptR k.sr hk (fun j _ e=>?_),own_keptR k.dr hk (fun j _ e=>?_),own_setB k.ur i,k.ne,?_,k.ia,k.is,k.id,k.iu,k.it⟩
 ·have:=hk.block _ _ k.blk n1
  rw[this];simp only[List.length_set]
 ·obtain⟨x,e1,rfl⟩:=own_some e;obtain⟨cs,h⟩:=row_obj k.sr e1;exact two_cells h hg (by decide)
 ·obtain⟨x,e1,rfl⟩:=own_some e;exact k.ne x _ e1 rfl
 ·rcases k.tl with h|⟨t,y,h1,h2,h3⟩
  ·exact .inl h
  ·exact .inr ⟨t,y,h1,h2,tk_kept h3 hk (fun _=>two_cells h3.1.1 hg (by decide))⟩
set_option maxRecDepth 100000 in
set_option maxHeartbeats 2000000 in
theorem lfol2(k:LdV B S w a l sa sc da dc ua uc tp)(id:Int)(i:Nat)(hi:i<l.f.dn.length)(nb no nc:Nat)(hn:w.cell? ⟨nb,no,none⟩=some (.int .i64 (i:Int))):
 Calls Tryz.prog 151 #[.pointer (some ⟨a,0,none⟩),.agg #[.string ⟨#[100,111,110,101]⟩,.int .i64 id,.slice (some ⟨nb,no,none⟩) 1 nc]] w (LFol B S w a (folL l 2 [(i:Int)])):=by
 obtain⟨W,hW⟩:∃W,W=w.alloc (.cells #[.string ⟨#[100,111,110,101]⟩,.int .i64 id,.slice (some ⟨nb,no,none⟩) 1 nc] 104):=⟨_,rfl⟩
 have hbW:Below w.heap.size w W:=by rw[hW];exact(zF _ _).alloc (zD _) _
 have kW:=k.on hbW
 obtain⟨b0,b1,b2⟩:=three_new w (.string ⟨#[100,111,110,101]⟩) (.int .i64 id) (.slice (some ⟨nb,no,none⟩) 1 nc) 104
 rw[←hW]at b0 b1 b2
 have n0:=cellL hn hbW
 obtain⟨g,x,hg,-,cg,fg⟩:=row_at kW.dr hi
 subst hg
 have cs:=kW.cells.2.1
 have FX:Hid (LdV B S (W.setCell ⟨g,i,none⟩ (.bool true)) a (folL l 2 [(i:Int)]) sa sc _ _ _ _ tp):=kW.setD i
 have KX:Hid (Rg.Kept (fun i _=>S i) w (W.setCell ⟨g,i,none⟩ (.bool true))):=(zE hbW).trans (zO _ (fun _=>k.id ⟨g,0,none⟩ rfl))
 have hi0:(i:Int)<(l.f.dn.length:Int):=by omega
 have HW:=hide hW
 generalize l.f.dn.length=n at hi0 cs
 clear k kW hbW b1 hn hW hi
 go_enter Tryz.func151,Tryz.ntmps151
 go_wp2_with fail
 rw[←HW.out]
 go_region
 all_goals go_wp2
 all_goals go_end0
 all_goals first
  |exact lfol_of rfl (FX.out.on (zF _ _).drew) (KX.out.trans (zE (zF _ _).drew))
  |exact lfol_of rfl FX.out KX.out
set_option maxRecDepth 100000 in
set_option maxHeartbeats 2000000 in
theorem lfol6(k:LdV B S w a l sa sc da dc ua uc tp)(id:Int)(i:Nat)(hi:i<l.f.un.length)(nb no nc:Nat)(hn:w.cell? ⟨nb,no,none⟩=some (.int .i64 (i:Int))):
 Calls Tryz.prog 151 #[.pointer (some ⟨a,0,none⟩),.agg #[.string ⟨#[117,110,100,111,110,101]⟩,.int .i64 id,.slice (some ⟨nb,no,none⟩) 1 nc]] w (LFol B S w a (folL l 6 [(i:Int)])):=by
 obtain⟨W,hW⟩:∃W,W=w.alloc (.cells #[.string ⟨#[117,110,100,111,110,101]⟩,.int .i64 id,.slice (some ⟨nb,no,none⟩) 1 nc] 104):=⟨_,rfl⟩
 have hbW:Below w.heap.size w W:=by rw[hW];exact(zF _ _).alloc (zD _) _
 have kW:=k.on hbW
 obtain⟨b0,b1,b2⟩:=three_new w (.string ⟨#[117,110,100,111,110,101]⟩) (.int .i64 id) (.slice (some ⟨nb,no,none⟩) 1 nc) 104
 rw[←hW]at b0 b1 b2
 have n0:=cellL hn hbW
 obtain⟨g,x,hg,-,cg,fg⟩:=row_at kW.ur hi
 subst hg
 have cs:=kW.cells.2.2.1
 have FX:Hid (LdV B S (W.setCell ⟨g,i,none⟩ (.bool true)) a (folL l 6 [(i:Int)]) sa sc _ _ _ _ tp):=kW.setU i
 have KX:Hid (Rg.Kept (fun i _=>S i) w (W.setCell ⟨g,i,none⟩ (.bool true))):=(zE hbW).trans (zO _ (fun _=>k.iu ⟨g,0,none⟩ rfl))
 have hi0:(i:Int)<(l.f.un.length:Int):=by omega
 have HW:=hide hW
 generalize l.f.un.length=n at hi0 cs
 clear k kW hbW b1 hn hW hi
 go_enter Tryz.func151,Tryz.ntmps151
 go_wp2_with fail
 rw[←HW.out]
 go_region
 all_goals go_wp2
 all_goals go_end0
 all_goals first
  |exact lfol_of rfl (FX.out.on (zF _ _).drew) (KX.out.trans (zE (zF _ _).drew))
  |exact lfol_of rfl FX.out KX.out
end
theorem step_stA{ops:Array Oper}{o:Oper}{a:Act}{w:World}{K:Act→World→Prop}{Q:Exit→Act→World→Prop}{E:Prop}(hgd:o.guard=none)(s x:Operand)
 (ho:o.op= .call {callee:= .builtin .append,args:=#[s,x],argTypes:=#[30,30]})
 (base:Nat) (v:Value) (L:List (Int×Int)) (hs:a.eval s=v) (hown:w.ownsRow base 107 2 v L.length (stCells L)) (ad:Addr) (y:Int×Int) (c:Nat) (hx:a.eval x= .slice (some ad) 1 c)
 (hm:Sts w (some ad) [y]) (hb:L.length+1≤1000000) (hbase:base≤w.heap.size)
 (h:∀a' c' w',w'.ownsRow base 107 2 (.slice a' (L.length+1) c') (L++ [y]).length (stCells (L++ [y]))→w.grownBy w' v.ownBlock→((Value.slice a' (L.length+1) c').ownBlock =v.ownBlock∨(Value.slice a' (L.length+1) c').ownBlock =some w.heap.size)→K (a.put o.dst (.slice a' (L.length+1) c')) w'):
 if Region.wanted o (yielded ops a.tmps)=true then Oper.wp Tryz.prog o a w K Q else E:=by
 have hw:Region.wanted o (yielded ops a.tmps)=true:=by simp[Region.wanted,hgd]
 rw[if_pos hw]
 obtain⟨i0,hi,hz0,hz1,hz2⟩:=info_parts Tryz.infoStep
 obtain⟨v',w',hr,h2,h3,-,h5⟩:=run_append_own_at (P:=Tryz.prog) w base 30 o.type 107 i0 _ 2 16 Tryz.underlying30 hi hz0 hz1 hz2 rfl (by decide) v L.length (stCells L) hown ad 1 c (stCells [y]) (stCells_len [y]) (sts_news hm) (by
  intro u hu;unfold stCells at hu;rw[List.mem_flatMap]at hu;obtain⟨y',_,hy⟩:=hu;simp at hy;rcases hy with rfl|rfl<;>rfl) (by unfold maxLen;omega) (by omega) hbase
 unfold Oper.wp execOp
 simp only[ho,resolve,invoke,builtin,Sem.run_bind,Sem.run_pure,Result.andThen_ok,List.map_toArray,List.map_cons,List.map_nil,hs,hx,hr]
 obtain⟨a',c',rfl,_⟩:=row_slice h2
 refine h a' c' w' ?_ h3 h5
 rw[stCells_append,List.length_append]
 exact h2
theorem step_blA{ops:Array Oper}{o:Oper}{a:Act}{w:World}{K:Act→World→Prop}{Q:Exit→Act→World→Prop}{E:Prop}(hgd:o.guard=none)(s x:Operand)
 (ho:o.op= .call {callee:= .builtin .append,args:=#[s,x],argTypes:=#[66,66]})
 (base:Nat) (v:Value) (L:List Bool) (hs:a.eval s=v) (hown:w.ownsRow base 4 1 v L.length (L.map Value.bool)) (ad:Addr) (y:Bool) (c:Nat) (hx:a.eval x= .slice (some ad) 1 c)
 (hm:Bls w (some ad) [y]) (hb:L.length+1≤1000000) (hbase:base≤w.heap.size)
 (h:∀a' c' w',w'.ownsRow base 4 1 (.slice a' (L.length+1) c') (L++ [y]).length ((L++ [y]).map Value.bool)→w.grownBy w' v.ownBlock→((Value.slice a' (L.length+1) c').ownBlock =v.ownBlock∨(Value.slice a' (L.length+1) c').ownBlock =some w.heap.size)→K (a.put o.dst (.slice a' (L.length+1) c')) w'):
 if Region.wanted o (yielded ops a.tmps)=true then Oper.wp Tryz.prog o a w K Q else E:=by
 have hw:Region.wanted o (yielded ops a.tmps)=true:=by simp[Region.wanted,hgd]
 rw[if_pos hw]
 obtain⟨i0,hi,hz0,hz1,hz2⟩:=info_parts Tryz.infoBool
 obtain⟨v',w',hr,h2,h3,-,h5⟩:=run_append_own_at (P:=Tryz.prog) w base 66 o.type 4 i0 _ 1 1 Tryz.underlying66 hi hz0 hz1 hz2 rfl (by decide) v L.length (L.map Value.bool) hown ad 1 c ([y].map Value.bool) (by simp) (bls_news hm) (fun u hu=>by obtain⟨z,_,rfl⟩:=List.mem_map.1 hu;rfl) (by unfold maxLen;omega) (by omega) hbase
 unfold Oper.wp execOp
 simp only[ho,resolve,invoke,builtin,Sem.run_bind,Sem.run_pure,Result.andThen_ok,List.map_toArray,List.map_cons,List.map_nil,hs,hx,hr]
 obtain⟨a',c',rfl,_⟩:=row_slice h2
 refine h a' c' w' ?_ h3 h5
 rw[List.map_append,List.length_append]
 exact h2
structure LdX (B:Nat) (S:Nat→Prop) (w:World) (a:Nat) (cs:Array Value) (st:List (Int×Int)) (dn un:List Bool) (tp:Option Nat) (y:Option (Bool×Bool)) (sv dv uv:Value):Prop where
 blk:w.heap[a]?=some (.cells cs 145 (0,0))
 low:B≤a
 sr:w.ownsRow B 107 2 sv st.length (stCells st)
 dr:w.ownsRow B 4 1 dv dn.length (dn.map Value.bool)
 ur:w.ownsRow B 4 1 uv un.length (un.map Value.bool)
 ne:∀k,dv.ownBlock=some k→uv.ownBlock≠some k
 tl:(tp=none∧y=none)∨∃t z,tp=some t∧y=some z∧Tk B w t (taY z)
 ia:S a
 is:∀k,sv.ownBlock=some k→S k
 id:∀k,dv.ownBlock=some k→S k
 iu:∀k,uv.ownBlock=some k→S k
 it:∀t,tp=some t→S t
theorem own_obj{w:World}{B:Nat}{e:TypeId}{s:Nat}{v:Value}{n:Nat}{xs:List Value}(h:w.ownsRow B e s v n xs){k:Nat}(hk:v.ownBlock=some k):∃cur,w.heap[k]?=some (.cells cur e (0,0)):=by
 rcases h.2 with⟨rfl,_⟩|⟨g,cap,cur,rfl,_,hc,_⟩
 ·cases hk
 ·simp[Value.ownBlock]at hk;subst hk;exact⟨cur,hc⟩
section
variable {B:Nat}{S S':Nat→Prop}{w w':World}{a:Nat}{cs:Array Value}{st:List (Int×Int)}{dn un:List Bool}{tp:Option Nat}{y:Option (Bool×Bool)}{sv dv uv:Value}
theorem LdX.kept{F:Nat→Obj→Prop}(k:LdX B S w a cs st dn un tp y sv dv uv)(hk:Rg.Kept F w w')(hF:∀k o,S k→¬F k o):LdX B S w' a cs st dn un tp y sv dv uv:=by
 refine⟨hk.block _ _ k.blk (hF _ _ k.ia),k.low,own_keptR k.sr hk (fun i o e=>hF _ _ (k.is i e)),own_keptR k.dr hk (fun i o e=>hF _ _ (k.id i e)),own_keptR k.ur hk (fun i o e=>hF _ _ (k.iu i e)),k.ne,?_,k.ia,k.is,k.id,k.iu,k.it⟩
 rcases k.tl with h|⟨t,z,h1,h2,h3⟩
 ·exact .inl h
 ·exact .inr ⟨t,z,h1,h2,tk_kept h3 hk (fun o=>hF _ _ (k.it t h1))⟩
theorem LdX.on(k:LdX B S w a cs st dn un tp y sv dv uv)(hb:Below w.heap.size w w'):LdX B S w' a cs st dn un tp y sv dv uv:=k.kept (F:=fun _ _=>False) (zE hb) (fun _ _ _ h=>h)
theorem LdX.wide(k:LdX B S w a cs st dn un tp y sv dv uv)(h:∀k,S k→S' k):LdX B S' w a cs st dn un tp y sv dv uv:=
 ⟨k.blk,k.low,k.sr,k.dr,k.ur,k.ne,k.tl,h _ k.ia,fun i e=>h _ (k.is i e),fun i e=>h _ (k.id i e),fun i e=>h _ (k.iu i e),fun t e=>h _ (k.it t e)⟩
theorem LdX.set(k:LdX B S w a cs st dn un tp y sv dv uv)(i:Nat)(x:Value):LdX B S (w.setCell ⟨a,i,none⟩ x) a (cs.setIfInBounds i x) st dn un tp y sv dv uv:=by
 have hk:=kept_set w a i x
 refine⟨heap_setCell_same _ _ _ _ _ _ k.blk,k.low,own_keptR k.sr hk (fun j _ e=>?_),own_keptR k.dr hk (fun j _ e=>?_),own_keptR k.ur hk (fun j _ e=>?_),k.ne,?_,k.ia,k.is,k.id,k.iu,k.it⟩
 ·obtain⟨c,h⟩:=own_obj k.sr e;exact two_cells h k.blk (by decide)
 ·obtain⟨c,h⟩:=own_obj k.dr e;exact two_cells h k.blk (by decide)
 ·obtain⟨c,h⟩:=own_obj k.ur e;exact two_cells h k.blk (by decide)
 ·rcases k.tl with h|⟨t,z,h1,h2,h3⟩
  ·exact .inl h
  ·exact .inr ⟨t,z,h1,h2,tk_kept h3 hk (fun _=>two_cells h3.1.1 k.blk (by decide))⟩
theorem LdX.grow{v v':Value}{e:TypeId}{s n n':Nat}{xs xs':List Value}(k:LdX B S w a cs st dn un tp y sv dv uv)(hv:w.ownsRow B e s v n xs)(he:e≠145∧e≠226)(hi:∀k,v.ownBlock=some k→S k)
 (o:w'.ownsRow B e s v' n' xs') (g:w.grownBy w' v.ownBlock) (hl:v'.ownBlock=v.ownBlock∨v'.ownBlock=some w.heap.size):
 Rg.Kept (fun i _=>v.ownBlock=some i) w w'∧w'.heap[a]?=some (.cells cs 145 (0,0))∧(∀i,v'.ownBlock=some i→growE S w w' i)∧((tp=none∧y=none)∨∃t z,tp=some t∧y=some z∧Tk B w' t (taY z)):=by
 have hk:Rg.Kept (fun i _=>v.ownBlock=some i) w w':=Rg.Kept.grown g (fun i _ e=>e)
 refine⟨hk,hk.block _ _ k.blk (fun e=>?_),fun i e=>?_,?_⟩
 ·obtain⟨c,h⟩:=own_obj hv e;exact two_cells h k.blk he.1 rfl
 ·rcases hl with h|h
  ·exact .inl (hi i (h▸e))
  ·rw[h]at e;cases e;exact .inr ⟨zD _,(o.lt _ h).2⟩
 ·rcases k.tl with h|⟨t,z,h1,h2,h3⟩
  ·exact .inl h
  ·exact .inr ⟨t,z,h1,h2,tk_kept h3 hk (fun _ e=>by obtain⟨c,h⟩:=own_obj hv e;exact two_cells h h3.1.1 he.2 rfl)⟩
theorem LdX.appS{sv':Value}{st':List (Int×Int)}(k:LdX B S w a cs st dn un tp y sv dv uv)(o:w'.ownsRow B 107 2 sv' st'.length (stCells st'))(g:w.grownBy w' sv.ownBlock)(hl:sv'.ownBlock=sv.ownBlock∨sv'.ownBlock=some w.heap.size):
 LdX B (growE S w w') w' a cs st' dn un tp y sv' dv uv∧Rg.Kept (fun i _=>S i) w w':=by
 obtain⟨hk,h1,h2,h3⟩:=k.grow k.sr ⟨by decide,by decide⟩ k.is o g hl
 refine⟨⟨h1,k.low,o,own_keptR k.dr hk (fun i _ e e2=>?_),own_keptR k.ur hk (fun i _ e e2=>?_),k.ne,h3,.inl k.ia,h2,fun i e=> .inl (k.id i e),fun i e=> .inl (k.iu i e),fun t e=> .inl (k.it t e)⟩,hk.mono (fun i _ e=>k.is i e)⟩
 ·obtain⟨c,h⟩:=own_obj k.dr e;obtain⟨c2,h2⟩:=own_obj k.sr e2;exact two_cells h h2 (by decide) rfl
 ·obtain⟨c,h⟩:=own_obj k.ur e;obtain⟨c2,h2⟩:=own_obj k.sr e2;exact two_cells h h2 (by decide) rfl
theorem LdX.appD{dv':Value}{dn':List Bool}(k:LdX B S w a cs st dn un tp y sv dv uv)(o:w'.ownsRow B 4 1 dv' dn'.length (dn'.map Value.bool))(g:w.grownBy w' dv.ownBlock)(hl:dv'.ownBlock=dv.ownBlock∨dv'.ownBlock=some w.heap.size):
 LdX B (growE S w w') w' a cs st dn' un tp y sv dv' uv∧Rg.Kept (fun i _=>S i) w w':=by
 obtain⟨hk,h1,h2,h3⟩:=k.grow k.dr ⟨by decide,by decide⟩ k.id o g hl
 refine⟨⟨h1,k.low,own_keptR k.sr hk (fun i _ e e2=>?_),o,own_keptR k.ur hk (fun i _ e e2=>k.ne i e2 e),fun i e e2=>?_,h3,.inl k.ia,fun i e=> .inl (k.is i e),h2,fun i e=> .inl (k.iu i e),fun t e=> .inl (k.it t e)⟩,hk.mono (fun i _ e=>k.id i e)⟩
 ·obtain⟨c,h⟩:=own_obj k.sr e;obtain⟨c2,h2⟩:=own_obj k.dr e2;exact two_cells h h2 (by decide) rfl
 ·rcases hl with h|h
  ·exact k.ne i (h▸e) e2
  ·rw[h]at e;cases e;have:=(k.ur.lt _ e2).2;omega
theorem LdX.appU{uv':Value}{un':List Bool}(k:LdX B S w a cs st dn un tp y sv dv uv)(o:w'.ownsRow B 4 1 uv' un'.length (un'.map Value.bool))(g:w.grownBy w' uv.ownBlock)(hl:uv'.ownBlock=uv.ownBlock∨uv'.ownBlock=some w.heap.size):
 LdX B (growE S w w') w' a cs st dn un' tp y sv dv uv'∧Rg.Kept (fun i _=>S i) w w':=by
 obtain⟨hk,h1,h2,h3⟩:=k.grow k.ur ⟨by decide,by decide⟩ k.iu o g hl
 refine⟨⟨h1,k.low,own_keptR k.sr hk (fun i _ e e2=>?_),own_keptR k.dr hk (fun i _ e e2=>k.ne i e e2),o,fun i e e2=>?_,h3,.inl k.ia,fun i e=> .inl (k.is i e),fun i e=> .inl (k.id i e),h2,fun t e=> .inl (k.it t e)⟩,hk.mono (fun i _ e=>k.iu i e)⟩
 ·obtain⟨c,h⟩:=own_obj k.sr e;obtain⟨c2,h2⟩:=own_obj k.ur e2;exact two_cells h h2 (by decide) rfl
 ·rcases hl with h|h
  ·exact k.ne i e (h▸e2)
  ·rw[h]at e2;cases e2;have:=(k.dr.lt _ e).2;omega
end
section
variable {B:Nat}{S:Nat→Prop}{w:World}{a:Nat}{l:Lk}{sa:Option Addr}{sc:Nat}{da:Option Addr}{dc:Nat}{ua:Option Addr}{uc:Nat}{tp:Option Nat}
theorem own_of{ad:Option Addr}{n c k:Nat}(h:(Value.slice ad n c).ownBlock =some k){P:Nat→Prop}(hP:∀x,ad=some x→P x.block):P k:=by
 obtain⟨x,e,rfl⟩:=own_some h
 exact hP x e
theorem LdV.x(k:LdV B S w a l sa sc da dc ua uc tp):LdX B S w a #[.int .i64 l.o.id,.int .i64 l.o.item,.int .i64 l.o.qty,.int .i64 l.o.client,.int .i64 l.o.price,.slice sa l.o.steps.length sc,.slice da l.f.dn.length dc,.slice ua l.f.un.length uc,.bool l.f.asked,.bool l.f.yes,.bool l.f.turned,.bool l.f.k0,.bool l.f.k1,.bool l.f.ship,.bool l.f.d0,.bool l.f.d1,.bool l.f.acc,(ptV tp)] l.o.steps l.f.dn l.f.un tp l.y (.slice sa l.o.steps.length sc) (.slice da l.f.dn.length dc) (.slice ua l.f.un.length uc):=
 ⟨k.blk,k.low,k.sr,k.dr,k.ur,fun i e e2=>by
   obtain⟨x,h1,rfl⟩:=own_some e;obtain⟨z,h2,h3⟩:=own_some e2;exact k.ne x z h1 h2 h3.symm,k.tl,k.ia,fun _ e=>own_of e k.is,fun _ e=>own_of e k.id,fun _ e=>own_of e k.iu,k.it⟩
theorem LdX.v(k:LdX B S w a #[.int .i64 l.o.id,.int .i64 l.o.item,.int .i64 l.o.qty,.int .i64 l.o.client,.int .i64 l.o.price,.slice sa l.o.steps.length sc,.slice da l.f.dn.length dc,.slice ua l.f.un.length uc,.bool l.f.asked,.bool l.f.yes,.bool l.f.turned,.bool l.f.k0,.bool l.f.k1,.bool l.f.ship,.bool l.f.d0,.bool l.f.d1,.bool l.f.acc,(ptV tp)] l.o.steps l.f.dn l.f.un tp l.y (.slice sa l.o.steps.length sc) (.slice da l.f.dn.length dc) (.slice ua l.f.un.length uc)):LdV B S w a l sa sc da dc ua uc tp:=
 ⟨k.blk,k.low,k.sr,k.dr,k.ur,fun x z e1 e2 e3=>by
   subst e1 e2;exact k.ne x.block rfl (by rw[e3];rfl),k.tl,k.ia,fun x e=>k.is _ (by rw[e];rfl),fun x e=>k.id _ (by rw[e];rfl),fun x e=>k.iu _ (by rw[e];rfl),k.it⟩
theorem gr_trans{E:Nat→Prop}{w u v:World}{k:Nat}(h:growE (growE E w u) u v k)(h1:w.heap.size≤u.heap.size)(h2:u.heap.size≤v.heap.size):growE E w v k:=by
 rcases h with(h|h)|h
 ·exact .inl h
 ·exact .inr ⟨h.1,by omega⟩
 ·exact .inr ⟨by omega,h.2⟩
theorem fol_d{SV:Nat→Prop}{V u w7:World}{cs:Array Value}{st:List (Int×Int)}{dn un dn':List Bool}{y:Option (Bool×Bool)}{sv dv uv dv':Value}(k:LdX B SV V a cs st dn un tp y sv dv uv)(hu:Below V.heap.size V u)(o:w7.ownsRow B 4 1 dv' dn'.length (dn'.map Value.bool))(g:u.grownBy w7 dv.ownBlock)(hl:dv'.ownBlock=dv.ownBlock∨dv'.ownBlock=some u.heap.size):
 LdX B (growE SV V w7) w7 a cs st dn' un tp y sv dv' uv∧Rg.Kept (fun i _=>SV i) V w7:=by
 obtain⟨x1,x2⟩:=(k.on hu).appD o g hl
 exact⟨x1.wide (fun i e=>e.imp (fun e=>e) (fun e=>⟨zK hu.size e.1,e.2⟩)),(zE hu).trans x2⟩
theorem fol_u{SV:Nat→Prop}{V u w7:World}{cs:Array Value}{st:List (Int×Int)}{dn un un':List Bool}{y:Option (Bool×Bool)}{sv dv uv uv':Value}(k:LdX B SV V a cs st dn un tp y sv dv uv)(hu:Below V.heap.size V u)(o:w7.ownsRow B 4 1 uv' un'.length (un'.map Value.bool))(g:u.grownBy w7 uv.ownBlock)(hl:uv'.ownBlock=uv.ownBlock∨uv'.ownBlock=some u.heap.size):
 LdX B (growE SV V w7) w7 a cs st dn un' tp y sv dv uv'∧Rg.Kept (fun i _=>SV i) V w7:=by
 obtain⟨x1,x2⟩:=(k.on hu).appU o g hl
 exact⟨x1.wide (fun i e=>e.imp (fun e=>e) (fun e=>⟨zK hu.size e.1,e.2⟩)),(zE hu).trans x2⟩
theorem bls_kept{F:Nat→Obj→Prop}{V V':World}{b o:Nat}{l:List Bool}(h:Bls V (some ⟨b,o,none⟩) l)(hk:Rg.Kept F V V')(hF:∀o,¬F b o):Bls V' (some ⟨b,o,none⟩) l:=by
 rcases h with h|⟨b',o',e,h⟩
 ·exact .inl h
 ·cases e;exact .inr ⟨b,o,rfl,fun i x hx=>kept_cellR hk hF (h i x hx)⟩
theorem fol_end{SV:Nat→Prop}{V w8:World}{l1:Lk}{a6 a7 a8:Option Addr}{c6 c7 c8:Nat}(x8:LdX B SV w8 a #[.int .i64 l1.o.id,.int .i64 l1.o.item,.int .i64 l1.o.qty,.int .i64 l1.o.client,.int .i64 l1.o.price,.slice a6 l1.o.steps.length c6,.slice da l1.f.dn.length dc,.slice ua l1.f.un.length uc,.bool l1.f.asked,.bool l1.f.yes,.bool l1.f.turned,.bool l1.f.k0,.bool l1.f.k1,.bool l1.f.ship,.bool l1.f.d0,.bool l1.f.d1,.bool l1.f.acc,(ptV tp)] l1.o.steps (l1.f.dn++ [false]) (l1.f.un++ [false]) tp l1.y (.slice a6 l1.o.steps.length c6) (.slice a7 (l1.f.dn.length+1) c7) (.slice a8 (l1.f.un.length+1) c8))(hSV:∀i,SV i→growE S w w8 i)(hk:Rg.Kept (fun i _=>S i) w w8)(ha:S a){e:Ending}{z:Value}(he:e= .returned z)(hV:V=(w8.setCell ⟨a,6,none⟩ (.slice a7 (l1.f.dn.length+1) c7)).setCell ⟨a,7,none⟩ (.slice a8 (l1.f.un.length+1) c8)):
 LFol B S w a ⟨l1.o,{l1.f with dn:=l1.f.dn++ [false],un:=l1.f.un++ [false]},l1.y⟩ e V:=by
 have x9:=(x8.set 6 (.slice a7 (l1.f.dn.length+1) c7)).set 7 (.slice a8 (l1.f.un.length+1) c8)
 rw[←hV]at x9
 refine lfol_gr he (sa:=a6) (sc:=c6) (da:=a7) (dc:=c7) (ua:=a8) (uc:=c8) (tp':=tp) (LdX.v ?_) (fun i e=>(hSV i e).imp (fun e=>e) (fun e=>⟨e.1,by rw[hV];simpa using e.2⟩)) ?_
 ·have e1:(l1.f.dn++ [false]).length =l1.f.dn.length+1:=by simp
  have e2:(l1.f.un++ [false]).length =l1.f.un.length+1:=by simp
  simp only[e1,e2];exact x9
 ·rw[hV];exact hk.trans ((zO _ (fun _=>ha)).trans (zO _ (fun _=>ha)))
theorem lfol_drew{V:World}{l':Lk}{e:Ending}(h:LFol B S w a l' e V):LFol B S w a l' e V.drew:=by
 obtain⟨h1,h2,h3⟩:=h
 exact⟨h1,(h2.on (zF _ _).drew),h3.trans (zE (zF _ _).drew)⟩
theorem fol_close{V w7 w8 X:World}{l1:Lk}{a6 a7 a8:Option Addr}{c6 c7 c8:Nat}(x8:LdX B (growE (growE (growE S w V) V w7) w7 w8) w8 a #[.int .i64 l1.o.id,.int .i64 l1.o.item,.int .i64 l1.o.qty,.int .i64 l1.o.client,.int .i64 l1.o.price,.slice a6 l1.o.steps.length c6,.slice da l1.f.dn.length dc,.slice ua l1.f.un.length uc,.bool l1.f.asked,.bool l1.f.yes,.bool l1.f.turned,.bool l1.f.k0,.bool l1.f.k1,.bool l1.f.ship,.bool l1.f.d0,.bool l1.f.d1,.bool l1.f.acc,(ptV tp)] l1.o.steps (l1.f.dn++ [false]) (l1.f.un++ [false]) tp l1.y (.slice a6 l1.o.steps.length c6) (.slice a7 (l1.f.dn.length+1) c7) (.slice a8 (l1.f.un.length+1) c8))(k1:Rg.Kept (fun i _=>S i) w V)(k7:Rg.Kept (fun i _=>growE S w V i) V w7)(k8:Rg.Kept (fun i _=>growE (growE S w V) V w7 i) w7 w8)(ha:S a){e:Ending}{z:Value}(he:e= .returned z)(hX:X=(w8.setCell ⟨a,6,none⟩ (.slice a7 (l1.f.dn.length+1) c7)).setCell ⟨a,7,none⟩ (.slice a8 (l1.f.un.length+1) c8)):
 LFol B S w a ⟨l1.o,{l1.f with dn:=l1.f.dn++ [false],un:=l1.f.un++ [false]},l1.y⟩ e X:=by
 have s1:=k1.size
 have s7:=k7.size
 have s8:=k8.size
 have g7:∀i,growE (growE S w V) V w7 i→growE S w w7 i:=fun i e=>gr_trans e s1 s7
 have K7:Rg.Kept (fun i _=>S i) w w7:=kept_grow k1 k7
 refine fol_end x8 (fun i e=>?_) (kept_grow K7 (k8.mono (fun i _ e=>g7 i e))) ha he hX
 rcases e with e|e
 ·exact(g7 i e).imp (fun e=>e) (fun e=>⟨e.1,by omega⟩)
 ·exact .inr ⟨by omega,e.2⟩
set_option maxRecDepth 100000 in
set_option maxHeartbeats 4000000 in
theorem lfol1(k:LdV B S w a l sa sc da dc ua uc tp)(hl:l.o.steps.length≤2)(hdl:l.f.dn.length=l.o.steps.length)(hul:l.f.un.length=l.o.steps.length)(id i0 x y:Int)(nb no nc:Nat)(h1:w.cell? ⟨nb,no+1,none⟩=some (.int .i64 x))(h2:w.cell? ⟨nb,no+2,none⟩=some (.int .i64 y))(hnS:¬S nb)(hS:∀i,S i→i<w.heap.size):
 Calls Tryz.prog 151 #[.pointer (some ⟨a,0,none⟩),.agg #[.string ⟨#[115,116,101,112]⟩,.int .i64 id,.slice (some ⟨nb,no,none⟩) 3 nc]] w (LFol B S w a (folL l 1 [i0,x,y])):=by
 obtain⟨W,hW⟩:∃W,W=w.alloc (.cells #[.string ⟨#[115,116,101,112]⟩,.int .i64 id,.slice (some ⟨nb,no,none⟩) 3 nc] 104):=⟨_,rfl⟩
 have hbW:Below w.heap.size w W:=by rw[hW];exact(zF _ _).alloc (zD _) _
 have kW:=k.on hbW
 obtain⟨b0,b1,b2⟩:=three_new w (.string ⟨#[115,116,101,112]⟩) (.int .i64 id) (.slice (some ⟨nb,no,none⟩) 3 nc) 104
 rw[←hW]at b0 b1 b2
 have n1:=cellL h1 hbW
 have n2:=cellL h2 hbW
 obtain⟨⟨-,-,-,-,-,c5⟩,-⟩:=kW.cells
 obtain⟨U,hU⟩:∃U,U=(W.alloc (.cells #[.int .i64 x,.int .i64 y] 107)).drew :=⟨_,rfl⟩
 have hbU:Below W.heap.size W U:=by rw[hU];exact((zF _ _).alloc (zD _) _).drew
 have HX:=hide (kW.on hbU).x
 have HS1:Hid (Sts U (some ⟨W.heap.size,0,none⟩) [(x,y)]):=by rw[hU];exact(sts_one W x y).below (zF _ _).drew
 have hlow:B≤U.heap.size:=by have:=k.low;have:=k.lt;have:=hbW.size;have:=hbU.size;omega
 have FA:Hid (∀(a6:Option Addr)(c6:Nat)(w6:World),w6.ownsRow B 107 2 (.slice a6 (l.o.steps.length+1) c6) (l.o.steps++ [(x,y)]).length (stCells (l.o.steps++ [(x,y)]))→U.grownBy w6 (Value.slice sa l.o.steps.length sc).ownBlock →((Value.slice a6 (l.o.steps.length+1) c6).ownBlock =(Value.slice sa l.o.steps.length sc).ownBlock ∨(Value.slice a6 (l.o.steps.length+1) c6).ownBlock =some U.heap.size)→
  (w6.cell? ⟨a,5,none⟩=some (.slice sa l.o.steps.length sc)∧w6.frozen? ⟨a,5,none⟩=false∧w6.cell? ⟨w.heap.size,2,none⟩=some (.slice (some ⟨nb,no,none⟩) 3 nc)∧w6.cell? ⟨nb,no+1,none⟩=some (.int .i64 x)∧w6.cell? ⟨nb,no+2,none⟩=some (.int .i64 y))∧LdV B (growE S w w6) (w6.setCell ⟨a,5,none⟩ (.slice a6 (l.o.steps.length+1) c6)) a ⟨{l.o with steps:=l.o.steps++ [(x,y)]},l.f,l.y⟩ a6 c6 da dc ua uc tp∧Rg.Kept (fun i _=>S i) w w6):=fun a6 c6 w6 o6 g6 t6=>by
  obtain⟨x1,x2⟩:=HX.out.appS (st':=l.o.steps++ [(x,y)]) o6 g6 t6;have hwU:=bel_on' hbW hbU
  refine⟨⟨by rw[cell_of x1.blk];rfl,frozen_of_row _ _ _ _ _ x1.blk,kept_cellR x2 (fun _ e=>Nat.lt_irrefl _ (hS _ e)) (cellL b2 hbU),kept_cellR x2 (fun _=>hnS) (cellL n1 hbU),kept_cellR x2 (fun _=>hnS) (cellL n2 hbU)⟩,?_,(zE hwU).trans x2⟩;have x3:=(x1.wide (S':=growE S w w6) (fun i e=>e.imp (fun e=>e) (fun e=>⟨zK hwU.size e.1,e.2⟩))).set 5 (.slice a6 (l.o.steps.length+1) c6)
  refine LdX.v ?_;have e1:(l.o.steps++ [(x,y)]).length =l.o.steps.length+1:=by simp
  simp only[e1];exact x3
 have HW:=hide hW
 have HU:=hide hU
 have hlt:=kW.lt
 have hSa:=k.ia
 have hS':=hS
 have hna:nb≠a:=fun e=>hnS (e▸k.ia)
 have hlw:a<w.heap.size:=k.lt
 have hne:w.heap.size≠a:=by omega
 have s2:∀(u:World)(v:Value),(u.setCell ⟨a,5,none⟩ v).cell? ⟨w.heap.size,2,none⟩=u.cell? ⟨w.heap.size,2,none⟩:=fun u v=>World.cell?_of_block (zN _ _ _ _ hne)
 have s3:∀(u:World)(v:Value)(o:Nat),(u.setCell ⟨a,5,none⟩ v).cell? ⟨nb,o,none⟩=u.cell? ⟨nb,o,none⟩:=fun u v o=>World.cell?_of_block (zN _ _ _ _ hna)
 clear k kW hbW b1 hW h1 h2 hbU hU
 go_enter Tryz.func151,Tryz.ntmps151
 go_wp2_with fail
 rw[←HW.out]
 refine wp_region_T (fun w'=>w'.cell? ⟨a,5,none⟩=some (.slice sa l.o.steps.length sc)∧w'.cell? ⟨w.heap.size,2,none⟩=some (.slice (some ⟨nb,no,none⟩) 3 nc)∧w'.cell? ⟨nb,no+1,none⟩=some (.int .i64 x)∧w'.cell? ⟨nb,no+2,none⟩=some (.int .i64 y)) [0,1,2,3,4,6,10,17,18,19,20] (by kernel_rfl) ⟨c5,b2,n1,n2⟩ (fun hHeld=>?_)
 refine wpAnyT_pure (i:=0) (oi:={dst:=some 12,op:=_,type:=_,pos:=_,after:=_,guard:=_}) (v:=?v1) rfl (by kernel_rfl) (by kernel_rfl) (by kernel_rfl) (fun _ _ _ h=>h) (Or.inl ⟨by kernel_rfl,?y1⟩) (by kernel_rfl) ?r1
 case y1=>(intro w';go_simp;all_goals(with_reducible rfl))
 try simp only[Act.put,zA,zB,zC]
 refine wpAnyT_pure (i:=1) (oi:={dst:=some 13,op:=_,type:=_,pos:=_,after:=_,guard:=_}) (v:=?v2) rfl (by kernel_rfl) (by kernel_rfl) (by kernel_rfl) (fun _ _ _ h=>h) (Or.inl ⟨by kernel_rfl,?y2⟩) (by kernel_rfl) ?r2
 case y2=>(intro w';go_simp;all_goals(with_reducible rfl))
 try simp only[Act.put,zA,zB,zC]
 refine wpAnyT_pure (i:=2) (oi:={dst:=some 14,op:=_,type:=_,pos:=_,after:=_,guard:=_}) (v:=?v3) rfl (by kernel_rfl) (by kernel_rfl) (by kernel_rfl) (fun _ _ _ h=>h) (Or.inl ⟨by kernel_rfl,?y3⟩) (by kernel_rfl) ?r3
 case y3=>(intro w';go_simp;all_goals(with_reducible rfl))
 try simp only[Act.put,zA,zB,zC]
 refine wpAnyT_pure (i:=3) (oi:={dst:=some 15,op:=_,type:=_,pos:=_,after:=_,guard:=_}) (v:=?v4) rfl (by kernel_rfl) (by kernel_rfl) (by kernel_rfl) (fun _ _ _ h=>h) (Or.inl ⟨by kernel_rfl,?y4⟩) (by kernel_rfl) ?r4
 case y4=>(intro w';go_simp;all_goals(with_reducible rfl))
 try simp only[Act.put,zA,zB,zC]
 refine wpAnyT_pure (i:=4) (oi:={dst:=some 16,op:=_,type:=_,pos:=_,after:=_,guard:=_}) (v:=?v5) rfl (by kernel_rfl) (by kernel_rfl) (by kernel_rfl) (fun _ _ _ h=>h) (Or.inl ⟨by kernel_rfl,?y5⟩) (by kernel_rfl) ?r5
 case y5=>(intro w';go_simp;all_goals(with_reducible rfl))
 try simp only[Act.put,zA,zB,zC]
 refine wpAnyT_pure (i:=6) (oi:={dst:=some 18,op:=_,type:=_,pos:=_,after:=_,guard:=_}) (v:=?v6) rfl (by kernel_rfl) (by kernel_rfl) (by kernel_rfl) (fun _ _ _ h=>h) (Or.inl ⟨by kernel_rfl,?y6⟩) (by kernel_rfl) ?r6
 case y6=>(intro w';go_simp;all_goals(with_reducible rfl))
 try simp only[Act.put,zA,zB,zC]
 refine wpAnyT_pure (i:=10) (oi:={dst:=some 22,op:=_,type:=_,pos:=_,after:=_,guard:=_}) (v:=?v7) rfl (by kernel_rfl) (by kernel_rfl) (by kernel_rfl) (fun _ _ _ h=>h) (Or.inl ⟨by kernel_rfl,?y7⟩) (by kernel_rfl) ?r7
 case y7=>(intro w';go_simp;all_goals(with_reducible rfl))
 try simp only[Act.put,zA,zB,zC]
 refine wpAnyT_take (i:=5) (oi:={dst:=some 17,op:=_,type:=_,pos:=_,after:=_,guard:=_}) (v:=?v8) [17,18,19,20] rfl (by kernel_rfl) (by kernel_rfl) (by kernel_rfl) (by kernel_rfl) (fun _ _ _ h=>h) (Or.inl ⟨by kernel_rfl,?y8⟩) hHeld ?r8
 case y8=>(intro w' hSw;(try dsimp only at hSw);go_simp;all_goals(with_reducible rfl))
 try simp only[Act.put,zA,zB,zC]
 refine wpAnyT_take (i:=7) (oi:={dst:=some 19,op:=_,type:=_,pos:=_,after:=_,guard:=_}) (v:=?v9) [17,18,19,20] rfl (by kernel_rfl) (by kernel_rfl) (by kernel_rfl) (by kernel_rfl) (fun _ _ _ h=>h) (Or.inl ⟨by kernel_rfl,?y9⟩) hHeld ?r9
 case y9=>(intro w' hSw;(try dsimp only at hSw);go_simp;all_goals(with_reducible rfl))
 try simp only[Act.put,zA,zB,zC]
 refine wpAnyT_take (i:=11) (oi:={dst:=some 23,op:=_,type:=_,pos:=_,after:=_,guard:=_}) (v:=?v10) [17,18,19,20] rfl (by kernel_rfl) (by kernel_rfl) (by kernel_rfl) (by kernel_rfl) (fun _ _ _ h=>h) (Or.inl ⟨by kernel_rfl,?y10⟩) hHeld ?r10
 case y10=>(intro w' hSw;(try dsimp only at hSw);go_simp;all_goals(with_reducible rfl))
 try simp only[Act.put,zA,zB,zC]
 refine wpAnyT_take (i:=8) (oi:={dst:=some 20,op:=_,type:=_,pos:=_,after:=_,guard:=_}) (v:=?v11) [17,18,19,20] rfl (by kernel_rfl) (by kernel_rfl) (by kernel_rfl) (by kernel_rfl) (fun _ _ _ h=>h) (Or.inl ⟨by kernel_rfl,?y11⟩) hHeld ?r11
 case y11=>(intro w' hSw;(try dsimp only at hSw);go_simp;all_goals(with_reducible rfl))
 try simp only[Act.put,zA,zB,zC]
 refine wpAnyT_take (i:=12) (oi:={dst:=some 24,op:=_,type:=_,pos:=_,after:=_,guard:=_}) (v:=?v12) [17,18,19,20] rfl (by kernel_rfl) (by kernel_rfl) (by kernel_rfl) (by kernel_rfl) (fun _ _ _ h=>h) (Or.inl ⟨by kernel_rfl,?y12⟩) hHeld ?r12
 case y12=>(intro w' hSw;(try dsimp only at hSw);go_simp;all_goals(with_reducible rfl))
 try simp only[Act.put,zA,zB,zC]
 refine wpAnyT_take (i:=9) (oi:={dst:=some 21,op:=_,type:=_,pos:=_,after:=_,guard:=_}) (v:=?v13) [17,18,19,20] rfl (by kernel_rfl) (by kernel_rfl) (by kernel_rfl) (by kernel_rfl) (fun _ _ _ h=>h) (Or.inl ⟨by kernel_rfl,?y13⟩) hHeld ?r13
 case y13=>(intro w' hSw;(try dsimp only at hSw);go_simp;all_goals(with_reducible rfl))
 try simp only[Act.put,zA,zB,zC]
 refine wpAnyT_take (i:=13) (oi:={dst:=some 25,op:=_,type:=_,pos:=_,after:=_,guard:=_}) (v:=?v14) [17,18,19,20] rfl (by kernel_rfl) (by kernel_rfl) (by kernel_rfl) (by kernel_rfl) (fun _ _ _ h=>h) (Or.inl ⟨by kernel_rfl,?y14⟩) hHeld ?r14
 case y14=>(intro w' hSw;(try dsimp only at hSw);go_simp;all_goals(with_reducible rfl))
 try simp only[Act.put,zA,zB,zC]
 refine wpAnyT_take (i:=14) (oi:={dst:=some 26,op:=_,type:=_,pos:=_,after:=_,guard:=_}) (v:=?v15) [17,18,19,20] rfl (by kernel_rfl) (by kernel_rfl) (by kernel_rfl) (by kernel_rfl) (fun _ _ _ h=>h) (Or.inl ⟨by kernel_rfl,?y15⟩) hHeld ?r15
 case y15=>(intro w' hSw;(try dsimp only at hSw);go_simp;all_goals(with_reducible rfl))
 try simp only[Act.put,zA,zB,zC]
 refine wpAnyT_ready (rs:=[15]) (by kernel_rfl) (by simp) ?_
 refine AllReadyT.cons rfl (fun K hK=>?_) AllReadyT.nil
 rw[if_pos (by kernel_rfl)]
 go_wp2
 refine hK.out _ _ ⟨cellL c5 ((zF _ _).alloc (zD _) _).drew,cellL b2 ((zF _ _).alloc (zD _) _).drew,cellL n1 ((zF _ _).alloc (zD _) _).drew,cellL n2 ((zF _ _).alloc (zD _) _).drew⟩ (fun hHeld=>?_)
 clear hK K
 try simp only[Act.put,zA,zB,zC]
 refine wpAnyT_ready (rs:=[16]) (by kernel_rfl) (by simp) ?_
 refine AllReadyT.cons rfl (fun K hK=>?_) AllReadyT.nil
 refine step_stA rfl (.tmp 17) (.tmp 27) rfl B (.slice sa l.o.steps.length sc) l.o.steps rfl (by rw[←HU.out];exact HX.out.sr) ⟨W.heap.size,0,none⟩ (x,y) 1 rfl (by rw[←HU.out];exact HS1.out) (by omega) (by rw[←HU.out];exact hlow) ?_
 rw[←HU.out]
 intro a6 c6 w6 o6 g6 t6
 clear c5 b2 n1 n2 hHeld
 obtain⟨⟨c5,f5,b2,n1,n2⟩,z1,z2⟩:=FA.out a6 c6 w6 o6 g6 t6
 have Z1:=hide z1
 have Z2:=hide z2
 clear z1 z2 o6 g6 t6
 refine hK.out _ _ ⟨c5,b2,n1,n2⟩ (fun hHeld=>?_)
 clear hK K
 try simp only[Act.put,zA]
 refine wpAnyT_pure (i:=17) (oi:={dst:=some 29,op:=_,type:=_,pos:=_,after:=_,guard:=_}) (v:=?v16) rfl (by kernel_rfl) (by kernel_rfl) (by kernel_rfl) (fun _ _ _ h=>h) (Or.inl ⟨by kernel_rfl,?y16⟩) (by kernel_rfl) ?r16
 case y16=>(intro w';go_simp;all_goals(with_reducible rfl))
 try simp only[Act.put]
 refine wpAnyT_pure (i:=18) (oi:={dst:=some 30,op:=_,type:=_,pos:=_,after:=_,guard:=_}) (v:=?v17) rfl (by kernel_rfl) (by kernel_rfl) (by kernel_rfl) (fun _ _ _ h=>h) (Or.inl ⟨by kernel_rfl,?y17⟩) (by kernel_rfl) ?r17
 case y17=>(intro w';go_simp;all_goals(with_reducible rfl))
 try simp only[Act.put]
 refine wpAnyT_pure (i:=19) (oi:={dst:=some 31,op:=_,type:=_,pos:=_,after:=_,guard:=_}) (v:=?v18) rfl (by kernel_rfl) (by kernel_rfl) (by kernel_rfl) (fun _ _ _ h=>h) (Or.inl ⟨by kernel_rfl,?y18⟩) (by kernel_rfl) ?r18
 case y18=>(intro w';go_simp;all_goals(with_reducible rfl))
 try simp only[Act.put]
 refine wpAnyT_ready (rs:=[20]) (by kernel_rfl) (by simp) ?_
 refine AllReadyT.free rfl (by kernel_rfl) (fun K hK=>?_) AllReadyT.nil
 rw[if_pos (by kernel_rfl)]
 go_wp2
 refine hK.out _ _ ?_
 clear hK K
 try simp only[Act.put,zA,zB,zC]
 refine wpAnyT_done (by kernel_rfl) ?_ _
 clear c5 b2 n1 n2 f5 hHeld
 obtain⟨V,hV⟩:∃V,V=w6.setCell ⟨a,5,none⟩ (.slice a6 (l.o.steps.length+1) c6):=⟨_,rfl⟩
 obtain⟨l1,hl1⟩:∃l1:Lk,l1=⟨{l.o with steps:=l.o.steps++ [(x,y)]},l.f,l.y⟩:=⟨_,rfl⟩
 have kV:LdV B (growE S w V) V a l1 a6 c6 da dc ua uc tp:=by
  have:=Z1.out
  rw[←hV,←hl1]at this;exact this.wide (fun i e=>e.imp (fun e=>e) (fun e=>⟨e.1,by rw[hV];simpa using e.2⟩))
 have kS:Rg.Kept (fun i _=>S i) w V:=by rw[hV];exact Z2.out.trans (zO _ (fun _=>hSa))
 have hf:l1.f=l.f:=by rw[hl1]
 have HG:Hid (folL l 1 [i0,x,y]=⟨l1.o,{l1.f with dn:=l1.f.dn++ [false],un:=l1.f.un++ [false]},l1.y⟩):=by rw[hl1];rfl
 rw[←hV,HG.out]
 have hd3:l1.f.dn.length≤2∧l1.f.un.length≤2:=by rw[hf];omega
 clear Z1 Z2 hV FA HX HS1 HU HW b0 s2 s3 hlow hlt hna hne hf hl1 hl hdl hul hnS hS hlw
 have HX:=hide kV.x
 have HK:=hide kS
 have HSV:Hid (∀i,growE S w V i→i<V.heap.size):=fun i e=>e.elim (fun e=>by have:=kS.size;have:=hS' i e;omega) (fun e=>e.2)
 have c6':=kV.cells.2.1
 have c7':=kV.cells.2.2.1
 have hlt:=kV.lt
 have hB:B≤V.heap.size:=by have:=kV.low;omega
 obtain⟨U1,hU1⟩:∃U1,U1=(V.alloc (.cells #[.bool false] 4)).drew :=⟨_,rfl⟩
 obtain⟨U2,hU2⟩:∃U2,U2=((V.alloc (.cells #[.bool false] 4)).alloc (.cells #[.bool false] 4)).drew :=⟨_,rfl⟩
 have b1:Below V.heap.size V U1:=by rw[hU1];exact((zF _ _).alloc (zD _) _).drew
 have b2:Below V.heap.size V U2:=by rw[hU2];exact(((zF _ _).alloc (zD _) _).alloc (by simp) _).drew
 have HR1:Hid (Bls U1 (some ⟨V.heap.size,0,none⟩) [false]):=by rw[hU1];exact(bls_one V false).below (zF _ _).drew
 have HR2:Hid (Bls U2 (some ⟨V.heap.size,0,none⟩) [false]∧Bls U2 (some ⟨V.heap.size+1,0,none⟩) [false]):=by
  rw[hU2];refine⟨((bls_one V false).below ((zF _ _).alloc (zD _) _)).below (zF _ _).drew,?_⟩;have:=bls_one (V.alloc (.cells #[.bool false] 4)) false
  rw[World.size_alloc]at this;exact this.below (zF _ _).drew
 have HO1:=hide (HX.out.on b1)
 have HO2:=hide (HX.out.on b2)
 have l1':B≤U1.heap.size:=by have:=b1.size;omega
 have l2':B≤U2.heap.size:=by have:=b2.size;omega
 have HB1:=hide b1
 have HB2:=hide b2
 have HU1:=hide hU1
 have HU2:=hide hU2
 clear kV kS hU1 hU2 b1 b2
 go_wp2_with fail
 refine wp_region_T (fun w'=>w'.cell? ⟨a,6,none⟩=some (.slice da l1.f.dn.length dc)∧w'.cell? ⟨a,7,none⟩=some (.slice ua l1.f.un.length uc)) [0,1,2,3,4,8,9,10,14,15,16,17,18,19] (by kernel_rfl) ⟨c6',c7'⟩ (fun hHeld=>?_)
 refine wpAnyT_pure (i:=0) (oi:={dst:=some 32,op:=_,type:=_,pos:=_,after:=_,guard:=_}) (v:=?v19) rfl (by kernel_rfl) (by kernel_rfl) (by kernel_rfl) (fun _ _ _ h=>h) (Or.inl ⟨by kernel_rfl,?y19⟩) (by kernel_rfl) ?r19
 case y19=>(intro w';go_simp;all_goals(with_reducible rfl))
 try simp only[Act.put,zA,zB,zC]
 refine wpAnyT_pure (i:=1) (oi:={dst:=some 33,op:=_,type:=_,pos:=_,after:=_,guard:=_}) (v:=?v20) rfl (by kernel_rfl) (by kernel_rfl) (by kernel_rfl) (fun _ _ _ h=>h) (Or.inl ⟨by kernel_rfl,?y20⟩) (by kernel_rfl) ?r20
 case y20=>(intro w';go_simp;all_goals(with_reducible rfl))
 try simp only[Act.put,zA,zB,zC]
 refine wpAnyT_pure (i:=2) (oi:={dst:=some 34,op:=_,type:=_,pos:=_,after:=_,guard:=_}) (v:=?v21) rfl (by kernel_rfl) (by kernel_rfl) (by kernel_rfl) (fun _ _ _ h=>h) (Or.inl ⟨by kernel_rfl,?y21⟩) (by kernel_rfl) ?r21
 case y21=>(intro w';go_simp;all_goals(with_reducible rfl))
 try simp only[Act.put,zA,zB,zC]
 refine wpAnyT_pure (i:=3) (oi:={dst:=some 35,op:=_,type:=_,pos:=_,after:=_,guard:=_}) (v:=?v22) rfl (by kernel_rfl) (by kernel_rfl) (by kernel_rfl) (fun _ _ _ h=>h) (Or.inl ⟨by kernel_rfl,?y22⟩) (by kernel_rfl) ?r22
 case y22=>(intro w';go_simp;all_goals(with_reducible rfl))
 try simp only[Act.put,zA,zB,zC]
 refine wpAnyT_pure (i:=4) (oi:={dst:=some 36,op:=_,type:=_,pos:=_,after:=_,guard:=_}) (v:=?v23) rfl (by kernel_rfl) (by kernel_rfl) (by kernel_rfl) (fun _ _ _ h=>h) (Or.inl ⟨by kernel_rfl,?y23⟩) (by kernel_rfl) ?r23
 case y23=>(intro w';go_simp;all_goals(with_reducible rfl))
 try simp only[Act.put,zA,zB,zC]
 refine wpAnyT_pure (i:=8) (oi:={dst:=some 40,op:=_,type:=_,pos:=_,after:=_,guard:=_}) (v:=?v24) rfl (by kernel_rfl) (by kernel_rfl) (by kernel_rfl) (fun _ _ _ h=>h) (Or.inl ⟨by kernel_rfl,?y24⟩) (by kernel_rfl) ?r24
 case y24=>(intro w';go_simp;all_goals(with_reducible rfl))
 try simp only[Act.put,zA,zB,zC]
 refine wpAnyT_pure (i:=9) (oi:={dst:=some 41,op:=_,type:=_,pos:=_,after:=_,guard:=_}) (v:=?v25) rfl (by kernel_rfl) (by kernel_rfl) (by kernel_rfl) (fun _ _ _ h=>h) (Or.inl ⟨by kernel_rfl,?y25⟩) (by kernel_rfl) ?r25
 case y25=>(intro w';go_simp;all_goals(with_reducible rfl))
 try simp only[Act.put,zA,zB,zC]
 refine wpAnyT_pure (i:=10) (oi:={dst:=some 42,op:=_,type:=_,pos:=_,after:=_,guard:=_}) (v:=?v26) rfl (by kernel_rfl) (by kernel_rfl) (by kernel_rfl) (fun _ _ _ h=>h) (Or.inl ⟨by kernel_rfl,?y26⟩) (by kernel_rfl) ?r26
 case y26=>(intro w';go_simp;all_goals(with_reducible rfl))
 try simp only[Act.put,zA,zB,zC]
 refine wpAnyT_take (i:=5) (oi:={dst:=some 37,op:=_,type:=_,pos:=_,after:=_,guard:=_}) (v:=?v27) [14,15,16,17,18,19] rfl (by kernel_rfl) (by kernel_rfl) (by kernel_rfl) (by kernel_rfl) (fun _ _ _ h=>h) (Or.inl ⟨by kernel_rfl,?y27⟩) hHeld ?r27
 case y27=>(intro w' hSw;(try dsimp only at hSw);go_simp;all_goals(with_reducible rfl))
 try simp only[Act.put,zA,zB,zC]
 refine wpAnyT_take (i:=11) (oi:={dst:=some 43,op:=_,type:=_,pos:=_,after:=_,guard:=_}) (v:=?v28) [14,15,16,17,18,19] rfl (by kernel_rfl) (by kernel_rfl) (by kernel_rfl) (by kernel_rfl) (fun _ _ _ h=>h) (Or.inl ⟨by kernel_rfl,?y28⟩) hHeld ?r28
 case y28=>(intro w' hSw;(try dsimp only at hSw);go_simp;all_goals(with_reducible rfl))
 try simp only[Act.put,zA,zB,zC]
 refine wpAnyT_ready (rs:=[6,12]) (by kernel_rfl) (by simp) ?_
 refine AllReadyT.cons rfl (fun K hK=>?_) (AllReadyT.cons rfl (fun K hK=>?_) AllReadyT.nil)
 ·rw[if_pos (by kernel_rfl)]
  go_wp2
  refine hK.out _ _ ⟨cellL c6' (by repeat first|exact(zF _ _).alloc (zD _) _|refine Below.drew ?_|refine Below.alloc ?_ (by simp) _),cellL c7' (by repeat first|exact(zF _ _).alloc (zD _) _|refine Below.drew ?_|refine Below.alloc ?_ (by simp) _)⟩ (fun hHeld=>?_);clear hK K;try simp only[Act.put,zA,zB,zC]
  refine wpAnyT_ready (rs:=[7,12]) (by kernel_rfl) (by simp) ?_;refine AllReadyT.cons rfl (fun K hK=>?_) (AllReadyT.cons rfl (fun K hK=>?_) AllReadyT.nil)
  ·refine step_blA rfl (.tmp 37) (.tmp 38) rfl B (.slice da l1.f.dn.length dc) l1.f.dn rfl (by rw[←HU1.out];exact HO1.out.dr) ⟨V.heap.size,0,none⟩ false 1 rfl (by rw[←HU1.out];exact HR1.out) (by omega) (by rw[←HU1.out];exact l1') ?_;rw[←HU1.out];intro a7 d7 w7 o7 g7 t7;obtain⟨x7,k7⟩:=fol_d (dn':=l1.f.dn++ [false]) HX.out HB1.out o7 g7 t7;have HX7:=hide x7
   have HK7:=hide k7
   clear c6' c7';have c6':w7.cell? ⟨a,6,none⟩=some (.slice da l1.f.dn.length dc):=(by rw[cell_of x7.blk];rfl)
   have c7':w7.cell? ⟨a,7,none⟩=some (.slice ua l1.f.un.length uc):=(by rw[cell_of x7.blk];rfl)
   have hlt7:a<w7.heap.size:=(Array.getElem?_eq_some_iff.1 x7.blk).1
   have hs7:V.heap.size≤w7.heap.size:=k7.size
   clear x7 k7 o7 g7 t7;refine hK.out _ _ ⟨c6',c7'⟩ (fun hHeld=>?_);clear hK K;try simp only[Act.put,zA]
   refine wpAnyT_ready (rs:=[12]) (by kernel_rfl) (by simp) ?_;refine AllReadyT.cons rfl (fun K hK=>?_) AllReadyT.nil;rw[if_pos (by kernel_rfl)]
   go_wp2
   refine hK.out _ _ ⟨cellL c6' ((zF _ _).alloc (zD _) _),cellL c7' ((zF _ _).alloc (zD _) _)⟩ (fun hHeld=>?_);clear hK K;try simp only[Act.put,zA,zB,zC]
   refine wpAnyT_ready (rs:=[13]) (by kernel_rfl) (by simp) ?_;refine AllReadyT.cons rfl (fun K hK=>?_) AllReadyT.nil;refine step_blA rfl (.tmp 43) (.tmp 44) rfl B (.slice ua l1.f.un.length uc) l1.f.un rfl (HX7.out.on ((zF _ _).alloc (zD _) _)).ur ⟨w7.heap.size,0,none⟩ false 1 rfl (bls_one w7 false) (by omega) (by simp;omega) ?_;intro a8 d8 w8 o8 g8 t8;obtain⟨x8,k8⟩:=fol_u (un':=l1.f.un++ [false]) HX7.out ((zF _ _).alloc (zD _) _) o8 g8 t8;have HX8:=hide x8
   have HK8:=hide k8
   clear c6' c7' hHeld;have c6':w8.cell? ⟨a,6,none⟩=some (.slice da l1.f.dn.length dc):=(by rw[cell_of x8.blk];rfl)
   have c7':w8.cell? ⟨a,7,none⟩=some (.slice ua l1.f.un.length uc):=(by rw[cell_of x8.blk];rfl)
   have f6:w8.frozen? ⟨a,6,none⟩=false:=frozen_of_row _ _ _ _ _ x8.blk
   have f7:w8.frozen? ⟨a,7,none⟩=false:=frozen_of_row _ _ _ _ _ x8.blk
   have hlt8:a<w8.heap.size:=(Array.getElem?_eq_some_iff.1 x8.blk).1
   clear x8 k8 o8 g8 t8;refine hK.out _ _ ⟨c6',c7'⟩ (fun hHeld=>?_);clear hK K;try simp only[Act.put,zA]
   refine wpAnyT_pure (i:=14) (oi:={dst:=some 46,op:=_,type:=_,pos:=_,after:=_,guard:=_}) (v:=?v29) rfl (by kernel_rfl) (by kernel_rfl) (by kernel_rfl) (fun _ _ _ h=>h) (Or.inl ⟨by kernel_rfl,?y29⟩) (by kernel_rfl) ?r29
   case y29=>(intro w';go_simp;all_goals(with_reducible rfl))
   try simp only[Act.put]
   refine wpAnyT_pure (i:=15) (oi:={dst:=some 47,op:=_,type:=_,pos:=_,after:=_,guard:=_}) (v:=?v30) rfl (by kernel_rfl) (by kernel_rfl) (by kernel_rfl) (fun _ _ _ h=>h) (Or.inl ⟨by kernel_rfl,?y30⟩) (by kernel_rfl) ?r30
   case y30=>(intro w';go_simp;all_goals(with_reducible rfl))
   try simp only[Act.put]
   refine wpAnyT_ready (rs:=[16]) (by kernel_rfl) (by simp) ?_;refine AllReadyT.free rfl (by kernel_rfl) (fun K hK=>?_) AllReadyT.nil;rw[if_pos (by kernel_rfl)]
   go_wp2
   refine hK.out _ _ ?_;clear hK K;try simp only[Act.put,zA,zB,zC]
   refine wpAnyT_pure (i:=17) (oi:={dst:=some 48,op:=_,type:=_,pos:=_,after:=_,guard:=_}) (v:=?v31) rfl (by kernel_rfl) (by kernel_rfl) (by kernel_rfl) (fun _ _ _ h=>h) (Or.inl ⟨by kernel_rfl,?y31⟩) (by kernel_rfl) ?r31
   case y31=>(intro w';go_simp;all_goals(with_reducible rfl))
   try simp only[Act.put,zA,zB,zC]
   refine wpAnyT_pure (i:=18) (oi:={dst:=some 49,op:=_,type:=_,pos:=_,after:=_,guard:=_}) (v:=?v32) rfl (by kernel_rfl) (by kernel_rfl) (by kernel_rfl) (fun _ _ _ h=>h) (Or.inl ⟨by kernel_rfl,?y32⟩) (by kernel_rfl) ?r32
   case y32=>(intro w';go_simp;all_goals(with_reducible rfl))
   try simp only[Act.put,zA,zB,zC]
   refine wpAnyT_ready (rs:=[19]) (by kernel_rfl) (by simp) ?_;refine AllReadyT.free rfl (by kernel_rfl) (fun K hK=>?_) AllReadyT.nil;rw[if_pos (by kernel_rfl)]
   go_wp2
   refine hK.out _ _ ?_;clear hK K;try simp only[Act.put,zA,zB,zC]
   refine wpAnyT_done (by kernel_rfl) ?_ _
   go_wp2
   go_end0
   first
    |(rw[HG.out];exact fol_close HX8.out HK.out HK7.out HK8.out hSa rfl rfl)
    |(rw[HG.out];exact lfol_drew (fol_close HX8.out HK.out HK7.out HK8.out hSa rfl rfl))
  ·rw[if_pos (by kernel_rfl)]
   go_wp2
   refine hK.out _ _ ⟨cellL c6' (by repeat first|exact(zF _ _).alloc (zD _) _|refine Below.drew ?_|refine Below.alloc ?_ (by simp) _),cellL c7' (by repeat first|exact(zF _ _).alloc (zD _) _|refine Below.drew ?_|refine Below.alloc ?_ (by simp) _)⟩ (fun hHeld=>?_);clear hK K;try simp only[Act.put,zA,zB,zC]
   refine wpAnyT_ready (rs:=[7]) (by kernel_rfl) (by simp) ?_;refine AllReadyT.cons rfl (fun K hK=>?_) AllReadyT.nil;refine step_blA rfl (.tmp 37) (.tmp 38) rfl B (.slice da l1.f.dn.length dc) l1.f.dn rfl (by rw[←HU2.out];exact HO2.out.dr) ⟨V.heap.size,0,none⟩ false 1 rfl (by rw[←HU2.out];exact HR2.out.1) (by omega) (by rw[←HU2.out];exact l2') ?_;rw[←HU2.out];intro a7 d7 w7 o7 g7 t7;obtain⟨x7,k7⟩:=fol_d (dn':=l1.f.dn++ [false]) HX.out HB2.out o7 g7 t7;have kk7:=(HO2.out.appD (dn':=l1.f.dn++ [false]) o7 g7 t7).2
   have HX7:=hide x7
   have HK7:=hide k7
   clear c6' c7';have c6':w7.cell? ⟨a,6,none⟩=some (.slice da l1.f.dn.length dc):=(by rw[cell_of x7.blk];rfl)
   have c7':w7.cell? ⟨a,7,none⟩=some (.slice ua l1.f.un.length uc):=(by rw[cell_of x7.blk];rfl)
   have hlt7:a<w7.heap.size:=(Array.getElem?_eq_some_iff.1 x7.blk).1
   have HR7:Hid (Bls w7 (some ⟨V.heap.size+1,0,none⟩) [false]):=bls_kept HR2.out.2 kk7 (fun _ e=>by have:=HSV.out _ e;omega)
   have hs7:V.heap.size≤w7.heap.size:=k7.size
   clear x7 k7 o7 g7 t7 kk7;refine hK.out _ _ ⟨c6',c7'⟩ (fun hHeld=>?_);clear hK K;try simp only[Act.put,zA]
   refine wpAnyT_ready (rs:=[13]) (by kernel_rfl) (by simp) ?_;refine AllReadyT.cons rfl (fun K hK=>?_) AllReadyT.nil;refine step_blA rfl (.tmp 43) (.tmp 44) rfl B (.slice ua l1.f.un.length uc) l1.f.un rfl HX7.out.ur ⟨_,0,none⟩ false 1 rfl HR7.out (by omega) (by omega) ?_;intro a8 d8 w8 o8 g8 t8;obtain⟨x8,k8⟩:=fol_u (un':=l1.f.un++ [false]) HX7.out (zF _ _) o8 g8 t8;have HX8:=hide x8
   have HK8:=hide k8
   clear c6' c7' hHeld;have c6':w8.cell? ⟨a,6,none⟩=some (.slice da l1.f.dn.length dc):=(by rw[cell_of x8.blk];rfl)
   have c7':w8.cell? ⟨a,7,none⟩=some (.slice ua l1.f.un.length uc):=(by rw[cell_of x8.blk];rfl)
   have f6:w8.frozen? ⟨a,6,none⟩=false:=frozen_of_row _ _ _ _ _ x8.blk
   have f7:w8.frozen? ⟨a,7,none⟩=false:=frozen_of_row _ _ _ _ _ x8.blk
   have hlt8:a<w8.heap.size:=(Array.getElem?_eq_some_iff.1 x8.blk).1
   clear x8 k8 o8 g8 t8;refine hK.out _ _ ⟨c6',c7'⟩ (fun hHeld=>?_);clear hK K;try simp only[Act.put]
   refine wpAnyT_pure (i:=14) (oi:={dst:=some 46,op:=_,type:=_,pos:=_,after:=_,guard:=_}) (v:=?v33) rfl (by kernel_rfl) (by kernel_rfl) (by kernel_rfl) (fun _ _ _ h=>h) (Or.inl ⟨by kernel_rfl,?y33⟩) (by kernel_rfl) ?r33
   case y33=>(intro w';go_simp;all_goals(with_reducible rfl))
   try simp only[Act.put]
   refine wpAnyT_pure (i:=15) (oi:={dst:=some 47,op:=_,type:=_,pos:=_,after:=_,guard:=_}) (v:=?v34) rfl (by kernel_rfl) (by kernel_rfl) (by kernel_rfl) (fun _ _ _ h=>h) (Or.inl ⟨by kernel_rfl,?y34⟩) (by kernel_rfl) ?r34
   case y34=>(intro w';go_simp;all_goals(with_reducible rfl))
   try simp only[Act.put]
   refine wpAnyT_ready (rs:=[16]) (by kernel_rfl) (by simp) ?_;refine AllReadyT.free rfl (by kernel_rfl) (fun K hK=>?_) AllReadyT.nil;rw[if_pos (by kernel_rfl)]
   go_wp2
   refine hK.out _ _ ?_;clear hK K;try simp only[Act.put,zA,zB,zC]
   refine wpAnyT_pure (i:=17) (oi:={dst:=some 48,op:=_,type:=_,pos:=_,after:=_,guard:=_}) (v:=?v35) rfl (by kernel_rfl) (by kernel_rfl) (by kernel_rfl) (fun _ _ _ h=>h) (Or.inl ⟨by kernel_rfl,?y35⟩) (by kernel_rfl) ?r35
   case y35=>(intro w';go_simp;all_goals(with_reducible rfl))
   try simp only[Act.put,zA,zB,zC]
   refine wpAnyT_pure (i:=18) (oi:={dst:=some 49,op:=_,type:=_,pos:=_,after:=_,guard:=_}) (v:=?v36) rfl (by kernel_rfl) (by kernel_rfl) (by kernel_rfl) (fun _ _ _ h=>h) (Or.inl ⟨by kernel_rfl,?y36⟩) (by kernel_rfl) ?r36
   case y36=>(intro w';go_simp;all_goals(with_reducible rfl))
   try simp only[Act.put,zA,zB,zC]
   refine wpAnyT_ready (rs:=[19]) (by kernel_rfl) (by simp) ?_;refine AllReadyT.free rfl (by kernel_rfl) (fun K hK=>?_) AllReadyT.nil;rw[if_pos (by kernel_rfl)]
   go_wp2
   refine hK.out _ _ ?_;clear hK K;try simp only[Act.put,zA,zB,zC]
   refine wpAnyT_done (by kernel_rfl) ?_ _
   go_wp2
   go_end0
   first
    |(rw[HG.out];exact fol_close HX8.out HK.out HK7.out HK8.out hSa rfl rfl)
    |(rw[HG.out];exact lfol_drew (fol_close HX8.out HK.out HK7.out HK8.out hSa rfl rfl))
 ·rw[if_pos (by kernel_rfl)]
  go_wp2
  refine hK.out _ _ ⟨cellL c6' (by repeat first|exact(zF _ _).alloc (zD _) _|refine Below.drew ?_|refine Below.alloc ?_ (by simp) _),cellL c7' (by repeat first|exact(zF _ _).alloc (zD _) _|refine Below.drew ?_|refine Below.alloc ?_ (by simp) _)⟩ (fun hHeld=>?_);clear hK K;try simp only[Act.put,zA,zB,zC]
  refine wpAnyT_ready (rs:=[6]) (by kernel_rfl) (by simp) ?_;refine AllReadyT.cons rfl (fun K hK=>?_) AllReadyT.nil;rw[if_pos (by kernel_rfl)]
  go_wp2
  refine hK.out _ _ ⟨cellL c6' (by repeat first|exact(zF _ _).alloc (zD _) _|refine Below.drew ?_|refine Below.alloc ?_ (by simp) _),cellL c7' (by repeat first|exact(zF _ _).alloc (zD _) _|refine Below.drew ?_|refine Below.alloc ?_ (by simp) _)⟩ (fun hHeld=>?_);clear hK K;try simp only[Act.put,zA,zB,zC]
  refine wpAnyT_ready (rs:=[7]) (by kernel_rfl) (by simp) ?_;refine AllReadyT.cons rfl (fun K hK=>?_) AllReadyT.nil;refine step_blA rfl (.tmp 37) (.tmp 38) rfl B (.slice da l1.f.dn.length dc) l1.f.dn rfl (by rw[←HU2.out];exact HO2.out.dr) ⟨V.heap.size+1,0,none⟩ false 1 rfl (by rw[←HU2.out];exact HR2.out.2) (by omega) (by rw[←HU2.out];exact l2') ?_;rw[←HU2.out];intro a7 d7 w7 o7 g7 t7;obtain⟨x7,k7⟩:=fol_d (dn':=l1.f.dn++ [false]) HX.out HB2.out o7 g7 t7;have kk7:=(HO2.out.appD (dn':=l1.f.dn++ [false]) o7 g7 t7).2
  have HX7:=hide x7
  have HK7:=hide k7
  clear c6' c7';have c6':w7.cell? ⟨a,6,none⟩=some (.slice da l1.f.dn.length dc):=(by rw[cell_of x7.blk];rfl)
  have c7':w7.cell? ⟨a,7,none⟩=some (.slice ua l1.f.un.length uc):=(by rw[cell_of x7.blk];rfl)
  have hlt7:a<w7.heap.size:=(Array.getElem?_eq_some_iff.1 x7.blk).1
  have HR7:Hid (Bls w7 (some ⟨V.heap.size,0,none⟩) [false]):=bls_kept HR2.out.1 kk7 (fun _ e=>by have:=HSV.out _ e;omega)
  have hs7:V.heap.size≤w7.heap.size:=k7.size
  clear x7 k7 o7 g7 t7 kk7;refine hK.out _ _ ⟨c6',c7'⟩ (fun hHeld=>?_);clear hK K;try simp only[Act.put,zA]
  refine wpAnyT_ready (rs:=[13]) (by kernel_rfl) (by simp) ?_;refine AllReadyT.cons rfl (fun K hK=>?_) AllReadyT.nil;refine step_blA rfl (.tmp 43) (.tmp 44) rfl B (.slice ua l1.f.un.length uc) l1.f.un rfl HX7.out.ur ⟨_,0,none⟩ false 1 rfl HR7.out (by omega) (by omega) ?_;intro a8 d8 w8 o8 g8 t8;obtain⟨x8,k8⟩:=fol_u (un':=l1.f.un++ [false]) HX7.out (zF _ _) o8 g8 t8;have HX8:=hide x8
  have HK8:=hide k8
  clear c6' c7' hHeld;have c6':w8.cell? ⟨a,6,none⟩=some (.slice da l1.f.dn.length dc):=(by rw[cell_of x8.blk];rfl)
  have c7':w8.cell? ⟨a,7,none⟩=some (.slice ua l1.f.un.length uc):=(by rw[cell_of x8.blk];rfl)
  have f6:w8.frozen? ⟨a,6,none⟩=false:=frozen_of_row _ _ _ _ _ x8.blk
  have f7:w8.frozen? ⟨a,7,none⟩=false:=frozen_of_row _ _ _ _ _ x8.blk
  have hlt8:a<w8.heap.size:=(Array.getElem?_eq_some_iff.1 x8.blk).1
  clear x8 k8 o8 g8 t8;refine hK.out _ _ ⟨c6',c7'⟩ (fun hHeld=>?_);clear hK K;try simp only[Act.put]
  refine wpAnyT_pure (i:=14) (oi:={dst:=some 46,op:=_,type:=_,pos:=_,after:=_,guard:=_}) (v:=?v37) rfl (by kernel_rfl) (by kernel_rfl) (by kernel_rfl) (fun _ _ _ h=>h) (Or.inl ⟨by kernel_rfl,?y37⟩) (by kernel_rfl) ?r37
  case y37=>(intro w';go_simp;all_goals(with_reducible rfl))
  try simp only[Act.put]
  refine wpAnyT_pure (i:=15) (oi:={dst:=some 47,op:=_,type:=_,pos:=_,after:=_,guard:=_}) (v:=?v38) rfl (by kernel_rfl) (by kernel_rfl) (by kernel_rfl) (fun _ _ _ h=>h) (Or.inl ⟨by kernel_rfl,?y38⟩) (by kernel_rfl) ?r38
  case y38=>(intro w';go_simp;all_goals(with_reducible rfl))
  try simp only[Act.put]
  refine wpAnyT_ready (rs:=[16]) (by kernel_rfl) (by simp) ?_;refine AllReadyT.free rfl (by kernel_rfl) (fun K hK=>?_) AllReadyT.nil;rw[if_pos (by kernel_rfl)]
  go_wp2
  refine hK.out _ _ ?_;clear hK K;try simp only[Act.put,zA,zB,zC]
  refine wpAnyT_pure (i:=17) (oi:={dst:=some 48,op:=_,type:=_,pos:=_,after:=_,guard:=_}) (v:=?v39) rfl (by kernel_rfl) (by kernel_rfl) (by kernel_rfl) (fun _ _ _ h=>h) (Or.inl ⟨by kernel_rfl,?y39⟩) (by kernel_rfl) ?r39
  case y39=>(intro w';go_simp;all_goals(with_reducible rfl))
  try simp only[Act.put,zA,zB,zC]
  refine wpAnyT_pure (i:=18) (oi:={dst:=some 49,op:=_,type:=_,pos:=_,after:=_,guard:=_}) (v:=?v40) rfl (by kernel_rfl) (by kernel_rfl) (by kernel_rfl) (fun _ _ _ h=>h) (Or.inl ⟨by kernel_rfl,?y40⟩) (by kernel_rfl) ?r40
  case y40=>(intro w';go_simp;all_goals(with_reducible rfl))
  try simp only[Act.put,zA,zB,zC]
  refine wpAnyT_ready (rs:=[19]) (by kernel_rfl) (by simp) ?_;refine AllReadyT.free rfl (by kernel_rfl) (fun K hK=>?_) AllReadyT.nil;rw[if_pos (by kernel_rfl)]
  go_wp2
  refine hK.out _ _ ?_;clear hK K;try simp only[Act.put,zA,zB,zC]
  refine wpAnyT_done (by kernel_rfl) ?_ _
  go_wp2
  go_end0
  first
   |(rw[HG.out];exact fol_close HX8.out HK.out HK7.out HK8.out hSa rfl rfl)
   |(rw[HG.out];exact lfol_drew (fol_close HX8.out HK.out HK7.out HK8.out hSa rfl rfl))
end
theorem ints_at{w:World}{na:Option Addr}{x:Int}{l:List Int}(h:Ints w na (x::l)):∃b o,na=some ⟨b,o,none⟩∧∀i v,(x::l)[i]?=some v→w.cell? ⟨b,o+i,none⟩=some (.int .i64 v):=by
 rcases h with h|⟨b,o,h1,h2⟩
 ·cases h
 ·refine⟨b,o,h1,fun i v hv=>?_⟩;have hlt:=(List.getElem?_eq_some_iff.1 hv).1
  rw[h2 i hlt];simp[hv]
section
variable {B:Nat}{S:Nat→Prop}{w:World}{a:Nat}{l:Lk}{sa:Option Addr}{sc:Nat}{da:Option Addr}{dc:Nat}{ua:Option Addr}{uc:Nat}{tp:Option Nat}
theorem lfollow_any(k:LdV B S w a l sa sc da dc ua uc tp){id':Int}(g:GoodL id' l)(hS:∀i,S i→i<w.heap.size){kk:Nat}{n:List Int}(hk:kk≤10)(h0:kk≠0)(f:FitL l kk n)(id:Int){na:Option Addr}{nc:Nat}(hn:Ints w na n)(hnS:∀ad,na=some ad→¬S ad.block):
 Calls Tryz.prog 151 #[.pointer (some ⟨a,0,none⟩),.agg #[.string (kC kk),.int .i64 id,.slice na n.length nc]] w (LFol B S w a (folL l kk n)):=by
 obtain h|h|h|h|h|h|h|h|h|h:kk=1∨kk=2∨kk=3∨kk=4∨kk=5∨kk=6∨kk=7∨kk=8∨kk=9∨kk=10:=by omega
 all_goals subst h
 ·obtain⟨h1,i,x,y,rfl⟩:=f.step rfl;obtain⟨b,o,rfl,hc⟩:=ints_at hn;exact lfol1 k h1 g.dl g.ul id i x y b o nc (hc 1 x rfl) (hc 2 y rfl) (hnS _ rfl) hS
 ·obtain⟨i,rfl,hi⟩:=f.done rfl;obtain⟨b,o,rfl,hc⟩:=ints_at hn;exact lfol2 k id i hi b o nc (hc 0 _ rfl)
 ·obtain rfl:=f.none (.inl rfl);exact lfol3 k id na nc
 ·obtain rfl:=f.none (.inr (.inl rfl));exact lfol4 k id na nc
 ·obtain rfl:=f.none (.inr (.inr (.inl rfl)));exact lfol5 k id na nc
 ·obtain⟨i,rfl,hi⟩:=f.undone rfl;obtain⟨b,o,rfl,hc⟩:=ints_at hn;exact lfol6 k id i hi b o nc (hc 0 _ rfl)
 ·rcases f.node (.inl rfl)with rfl|rfl
  ·obtain⟨b,o,rfl,hc⟩:=ints_at hn;exact lfol7_1 k id b o nc (hc 0 _ rfl) (hnS _ rfl)
  ·obtain⟨b,o,rfl,hc⟩:=ints_at hn;exact lfol7_2 k id b o nc (hc 0 _ rfl) (hnS _ rfl)
 ·rcases f.node (.inr rfl)with rfl|rfl
  ·obtain⟨b,o,rfl,hc⟩:=ints_at hn;exact lfol8_1 k id b o nc (hc 0 _ rfl) (hnS _ rfl)
  ·obtain⟨b,o,rfl,hc⟩:=ints_at hn;exact lfol8_2 k id b o nc (hc 0 _ rfl) (hnS _ rfl)
 ·obtain rfl:=f.none (.inr (.inr (.inr (.inl rfl))));exact lfol9 k id na nc
 ·obtain rfl:=f.none (.inr (.inr (.inr (.inr rfl))));exact lfol10 k id na nc
end
theorem wf_id{id:Int}(h1:1≤id)(h2:id≤999):(Lit.int .i64 id).wf =true:=WalkArith.wf_i64 ⟨by omega,by omega⟩
theorem zeroP(w:World):(zeroValue 97).run Tryz.prog w= .ok (.pointer none) w:=by kernel_rfl
def CStp(B:Nat)(O:Pt→Nat→Prop)(w:World)(p:Nat)(v':Ch)(q b bt:Nat)(loc:Int→Option Nat)(Lq':List ByteArray)(w':World):Prop:=
 ∃O' r' loc',CkV B O' w' p v' q r' b bt loc' Lq'∧(∀i,Eo O' i→growE (Eo O) w w' i)∧Rg.Kept (fun i _=>Eo O i) w w'∧∀id a,loc id=some a→loc' id=some a
def putL(v:Ch)(L:Int→Option Lk):Ch:=⟨v.most,v.room,v.t,v.T,v.su,v.down,L,v.h⟩
theorem kC_begin{k:Nat}(h:k≠0):((kC k).toList == [98,101,103,105,110])=false:=by
 unfold kC
 split
 ·exact absurd rfl h
 all_goals kernel_rfl
section
variable {B:Nat}{O:Pt→Nat→Prop}{w:World}{p:Nat}{v:Ch}{q:Nat}{r:Value}{b bt:Nat}{loc:Int→Option Nat}{Lq:List ByteArray}
theorem CkV.cell3(k:CkV B O w p v q r b bt loc Lq):w.cell? ⟨p,0,none⟩=some (.int .i64 v.most)∧w.cell? ⟨p,1,none⟩=some (.int .i64 v.room)∧w.cell? ⟨p,2,none⟩=some (.pointer (some ⟨q,0,none⟩))∧w.cell? ⟨p,3,none⟩=some (.map (some b))∧w.cell? ⟨p,4,none⟩=some (.pointer (some ⟨bt,0,none⟩)):=by
 refine⟨?_,?_,?_,?_,?_⟩<;>(rw[cell_of k.blk];rfl)
theorem CkV.look(k:CkV B O w p v q r b bt loc Lq){id:Int}(hw:(Lit.int .i64 id).wf =true):(Instr.lookup 92 (.map (some b)) (.int .i64 id) false).run Tryz.prog w= .ok (ptV (loc id)) w:=by
 have h:=k.mp.look (t:=92) (e:=97) Tryz.underlying3 Tryz.underlying92 (z:=none) (zeroP w) hw
 rw[h]
 show Result.ok (ptV _) w=_
 cases loc id<;>rfl
theorem CkV.locIn(k:CkV B O w p v q r b bt loc Lq)(gm:GoodM v.L):∀x a,loc x=some a→1≤x∧x≤999:=fun x a h=>by
 cases e:v.L x with
 |none=>rw[k.no x e]at h;cases h
 |some l=>exact⟨(gm x l e).i1,(gm x l e).i2⟩
theorem st_grow{x:Pt}{u w':World}{i:Nat}(hu:w.heap.size≤u.heap.size)(h:Eo (grO O x u w') i):growE (Eo O) w w' i:=(gr_eo h).imp (fun e=>e) (fun e=>⟨by omega,e.2⟩)
set_option maxRecDepth 100000 in
set_option maxHeartbeats 2000000 in
theorem cfollow_old(k:CkV B O w p v q r b bt loc Lq)(gm:GoodM v.L){e:Et}(f:FitE v.L e)(hk0:e.k≠0){na:Option Addr}{nc:Nat}(hn:Ints w na e.n)(hnE:∀ad,na=some ad→¬Eo O ad.block):
 Calls Tryz.prog 89 #[.pointer (some ⟨p,0,none⟩),.agg #[.string (kC e.k),.int .i64 e.id,.slice na e.n.length nc]] w fun x w'=>(∃y,x= .returned y)∧CStp B O w p (putL v (fol v.L e)) q b bt loc Lq w':=by
 obtain⟨l,hl,fl⟩:=f.old hk0
 obtain⟨a,ha,sa,sc,da,dc,ua,uc,tp,kl⟩:=k.ld e.id l hl
 have hfo:fol v.L e=Gd.updO v.L e.id (some (folL l e.k e.n)):=by unfold fol;rw[if_neg hk0,hl];rfl
 rw[hfo]
 obtain⟨W,hW⟩:∃W,W=w.alloc (.cells #[.string (kC e.k),.int .i64 e.id,.slice na e.n.length nc] 104):=⟨_,rfl⟩
 have hbW:Below w.heap.size w W:=by rw[hW];exact(zF _ _).alloc (zD _) _
 obtain⟨b0,b1,b2⟩:=three_new w (.string (kC e.k)) (.int .i64 e.id) (.slice na e.n.length nc) 104
 rw[←hW]at b0 b1 b2
 have kW:=k.on hbW
 obtain⟨-,-,-,c3,-⟩:=kW.cell3
 have hw:=wf_id f.ok.i1 f.ok.i2
 have hb3:=k.bd
 have LF:Hid (∀u,Below W.heap.size W u→(Instr.lookup 92 (.map (some b)) (.int .i64 e.id) false).run Tryz.prog u= .ok (.pointer (some ⟨a,0,none⟩)) u∧Calls Tryz.prog 151 #[.pointer (some ⟨a,0,none⟩),.agg #[.string (kC e.k),.int .i64 e.id,.slice na e.n.length nc]] u fun x w'=>(∃y,x= .returned y)∧CStp B O w p (putL v (Gd.updO v.L e.id (some (folL l e.k e.n)))) q b bt loc Lq w'∧w'.cell? ⟨p,3,none⟩=some (.map (some b))∧w'.cell? ⟨w.heap.size,0,none⟩=some (.string (kC e.k))∧w'.cell? ⟨w.heap.size,1,none⟩=some (.int .i64 e.id)∧w'.cell? ⟨w.heap.size,2,none⟩=some (.slice na e.n.length nc)):=fun u hu=>by
  have ku:=kW.on hu
  have hwu:=bel_on' hbW hu
  have hL:=ku.look hw
  rw[ha]at hL;refine⟨hL,?_⟩;refine(lfollow_any (kl.on hwu) (gm _ _ hl) (fun i e2=>(ku.bd _ _ e2).2) f.ok.k hk0 fl e.id (hn.below hwu) (fun ad e2 e3=>hnE ad e2 ⟨_,e3⟩)).mono ?_;rintro x w' ⟨h1,h2,h3⟩;have k2:=ku.lstep hl ha h2 h3
  have hE:Rg.Kept (fun i _=>Eo O i) w w':=(zE hwu).trans (h3.mono (fun i _ e2=>⟨_,e2⟩))
  have nw:∀_:Obj,¬O (.ld e.id) w.heap.size:=fun _ e2=>by have:=(hb3 _ _ e2).2;omega
  refine⟨h1,⟨_,r,loc,k2,fun i e2=>st_grow hwu.size e2,hE,fun _ _ h=>h⟩,k2.cell3.2.2.2.1,kept_cellR h3 nw (cellL b0 hu),kept_cellR h3 nw (cellL b1 hu),kept_cellR h3 nw (cellL b2 hu)⟩
 have hK:=kC_begin hk0
 have hL0:=(LF.out W (zF _ _)).1
 have hL1:=(LF.out W.drew (zF _ _).drew).1
 have HW:=hide hW
 generalize kC e.k=K at *
 generalize e.id=ei at *
 generalize e.n.length=en at *
 generalize putL v (Gd.updO v.L ei (some (folL l e.k e.n)))=v' at *
 clear k kW hbW hW f fl hl ha kl hfo hn hnE gm hw hb3
 go_enter Tryz.func89,Tryz.ntmps89
 go_wp2_with fail
 rw[←HW.out]
 go_region_held3(fun w'=>w'.cell? ⟨p,3,none⟩=some (.map (some b))∧w'.cell? ⟨w.heap.size,0,none⟩=some (.string K)∧w'.cell? ⟨w.heap.size,1,none⟩=some (.int .i64 ei)∧w'.cell? ⟨w.heap.size,2,none⟩=some (.slice na en nc)) (go_keep) (first
  |(go_at_call 151;refine((LF.out _ (by first|exact zF _ _|exact(zF _ _).drew)).2).mono ?_;clear LF;rintro x u1 ⟨⟨y,rfl⟩,hx,h1,h2,h3,h4⟩;clear c3 b0 b1 b2;have c3:=h1;have b0:=h2;have b1:=h3;have b2:=h4;have HX:=hide hx;clear hx h1 h2 h3 h4))
 go_wp2
 go_end0
 exact⟨⟨_,rfl⟩,HX.out⟩
theorem newld{B N:Nat}{W U:World}{ei x0 x1 x2 x3:Int}(hU:U.heap[W.heap.size]?=some (.cells #[.int .i64 ei,.int .i64 x0,.int .i64 x1,.int .i64 x2,.int .i64 x3,.slice none 0 0,.slice none 0 0,.slice none 0 0,.bool false,.bool false,.bool false,.bool false,.bool false,.bool false,.bool false,.bool false,.bool false,.pointer none] 145 (0,0)))(hB:B≤W.heap.size)(hN:N≤W.heap.size):Ld B (fun i=>N≤i∧i<U.heap.size) U W.heap.size (newL ei [x0,x1,x2,x3]):=
 ⟨none,0,none,0,none,0,none,hU,hB,World.ownsRow_nil _ _ _ _,World.ownsRow_nil _ _ _ _,World.ownsRow_nil _ _ _ _,(fun _ _ e=>by cases e),.inl ⟨rfl,rfl⟩,⟨hN,(Array.getElem?_eq_some_iff.1 hU).1⟩,(fun _ e=>by cases e),(fun _ e=>by cases e),(fun _ e=>by cases e),fun _ e=>by cases e⟩
set_option maxRecDepth 100000 in
set_option maxHeartbeats 4000000 in
theorem cfollow_new(k:CkV B O w p v q r b bt loc Lq)(gm:GoodM v.L){ei x0 x1 x2 x3:Int}(h1:1≤ei)(h2:ei≤999)(hno:v.L ei=none){nb no nc:Nat}(hn:Ints w (some ⟨nb,no,none⟩) [x0,x1,x2,x3])(hnE:¬Eo O nb):
 Calls Tryz.prog 89 #[.pointer (some ⟨p,0,none⟩),.agg #[.string ⟨#[98,101,103,105,110]⟩,.int .i64 ei,.slice (some ⟨nb,no,none⟩) 4 nc]] w fun x w'=>(∃y,x= .returned y)∧CStp B O w p (putL v (Gd.updO v.L ei (some (newL ei [x0,x1,x2,x3])))) q b bt loc Lq w':=by
 obtain⟨W,hW⟩:∃W,W=w.alloc (.cells #[.string ⟨#[98,101,103,105,110]⟩,.int .i64 ei,.slice (some ⟨nb,no,none⟩) 4 nc] 104):=⟨_,rfl⟩
 have hbW:Below w.heap.size w W:=by rw[hW];exact(zF _ _).alloc (zD _) _
 obtain⟨b0,b1,b2⟩:=three_new w (.string ⟨#[98,101,103,105,110]⟩) (.int .i64 ei) (.slice (some ⟨nb,no,none⟩) 4 nc) 104
 rw[←hW]at b0 b1 b2
 obtain⟨nb',no',hnn,hc⟩:=ints_at hn
 cases hnn
 have n0:=cellL (hc 0 _ rfl) hbW
 have n1:=cellL (hc 1 _ rfl) hbW
 have n2:=cellL (hc 2 _ rfl) hbW
 have n3:=cellL (hc 3 _ rfl) hbW
 simp only[Nat.add_zero]at n0
 have kW:=k.on hbW
 obtain⟨-,-,-,c3,-⟩:=kW.cell3
 obtain⟨U,hU⟩:∃U,U=(W.alloc (.cells #[.int .i64 ei,.int .i64 x0,.int .i64 x1,.int .i64 x2,.int .i64 x3,.slice none 0 0,.slice none 0 0,.slice none 0 0,.bool false,.bool false,.bool false,.bool false,.bool false,.bool false,.bool false,.bool false,.bool false,.pointer none] 145)).drew :=⟨_,rfl⟩
 have hbU:Below W.heap.size W U:=by rw[hU];exact((zF _ _).alloc (zD _) _).drew
 have hbl:U.heap[W.heap.size]?=some (.cells #[.int .i64 ei,.int .i64 x0,.int .i64 x1,.int .i64 x2,.int .i64 x3,.slice none 0 0,.slice none 0 0,.slice none 0 0,.bool false,.bool false,.bool false,.bool false,.bool false,.bool false,.bool false,.bool false,.bool false,.pointer none] 145 (0,0)):=by rw[hU];exact zI W _
 have kU:=kW.on hbU
 obtain⟨w1,hrun,hm,hk⟩:=kU.mp.put (t:=92) (e:=97) Tryz.underlying3 Tryz.underlying92 (wf_id h1 h2) (by omega) (some W.heap.size)
 have hwU:=bel_on' hbW hbU
 obtain⟨ks,hks⟩:=k.mstep hno hwU (newld (ei:=ei) (N:=w.heap.size) hbl (zK k.low hbW.size) hbW.size) hm hk ⟨h1,h2⟩ (k.locIn gm)
 have HX:Hid (CStp B O w p (putL v (Gd.updO v.L ei (some (newL ei [x0,x1,x2,x3])))) q b bt loc Lq w1):=by
  refine⟨_,r,_,ks,fun i e2=>st_grow (zD _) e2,hks.mono (fun i _ e2=>⟨_,e2⟩),fun id a h=>?_⟩;by_cases hi:id=ei
  ·subst hi;rw[k.no _ hno]at h;cases h
  ·rw[Gd.updO_other _ _ hi];exact h
 have hbb:b<w.heap.size:=(k.bd _ _ k.ob).2
 have np:p≠b:=fun e2=>by have:=k.dj _ _ _ k.op (e2▸k.ob);cases this
 have nn:nb≠b:=fun e2=>hnE ⟨_,e2▸k.ob⟩
 have nw:w.heap.size≠b:=by omega
 have d3:=kept_cellR hk (fun _=>np) (cellL c3 hbU)
 have d1:=kept_cellR hk (fun _=>nw) (cellL b1 hbU)
 have d2:=kept_cellR hk (fun _=>nw) (cellL b2 hbU)
 have m0:=kept_cellR hk (fun _=>nn) (cellL n0 hbU)
 have m1:=kept_cellR hk (fun _=>nn) (cellL n1 hbU)
 have m2:=kept_cellR hk (fun _=>nn) (cellL n2 hbU)
 have m3:=kept_cellR hk (fun _=>nn) (cellL n3 hbU)
 have e3:=cellL c3 hbU
 have e1:=cellL b1 hbU
 have e2:=cellL b2 hbU
 have o0:=cellL n0 hbU
 have o1:=cellL n1 hbU
 have o2:=cellL n2 hbU
 have o3:=cellL n3 hbU
 have hrun':(Instr.mapUpdate 92 (.map (some b)) (.int .i64 ei) (.pointer (some ⟨W.heap.size,0,none⟩))).run Tryz.prog U= .ok () w1:=hrun
 rw[hU]at hrun' e3 e1 e2 o0 o1 o2 o3
 have HW:=hide hW
 clear k kW kU hbW hbU hU hbl hm hk hwU ks hks hW hrun hn hnE hc gm hno h1 h2 hbb
 go_enter Tryz.func89,Tryz.ntmps89
 go_wp2_with fail
 rw[←HW.out]
 go_region_held3(fun w'=>w'.cell? ⟨p,3,none⟩=some (.map (some b))∧w'.cell? ⟨w.heap.size,1,none⟩=some (.int .i64 ei)∧w'.cell? ⟨w.heap.size,2,none⟩=some (.slice (some ⟨nb,no,none⟩) 4 nc)∧w'.cell? ⟨nb,no,none⟩=some (.int .i64 x0)∧w'.cell? ⟨nb,no+1,none⟩=some (.int .i64 x1)∧w'.cell? ⟨nb,no+2,none⟩=some (.int .i64 x2)∧w'.cell? ⟨nb,no+3,none⟩=some (.int .i64 x3)) (go_keep) (fail)
 all_goals go_wp2
 all_goals refine bodyPost_ret (results_none rfl _ _ _) rfl ?_
 all_goals exact⟨⟨_,rfl⟩,HX.out⟩
theorem cfollow_any(k:CkV B O w p v q r b bt loc Lq)(gm:GoodM v.L){e:Et}(f:FitE v.L e){na:Option Addr}{nc:Nat}(hn:Ints w na e.n)(hnE:∀ad,na=some ad→¬Eo O ad.block):
 Calls Tryz.prog 89 #[.pointer (some ⟨p,0,none⟩),.agg #[.string (kC e.k),.int .i64 e.id,.slice na e.n.length nc]] w fun x w'=>(∃y,x= .returned y)∧CStp B O w p (putL v (fol v.L e)) q b bt loc Lq w':=by
 by_cases hk0:e.k=0
 ·obtain⟨hno,x0,x1,x2,x3,hen⟩:=f.new hk0;have hfo:fol v.L e=Gd.updO v.L e.id (some (newL e.id e.n)):=by unfold fol;rw[if_pos hk0]
  rw[hfo,hen,hk0];rw[hen]at hn;obtain⟨nb,no,rfl,_⟩:=ints_at hn;exact cfollow_new k gm f.ok.i1 f.ok.i2 hno hn (hnE _ rfl)
 ·exact cfollow_old k gm f hk0 hn hnE
end
section
variable {B:Nat}{S:Nat→Prop}{w:World}{a:Nat}{l:Lk}{sa:Option Addr}{sc:Nat}{da:Option Addr}{dc:Nat}{ua:Option Addr}{uc:Nat}{tp:Option Nat}
theorem cabout_any(k:LdV B S w a l sa sc da dc ua uc tp)(K:ByteArray)(na:Option Addr)(n nc:Nat):Calls Tryz.prog 72 #[.pointer (some ⟨a,0,none⟩),.string K,.slice na n nc] w fun e w'=>e= .returned (.agg #[.string K,.int .i64 l.o.id,.slice na n nc])∧Below w.heap.size w w':=by
 obtain⟨⟨c0,-⟩,-⟩:=k.cells
 have hlt:=k.lt
 generalize l.o.id=id at *
 clear k
 go_enter Tryz.func72,Tryz.ntmps72
 go_wp2
 refine bodyPost_ret (v:= .agg #[.string K,.int .i64 id,.slice na n nc]) ?_ rfl ?_
 ·exact results_cell_row Tryz.results72 _ _ w.heap.size 104 _ (0,0) _ rfl (zI w _) Tryz.underlying104 rfl (by kernel_rfl)
 ·exact⟨rfl,(zF _ _).alloc (zD _) _⟩
end
def RowE(w:World)(E:Nat→Prop)(ra:Option Addr)(es:List Et):Prop:=
 es= []∨∃b o,ra=some ⟨b,o,none⟩∧¬E b∧∀i e,es[i]?=some e→w.cell? ⟨b,o+i*3,none⟩=some (.string (kC e.k))∧w.cell? ⟨b,o+i*3+1,none⟩=some (.int .i64 e.id)∧∃na nc,w.cell? ⟨b,o+i*3+2,none⟩=some (.slice na e.n.length nc)∧Ints w na e.n∧∀ad,na=some ad→¬E ad.block∧ad.block<w.heap.size
theorem RowE.step{w w':World}{E E':Nat→Prop}{ra:Option Addr}{es:List Et}(h:RowE w E ra es)(hk:Rg.Kept (fun i _=>E i) w w')(hE:∀i,E' i→growE E w w' i):RowE w' E' ra es:=by
 rcases h with h|⟨b,o,h1,h2,h3⟩
 ·exact .inl h
 ·cases es with
  |nil=>exact .inl rfl
  |cons e0 es=>
   have hlt:b<w.heap.size:=World.block_lt_of_cell? _ _ (h3 0 e0 rfl).1
   refine .inr ⟨b,o,h1,fun e=>(hE b e).elim h2 (fun e=>by omega),fun i e he=>?_⟩;obtain⟨g1,g2,na,nc,g3,g4,g5⟩:=h3 i e he;refine⟨kept_cellR hk (fun _=>h2) g1,kept_cellR hk (fun _=>h2) g2,na,nc,kept_cellR hk (fun _=>h2) g3,g4.keptR hk (fun ad _ e=>(g5 ad e).1),fun ad e=>⟨fun e2=>(hE _ e2).elim (g5 ad e).1 (fun e2=>by have:=(g5 ad e).2;omega),zJ (g5 ad e).2 hk.size⟩⟩
theorem RowE.get{w:World}{E:Nat→Prop}{ra:Option Addr}{es:List Et}(h:RowE w E ra es){i:Nat}{e:Et}(he:es[i]?=some e):∃b o na nc,ra=some ⟨b,o,none⟩∧¬E b∧w.cell? ⟨b,o+i*3,none⟩=some (.string (kC e.k))∧w.cell? ⟨b,o+i*3+1,none⟩=some (.int .i64 e.id)∧w.cell? ⟨b,o+i*3+2,none⟩=some (.slice na e.n.length nc)∧Ints w na e.n∧∀ad,na=some ad→¬E ad.block∧ad.block<w.heap.size:=by
 rcases h with h|⟨b,o,h1,h2,h3⟩
 ·subst h;cases he
 ·obtain⟨g1,g2,na,nc,g3⟩:=h3 i e he;exact⟨b,o,na,nc,h1,h2,g1,g2,g3⟩
theorem fits_at{L:Int→Option Lk}{es:List Et}(h:Fits22 L es){j:Nat}{e:Et}(he:es[j]?=some e):FitE ((es.take j).foldl fol L) e:=by
 have h1:es=es.take j++e::es.drop (j+1):=by
  have hlt:=(List.getElem?_eq_some_iff.1 he).1
  have h2:=(List.getElem?_eq_some_iff.1 he).2
  rw[←h2,List.getElem_cons_drop,List.take_append_drop]
 rw[h1]at h
 exact(fits_app.1 h).2.1
theorem fols_next{L:Int→Option Lk}{es:List Et}{j:Nat}{e:Et}(he:es[j]?=some e):(es.take (j+1)).foldl fol L=fol ((es.take j).foldl fol L) e:=by
 rw[List.take_add_one,he,List.foldl_append]
 rfl
theorem take_next{es:List Et}{j:Nat}{e:Et}(he:es[j]?=some e):es.take (j+1)=es.take j++ [e]:=by rw[List.take_add_one,he];rfl
def MidS(B:Nat)(O:Pt→Nat→Prop)(w:World)(p:Nat)(v:Ch)(q b bt:Nat)(loc:Int→Option Nat)(es:List Et)(j:Nat)(e:Et)(na:Option Addr)(w':World):Prop:=
 ∃O' r' loc',CkV B O' w' p ⟨v.most,v.room,v.t,v.T++es.take (j+1),v.su,v.down,(es.take j).foldl fol v.L,v.h⟩ q r' b bt loc' ((v.T++es.take (j+1)).map lnC)∧(∀i,Eo O' i→growE (Eo O) w w' i)∧Rg.Kept (fun i _=>Eo O i) w w'∧(∀id a,loc id=some a→loc' id=some a)∧Ints w' na e.n∧∀ad,na=some ad→¬Eo O' ad.block
section
variable {B:Nat}{O:Pt→Nat→Prop}{w:World}{p:Nat}{v:Ch}{q:Nat}{r:Value}{b bt:Nat}{loc:Int→Option Nat}
theorem gr_two{E E' E'':Nat→Prop}{w u x:World}(h1:∀i,E' i→growE E w u i)(h2:∀i,E'' i→growE E' u x i)(hs1:w.heap.size≤u.heap.size)(hs2:u.heap.size≤x.heap.size):∀i,E'' i→growE E w x i:=fun i e=>by
 rcases h2 i e with e|e
 ·rcases h1 i e with e|e
  ·exact .inl e
  ·exact .inr ⟨e.1,by omega⟩
 ·exact .inr ⟨by omega,e.2⟩
theorem kept_two{E E':Nat→Prop}{w u x:World}(h1:∀i,E' i→growE E w u i)(k1:Rg.Kept (fun i _=>E i) w u)(k2:Rg.Kept (fun i _=>E' i) u x):Rg.Kept (fun i _=>E i) w x:=kept_grow k1 (k2.mono (fun i _ e=>h1 i e))
theorem cadd_mid(hd:v.down=false)(hg:∀u,Rg.Kept (fun i _=>Eo O i) w u→Gl u){es:List Et}(hf:Fits22 v.L es){j:Nat}{e:Et}(he:es[j]?=some e)(hroom:(v.T.length:Int)+es.length≤v.room){wr X:World}{na:Option Addr}{nc:Nat}
 (h:CStp B O w p (addC v (es.take j)) q b bt loc ((v.T++es.take j).map lnC) wr) (hX:X=wr.alloc (.cells #[.string (kC e.k),.int .i64 e.id,.slice na e.n.length nc] 104)) (hn:Ints wr na e.n) (hnE:∀O',(∀i,Eo O' i→growE (Eo O) w wr i)→∀ad,na=some ad→¬Eo O' ad.block∧ad.block<wr.heap.size) {u:World} (hu:Below X.heap.size X u):
 Calls Tryz.prog 177 #[.pointer (some ⟨q,0,none⟩),.agg #[.string (kC e.k),.int .i64 e.id,.slice na e.n.length nc]] u fun x w'=>x= .returned (.int .i64 0)∧(w'.cell? ⟨p,2,none⟩=some (.pointer (some ⟨q,0,none⟩))∧w'.cell? ⟨wr.heap.size,0,none⟩=some (.string (kC e.k))∧w'.cell? ⟨wr.heap.size,1,none⟩=some (.int .i64 e.id)∧w'.cell? ⟨wr.heap.size,2,none⟩=some (.slice na e.n.length nc))∧MidS B O w p v q b bt loc es j e na w':=by
 obtain⟨O1,r1,loc1,k1,g1,K1,l1⟩:=h
 have hbX:Below wr.heap.size wr X:=by rw[hX];exact(zF _ _).alloc (zD _) _
 have hbu:=bel_on' hbX hu
 have ku:=k1.on hbu
 obtain⟨b0,b1,b2⟩:=three_new wr (.string (kC e.k)) (.int .i64 e.id) (.slice na e.n.length nc) 104
 rw[←hX]at b0 b1 b2
 have fe:=fits_at hf he
 have hj:=ku.jr
 have hd1:(addC v (es.take j)).down =false:=hd
 rw[hd1]at hj
 have hlt:=(List.getElem?_eq_some_iff.1 he).1
 have hln:((v.T++es.take j).map lnC).length =v.T.length+j:=by simp;omega
 have hmay:=fe.ok.may
 have Ku:Rg.Kept (fun i _=>Eo O i) w u:=K1.trans (zE hbu)
 have A:=add_any hj (kC e.k) e.id na e.n nc (kC_len _) (hn.below hbu) (by have:=fe.ok.n;unfold numsB at this;simp at this;omega) (hg u Ku)
 have e0:addE (addC v (es.take j)).room ((v.T++es.take j).map lnC) false (kC e.k) e.id e.n=0:=by
  unfold addE;rw[if_neg (by decide),if_pos hmay,if_neg];rw[hln];show¬v.room≤_
  omega
 unfold addL at A
 rw[e0,if_pos rfl]at A
 refine A.mono ?_
 rintro x w' ⟨r',h1,h2,h3⟩
 have e1:(v.T++es.take j).map lnC++ [lineV (kC e.k) e.id e.n]=(v.T++es.take (j+1)).map lnC:=by
  rw[take_next he];simp only[List.map_append,List.map_cons,List.map_nil,List.append_assoc];rfl
 rw[e1,←hd1]at h2
 obtain⟨k2,hk2⟩:=ku.jstep (T':=v.T++es.take (j+1)) h2 h3
 have n1:∀_:Obj,¬O1 .jr wr.heap.size:=fun _ e2=>by have:=(k1.bd _ _ e2).2;omega
 have ss:=hbu.size
 refine⟨h1,⟨k2.cell3.2.2.1,kept_cellR hk2 n1 (cellL b0 hu),kept_cellR hk2 n1 (cellL b1 hu),kept_cellR hk2 n1 (cellL b2 hu)⟩,_,r',loc1,k2,?_,?_,l1,(hn.below hbu).keptR hk2 (fun ad _ e2 e3=>(hnE O1 g1 ad e2).1 ⟨_,e3⟩),fun ad e2 e3=>?_⟩
 ·exact gr_two g1 (fun i e2=>st_grow ss e2) K1.size (zK ss hk2.size)
 ·exact kept_two g1 K1 ((zE hbu).trans (hk2.mono (fun i _ e2=>⟨_,e2⟩)))
 ·have h4:=hnE O1 g1 ad e2
  rcases gr_eo e3 with e4|e4
  ·exact h4.1 e4
  ·omega
theorem cfol_mid(gm:GoodM v.L){es:List Et}(hf:Fits22 v.L es){j:Nat}{e:Et}(he:es[j]?=some e){na:Option Addr}{nc:Nat}{u:World}(h:MidS B O w p v q b bt loc es j e na u):
 Calls Tryz.prog 89 #[.pointer (some ⟨p,0,none⟩),.agg #[.string (kC e.k),.int .i64 e.id,.slice na e.n.length nc]] u fun x w'=>(∃y,x= .returned y)∧CStp B O w p (addC v (es.take (j+1))) q b bt loc ((v.T++es.take (j+1)).map lnC) w':=by
 obtain⟨O1,r1,loc1,k1,g1,K1,l1,hn,hnE⟩:=h
 refine(cfollow_any k1 (gm.fols (fits_take hf j)) (fits_at hf he) hn hnE).mono ?_
 rintro x w' ⟨h1,O2,r2,loc2,k2,g2,K2,l2⟩
 refine⟨h1,O2,r2,loc2,?_,gr_two g1 g2 K1.size K2.size,kept_two g1 K1 K2,fun id a h=>l2 id a (l1 id a h)⟩
 have e1:putL ⟨v.most,v.room,v.t,v.T++es.take (j+1),v.su,v.down,(es.take j).foldl fol v.L,v.h⟩ (fol ((es.take j).foldl fol v.L) e)=addC v (es.take (j+1)):=by
  unfold putL addC;rw[fols_next he]
 rw[←e1]
 exact k2
theorem clines_any{Lq:List ByteArray}(k:CkV B O w p v q r b bt loc Lq){u:World}(hu:Below w.heap.size w u):Calls Tryz.prog 150 #[.pointer (some ⟨q,0,none⟩)] u fun e w'=>∃a c,e= .returned (.slice a Lq.length c)∧Below w.heap.size w w':=by
 refine(lines_any (k.on hu).jr).mono ?_
 rintro e w' ⟨a,c,h1,_,h3⟩
 exact⟨a,c,h1,bel_on' hu h3⟩
set_option maxRecDepth 100000 in
set_option maxHeartbeats 2000000 in
theorem cnote_no(k:CkV B O w p v q r b bt loc (v.T.map lnC)){es:List Et}(hT:v.T.length≤4096)(hes:es.length≤10)(hr:roomC v es.length=false)(ra:Option Addr)(rc:Nat):
 Calls Tryz.prog 133 #[.pointer (some ⟨p,0,none⟩),.slice ra es.length rc] w fun e w'=>e= .returned (.int .i64 5)∧Below w.heap.size w w':=by
 obtain⟨-,c1,c2,-,-⟩:=k.cell3
 have LN:Hid (∀u,Below w.heap.size w u→Calls Tryz.prog 150 #[.pointer (some ⟨q,0,none⟩)] u fun e w'=>∃a c,e= .returned (.slice a v.T.length c)∧Below w.heap.size w w'∧w'.cell? ⟨p,1,none⟩=some (.int .i64 v.room)∧w'.cell? ⟨p,2,none⟩=some (.pointer (some ⟨q,0,none⟩))):=fun u hu=>by
  refine(clines_any k hu).mono ?_;rintro e w' ⟨a,c,h1,h2⟩;rw[List.length_map]at h1;exact⟨a,c,h1,h2,cellL c1 h2,cellL c2 h2⟩
 have h1:(v.T.length:Int)+(es.length:Int)>v.room:=by unfold roomC at hr;simp at hr;omega
 generalize v.T.length=tl at *
 generalize v.room=rm at *
 generalize es.length=el at *
 have hwr:IntKind.i64.wrap ((tl:Int)+(el:Int))=(tl:Int)+(el:Int):=IntWalk.i64_in _ (by omega)
 clear k hr
 go_enter Tryz.func133,Tryz.ntmps133
 go_wp2_with fail
 go_region_held3(fun w'=>w'.cell? ⟨p,1,none⟩=some (.int .i64 rm)∧w'.cell? ⟨p,2,none⟩=some (.pointer (some ⟨q,0,none⟩))) (go_keep) (first
  |(go_at_call 150;refine(LN.out _ (by first|exact zF _ _|exact(zF _ _).drew)).mono ?_;clear LN;rintro e u1 ⟨la,lc,rfl,hb,h2,h3⟩;clear c1 c2;have c1:=h2;have c2:=h3;have HB:=hide hb;clear hb h2 h3))
 go_wp2
 go_ret
 exact⟨rfl,HB.out⟩
set_option maxRecDepth 100000 in
set_option maxHeartbeats 4000000 in
theorem cnote_yes(k:CkV B O w p v q r b bt loc (v.T.map lnC))(hd:v.down=false)(gm:GoodM v.L)(hg:∀u,Rg.Kept (fun i _=>Eo O i) w u→Gl u){es:List Et}(hf:Fits22 v.L es)(hT:v.T.length≤4096)(hes:es.length≤10)(hr:roomC v es.length=true){ra:Option Addr}{rc:Nat}(hR:RowE w (Eo O) ra es):
 Calls Tryz.prog 133 #[.pointer (some ⟨p,0,none⟩),.slice ra es.length rc] w fun e w'=>e= .returned (.int .i64 0)∧CStp B O w p (addC v es) q b bt loc ((v.T++es).map lnC) w':=by
 obtain⟨-,c1,c2,-,-⟩:=k.cell3
 have LN:Hid (∀u,Below w.heap.size w u→Calls Tryz.prog 150 #[.pointer (some ⟨q,0,none⟩)] u fun e w'=>∃a c,e= .returned (.slice a v.T.length c)∧Below w.heap.size w w'∧w'.cell? ⟨p,1,none⟩=some (.int .i64 v.room)∧w'.cell? ⟨p,2,none⟩=some (.pointer (some ⟨q,0,none⟩))):=fun u hu=>by
  refine(clines_any k hu).mono ?_;rintro e w' ⟨a,c,h1,h2⟩;rw[List.length_map]at h1;exact⟨a,c,h1,h2,cellL c1 h2,cellL c2 h2⟩
 have hroom:=roomC_of hr
 have h1:¬(v.T.length:Int)+(es.length:Int)>v.room:=by omega
 have ST:Hid (∀u,Below w.heap.size w u→CStp B O w p (addC v (es.take 0)) q b bt loc ((v.T++es.take 0).map lnC) u):=fun u hu=>by
  have e1:addC v (es.take 0)=v:=by unfold addC;simp
  rw[e1,List.take_zero,List.append_nil];exact⟨O,r,loc,k.on hu,fun i e=> .inl e,zE hu,fun _ _ h=>h⟩
 have RW:Hid (∀u O',(∀i,Eo O' i→growE (Eo O) w u i)→Rg.Kept (fun i _=>Eo O i) w u→RowE u (Eo O') ra es):=fun u O' h1 h2=>hR.step h2 h1
 have AD:Hid (∀(j:Nat)(e:Et),es[j]?=some e→∀(wr X:World)(na:Option Addr)(nc:Nat),CStp B O w p (addC v (es.take j)) q b bt loc ((v.T++es.take j).map lnC) wr→X=wr.alloc (.cells #[.string (kC e.k),.int .i64 e.id,.slice na e.n.length nc] 104)→Ints wr na e.n→(∀O',(∀i,Eo O' i→growE (Eo O) w wr i)→∀ad,na=some ad→¬Eo O' ad.block∧ad.block<wr.heap.size)→∀u,Below X.heap.size X u→
  Calls Tryz.prog 177 #[.pointer (some ⟨q,0,none⟩),.agg #[.string (kC e.k),.int .i64 e.id,.slice na e.n.length nc]] u fun x w'=>x= .returned (.int .i64 0)∧(w'.cell? ⟨p,2,none⟩=some (.pointer (some ⟨q,0,none⟩))∧w'.cell? ⟨wr.heap.size,0,none⟩=some (.string (kC e.k))∧w'.cell? ⟨wr.heap.size,1,none⟩=some (.int .i64 e.id)∧w'.cell? ⟨wr.heap.size,2,none⟩=some (.slice na e.n.length nc))∧MidS B O w p v q b bt loc es j e na w'):=fun j e he wr X na nc h hX hn hnE u hu=>cadd_mid hd hg hf he hroom h hX hn hnE hu
 have FO:Hid (∀(j:Nat)(e:Et),es[j]?=some e→∀(na:Option Addr)(nc:Nat)(u:World),MidS B O w p v q b bt loc es j e na u→Calls Tryz.prog 89 #[.pointer (some ⟨p,0,none⟩),.agg #[.string (kC e.k),.int .i64 e.id,.slice na e.n.length nc]] u fun x w'=>(∃y,x= .returned y)∧CStp B O w p (addC v (es.take (j+1))) q b bt loc ((v.T++es.take (j+1)).map lnC) w'):=fun j e he na nc u h=>cfol_mid gm hf he h
 obtain⟨tl,htl⟩:∃tl,v.T.length=tl:=⟨_,rfl⟩
 obtain⟨rm,hrm⟩:∃rm,v.room=rm:=⟨_,rfl⟩
 rw[htl]at LN hT h1
 rw[hrm]at LN h1 c1
 have hwr:IntKind.i64.wrap ((tl:Int)+(es.length:Int))=(tl:Int)+(es.length:Int):=IntWalk.i64_in _ (by omega)
 clear k hd gm hg hf hr hR hroom htl hrm
 go_enter Tryz.func133,Tryz.ntmps133
 go_wp2_with fail
 go_region_held3(fun w'=>w'.cell? ⟨p,1,none⟩=some (.int .i64 rm)∧w'.cell? ⟨p,2,none⟩=some (.pointer (some ⟨q,0,none⟩))) (go_keep) (first
  |(go_at_call 150;refine(LN.out _ (by first|exact zF _ _|exact(zF _ _).drew)).mono ?_;clear LN;rintro e u1 ⟨la,lc,rfl,hb,h2,h3⟩;clear c1 c2;have c1:=h2;have c2:=h3;have HB:=hide hb;clear hb h2 h3))
 have HS0:=hide (ST.out u1 HB.out)
 clear ST HB c1 c2
 go_wp2_with fail
 go_loopw [24] (fun i wr=>∃j:Nat,i= .int .i64 j∧j≤es.length∧Hid (CStp B O w p (addC v (es.take j)) q b bt loc ((v.T++es.take j).map lnC) wr)) (fun i _=>es.length-(Go.RowKit.intOf i).toNat)
 case atStart=>exact⟨0,rfl,Nat.zero_le _,HS0⟩
 case round=>
  obtain⟨j,rfl,hj,HS⟩:=hrel;clear HS0;by_cases hlt:j<es.length
  ·obtain⟨e,he⟩:∃e,es[j]?=some e:=⟨_,List.getElem?_eq_getElem hlt⟩
   obtain⟨O1,r1,loc1,k1,g1,K1,l1⟩:=id HS.out;obtain⟨rb,ro,na,nc,rfl,hrb,x0,x1,x2,x3,x4⟩:=(RW.out wr O1 g1 K1).get he;obtain⟨-,-,c2,-,-⟩:=k1.cell3;have hrl:rb<wr.heap.size:=World.block_lt_of_cell? _ _ x0
   have hpl:p<wr.heap.size:=(k1.bd _ _ k1.op).2
   have hnE:∀O',(∀i,Eo O' i→growE (Eo O) w wr i)→∀ad,na=some ad→¬Eo O' ad.block∧ad.block<wr.heap.size:=fun O' h' ad h2=>by
    obtain⟨rb',ro',na',nc',h3,h4,y0,y1,y2,y3,y4⟩:=(RW.out wr O' h' K1).get he;cases h3;rw[x2]at y2;cases y2;exact y4 ad h2
   obtain⟨X,hX⟩:∃X,X=wr.alloc (.cells #[.string (kC e.k),.int .i64 e.id,.slice na e.n.length nc] 104):=⟨_,rfl⟩
   have AX:=hide (AD.out j e he wr X na nc HS.out hX x3 hnE)
   have FX:=hide (FO.out j e he na nc)
   have hbX:Below wr.heap.size wr X:=by rw[hX];exact(zF _ _).alloc (zD _) _
   obtain⟨d0,d1,d2⟩:=three_new wr (.string (kC e.k)) (.int .i64 e.id) (.slice na e.n.length nc) 104;rw[←hX]at d0 d1 d2;have d3:=cellL c2 hbX
   have HXX:=hide hX
   have ql:(j:Int)<(es.length:Int):=by omega
   clear AD FO RW k1 g1 K1 l1 hrb x3 x4 hnE hX hbX he;generalize kC e.k=K at *;generalize e.id=ei at *;generalize e.n.length=en at *
   go_wp2_with fail
   rw[←HXX.out]
   go_region_held3(fun w'=>w'.cell? ⟨p,2,none⟩=some (.pointer (some ⟨q,0,none⟩))∧w'.cell? ⟨wr.heap.size,0,none⟩=some (.string K)∧w'.cell? ⟨wr.heap.size,1,none⟩=some (.int .i64 ei)∧w'.cell? ⟨wr.heap.size,2,none⟩=some (.slice na en nc)) (go_keep) (first
    |(go_at_call 177;refine(AX.out _ (by first|exact zF _ _|exact(zF _ _).drew)).mono ?_;clear AX;rintro x u2 ⟨rfl,⟨h2,h3,h4,h5⟩,h6⟩;clear d0 d1 d2 d3;have d3:=h2;have d0:=h3;have d1:=h4;have d2:=h5;have F2:=FX.out u2 h6;clear h2 h3 h4 h5 h6 FX))
   go_wp2_with(go_at_call 89;refine F2.mono ?_;clear F2;rintro x u3 ⟨⟨y,rfl⟩,hx⟩;have HN:=hide hx;clear hx)
   go_roundw
   case rel=>exact⟨j+1,by go_num,by omega,HN⟩
   case measure=>simp[Go.RowKit.intOf];omega
  ·have hje:j=es.length:=by omega
   subst hje;have HF:Hid (CStp B O w p (addC v es) q b bt loc ((v.T++es).map lnC) wr):=by have:=HS.out;rwa [List.take_length]at this
   have ql:¬(es.length:Int)<(es.length:Int):=by omega
   clear AD FO RW
   go_wp2
   go_ret
   exact⟨rfl,by have:=HF.out;simpa only[List.map_append]using this⟩
theorem csync_any{v1:Ch}(hd:v1.down=false){u:World}(h:CStp B O w p v1 q b bt loc (v1.T.map lnC) u):
 u.cell? ⟨p,2,none⟩=some (.pointer (some ⟨q,0,none⟩))∧Calls Tryz.prog 134 #[.pointer (some ⟨q,0,none⟩)] u fun e w'=>e= .returned (.int .i64 0)∧CStp B O w p ⟨v1.most,v1.room,v1.t,v1.T,v1.T.length,v1.down,v1.L,v1.h⟩ q b bt loc (v1.T.map lnC) w':=by
 obtain⟨O1,r1,loc1,k1,g1,K1,l1⟩:=h
 refine⟨k1.cell3.2.2.1,?_⟩
 have hj:=k1.jr
 rw[hd]at hj
 refine(sync_up hj).mono ?_
 rintro e w' ⟨h1,h2,h3⟩
 rw[List.length_map,←hd]at h2
 obtain⟨k2,hk2⟩:=k1.jstep (T':=v1.T) h2 h3
 exact⟨h1,_,r1,loc1,k2,gr_two g1 (fun i e2=>gr_eo e2) K1.size hk2.size,kept_two g1 K1 (hk2.mono (fun i _ e2=>⟨_,e2⟩)),l1⟩
theorem csure_no(k:CkV B O w p v q r b bt loc (v.T.map lnC)){es:List Et}(hT:v.T.length≤4096)(hes:es.length≤10)(hr:roomC v es.length=false)(ra:Option Addr)(rc:Nat):
 Calls Tryz.prog 57 #[.pointer (some ⟨p,0,none⟩),.slice ra es.length rc] w fun e w'=>e= .returned (.int .i64 5)∧Below w.heap.size w w':=by
 have N:=cnote_no k hT hes hr ra rc
 generalize es.length=el at *
 clear k hr
 go_enter Tryz.func57,Tryz.ntmps57
 go_wp2_with(go_at_call 133;refine N.mono ?_;clear N;rintro e u ⟨rfl,hb⟩;have HB:=hide hb;clear hb)
 go_ret
 exact⟨rfl,HB.out⟩
theorem csure_yes(k:CkV B O w p v q r b bt loc (v.T.map lnC))(hd:v.down=false)(gm:GoodM v.L)(hg:∀u,Rg.Kept (fun i _=>Eo O i) w u→Gl u){es:List Et}(hf:Fits22 v.L es)(hT:v.T.length≤4096)(hes:es.length≤10)(hr:roomC v es.length=true){ra:Option Addr}{rc:Nat}(hR:RowE w (Eo O) ra es):
 Calls Tryz.prog 57 #[.pointer (some ⟨p,0,none⟩),.slice ra es.length rc] w fun e w'=>e= .returned (.int .i64 0)∧CStp B O w p (sureC v es) q b bt loc ((v.T++es).map lnC) w':=by
 have N:=cnote_yes (rc:=rc) k hd gm hg hf hT hes hr hR
 have SY:Hid (∀u,CStp B O w p (addC v es) q b bt loc ((v.T++es).map lnC) u→u.cell? ⟨p,2,none⟩=some (.pointer (some ⟨q,0,none⟩))∧Calls Tryz.prog 134 #[.pointer (some ⟨q,0,none⟩)] u fun e w'=>e= .returned (.int .i64 0)∧CStp B O w p (sureC v es) q b bt loc ((v.T++es).map lnC) w'):=fun u h=>by
  have:=csync_any (v1:=addC v es) hd h
  have e1:(⟨(addC v es).most,(addC v es).room,(addC v es).t,(addC v es).T,(addC v es).T.length,(addC v es).down,(addC v es).L,(addC v es).h⟩:Ch)=sureC v es:=by
   unfold addC sureC;simp
  rw[e1]at this;exact this
 generalize es.length=el at *
 clear k hd gm hg hf hr hR
 go_enter Tryz.func57,Tryz.ntmps57
 go_wp2_with(first
  |(go_at_call 133;refine N.mono ?_;clear N;rintro e u ⟨rfl,hx⟩;obtain⟨c2,S2⟩:=SY.out u hx;clear hx SY)
  |(go_at_call 134;refine S2.mono ?_;clear S2;rintro e u2 ⟨rfl,hx⟩;have HX:=hide hx;clear hx))
 go_ret
 exact⟨rfl,by have:=HX.out;simpa only[List.map_append]using this⟩
theorem rowe_one{E:Nat→Prop}{u X:World}{K:ByteArray}{id:Int}{na:Option Addr}{nc:Nat}{e:Et}(hX:X.heap[u.heap.size]?=some (.cells #[.string K,.int .i64 id,.slice na e.n.length nc] 104 (0,0)))(hK:K=kC e.k)(hid:id=e.id)(hE:∀i,E i→i<u.heap.size)(hn:Ints X na e.n)(hnE:∀ad,na=some ad→¬E ad.block∧ad.block<X.heap.size):RowE X E (some ⟨u.heap.size,0,none⟩) [e]:=by
 subst hK hid
 refine .inr ⟨u.heap.size,0,rfl,fun h=>by have:=hE _ h;omega,fun i e' he=>?_⟩
 match i,he with
 |0,he=>
  simp at he;subst he;refine⟨by rw[cell_of hX];rfl,by rw[cell_of hX];rfl,na,nc,by rw[cell_of hX];rfl,hn,hnE⟩
 |i+1,he=>simp at he
end
structure Up (B:Nat) (O:Pt→Nat→Prop) (w:World) (p:Nat) (v:Ch) (q:Nat) (r:Value) (b bt:Nat) (loc:Int→Option Nat):Prop where
 k:CkV B O w p v q r b bt loc (v.T.map lnC)
 g:GoodCh v
 d:v.down=false
def UStp(B:Nat)(O:Pt→Nat→Prop)(w:World)(p:Nat)(v':Ch)(q b bt:Nat)(loc:Int→Option Nat)(w':World):Prop:=
 ∃O' r' loc',Up B O' w' p v' q r' b bt loc'∧(∀i,Eo O' i→growE (Eo O) w w' i)∧Rg.Kept (fun i _=>Eo O i) w w'∧∀id a,loc id=some a→loc' id=some a
section
variable {B:Nat}{O:Pt→Nat→Prop}{w w' X:World}{p:Nat}{v v':Ch}{q:Nat}{r:Value}{b bt:Nat}{loc:Int→Option Nat}
theorem Up.on(h:Up B O w p v q r b bt loc)(hb:Below w.heap.size w w'):Up B O w' p v q r b bt loc:=⟨h.k.on hb,h.g,h.d⟩
theorem Up.len(h:Up B O w p v q r b bt loc):v.T.length≤4096:=by have:=h.g.len;have:=h.g.r2;omega
theorem Up.stay(h:Up B O w p v q r b bt loc)(hb:Below w.heap.size w w'):UStp B O w p v q b bt loc w':=⟨O,r,loc,h.on hb,fun _ e=> .inl e,zE hb,fun _ _ h=>h⟩
theorem CStp.up(h:CStp B O w p v' q b bt loc (v'.T.map lnC) w')(g:GoodCh v')(d:v'.down=false):UStp B O w p v' q b bt loc w':=by
 obtain⟨O1,r1,loc1,k1,g1,K1,l1⟩:=h
 exact⟨O1,r1,loc1,⟨k1,g,d⟩,g1,K1,l1⟩
theorem UStp.from(hb:Below w.heap.size w X)(h:UStp B O X p v' q b bt loc w'):UStp B O w p v' q b bt loc w':=by
 obtain⟨O1,r1,loc1,k1,g1,K1,l1⟩:=h
 exact⟨O1,r1,loc1,k1,fun i e=>(g1 i e).imp (fun e=>e) (fun e=>⟨zK hb.size e.1,e.2⟩),(zE hb).trans K1,l1⟩
theorem fit_led(h:GoodCh v){id:Int}{l:Lk}(hl:v.L id=some l){kk:Nat}{n:List Int}(hk:kk≤10)(h0:kk≠0)(hn:numsB n=true)(f:FitL l kk n):Fits22 v.L [⟨kk,l.o.id,n⟩]:=by
 have g:=h.gm id l hl
 refine⟨⟨⟨by rw[g.oid];exact g.i1,by rw[g.oid];exact g.i2,hk,hn⟩,fun e=>absurd e h0,fun _=>⟨l,by show v.L l.o.id=_;rw[g.oid];exact hl,f⟩⟩,trivial⟩
theorem fit_none{l:Lk}{kk:Nat}(h:kk=3∨kk=4∨kk=5∨kk=9∨kk=10):FitL l kk []:=
 ⟨fun e=>by omega,fun e=>by omega,fun e=>by omega,fun e=>by omega,fun _=>rfl⟩
theorem Up.note1(h:Up B O w p v q r b bt loc)(hg:∀u,Rg.Kept (fun i _=>Eo O i) w u→Gl u){e:Et}(hf:Fits22 v.L [e]){ra:Option Addr}{rc:Nat}(hR:RowE w (Eo O) ra [e]):
 Calls Tryz.prog 133 #[.pointer (some ⟨p,0,none⟩),.slice ra 1 rc] w fun x w'=>x= .returned (.int .i64 (noE v 1))∧UStp B O w p (noteS v [e]) q b bt loc w':=by
 unfold noE noteS
 cases hr:roomC v 1
 ·rw[if_neg (by decide),if_neg (by decide)];exact(cnote_no (es:=[e]) h.k h.len (by simp) hr ra rc).mono (fun x w' ⟨h1,h2⟩=>⟨h1,h.stay h2⟩)
 ·rw[if_pos rfl,if_pos rfl];exact(cnote_yes (es:=[e]) (rc:=rc) h.k h.d h.g.gm hg hf h.len (by simp) hr hR).mono (fun x w' ⟨h1,h2⟩=>⟨h1,h2.up (addC_good h.g h.d hf hr).1 h.d⟩)
theorem Up.sure1(h:Up B O w p v q r b bt loc)(hg:∀u,Rg.Kept (fun i _=>Eo O i) w u→Gl u){e:Et}(hf:Fits22 v.L [e]){ra:Option Addr}{rc:Nat}(hR:RowE w (Eo O) ra [e]):
 Calls Tryz.prog 57 #[.pointer (some ⟨p,0,none⟩),.slice ra 1 rc] w fun x w'=>x= .returned (.int .i64 (noE v 1))∧UStp B O w p (sureS v [e]) q b bt loc w':=by
 unfold noE sureS
 cases hr:roomC v 1
 ·rw[if_neg (by decide),if_neg (by decide)];exact(csure_no (es:=[e]) h.k h.len (by simp) hr ra rc).mono (fun x w' ⟨h1,h2⟩=>⟨h1,h.stay h2⟩)
 ·rw[if_pos rfl,if_pos rfl];exact(csure_yes (es:=[e]) (rc:=rc) h.k h.d h.g.gm hg hf h.len (by simp) hr hR).mono (fun x w' ⟨h1,h2⟩=>⟨h1,h2.up (addC_good h.g h.d hf hr).2 h.d⟩)
theorem noE_two(v:Ch)(n:Nat):(noE v n=0∧roomC v n=true)∨(noE v n=5∧roomC v n=false):=by
 unfold noE
 cases h:roomC v n
 ·exact .inr ⟨rfl,rfl⟩
 ·exact .inl ⟨rfl,rfl⟩
theorem Up.row1(h:Up B O w p v q r b bt loc){u:World}(hu:Below w.heap.size w u)(K:ByteArray){e:Et}(hK:K=kC e.k){na:Option Addr}{nc:Nat}(hX:X=u.alloc (.cells #[.string K,.int .i64 e.id,.slice na e.n.length nc] 104))(hn:Ints u na e.n)(hnE:∀ad,na=some ad→¬Eo O ad.block∧ad.block<u.heap.size):Below w.heap.size w X∧RowE X (Eo O) (some ⟨u.heap.size,0,none⟩) [e]:=by
 have hb:Below u.heap.size u X:=by rw[hX];exact(zF _ _).alloc (zD _) _
 have hx:X.heap[u.heap.size]?=some (.cells #[.string K,.int .i64 e.id,.slice na e.n.length nc] 104 (0,0)):=by rw[hX];exact zI u _
 exact⟨bel_on' hu hb,rowe_one hx hK rfl (fun i ⟨y,e2⟩=>zJ (h.k.bd y i e2).2 hu.size) (hn.below hb) (fun ad e2=>⟨(hnE ad e2).1,zJ (hnE ad e2).2 hb.size⟩)⟩
set_option maxRecDepth 100000 in
set_option maxHeartbeats 1000000 in
theorem casks_any(h:Up B O w p v q r b bt loc)(hg:∀u,Rg.Kept (fun i _=>Eo O i) w u→Gl u){id:Int}{l:Lk}{a:Nat}(hl:v.L id=some l)(ha:loc id=some a):
 Calls Tryz.prog 145 #[.pointer (some ⟨p,0,none⟩),.pointer (some ⟨a,0,none⟩)] w fun e w'=>e= .returned (.bool (l.f.asked||roomC v 1))∧UStp B O w p (if l.f.asked=true then v else noteS v [askE l.o.id]) q b bt loc w':=by
 obtain⟨a',ha',sa,sc,da,dc,ua,uc,tp,kl⟩:=h.k.ld id l hl
 rw[ha]at ha'
 cases ha'
 have c8:=kl.cells.2.2.2.1
 cases hq:l.f.asked
 ·rw[hq]at c8;have hf:Fits22 v.L [askE l.o.id]:=fit_led h.g hl (by decide) (by decide) rfl (fit_none (.inl rfl))
  have AB:=cabout_any kl ⟨#[97,115,107,101,100]⟩ none 0 0
  have NT:Hid (∀u,Below w.heap.size w u→∀X,X=u.alloc (.cells #[.string ⟨#[97,115,107,101,100]⟩,.int .i64 l.o.id,.slice none 0 0] 104)→Calls Tryz.prog 133 #[.pointer (some ⟨p,0,none⟩),.slice (some ⟨u.heap.size,0,none⟩) 1 1] X fun x w'=>x= .returned (.int .i64 (noE v 1))∧UStp B O w p (noteS v [askE l.o.id]) q b bt loc w'):=fun u hu X hX=>by
   obtain⟨h1,h2⟩:=h.row1 hu ⟨#[97,115,107,101,100]⟩ (e:=askE l.o.id) rfl (na:=none) (nc:=0) hX (.inl rfl) (fun ad e=>by cases e);refine((h.on h1).note1 (fun u' hk=>hg u' ((zE h1).trans hk)) hf h2).mono ?_;rintro x w' ⟨h3,h4⟩;exact⟨h3,h4.from h1⟩
  rw[if_neg (by decide),Bool.false_or];generalize noteS v [askE l.o.id]=v2 at *;clear hf kl hg hl ha;rcases noE_two v 1 with⟨e1,e2⟩|⟨e1,e2⟩
  all_goals rw[e2]
  all_goals rw[e1]at NT
  all_goals clear h e1 e2
  all_goals go_enter Tryz.func145,Tryz.ntmps145
  all_goals go_wp2_with(first
   |(go_at_call 72;refine AB.mono ?_;clear AB;rintro e u ⟨rfl,hb⟩;have N2:=NT.out u hb _ rfl;clear hb NT)
   |(go_at_call 133;refine N2.mono ?_;clear N2;rintro e u2 ⟨rfl,hx⟩;have HX:=hide hx;clear hx))
  all_goals go_ret
  all_goals exact⟨rfl,HX.out⟩
 ·rw[hq]at c8;have HX:=hide (h.stay (zF _ _))
  rw[if_pos rfl,Bool.true_or];clear h kl hg hl ha;go_enter Tryz.func145,Tryz.ntmps145
  go_wp2
  go_ret
  exact⟨rfl,HX.out⟩
end
end Go.Proofs.YthfgmpooehkhgaaGreatDoor
namespace Go.Proofs.YthfgmpooehkhgaaGreatDoor
open Go.RowKit Sg Bl
theorem runS_cons(g:Int×Int→List Mg×Bool)(x:Int×Int)(l:List (Int×Int))(acc:List Mg):runS g (x::l) acc=if(g x).2 then acc++(g x).1 else runS g l (acc++(g x).1):=rfl
theorem runS_all{P:Mg→Prop}{g:Int×Int→List Mg×Bool}:∀(l:List (Int×Int))(acc:List Mg),(∀x∈l,∀m∈(g x).1,P m)→(∀m∈acc,P m)→∀m∈runS g l acc,P m
 | [],acc,_,h=>h
 |x::l,acc,hg,h=>by
  have h1:∀m∈acc++(g x).1,P m:=fun m hm=>by
   rcases List.mem_append.1 hm with hm|hm
   ·exact h m hm
   ·exact hg x (by simp) m hm
  unfold runS;split
  ·exact h1
  ·exact runS_all l _ (fun y hy=>hg y (by simp[hy])) h1
theorem decL_k{o:Od}{f:Fa}{k:Int}:∀m∈decL o f k,m.k=k:=by
 intro m hm
 unfold decL at hm
 rcases List.mem_append.1 hm with hm|hm
 all_goals split at hm
 all_goals first
  |cases hm;done
  |(rw[List.mem_singleton]at hm;rw[hm];rfl)
theorem decL_len(o:Od)(f:Fa)(k:Int):(decL o f k).length ≤2:=by
 unfold decL
 cases f.k0<;>cases f.k1<;>simp
theorem runS_do(o:Od)(f:Fa)(rest:List (Int×Int)):∀l:List (Int×Int),(∀x∈l,x.1=1)→(∃i,runS (fwdS o f) (l++rest) []= [doM o i])∨runS (fwdS o f) (l++rest) []=runS (fwdS o f) rest []
 | [],_=> .inr rfl
 |x::l,h=>by
  have h1:=h x (by simp)
  show(∃i,runS (fwdS o f) (x::(l++rest)) []= [doM o i])∨runS (fwdS o f) (x::(l++rest)) []=_
  rw[runS_cons];have e:fwdS o f x=if f.dn.getD x.2.toNat false then([],false)else([doM o x.2.toNat],true):=by unfold fwdS;rw[if_pos h1]
  rw[e];cases f.dn.getD x.2.toNat false
  ·exact .inl ⟨_,rfl⟩
  ·exact runS_do o f rest l (fun y hy=>h y (by simp[hy]))
theorem doL_one:∀(k j:Nat),∀x∈doL j k,x.1=1
 |0,_,x,h=>by cases h
 |k+1,j,x,h=>by
  rw[doL]at h;rcases List.mem_cons.1 h with rfl|h
  ·rfl
  ·exact doL_one k _ x h
theorem undoL_four:∀(k:Nat),∀x∈undoL k,x.1=4
 |0,x,h=>by cases h
 |k+1,x,h=>by
  rw[undoL]at h;rcases List.mem_cons.1 h with rfl|h
  ·rfl
  ·exact undoL_four k x h
theorem runS_undo(o:Od)(f:Fa):∀(l:List (Int×Int))(acc:List Mg),(∀x∈l,x.1=4)→(runS (bckS o f) l acc).length ≤acc.length+1
 | [],acc,_=>by simp[runS]
 |x::l,acc,h=>by
  have h1:=h x (by simp)
  unfold runS;have e:bckS o f x=if f.un.getD x.2.toNat false then([],false)else([undoM o x.2.toNat],true):=by unfold bckS;rw[if_neg (by omega),if_pos h1]
  rw[e];cases f.un.getD x.2.toNat false
  ·simp
  ·have:=runS_undo o f l (acc++ []) (fun y hy=>h y (by simp[hy]))
   simpa using this
theorem next_shape(o:Od)(f:Fa):(nextF o f=prepL o∨∀m∈nextF o f,m.k≠6)∧(nextF o f).length ≤3:=by
 unfold nextF
 split
 ·exact⟨.inr (fun m h=>by cases h),by simp⟩
 ·split
  ·unfold Sg.backL;split
   ·refine⟨.inr (runS_all _ _ (fun x hx m hm=>?_) (fun m h=>by cases h)),?_⟩
    ·rcases List.mem_cons.1 hx with rfl|hx
     ·have:(bckS o f (10,0)).1 =decL o f 10:=rfl
      rw[this]at hm;rw[decL_k m hm];decide
     ·have h4:=undoL_four _ x hx
      unfold bckS at hm;rw[if_neg (by omega),if_pos h4]at hm;split at hm
      ·cases hm
      ·have hm2:m∈[undoM o x.2.toNat]:=hm
       rw[List.mem_singleton]at hm2;rw[hm2];show(4:Int)≠6
       decide
    ·show(runS (bckS o f) ((10,0)::undoL o.steps.length) []).length ≤3
     have e:runS (bckS o f) ((10,0)::undoL o.steps.length) []=runS (bckS o f) (undoL o.steps.length) ([]++decL o f 10):=rfl
     rw[e];have h1:=runS_undo o f (undoL o.steps.length) ([]++decL o f 10) (undoL_four _)
     have h2:=decL_len o f 10
     rw[List.nil_append]at h1 ⊢;omega
   ·exact⟨.inr (fun m h=>by cases h),by simp[runS]⟩
  ·unfold planL;split
   ·rcases runS_do o f [(6,0),(9,0),(15,0)] (doL 0 o.steps.length) (doL_one _ _)with⟨i,e⟩|e
    ·rw[e];exact⟨.inr (fun m h=>by simp at h;subst h;show(1:Int)≠6;decide),by simp⟩
    ·rw[e];cases hy:f.yes
     ·have e2:runS (fwdS o f) [(6,0),(9,0),(15,0)] []=prepL o:=by
       unfold runS;have:fwdS o f (6,0)=(prepL o,true):=by unfold fwdS;rw[hy];rfl
       rw[this];rfl
      rw[e2];exact⟨.inl rfl,by simp[prepL]⟩
     ·have e2:runS (fwdS o f) [(6,0),(9,0),(15,0)] []=decL o f 9++(if f.ship then[]else[shipM o]):=by
       unfold runS;have:fwdS o f (6,0)=([],false):=by unfold fwdS;rw[hy];rfl
       rw[this];have e3:fwdS o f (9,0)=(decL o f 9,false):=rfl
       have e4:fwdS o f (15,0)=if f.ship then([],false)else([shipM o],false):=rfl
       unfold runS;rw[e3];unfold runS;rw[e4];cases f.ship<;>simp[runS]
      rw[e2];refine⟨.inr (fun m h=>?_),?_⟩
      ·rcases List.mem_append.1 h with h|h
       ·rw[decL_k m h];decide
       ·split at h
        ·cases h
        ·rw[List.mem_singleton]at h;rw[h];show(15:Int)≠6
         decide
      ·have:=decL_len o f 9
       cases f.ship<;>simp<;>omega
   ·exact⟨.inr (fun m h=>by cases h),by simp[runS]⟩
theorem prepB_of{l:Lk}(h:prepB l=true):nextF l.o l.f=prepL l.o:=by
 rcases(next_shape l.o l.f).1 with h1|h1
 ·exact h1
 ·exfalso;unfold prepB at h;cases e:nextF l.o l.f with
  |nil=>rw[e]at h;cases h
  |cons m r=>
   rw[e]at h;simp at h;exact h1 m (by rw[e];simp) h
theorem prepB_not{l:Lk}(h:prepB l=false):∀m∈nextF l.o l.f,m.k≠6:=by
 rcases(next_shape l.o l.f).1 with h1|h1
 ·exfalso;unfold prepB at h;rw[h1]at h;cases h
 ·exact h1
end Go.Proofs.YthfgmpooehkhgaaGreatDoor
namespace Go.Proofs.YthfgmpooehkhgaaGreatDoor
open Go.ChangeShapes Go.WideShapes Go.ChangeAt Go.RowKit Go.Maps Sg Bl
open Nat renaming le_refl→zD,lt_of_lt_of_le→zJ
open Rg.Kept renaming of_below→zE
open Below renaming refl→zF
def SendR(B:Nat)(O:Pt→Nat→Prop)(w:World)(p:Nat)(v':Ch)(q b bt:Nat)(loc:Int→Option Nat)(xs:List Mg)(e:Ending)(w':World):Prop:=
 ∃ra rc O' r' loc',e= .returned (.slice ra xs.length rc)∧w'.ownsRow w.heap.size 34 7 (.slice ra xs.length rc) xs.length (mgCells xs)∧(∀ad,ra=some ad→¬Eo O' ad.block)∧Up B O' w' p v' q r' b bt loc'∧(∀i,Eo O' i→growE (Eo O) w w' i)∧Rg.Kept (fun i _=>Eo O i) w w'∧∀id a,loc id=some a→loc' id=some a
structure SnI (B:Nat) (O:Pt→Nat→Prop) (w:World) (p:Nat) (v':Ch) (q b bt:Nat) (loc:Int→Option Nat) (na:Option Addr) (N xs:List Mg) (ra:Option Addr) (rc:Nat) (u:World):Prop where
 st:∃O' r' loc',Up B O' u p v' q r' b bt loc'∧(∀i,Eo O' i→growE (Eo O) w u i)∧Rg.Kept (fun i _=>Eo O i) w u∧(∀id a,loc id=some a→loc' id=some a)∧(∀ad,ra=some ad→¬Eo O' ad.block)∧∀ad,na=some ad→¬Eo O' ad.block∧ad.block<u.heap.size
 row:u.ownsRow w.heap.size 34 7 (.slice ra xs.length rc) xs.length (mgCells xs)
 nx:Mgs u na N
 ap:∀x y,ra=some x→na=some y→x.block≠y.block
 nl:na=none→N= []
section
variable {B:Nat}{O:Pt→Nat→Prop}{w:World}{p:Nat}{v v':Ch}{q:Nat}{r:Value}{b bt:Nat}{loc:Int→Option Nat}{na:Option Addr}{N xs:List Mg}{ra:Option Addr}{rc:Nat}{u u':World}
theorem SnI.end(h:SnI B O w p v' q b bt loc na N xs ra rc u):SendR B O w p v' q b bt loc xs (.returned (.slice ra xs.length rc)) u:=by
 obtain⟨O1,r1,loc1,h1,h2,h3,h4,h5,_⟩:=h.st
 exact⟨ra,rc,O1,r1,loc1,rfl,h.row,h5,h1,h2,h3,h4⟩
theorem mgs_kept{F:Nat→Obj→Prop}{W W':World}{a:Option Addr}{l:List Mg}(h:Mgs W a l)(hk:Rg.Kept F W W')(hF:∀ad o,a=some ad→¬F ad.block o):Mgs W' a l:=by
 rcases h with h|⟨b,off,h1,h2⟩
 ·exact .inl h
 ·subst h1;have kc:∀ {o:Nat}{x:Value},W.cell? ⟨b,o,none⟩=some x→W'.cell? ⟨b,o,none⟩=some x:=fun hc=>kept_cellR hk (fun o=>hF ⟨b,off,none⟩ o rfl) hc
  exact .inr ⟨b,off,rfl,fun j u hu=>kc (h2 j u hu)⟩
theorem append_mgA{w:World}{ops:Array Oper}{rest:List Oper}{o:Oper}{a:Act}{Q:Exit→Act→World→Prop}(hgd:o.guard=none)(s x:Operand)
 (ho:o.op= .call {callee:= .builtin .append,args:=#[s,x],argTypes:=#[29,29]})
 (base:Nat) (v:Value) (L:List Mg) (hs:a.eval s=v) (hown:w.ownsRow base 34 7 v L.length (mgCells L)) (ad:Addr) (m:Mg) (c:Nat) (hx:a.eval x= .slice (some ad) 1 c)
 (hm:Mgs w (some ad) [m]) (hb:L.length≤1000000) (hbase:base≤w.heap.size)
 (h:∀a' c' w',w'.ownsRow base 34 7 (.slice a' (L.length+1) c') (L++ [m]).length (mgCells (L++ [m]))→w.grownBy w' v.ownBlock→((Value.slice a' (L.length+1) c').ownBlock =v.ownBlock∨(Value.slice a' (L.length+1) c').ownBlock =some w.heap.size)→wpList Tryz.prog ops Q rest (a.put o.dst (.slice a' (L.length+1) c')) w'):wpList Tryz.prog ops Q (o::rest) a w:=by
 obtain⟨i0,hi,hz0,hz1,hz2⟩:=info_parts Tryz.infoMsg
 refine wpList_append_own_at _ hgd s x 29 ho base 34 i0 _ 7 56 Tryz.underlying29 hi hz0 hz1 hz2 rfl (by decide) v L.length (mgCells L) hs hown ad 1 c (mgCells [m]) hx (mgCells_len [m]) (mgs_news hm) (fun u hu=>mgCells_one hu) (by unfold maxLen;omega) (by omega) hbase ?_
 intro v' w' h1 h2 _ h4
 obtain⟨a',c',rfl,_⟩:=Sg.row_slice h1
 refine h a' c' w' ?_ h2 h4
 rw[mgCells_append,List.length_append]
 exact h1
theorem SnI.on(h:SnI B O w p v' q b bt loc na N xs ra rc u)(hb:Below u.heap.size u u'):SnI B O w p v' q b bt loc na N xs ra rc u':=by
 obtain⟨⟨O1,r1,loc1,h1,h2,h3,h4,h5,h6⟩,h7,h8,h9,h10⟩:=h
 exact⟨⟨O1,r1,loc1,h1.on hb,fun i e=>(h2 i e).imp (fun e=>e) (fun e=>⟨e.1,zJ e.2 hb.size⟩),h3.trans (zE hb),h4,h5,fun ad e=>⟨(h6 ad e).1,zJ (h6 ad e).2 hb.size⟩⟩,Sg.own_on h7 hb,h8.below hb,h9,h10⟩
theorem SnI.app(h:SnI B O w p v' q b bt loc na N xs ra rc u){m:Mg}{ra':Option Addr}{rc':Nat}(o:u'.ownsRow w.heap.size 34 7 (.slice ra' (xs.length+1) rc') (xs++ [m]).length (mgCells (xs++ [m])))(g:u.grownBy u' (Value.slice ra xs.length rc).ownBlock)(hl:(Value.slice ra' (xs.length+1) rc').ownBlock =(Value.slice ra xs.length rc).ownBlock ∨(Value.slice ra' (xs.length+1) rc').ownBlock =some u.heap.size):SnI B O w p v' q b bt loc na N (xs++ [m]) ra' rc' u':=by
 obtain⟨⟨O1,r1,loc1,h1,h2,h3,h4,h5,h6⟩,h7,h8,h9,h10⟩:=h
 have hk:Rg.Kept (fun i _=>(Value.slice ra xs.length rc).ownBlock =some i) u u':=Rg.Kept.grown g (fun i _ e=>e)
 have off:∀i,Eo O1 i→(Value.slice ra xs.length rc).ownBlock ≠some i:=fun i e e2=>by
  obtain⟨x,e3,rfl⟩:=own_some e2;exact h5 x e3 e
 have hE:∀i,Eo O1 i→i<u.heap.size:=fun i ⟨y,e⟩=>(h1.k.bd y i e).2
 have new:∀x,ra'=some x→(∃y,ra=some y∧y.block=x.block)∨x.block=u.heap.size:=fun x e=>by
  subst e;rcases hl with hl|hl
  ·obtain⟨y,e1,e2⟩:=own_some hl.symm;exact .inl ⟨y,e1,e2⟩
  ·right;simpa[Value.ownBlock]using hl
 have hs:=hk.size
 have hup:Up B O1 u' p v' q r1 b bt loc1:=⟨h1.k.kept hk (fun y i _ e=>off i ⟨y,e⟩),h1.g,h1.d⟩
 have hlow:w.heap.size≤u.heap.size:=h3.size
 refine⟨⟨O1,r1,loc1,hup,fun i e=>(h2 i e).imp (fun e=>e) (fun e=>⟨e.1,zJ e.2 hs⟩),kept_more h3 hk (fun i _ e=> .inr ?_),h4,fun x e e2=>?_,fun ad e=>⟨(h6 ad e).1,zJ (h6 ad e).2 hs⟩⟩,?_,mgs_kept h8 hk (fun ad _ e e2=>?_),fun x y e1 e2=>?_,h10⟩
 ·exact(h7.lt i e).1
 ·rcases new x e with⟨y,e3,e4⟩|e3
  ·exact h5 y e3 (e4▸e2)
  ·have:=hE _ e2;omega
 ·have:(xs++ [m]).length =xs.length+1:=by simp
  rw[this]at o ⊢;exact o
 ·obtain⟨x,e3,e4⟩:=own_some e2;exact h9 x ad e3 e e4
 ·rcases new x e1 with⟨z,e3,e4⟩|e3
  ·exact e4▸h9 z y e3 e2
  ·have:=(h6 y e2).2;omega
theorem SnI.asks{obj:Obj}{u0:World}(h0:SnI B O w p v' q b bt loc na N xs ra rc u0)(hX:u=u0.alloc obj)(hg:∀u,Rg.Kept (fun i _=>Eo O i) w u→Gl u){id:Int}{l:Lk}{a:Nat}(hl:v'.L id=some l)(ha:loc id=some a):
 Calls Tryz.prog 145 #[.pointer (some ⟨p,0,none⟩),.pointer (some ⟨a,0,none⟩)] u fun e u'=>e= .returned (.bool (l.f.asked||roomC v' 1))∧SnI B O w p (if l.f.asked=true then v' else noteS v' [askE l.o.id]) q b bt loc na N xs ra rc u'∧u'.heap[u0.heap.size]?=u.heap[u0.heap.size]?:=by
 have hb0:Below u0.heap.size u0 u:=by rw[hX];exact(zF _ _).alloc (zD _) _
 obtain⟨⟨O1,r1,loc1,h10',h20,h30,h4,h5,h60⟩,h70,h80,h9,h10⟩:=h0
 have bdd:∀i,Eo O1 i→i<u0.heap.size:=fun i ⟨y,e⟩=>(h10'.k.bd y i e).2
 have h1:=h10'.on hb0
 have h2:∀i,Eo O1 i→growE (Eo O) w u i:=fun i e=>(h20 i e).imp (fun e=>e) (fun e=>⟨e.1,zJ e.2 hb0.size⟩)
 have h3:=h30.trans (zE hb0)
 have h6:∀ad,na=some ad→¬Eo O1 ad.block∧ad.block<u.heap.size:=fun ad e=>⟨(h60 ad e).1,zJ (h60 ad e).2 hb0.size⟩
 have h7:=Sg.own_on h70 hb0
 have h8:=h80.below hb0
 obtain⟨ob,hob⟩:∃ob,u.heap[u0.heap.size]?=some ob:=⟨_,Array.getElem?_eq_getElem (show u0.heap.size<u.heap.size by rw[hX];simp)⟩
 refine(casks_any h1 (fun u' hk=>hg u' (kept_two h2 h3 hk)) hl (h4 id a ha)).mono ?_
 rintro e u' ⟨e1,O2,r2,loc2,k2,g2,K2,l2⟩
 refine⟨e1,⟨⟨O2,r2,loc2,k2,gr_two h2 g2 h3.size K2.size,kept_two h2 h3 K2,fun id a e=>l2 id a (h4 id a e),fun ad e e2=>?_,fun ad e=>⟨fun e2=>?_,zJ (h6 ad e).2 K2.size⟩⟩,own_keptR h7 K2 (fun i _ e e2=>?_),mgs_kept h8 K2 (fun ad _ e=>(h6 ad e).1),h9,h10⟩,(K2.block _ _ hob (fun e=>Nat.lt_irrefl _ (bdd _ e))).trans hob.symm⟩
 ·rcases g2 _ e2 with e3|e3
  ·exact h5 ad e e3
  ·have:(Value.slice ra xs.length rc).ownBlock =some ad.block:=by rw[e];rfl
   have:=(h7.lt _ this).2
   omega
 ·rcases g2 _ e2 with e3|e3
  ·exact(h6 ad e).1 e3
  ·have:=(h6 ad e).2;omega
 ·obtain⟨x,e3,rfl⟩:=own_some e;exact h5 x e3 e2
set_option maxRecDepth 100000 in
set_option maxHeartbeats 4000000 in
theorem csend_plain(h:Up B O w p v q r b bt loc){id:Int}{l:Lk}{a:Nat}(hl:v.L id=some l)(ha:loc id=some a)(hp:∀m∈nextF l.o l.f,m.k≠6):
 Calls Tryz.prog 81 #[.pointer (some ⟨p,0,none⟩),.pointer (some ⟨a,0,none⟩)] w (SendR B O w p v q b bt loc (nextF l.o l.f)):=by
 obtain⟨a',ha',sa,sc,da,dc,ua,uc,tp,kl⟩:=h.k.ld id l hl
 rw[ha]at ha'
 cases ha'
 obtain⟨⟨c0,c1,c2,c3,c4,c5⟩,c6,c7,c8,c9,c10,c11,c12,c13,c14,c15,c16,-⟩:=kl.cells
 have NX:Hid (∀u,Below w.heap.size w u→Calls Tryz.prog 144 #[.agg #[.int .i64 l.o.id,.int .i64 l.o.item,.int .i64 l.o.qty,.int .i64 l.o.client,.int .i64 l.o.price,.slice sa l.o.steps.length sc],.agg #[.slice da l.f.dn.length dc,.slice ua l.f.un.length uc,.bool l.f.asked,.bool l.f.yes,.bool l.f.turned,.bool l.f.k0,.bool l.f.k1,.bool l.f.ship,.bool l.f.d0,.bool l.f.d1,.bool l.f.acc]] u fun e u1=>∃na nc,e= .returned (.slice na (nextF l.o l.f).length nc)∧SnI B O w p v q b bt loc na (nextF l.o l.f) [] none 0 u1∧((u1.cell? ⟨a,0,none⟩=some (.int .i64 l.o.id)∧u1.cell? ⟨a,1,none⟩=some (.int .i64 l.o.item)∧u1.cell? ⟨a,2,none⟩=some (.int .i64 l.o.qty)∧u1.cell? ⟨a,3,none⟩=some (.int .i64 l.o.client)∧u1.cell? ⟨a,4,none⟩=some (.int .i64 l.o.price)∧u1.cell? ⟨a,5,none⟩=some (.slice sa l.o.steps.length sc))∧u1.cell? ⟨a,6,none⟩=some (.slice da l.f.dn.length dc)∧u1.cell? ⟨a,7,none⟩=some (.slice ua l.f.un.length uc)∧u1.cell? ⟨a,8,none⟩=some (.bool l.f.asked)∧u1.cell? ⟨a,9,none⟩=some (.bool l.f.yes)∧u1.cell? ⟨a,10,none⟩=some (.bool l.f.turned)∧u1.cell? ⟨a,11,none⟩=some (.bool l.f.k0)∧u1.cell? ⟨a,12,none⟩=some (.bool l.f.k1)∧u1.cell? ⟨a,13,none⟩=some (.bool l.f.ship)∧u1.cell? ⟨a,14,none⟩=some (.bool l.f.d0)∧u1.cell? ⟨a,15,none⟩=some (.bool l.f.d1)∧u1.cell? ⟨a,16,none⟩=some (.bool l.f.acc))):=fun u hu=>by
  refine(snext_any l.o sa sc l.f da dc ua uc u (kl.on hu).sts.1 kl.sts.2 (kl.on hu).fin).mono ?_;rintro e u1 ⟨na,nc,h1,h2,h3,h4,h5⟩;have hb:=bel_on' hu h5
  obtain⟨d,d6,d7,d8,d9,d10,d11,d12,d13,d14,d15,d16,-⟩:=(kl.on hb).cells;refine⟨na,nc,h1,⟨⟨O,r,loc,h.on hb,fun i e=> .inl e,zE hb,fun _ _ e=>e,(fun ad e=>by cases e),fun ad e=>?_⟩,World.ownsRow_nil _ _ _ _,row_mgs h4,(fun x y e=>by cases e),fun e=>(h3 e).1⟩,d,d6,d7,d8,d9,d10,d11,d12,d13,d14,d15,d16⟩;have h6:=h4.lt ad.block (by rw[e];rfl)
  exact⟨fun⟨y,e2⟩=>by have:=(h.k.bd y _ e2).2;have:=hu.size;omega,h6.2⟩
 have hlen:=(next_shape l.o l.f).2
 generalize nextF l.o l.f=N at *
 clear kl h hl ha
 go_enter Tryz.func81,Tryz.ntmps81
 go_wp2_with fail
 go_step3
 go_wp2_with fail
 go_step3
 go_wp2_with fail
 go_region_held3(fun w'=>(w'.cell? ⟨a,0,none⟩=some (.int .i64 l.o.id)∧w'.cell? ⟨a,1,none⟩=some (.int .i64 l.o.item)∧w'.cell? ⟨a,2,none⟩=some (.int .i64 l.o.qty)∧w'.cell? ⟨a,3,none⟩=some (.int .i64 l.o.client)∧w'.cell? ⟨a,4,none⟩=some (.int .i64 l.o.price)∧w'.cell? ⟨a,5,none⟩=some (.slice sa l.o.steps.length sc))∧w'.cell? ⟨a,6,none⟩=some (.slice da l.f.dn.length dc)∧w'.cell? ⟨a,7,none⟩=some (.slice ua l.f.un.length uc)∧w'.cell? ⟨a,8,none⟩=some (.bool l.f.asked)∧w'.cell? ⟨a,9,none⟩=some (.bool l.f.yes)∧w'.cell? ⟨a,10,none⟩=some (.bool l.f.turned)∧w'.cell? ⟨a,11,none⟩=some (.bool l.f.k0)∧w'.cell? ⟨a,12,none⟩=some (.bool l.f.k1)∧w'.cell? ⟨a,13,none⟩=some (.bool l.f.ship)∧w'.cell? ⟨a,14,none⟩=some (.bool l.f.d0)∧w'.cell? ⟨a,15,none⟩=some (.bool l.f.d1)∧w'.cell? ⟨a,16,none⟩=some (.bool l.f.acc)) (go_keep) (first
  |(go_at_call 144;refine(NX.out _ (by first|exact zF _ _|exact(zF _ _).drew)).mono ?_;clear NX;rintro e u1 ⟨na,nc,rfl,hx,hc⟩;clear c0 c1 c2 c3 c4 c5 c6 c7 c8 c9 c10 c11 c12 c13 c14 c15 c16;obtain⟨⟨c0,c1,c2,c3,c4,c5⟩,c6,c7,c8,c9,c10,c11,c12,c13,c14,c15,c16⟩:=hc;have HS0:=hide hx;clear hx))
 clear c0 c1 c2 c3 c4 c5 c6 c7 c8 c9 c10 c11 c12 c13 c14 c15 c16
 go_wp2_with fail
 go_loopw [5,18] (fun s i wr=>∃(j:Nat)(xs:List Mg)(ra:Option Addr)(rc:Nat),i= .int .i64 j∧j≤N.length∧s= .slice ra xs.length rc∧Hid (xs=N.take j∧SnI B O w p v q b bt loc na N xs ra rc wr)) (fun _ i _=>N.length-(Go.RowKit.intOf i).toNat)
 case atStart=>exact⟨0,[],none,0,rfl,Nat.zero_le _,rfl,rfl,HS0.out⟩
 case round=>
  obtain⟨j,xs,ra,rc,rfl,hj,rfl,HH⟩:=hrel;have HS:=hide HH.out.2
  have HQ:=hide HH.out.1
  clear HS0 HH;by_cases hlt:j<N.length
  ·obtain⟨m,hm⟩:∃m,N[j]?=some m:=⟨_,List.getElem?_eq_getElem hlt⟩
   obtain⟨nb,no,rfl,x0,x1,x2,x3,x4,x5,x6⟩:=HS.out.nx.get hm;have hk6:=hp m (List.mem_of_getElem? hm)
   have HT:Hid (N.take (j+1)=N.take j++ [m]):=by show _=_;rw[List.take_add_one,hm];rfl
   have ql:(j:Int)<(N.length:Int):=by omega
   have hnl:nb<wr.heap.size:=World.block_lt_of_cell? _ _ x0
   have hlj:xs.length≤3:=by rw[HQ.out];simp;omega
   obtain⟨m0,m1,m2,m3,m4,m5,m6⟩:=m;simp only at x0 x1 x2 x3 x4 x5 x6 hk6;have hbw:w.heap.size≤wr.heap.size:=by obtain⟨O1,r1,loc1,_,_,k3,_⟩:=HS.out.st;exact k3.size
   have HM:Hid (Mgs ((wr.alloc (.cells #[.int .i64 m0,.int .i64 m1,.int .i64 m2,.int .i64 m3,.int .i64 m4,.int .i64 m5,.int .i64 m6] 34)).alloc (.cells #[.int .i64 m0,.int .i64 m1,.int .i64 m2,.int .i64 m3,.int .i64 m4,.int .i64 m5,.int .i64 m6] 34)) (some ⟨wr.heap.size+1,0,none⟩) [⟨m0,m1,m2,m3,m4,m5,m6⟩]):=by
    have:=mgs_new (wr.alloc (.cells #[.int .i64 m0,.int .i64 m1,.int .i64 m2,.int .i64 m3,.int .i64 m4,.int .i64 m5,.int .i64 m6] 34)) [⟨m0,m1,m2,m3,m4,m5,m6⟩] #[.int .i64 m0,.int .i64 m1,.int .i64 m2,.int .i64 m3,.int .i64 m4,.int .i64 m5,.int .i64 m6] rfl
    rw[World.size_alloc]at this;exact this
   clear hm
   go_wp2_with(at_builtin;refine append_mgA rfl (.tmp 29) (.tmp 31) rfl w.heap.size (.slice ra xs.length rc) xs rfl ((HS.out.row.alloc _).alloc _) ⟨wr.heap.size+1,0,none⟩ ⟨m0,m1,m2,m3,m4,m5,m6⟩ 1 rfl HM.out (by omega) (by simp;omega) ?_;intro a8 c8 w8 o8 g8 t8;have HN:=hide ((HS.out.on (((zF _ _).alloc (zD _) _).alloc (by simp) _)).app o8 g8 t8);clear o8 g8 t8)
   go_roundw
   case rel=>exact⟨j+1,xs++ [⟨m0,m1,m2,m3,m4,m5,m6⟩],a8,c8,by go_num,by omega,by simp,by rw[HT.out,HQ.out],HN.out⟩
   case measure=>simp[Go.RowKit.intOf];omega
  ·have hje:j=N.length:=by omega
   subst hje;have HF:Hid (SendR B O w p v q b bt loc N (.returned (.slice ra xs.length rc)) wr):=by have:=HS.out.end;have e:=HQ.out;rw[List.take_length]at e;rw[e]at this ⊢;exact this
   have ql:¬(N.length:Int)<(N.length:Int):=by omega
   go_wp2
   go_ret
   exact HF.out
theorem asked_then(h:GoodCh v){id:Int}{l:Lk}(hl:v.L id=some l)(hb:(l.f.asked||roomC v 1)=true):∃l',(if l.f.asked=true then v else noteS v [askE l.o.id]).L id=some l'∧l'.f.asked=true∧l'.o.id=l.o.id:=by
 cases hq:l.f.asked
 ·rw[hq,Bool.false_or]at hb;rw[if_neg (by decide)];unfold noteS;rw[show([askE l.o.id]:List Et).length =1 from rfl,hb,if_pos rfl];refine⟨folL l 3 [],?_,rfl,rfl⟩;show fol v.L (askE l.o.id) id=_
  unfold fol askE;rw[(h.gm id l hl).oid,Gd.updO_same,if_neg (show¬(3:Nat)=0 by decide),hl];rfl
 ·rw[if_pos rfl];exact⟨l,hl,hq,rfl⟩
set_option maxRecDepth 100000 in
set_option maxHeartbeats 4000000 in
theorem csend_prep(h:Up B O w p v q r b bt loc)(hg:∀u,Rg.Kept (fun i _=>Eo O i) w u→Gl u){id:Int}{l:Lk}{a:Nat}(hl:v.L id=some l)(ha:loc id=some a)(hp:nextF l.o l.f=prepL l.o)(hb:(l.f.asked||roomC v 1)=true):
 Calls Tryz.prog 81 #[.pointer (some ⟨p,0,none⟩),.pointer (some ⟨a,0,none⟩)] w (SendR B O w p (if l.f.asked=true then v else noteS v [askE l.o.id]) q b bt loc (prepL l.o)):=by
 obtain⟨a',ha',sa,sc,da,dc,ua,uc,tp,kl⟩:=h.k.ld id l hl
 rw[ha]at ha'
 cases ha'
 obtain⟨⟨c0,c1,c2,c3,c4,c5⟩,c6,c7,c8,c9,c10,c11,c12,c13,c14,c15,c16,-⟩:=kl.cells
 have NX:Hid (∀u,Below w.heap.size w u→Calls Tryz.prog 144 #[.agg #[.int .i64 l.o.id,.int .i64 l.o.item,.int .i64 l.o.qty,.int .i64 l.o.client,.int .i64 l.o.price,.slice sa l.o.steps.length sc],.agg #[.slice da l.f.dn.length dc,.slice ua l.f.un.length uc,.bool l.f.asked,.bool l.f.yes,.bool l.f.turned,.bool l.f.k0,.bool l.f.k1,.bool l.f.ship,.bool l.f.d0,.bool l.f.d1,.bool l.f.acc]] u fun e u1=>∃na nc,e= .returned (.slice na (nextF l.o l.f).length nc)∧SnI B O w p v q b bt loc na (nextF l.o l.f) [] none 0 u1∧((u1.cell? ⟨a,0,none⟩=some (.int .i64 l.o.id)∧u1.cell? ⟨a,1,none⟩=some (.int .i64 l.o.item)∧u1.cell? ⟨a,2,none⟩=some (.int .i64 l.o.qty)∧u1.cell? ⟨a,3,none⟩=some (.int .i64 l.o.client)∧u1.cell? ⟨a,4,none⟩=some (.int .i64 l.o.price)∧u1.cell? ⟨a,5,none⟩=some (.slice sa l.o.steps.length sc))∧u1.cell? ⟨a,6,none⟩=some (.slice da l.f.dn.length dc)∧u1.cell? ⟨a,7,none⟩=some (.slice ua l.f.un.length uc)∧u1.cell? ⟨a,8,none⟩=some (.bool l.f.asked)∧u1.cell? ⟨a,9,none⟩=some (.bool l.f.yes)∧u1.cell? ⟨a,10,none⟩=some (.bool l.f.turned)∧u1.cell? ⟨a,11,none⟩=some (.bool l.f.k0)∧u1.cell? ⟨a,12,none⟩=some (.bool l.f.k1)∧u1.cell? ⟨a,13,none⟩=some (.bool l.f.ship)∧u1.cell? ⟨a,14,none⟩=some (.bool l.f.d0)∧u1.cell? ⟨a,15,none⟩=some (.bool l.f.d1)∧u1.cell? ⟨a,16,none⟩=some (.bool l.f.acc))):=fun u hu=>by
  refine(snext_any l.o sa sc l.f da dc ua uc u (kl.on hu).sts.1 kl.sts.2 (kl.on hu).fin).mono ?_;rintro e u1 ⟨na,nc,h1,h2,h3,h4,h5⟩;have hb:=bel_on' hu h5
  obtain⟨d,d6,d7,d8,d9,d10,d11,d12,d13,d14,d15,d16,-⟩:=(kl.on hb).cells;refine⟨na,nc,h1,⟨⟨O,r,loc,h.on hb,fun i e=> .inl e,zE hb,fun _ _ e=>e,(fun ad e=>by cases e),fun ad e=>?_⟩,World.ownsRow_nil _ _ _ _,row_mgs h4,(fun x y e=>by cases e),fun e=>(h3 e).1⟩,d,d6,d7,d8,d9,d10,d11,d12,d13,d14,d15,d16⟩;have h6:=h4.lt ad.block (by rw[e];rfl)
  exact⟨fun⟨y,e2⟩=>by have:=(h.k.bd y _ e2).2;have:=hu.size;omega,h6.2⟩
 rw[hp]at NX
 obtain⟨vN,hvN⟩:∃vN,(if l.f.asked=true then v else noteS v [askE l.o.id])=vN:=⟨_,rfl⟩
 obtain⟨l',hl',hq',-⟩:=asked_then h.g hl hb
 rw[hvN]at hl' ⊢
 have A0:Hid (∀(u0 X:World)(na:Option Addr)(xs:List Mg)(ra:Option Addr)(rc:Nat),SnI B O w p v q b bt loc na (prepL l.o) xs ra rc u0→∀ {obj:Obj},X=u0.alloc obj→Calls Tryz.prog 145 #[.pointer (some ⟨p,0,none⟩),.pointer (some ⟨a,0,none⟩)] X fun e u'=>e= .returned (.bool true)∧SnI B O w p vN q b bt loc na (prepL l.o) xs ra rc u'∧u'.heap[u0.heap.size]?=X.heap[u0.heap.size]?):=fun u0 X na xs ra rc h0 obj hX=>by
  have:=h0.asks hX hg hl ha
  rw[hb,hvN]at this;exact this
 have A1:Hid (∀(u0 X:World)(na:Option Addr)(xs:List Mg)(ra:Option Addr)(rc:Nat),SnI B O w p vN q b bt loc na (prepL l.o) xs ra rc u0→∀ {obj:Obj},X=u0.alloc obj→Calls Tryz.prog 145 #[.pointer (some ⟨p,0,none⟩),.pointer (some ⟨a,0,none⟩)] X fun e u'=>e= .returned (.bool true)∧SnI B O w p vN q b bt loc na (prepL l.o) xs ra rc u'∧u'.heap[u0.heap.size]?=X.heap[u0.heap.size]?):=fun u0 X na xs ra rc h0 obj hX=>by
  have:=h0.asks hX hg hl' ha
  rw[hq',if_pos rfl,Bool.true_or]at this;exact this
 have e2:(prepL l.o).length =2:=rfl
 rw[e2]at NX
 clear kl h hl ha hg hp hb hvN hl' hq'
 go_enter Tryz.func81,Tryz.ntmps81
 go_wp2_with fail
 go_step3
 go_wp2_with fail
 go_step3
 go_wp2_with fail
 go_region_held3(fun w'=>(w'.cell? ⟨a,0,none⟩=some (.int .i64 l.o.id)∧w'.cell? ⟨a,1,none⟩=some (.int .i64 l.o.item)∧w'.cell? ⟨a,2,none⟩=some (.int .i64 l.o.qty)∧w'.cell? ⟨a,3,none⟩=some (.int .i64 l.o.client)∧w'.cell? ⟨a,4,none⟩=some (.int .i64 l.o.price)∧w'.cell? ⟨a,5,none⟩=some (.slice sa l.o.steps.length sc))∧w'.cell? ⟨a,6,none⟩=some (.slice da l.f.dn.length dc)∧w'.cell? ⟨a,7,none⟩=some (.slice ua l.f.un.length uc)∧w'.cell? ⟨a,8,none⟩=some (.bool l.f.asked)∧w'.cell? ⟨a,9,none⟩=some (.bool l.f.yes)∧w'.cell? ⟨a,10,none⟩=some (.bool l.f.turned)∧w'.cell? ⟨a,11,none⟩=some (.bool l.f.k0)∧w'.cell? ⟨a,12,none⟩=some (.bool l.f.k1)∧w'.cell? ⟨a,13,none⟩=some (.bool l.f.ship)∧w'.cell? ⟨a,14,none⟩=some (.bool l.f.d0)∧w'.cell? ⟨a,15,none⟩=some (.bool l.f.d1)∧w'.cell? ⟨a,16,none⟩=some (.bool l.f.acc)) (go_keep) (first
  |(go_at_call 144;refine(NX.out _ (by first|exact zF _ _|exact(zF _ _).drew)).mono ?_;clear NX;rintro e u1 ⟨na,nc,rfl,hx,hc⟩;clear c0 c1 c2 c3 c4 c5 c6 c7 c8 c9 c10 c11 c12 c13 c14 c15 c16;obtain⟨⟨c0,c1,c2,c3,c4,c5⟩,c6,c7,c8,c9,c10,c11,c12,c13,c14,c15,c16⟩:=hc;have HS0:=hide hx;clear hx))
 clear c0 c1 c2 c3 c4 c5 c6 c7 c8 c9 c10 c11 c12 c13 c14 c15 c16
 go_wp2_with fail
 generalize l.o=o at *
 go_loopw [5,18] (fun s i wr=>∃(j:Nat)(ra:Option Addr)(rc:Nat),i= .int .i64 j∧j≤2∧s= .slice ra j rc∧Hid (SnI B O w p (if j=0 then v else vN) q b bt loc na (prepL o) (if j=0 then[]else if j=1 then[⟨6,0,1,o.id,0,o.item,o.qty⟩]else prepL o) ra rc wr)) (fun _ i _=>2-(Go.RowKit.intOf i).toNat)
 case atStart=>exact⟨0,none,0,rfl,by omega,rfl,HS0⟩
 case round=>
  obtain⟨j,ra,rc,rfl,hj,rfl,HS⟩:=hrel;clear HS0;obtain rfl|rfl|rfl:j=0∨j=1∨j=2:=by omega
  ·have HS:Hid (SnI B O w p v q b bt loc na (prepL o) [] ra rc wr):=HS
   obtain⟨nb,no,rfl,x0,x1,x2,x3,x4,x5,x6⟩:=HS.out.nx.get (i:=0) (m:=⟨6,0,1,o.id,0,o.item,o.qty⟩) rfl;simp only[Nat.zero_mul,Nat.add_zero]at x0 x1 x2 x3 x4 x5 x6;have hnl:nb<wr.heap.size:=World.block_lt_of_cell? _ _ x0
   have hbw:w.heap.size≤wr.heap.size:=by obtain⟨O1,r1,loc1,_,_,k3,_⟩:=HS.out.st;exact k3.size
   have AS:=A0.out wr (wr.alloc (.cells #[.int .i64 6,.int .i64 0,.int .i64 1,.int .i64 o.id,.int .i64 0,.int .i64 o.item,.int .i64 o.qty] 34)) (some ⟨nb,no,none⟩) [] ra rc HS.out rfl
   have HM:Hid (∀u:World,Mgs (u.alloc (.cells #[.int .i64 6,.int .i64 0,.int .i64 1,.int .i64 o.id,.int .i64 0,.int .i64 o.item,.int .i64 o.qty] 34)) (some ⟨u.heap.size,0,none⟩) [⟨6,0,1,o.id,0,o.item,o.qty⟩]):=fun u=>mgs_new u [⟨6,0,1,o.id,0,o.item,o.qty⟩] _ rfl
   have hob:=World.alloc_heap_new wr (.cells #[.int .i64 6,.int .i64 0,.int .i64 1,.int .i64 o.id,.int .i64 0,.int .i64 o.item,.int .i64 o.qty] 34)
   have HOB:=hide hob
   clear hob A0 A1
   go_wp2_with(first
    |(go_at_call 145;refine AS.mono ?_;clear AS;rintro e u2 ⟨rfl,hx,hy⟩;have hy2:=hy.trans HOB.out;obtain⟨y0,y1,y2,y3,y4,y5,y6⟩:=seven_of hy2;have HS2:=hide hx;have hb2:w.heap.size≤u2.heap.size:=(by obtain⟨O1,r1,loc1,_,_,k3,_⟩:=hx.st;exact k3.size);clear hx hy hy2)
    |(at_builtin;refine append_mgA rfl (.tmp 29) (.tmp 31) rfl w.heap.size (.slice ra 0 rc) [] rfl (HS2.out.row.alloc _) ⟨u2.heap.size,0,none⟩ ⟨6,0,1,o.id,0,o.item,o.qty⟩ 1 rfl (HM.out u2) (by simp) (by simp;omega) ?_;intro a8 c8 w8 o8 g8 t8;have HN:=hide ((HS2.out.on ((zF _ _).alloc (zD _) _)).app o8 g8 t8);clear o8 g8 t8))
   go_roundw
   case rel=>exact⟨1,a8,c8,by go_num,by omega,rfl,HN⟩
   case measure=>simp[Go.RowKit.intOf]
  ·have HS:Hid (SnI B O w p vN q b bt loc na (prepL o) [⟨6,0,1,o.id,0,o.item,o.qty⟩] ra rc wr):=HS
   obtain⟨nb,no,rfl,x0,x1,x2,x3,x4,x5,x6⟩:=HS.out.nx.get (i:=1) (m:=⟨6,0,2,o.id,0,o.client,o.price⟩) rfl;simp only[Nat.one_mul]at x0 x1 x2 x3 x4 x5 x6;have hnl:nb<wr.heap.size:=World.block_lt_of_cell? _ _ x0
   have hbw:w.heap.size≤wr.heap.size:=by obtain⟨O1,r1,loc1,_,_,k3,_⟩:=HS.out.st;exact k3.size
   have AS:=A1.out wr (wr.alloc (.cells #[.int .i64 6,.int .i64 0,.int .i64 2,.int .i64 o.id,.int .i64 0,.int .i64 o.client,.int .i64 o.price] 34)) (some ⟨nb,no,none⟩) [⟨6,0,1,o.id,0,o.item,o.qty⟩] ra rc HS.out rfl
   have HM:Hid (∀u:World,Mgs (u.alloc (.cells #[.int .i64 6,.int .i64 0,.int .i64 2,.int .i64 o.id,.int .i64 0,.int .i64 o.client,.int .i64 o.price] 34)) (some ⟨u.heap.size,0,none⟩) [⟨6,0,2,o.id,0,o.client,o.price⟩]):=fun u=>mgs_new u [⟨6,0,2,o.id,0,o.client,o.price⟩] _ rfl
   have hob:=World.alloc_heap_new wr (.cells #[.int .i64 6,.int .i64 0,.int .i64 2,.int .i64 o.id,.int .i64 0,.int .i64 o.client,.int .i64 o.price] 34)
   have HOB:=hide hob
   clear hob A0 A1
   go_wp2_with(first
    |(go_at_call 145;refine AS.mono ?_;clear AS;rintro e u2 ⟨rfl,hx,hy⟩;have hy2:=hy.trans HOB.out;obtain⟨y0,y1,y2,y3,y4,y5,y6⟩:=seven_of hy2;have HS2:=hide hx;have hb2:w.heap.size≤u2.heap.size:=(by obtain⟨O1,r1,loc1,_,_,k3,_⟩:=hx.st;exact k3.size);clear hx hy hy2)
    |(at_builtin;refine append_mgA rfl (.tmp 29) (.tmp 31) rfl w.heap.size (.slice ra 1 rc) [⟨6,0,1,o.id,0,o.item,o.qty⟩] rfl (HS2.out.row.alloc _) ⟨u2.heap.size,0,none⟩ ⟨6,0,2,o.id,0,o.client,o.price⟩ 1 rfl (HM.out u2) (by simp) (by simp;omega) ?_;intro a8 c8 w8 o8 g8 t8;have HN:=hide ((HS2.out.on ((zF _ _).alloc (zD _) _)).app o8 g8 t8);clear o8 g8 t8))
   go_roundw
   case rel=>exact⟨2,a8,c8,by go_num,by omega,rfl,HN⟩
   case measure=>simp[Go.RowKit.intOf]
  ·have HS:Hid (SnI B O w p vN q b bt loc na (prepL o) (prepL o) ra rc wr):=HS
   have HF:Hid (SendR B O w p vN q b bt loc (prepL o) (.returned (.slice ra 2 rc)) wr):=HS.out.end
   go_wp2
   go_ret
   exact HF.out
set_option maxRecDepth 100000 in
set_option maxHeartbeats 4000000 in
theorem csend_no(h:Up B O w p v q r b bt loc)(hg:∀u,Rg.Kept (fun i _=>Eo O i) w u→Gl u){id:Int}{l:Lk}{a:Nat}(hl:v.L id=some l)(ha:loc id=some a)(hp:nextF l.o l.f=prepL l.o)(hb:(l.f.asked||roomC v 1)=false):
 Calls Tryz.prog 81 #[.pointer (some ⟨p,0,none⟩),.pointer (some ⟨a,0,none⟩)] w (SendR B O w p v q b bt loc []):=by
 obtain⟨a',ha',sa,sc,da,dc,ua,uc,tp,kl⟩:=h.k.ld id l hl
 rw[ha]at ha'
 cases ha'
 obtain⟨⟨c0,c1,c2,c3,c4,c5⟩,c6,c7,c8,c9,c10,c11,c12,c13,c14,c15,c16,-⟩:=kl.cells
 have NX:Hid (∀u,Below w.heap.size w u→Calls Tryz.prog 144 #[.agg #[.int .i64 l.o.id,.int .i64 l.o.item,.int .i64 l.o.qty,.int .i64 l.o.client,.int .i64 l.o.price,.slice sa l.o.steps.length sc],.agg #[.slice da l.f.dn.length dc,.slice ua l.f.un.length uc,.bool l.f.asked,.bool l.f.yes,.bool l.f.turned,.bool l.f.k0,.bool l.f.k1,.bool l.f.ship,.bool l.f.d0,.bool l.f.d1,.bool l.f.acc]] u fun e u1=>∃na nc,e= .returned (.slice na (nextF l.o l.f).length nc)∧SnI B O w p v q b bt loc na (nextF l.o l.f) [] none 0 u1∧((u1.cell? ⟨a,0,none⟩=some (.int .i64 l.o.id)∧u1.cell? ⟨a,1,none⟩=some (.int .i64 l.o.item)∧u1.cell? ⟨a,2,none⟩=some (.int .i64 l.o.qty)∧u1.cell? ⟨a,3,none⟩=some (.int .i64 l.o.client)∧u1.cell? ⟨a,4,none⟩=some (.int .i64 l.o.price)∧u1.cell? ⟨a,5,none⟩=some (.slice sa l.o.steps.length sc))∧u1.cell? ⟨a,6,none⟩=some (.slice da l.f.dn.length dc)∧u1.cell? ⟨a,7,none⟩=some (.slice ua l.f.un.length uc)∧u1.cell? ⟨a,8,none⟩=some (.bool l.f.asked)∧u1.cell? ⟨a,9,none⟩=some (.bool l.f.yes)∧u1.cell? ⟨a,10,none⟩=some (.bool l.f.turned)∧u1.cell? ⟨a,11,none⟩=some (.bool l.f.k0)∧u1.cell? ⟨a,12,none⟩=some (.bool l.f.k1)∧u1.cell? ⟨a,13,none⟩=some (.bool l.f.ship)∧u1.cell? ⟨a,14,none⟩=some (.bool l.f.d0)∧u1.cell? ⟨a,15,none⟩=some (.bool l.f.d1)∧u1.cell? ⟨a,16,none⟩=some (.bool l.f.acc))):=fun u hu=>by
  refine(snext_any l.o sa sc l.f da dc ua uc u (kl.on hu).sts.1 kl.sts.2 (kl.on hu).fin).mono ?_;rintro e u1 ⟨na,nc,h1,h2,h3,h4,h5⟩;have hb:=bel_on' hu h5
  obtain⟨d,d6,d7,d8,d9,d10,d11,d12,d13,d14,d15,d16,-⟩:=(kl.on hb).cells;refine⟨na,nc,h1,⟨⟨O,r,loc,h.on hb,fun i e=> .inl e,zE hb,fun _ _ e=>e,(fun ad e=>by cases e),fun ad e=>?_⟩,World.ownsRow_nil _ _ _ _,row_mgs h4,(fun x y e=>by cases e),fun e=>(h3 e).1⟩,d,d6,d7,d8,d9,d10,d11,d12,d13,d14,d15,d16⟩;have h6:=h4.lt ad.block (by rw[e];rfl)
  exact⟨fun⟨y,e2⟩=>by have:=(h.k.bd y _ e2).2;have:=hu.size;omega,h6.2⟩
 rw[hp]at NX
 have A0:Hid (∀(u0 X:World)(na:Option Addr)(xs:List Mg)(ra:Option Addr)(rc:Nat),SnI B O w p v q b bt loc na (prepL l.o) xs ra rc u0→∀ {obj:Obj},X=u0.alloc obj→Calls Tryz.prog 145 #[.pointer (some ⟨p,0,none⟩),.pointer (some ⟨a,0,none⟩)] X fun e u'=>e= .returned (.bool false)∧SnI B O w p v q b bt loc na (prepL l.o) xs ra rc u'∧u'.heap[u0.heap.size]?=X.heap[u0.heap.size]?):=fun u0 X na xs ra rc h0 obj hX=>by
  have:=h0.asks hX hg hl ha
  have hb2:=hb
  rw[Bool.or_eq_false_iff]at hb2;have e3:noteS v [askE l.o.id]=v:=by unfold noteS;rw[show([askE l.o.id]:List Et).length =1 from rfl,hb2.2];rfl
  rw[hb,hb2.1,if_neg (by decide),e3]at this;exact this
 have e2:(prepL l.o).length =2:=rfl
 rw[e2]at NX
 clear kl h hl ha hg hp hb
 go_enter Tryz.func81,Tryz.ntmps81
 go_wp2_with fail
 go_step3
 go_wp2_with fail
 go_step3
 go_wp2_with fail
 go_region_held3(fun w'=>(w'.cell? ⟨a,0,none⟩=some (.int .i64 l.o.id)∧w'.cell? ⟨a,1,none⟩=some (.int .i64 l.o.item)∧w'.cell? ⟨a,2,none⟩=some (.int .i64 l.o.qty)∧w'.cell? ⟨a,3,none⟩=some (.int .i64 l.o.client)∧w'.cell? ⟨a,4,none⟩=some (.int .i64 l.o.price)∧w'.cell? ⟨a,5,none⟩=some (.slice sa l.o.steps.length sc))∧w'.cell? ⟨a,6,none⟩=some (.slice da l.f.dn.length dc)∧w'.cell? ⟨a,7,none⟩=some (.slice ua l.f.un.length uc)∧w'.cell? ⟨a,8,none⟩=some (.bool l.f.asked)∧w'.cell? ⟨a,9,none⟩=some (.bool l.f.yes)∧w'.cell? ⟨a,10,none⟩=some (.bool l.f.turned)∧w'.cell? ⟨a,11,none⟩=some (.bool l.f.k0)∧w'.cell? ⟨a,12,none⟩=some (.bool l.f.k1)∧w'.cell? ⟨a,13,none⟩=some (.bool l.f.ship)∧w'.cell? ⟨a,14,none⟩=some (.bool l.f.d0)∧w'.cell? ⟨a,15,none⟩=some (.bool l.f.d1)∧w'.cell? ⟨a,16,none⟩=some (.bool l.f.acc)) (go_keep) (first
  |(go_at_call 144;refine(NX.out _ (by first|exact zF _ _|exact(zF _ _).drew)).mono ?_;clear NX;rintro e u1 ⟨na,nc,rfl,hx,hc⟩;clear c0 c1 c2 c3 c4 c5 c6 c7 c8 c9 c10 c11 c12 c13 c14 c15 c16;obtain⟨⟨c0,c1,c2,c3,c4,c5⟩,c6,c7,c8,c9,c10,c11,c12,c13,c14,c15,c16⟩:=hc;have HS0:=hide hx;clear hx))
 clear c0 c1 c2 c3 c4 c5 c6 c7 c8 c9 c10 c11 c12 c13 c14 c15 c16
 go_wp2_with fail
 generalize l.o=o at *
 obtain⟨nb,no,rfl,x0,x1,x2,x3,x4,x5,x6⟩:=HS0.out.nx.get (i:=0) (m:=⟨6,0,1,o.id,0,o.item,o.qty⟩) rfl
 simp only[Nat.zero_mul,Nat.add_zero]at x0 x1 x2 x3 x4 x5 x6
 go_loopw [5,18] (fun s i wr=>i= .int .i64 0∧s= .slice none 0 0∧wr=u1) (fun _ _ _=>0)
 case atStart=>exact⟨rfl,rfl,rfl⟩
 case round=>
  obtain⟨rfl,rfl,rfl⟩:=hrel;have hnl:nb<wr.heap.size:=World.block_lt_of_cell? _ _ x0
  have AS:=A0.out wr (wr.alloc (.cells #[.int .i64 6,.int .i64 0,.int .i64 1,.int .i64 o.id,.int .i64 0,.int .i64 o.item,.int .i64 o.qty] 34)) (some ⟨nb,no,none⟩) [] none 0 HS0.out rfl
  clear A0
  go_wp2_with(go_at_call 145;refine AS.mono ?_;clear AS;rintro e u2 ⟨rfl,hx,hy⟩;have HF:=hide hx.end;clear hx hy)
  first
   |(rw[Exit.noGoto_ret];go_ret;exact HF.out)
   |(go_ret;exact HF.out)
theorem csend_any(h:Up B O w p v q r b bt loc)(hg:∀u,Rg.Kept (fun i _=>Eo O i) w u→Gl u){id:Int}{l:Lk}{a:Nat}(hl:v.L id=some l)(ha:loc id=some a):
 Calls Tryz.prog 81 #[.pointer (some ⟨p,0,none⟩),.pointer (some ⟨a,0,none⟩)] w (SendR B O w p (sendS v l) q b bt loc (sendA v l)):=by
 unfold sendS sendA
 cases hp:prepB l
 ·rw[Bool.false_and,if_neg (by decide),Bool.false_and,if_neg (by decide)];exact csend_plain h hl ha (prepB_not hp)
 ·have hn:=prepB_of hp
  rw[hn,Bool.true_and];cases hb:(l.f.asked||roomC v 1)
  ·have h1:=csend_no h hg hl ha hn hb
   rw[Bool.or_eq_false_iff]at hb;have e3:noteS v [askE l.o.id]=v:=by unfold noteS;rw[show([askE l.o.id]:List Et).length =1 from rfl,hb.2];rfl
   rw[hb.1,hb.2,e3];exact h1
  ·have h1:=csend_prep h hg hl ha hn hb
   cases hq:l.f.asked
   ·rw[hq,Bool.false_or]at hb;rw[hq]at h1;rw[hb];exact h1
   ·rw[hq]at h1;exact h1
end
theorem own_low{w:World}{B B':Nat}{e:TypeId}{s:Nat}{v:Value}{n:Nat}{xs:List Value}(h:w.ownsRow B e s v n xs)(hB:B'≤B):w.ownsRow B' e s v n xs:=by
 obtain⟨h1,h2⟩:=h
 refine⟨h1,?_⟩
 rcases h2 with h2|⟨g,cap,cur,e1,e2,rest⟩
 ·exact .inl h2
 ·exact .inr ⟨g,cap,cur,e1,by omega,rest⟩
theorem agn_same{t:Int}{h:Int→Int}{id x:Int}(hx:agnH t h id x≠0):h x≠0:=by
 unfold agnH at hx
 split at hx
 ·exact hx
 ·rename_i h0;by_cases e:x=id
  ·subst e;exact h0
  ·rw[Bl.upd_other _ _ e]at hx;exact hx
theorem cut_same{h:Int→Int}{id x:Int}(hx:cutH h id x≠0):h x≠0:=by
 unfold cutH at hx
 by_cases e:x=id
 ·subst e;rw[Bl.upd_same]at hx;exact absurd rfl hx
 ·rw[Bl.upd_other _ _ e]at hx;exact hx
section
variable {B:Nat}{O:Pt→Nat→Prop}{w:World}{p:Nat}{v:Ch}{q:Nat}{r:Value}{b bt:Nat}{loc:Int→Option Nat}
theorem Up.bell(h:Up B O w p v q r b bt loc){h':Int→Int}{n:Nat}{w':World}(hb:Bt B (O .bl) w' bt v.t h' n)(hk:Rg.Kept (fun i _=>O .bl i) w w')(hs:∀x,h' x≠0→v.h x≠0):UStp B O w p (setH v h') q b bt loc w':=by
 have k1:=h.k.bstep (bt_wide hb (E':=growE (O .bl) w w') (fun i e=> .inl e) (fun i e=>e.elim (fun e=>⟨(h.k.bd _ _ e).1,zJ (h.k.bd _ _ e).2 hk.size⟩) (fun e=>⟨by have:=h.k.low;omega,e.2⟩))) hk
 refine⟨_,r,loc,⟨k1,setH_good h.g (fun e=>by rw[h.d]at e;cases e) (fun x hx=>h.g.bl x (hs x hx)),h.d⟩,fun i e=>gr_eo e,hk.mono (fun i _ e=>⟨_,e⟩),fun _ _ e=>e⟩
theorem Up.again(h:Up B O w p v q r b bt loc){id:Int}(hw:(Lit.int .i64 id).wf =true):
 Calls Tryz.prog 80 #[.pointer (some ⟨bt,0,none⟩),.int .i64 id] w fun e w'=>(∃x,e= .returned x)∧UStp B O w p (agnC v id) q b bt loc w':=
 (bagn_any h.k.bl hw (by omega)).mono (fun _ _ ⟨h1,h2,h3⟩=>⟨⟨_,h1⟩,h.bell h2 h3 (fun _ hx=>agn_same hx)⟩)
theorem Up.cut(h:Up B O w p v q r b bt loc){id:Int}(hw:(Lit.int .i64 id).wf =true):
 Calls Tryz.prog 74 #[.pointer (some ⟨bt,0,none⟩),.int .i64 id] w fun e w'=>(∃x,e= .returned x)∧UStp B O w p (setH v (cutH v.h id)) q b bt loc w':=
 (bcut_any h.k.bl hw).mono (fun _ _ ⟨h1,h2,h3⟩=>⟨⟨_,h1⟩,h.bell h2 h3 (fun _ hx=>cut_same hx)⟩)
theorem UStp.two{O1:Pt→Nat→Prop}{loc1:Int→Option Nat}{v2:Ch}{u w':World}(g1:∀i,Eo O1 i→growE (Eo O) w u i)(K1:Rg.Kept (fun i _=>Eo O i) w u)(l1:∀id a,loc id=some a→loc1 id=some a)(h:UStp B O1 u p v2 q b bt loc1 w'):UStp B O w p v2 q b bt loc w':=by
 obtain⟨O2,r2,loc2,k2,g2,K2,l2⟩:=h
 exact⟨O2,r2,loc2,k2,gr_two g1 g2 K1.size K2.size,kept_two g1 K1 K2,fun id a e=>l2 id a (l1 id a e)⟩
theorem SendR.two{O1:Pt→Nat→Prop}{loc1:Int→Option Nat}{v2:Ch}{xs:List Mg}{e:Ending}{u w':World}(g1:∀i,Eo O1 i→growE (Eo O) w u i)(K1:Rg.Kept (fun i _=>Eo O i) w u)(l1:∀id a,loc id=some a→loc1 id=some a)(h:SendR B O1 u p v2 q b bt loc1 xs e w'):SendR B O w p v2 q b bt loc xs e w':=by
 obtain⟨ra,rc,O2,r2,loc2,e1,hr,hE,k2,g2,K2,l2⟩:=h
 exact⟨ra,rc,O2,r2,loc2,e1,own_low hr K1.size,hE,k2,gr_two g1 g2 K1.size K2.size,kept_two g1 K1 K2,fun id a e=>l2 id a (l1 id a e)⟩
theorem UStp.quiet{v2:Ch}{w':World}(h:UStp B O w p v2 q b bt loc w'):SendR B O w p v2 q b bt loc [] (.returned (.slice none 0 0)) w':=by
 obtain⟨O2,r2,loc2,k2,g2,K2,l2⟩:=h
 exact⟨none,0,O2,r2,loc2,rfl,World.ownsRow_nil _ _ _ _,(fun ad e=>by cases e),k2,g2,K2,l2⟩
theorem Up.led(h:Up B O w p v q r b bt loc){id:Int}{l:Lk}{a:Nat}(hl:v.L id=some l)(ha:loc id=some a):∃sa sc da dc ua uc tp,LdV B (O (.ld id)) w a l sa sc da dc ua uc tp:=by
 obtain⟨a',ha',kl⟩:=h.k.ld id l hl
 rw[ha]at ha'
 cases ha'
 exact kl
set_option maxRecDepth 100000 in
set_option maxHeartbeats 2000000 in
theorem cgoon_any(h:Up B O w p v q r b bt loc)(hg:∀u,Rg.Kept (fun i _=>Eo O i) w u→Gl u){id:Int}{l:Lk}{a:Nat}(hl:v.L id=some l)(ha:loc id=some a):
 Calls Tryz.prog 60 #[.pointer (some ⟨p,0,none⟩),.pointer (some ⟨a,0,none⟩)] w (SendR B O w p (goS v l) q b bt loc (goA v l)):=by
 have gl:=h.g.gm id l hl
 have hw:(Lit.int .i64 l.o.id).wf =true:=by rw[gl.oid];exact wf_id gl.i1 gl.i2
 obtain⟨sa,sc,da,dc,ua,uc,tp,kl⟩:=h.led hl ha
 have c4:=h.k.cell3.2.2.2.2
 have c0:=kl.cells.1.1
 have AG:Hid (∀u,Below w.heap.size w u→Calls Tryz.prog 80 #[.pointer (some ⟨bt,0,none⟩),.int .i64 l.o.id] u fun e u1=>(∃x,e= .returned x)∧u1.cell? ⟨p,4,none⟩=some (.pointer (some ⟨bt,0,none⟩))∧u1.cell? ⟨a,0,none⟩=some (.int .i64 l.o.id)∧Calls Tryz.prog 73 #[.pointer (some ⟨a,0,none⟩)] u1 (fun e u2=>e= .returned (.bool (overF l.o l.f))∧u2.cell? ⟨p,4,none⟩=some (.pointer (some ⟨bt,0,none⟩))∧u2.cell? ⟨a,0,none⟩=some (.int .i64 l.o.id)∧
  (∀u3,Below u2.heap.size u2 u3→Calls Tryz.prog 74 #[.pointer (some ⟨bt,0,none⟩),.int .i64 l.o.id] u3 fun e w'=>(∃x,e= .returned x)∧w'.cell? ⟨p,4,none⟩=some (.pointer (some ⟨bt,0,none⟩))∧w'.cell? ⟨a,0,none⟩=some (.int .i64 l.o.id)∧SendR B O w p (setH v (cutH (agnH v.t v.h l.o.id) l.o.id)) q b bt loc [] (.returned (.slice none 0 0)) w')∧
  Calls Tryz.prog 81 #[.pointer (some ⟨p,0,none⟩),.pointer (some ⟨a,0,none⟩)] u2 (SendR B O w p (sendS (agnC v l.o.id) l) q b bt loc (sendA v l)))):=fun u hu=>by
  refine((h.on hu).again hw).mono ?_;rintro e u1 ⟨e1,h1⟩;obtain⟨O1,r1,loc1,k1,g1,K1,l1⟩:=h1.from hu
  have hl1:(agnC v l.o.id).L id=some l:=hl
  obtain⟨sa1,sc1,da1,dc1,ua1,uc1,tp1,kl1⟩:=k1.led hl1 (l1 id a ha);refine⟨e1,k1.k.cell3.2.2.2.2,kl1.cells.1.1,(lover_any kl1).mono ?_⟩;rintro e u2 ⟨e2,hb2⟩;have k2:=k1.on hb2
  have g2:∀i,Eo O1 i→growE (Eo O) w u2 i:=fun i e=>(g1 i e).imp (fun e=>e) (fun e=>⟨e.1,zJ e.2 hb2.size⟩)
  have K2:=K1.trans (zE (E:=fun i _=>Eo O i) hb2)
  refine⟨e2,k2.k.cell3.2.2.2.2,(kl1.on hb2).cells.1.1,fun u3 hu3=>?_,?_⟩
  ·refine((k2.on hu3).cut hw).mono ?_;rintro e w' ⟨e3,h3⟩;have h4:=h3.from hu3
   have h4':=h4
   obtain⟨O4,r4,loc4,k4,g4,K4,l4⟩:=h4';obtain⟨sa4,sc4,da4,dc4,ua4,uc4,tp4,kl4⟩:=k4.led (show(setH (agnC v l.o.id) (cutH (agnC v l.o.id).h l.o.id)).L id=some l from hl) (l4 id a (l1 id a ha));exact⟨e3,k4.k.cell3.2.2.2.2,kl4.cells.1.1,SendR.two g2 K2 l1 h4.quiet⟩
  ·refine(csend_any k2 (fun u' hk=>hg u' (kept_two g2 K2 hk)) hl1 (l1 id a ha)).mono ?_;rintro e w' h5;exact SendR.two g2 K2 l1 h5
 unfold goS goA
 generalize overF l.o l.f=ov at *
 generalize sendS (agnC v l.o.id) l=v1 at *
 generalize sendA v l=xs at *
 generalize setH v (cutH (agnH v.t v.h l.o.id) l.o.id)=v2 at *
 generalize l.o.id=oi at *
 clear h hg hl ha gl hw kl
 cases ov
 ·rw[if_neg (by decide),if_neg (by decide)];go_enter Tryz.func60,Tryz.ntmps60
  go_wp2_with fail
  go_region_held3(fun w'=>w'.cell? ⟨p,4,none⟩=some (.pointer (some ⟨bt,0,none⟩))∧w'.cell? ⟨a,0,none⟩=some (.int .i64 oi)) (go_keep) (first
   |(go_at_call 80;refine(AG.out _ (by first|exact zF _ _|exact(zF _ _).drew)).mono ?_;clear AG;rintro e u1 ⟨⟨x,rfl⟩,h1,h2,h3⟩;clear c4 c0;have c4:=h1;have c0:=h2;have OV:=h3;clear h1 h2 h3))
  go_wp2_with(first
   |(go_at_call 73;refine OV.mono ?_;clear OV;rintro e u2 ⟨rfl,-,-,-,h6⟩;have SN:=h6;clear h6)
   |(go_at_call 81;refine SN.mono ?_;clear SN;rintro e u3 h7;have HX:=hide h7;obtain⟨ra,rc,O9,r9,loc9,rfl,-⟩:=h7))
  go_ret
  exact HX.out
 ·rw[if_pos rfl,if_pos rfl];go_enter Tryz.func60,Tryz.ntmps60
  go_wp2_with fail
  go_region_held3(fun w'=>w'.cell? ⟨p,4,none⟩=some (.pointer (some ⟨bt,0,none⟩))∧w'.cell? ⟨a,0,none⟩=some (.int .i64 oi)) (go_keep) (first
   |(go_at_call 80;refine(AG.out _ (by first|exact zF _ _|exact(zF _ _).drew)).mono ?_;clear AG;rintro e u1 ⟨⟨x,rfl⟩,h1,h2,h3⟩;clear c4 c0;have c4:=h1;have c0:=h2;have OV:=h3;clear h1 h2 h3))
  clear c4 c0
  go_wp2_with(go_at_call 73;refine OV.mono ?_;clear OV;rintro e u2 ⟨rfl,c4,c0,h5,-⟩;have CT:=hide h5;clear h5)
  go_region_held3(fun w'=>w'.cell? ⟨p,4,none⟩=some (.pointer (some ⟨bt,0,none⟩))∧w'.cell? ⟨a,0,none⟩=some (.int .i64 oi)) (go_keep) (first
   |(go_at_call 74;refine(CT.out _ (by first|exact zF _ _|exact(zF _ _).drew)).mono ?_;clear CT;rintro e u4 ⟨⟨x4,rfl⟩,h1,h2,h3⟩;clear c4 c0;have c4:=h1;have c0:=h2;have HX:=hide h3;clear h1 h2 h3))
  go_wp2
  go_ret
  exact HX.out
end
theorem add_led{v:Ch}(g:GoodCh v){id:Int}{l:Lk}(hl:v.L id=some l){kk:Nat}(h0:kk≠0)(n:List Int):(addC v [⟨kk,l.o.id,n⟩]).L id=some (folL l kk n)∧(sureC v [⟨kk,l.o.id,n⟩]).L id=some (folL l kk n):=by
 have e:fol v.L ⟨kk,l.o.id,n⟩ id=some (folL l kk n):=by
  unfold fol;rw[(g.gm id l hl).oid,Gd.updO_same,if_neg h0,hl];rfl
 exact⟨e,e⟩
section
variable {B:Nat}{O:Pt→Nat→Prop}{w:World}{p:Nat}{v:Ch}{q:Nat}{r:Value}{b bt:Nat}{loc:Int→Option Nat}
theorem goon_then(hg:∀u,Rg.Kept (fun i _=>Eo O i) w u→Gl u){v1:Ch}{id:Int}{l1:Lk}{a:Nat}(hl1:v1.L id=some l1)(ha:loc id=some a){u:World}(hu:UStp B O w p v1 q b bt loc u):
 Calls Tryz.prog 60 #[.pointer (some ⟨p,0,none⟩),.pointer (some ⟨a,0,none⟩)] u (SendR B O w p (goS v1 l1) q b bt loc (goA v1 l1)):=by
 obtain⟨O1,r1,loc1,k1,g1,K1,l1'⟩:=hu
 exact(cgoon_any k1 (fun u' hk=>hg u' (kept_two g1 K1 hk)) hl1 (l1' id a ha)).mono (fun e w' h5=>SendR.two g1 K1 l1' h5)
set_option maxRecDepth 100000 in
set_option maxHeartbeats 1000000 in
theorem cturn_any(h:Up B O w p v q r b bt loc)(hg:∀u,Rg.Kept (fun i _=>Eo O i) w u→Gl u){id:Int}{l:Lk}{a:Nat}(hl:v.L id=some l)(ha:loc id=some a):
 Calls Tryz.prog 68 #[.pointer (some ⟨p,0,none⟩),.pointer (some ⟨a,0,none⟩)] w fun e w'=>∃x,e= .returned (.tuple #[x,.int .i64 (noE v 1)])∧SendR B O w p (sgS v l 5 []) q b bt loc (sgA v l 5 []) (.returned x) w':=by
 obtain⟨sa,sc,da,dc,ua,uc,tp,kl⟩:=h.led hl ha
 have hf:Fits22 v.L [⟨5,l.o.id,[]⟩]:=fit_led h.g hl (by decide) (by decide) rfl (fit_none (.inr (.inr (.inl rfl))))
 have AB:=cabout_any kl ⟨#[116,117,114,110]⟩ none 0 0
 have SU:Hid (∀u,Below w.heap.size w u→∀X,X=u.alloc (.cells #[.string ⟨#[116,117,114,110]⟩,.int .i64 l.o.id,.slice none 0 0] 104)→Calls Tryz.prog 57 #[.pointer (some ⟨p,0,none⟩),.slice (some ⟨u.heap.size,0,none⟩) 1 1] X fun x w'=>x= .returned (.int .i64 (noE v 1))∧UStp B O w p (sureS v [⟨5,l.o.id,[]⟩]) q b bt loc w'):=fun u hu X hX=>by
  obtain⟨h1,h2⟩:=h.row1 hu ⟨#[116,117,114,110]⟩ (e:=⟨5,l.o.id,[]⟩) rfl (na:=none) (nc:=0) hX (.inl rfl) (fun ad e=>by cases e);refine((h.on h1).sure1 (fun u' hk=>hg u' ((zE h1).trans hk)) hf h2).mono ?_;rintro x w' ⟨h3,h4⟩;exact⟨h3,h4.from h1⟩
 unfold sgS sgA
 unfold sureS at SU
 rcases noE_two v 1 with⟨e1,e2⟩|⟨e1,e2⟩
 ·rw[e1]at SU ⊢;rw[e2,if_pos rfl,if_pos rfl];rw[show([⟨5,l.o.id,[]⟩]:List Et).length =1 from rfl,e2,if_pos rfl]at SU;have GO:Hid (∀u,UStp B O w p (sureC v [⟨5,l.o.id,[]⟩]) q b bt loc u→Calls Tryz.prog 60 #[.pointer (some ⟨p,0,none⟩),.pointer (some ⟨a,0,none⟩)] u (SendR B O w p (goS (sureC v [⟨5,l.o.id,[]⟩]) (folL l 5 [])) q b bt loc (goA (sureC v [⟨5,l.o.id,[]⟩]) (folL l 5 [])))):=fun u hu=>goon_then hg (add_led h.g hl (by decide) []).2 ha hu
  generalize goS (sureC v [⟨5,l.o.id,[]⟩]) (folL l 5 [])=v1 at *;generalize goA (sureC v [⟨5,l.o.id,[]⟩]) (folL l 5 [])=xs at *;clear h hg hl ha kl hf e1 e2;go_enter Tryz.func68,Tryz.ntmps68
  go_wp2_with(first
   |(go_at_call 72;refine AB.mono ?_;clear AB;rintro e u ⟨rfl,hb⟩;have N2:=SU.out u hb _ rfl;clear hb SU)
   |(go_at_call 57;refine N2.mono ?_;clear N2;rintro e u2 ⟨rfl,hx⟩;have G2:=GO.out u2 hx;clear hx GO)
   |(go_at_call 60;refine G2.mono ?_;clear G2;rintro e u3 h7;have HX:=hide h7;obtain⟨ra,rc,O9,r9,loc9,rfl,-⟩:=h7))
  go_ret2
  exact⟨_,rfl,HX.out⟩
 ·rw[e1]at SU ⊢;rw[e2,if_neg (by decide),if_neg (by decide)];rw[show([⟨5,l.o.id,[]⟩]:List Et).length =1 from rfl,e2,if_neg (by decide)]at SU;clear h hg hl ha kl hf e1 e2;go_enter Tryz.func68,Tryz.ntmps68
  go_wp2_with(first
   |(go_at_call 72;refine AB.mono ?_;clear AB;rintro e u ⟨rfl,hb⟩;have N2:=SU.out u hb _ rfl;clear hb SU)
   |(go_at_call 57;refine N2.mono ?_;clear N2;rintro e u2 ⟨rfl,hx⟩;have HX:=hide hx.quiet;clear hx))
  go_ret2
  exact⟨_,rfl,HX.out⟩
theorem cturns_any(h:Up B O w p v q r b bt loc)(hg:∀u,Rg.Kept (fun i _=>Eo O i) w u→Gl u){id:Int}{l:Lk}{a:Nat}(hl:v.L id=some l)(ha:loc id=some a):
 Calls Tryz.prog 79 #[.pointer (some ⟨p,0,none⟩),.pointer (some ⟨a,0,none⟩)] w (SendR B O w p (sgS v l 5 []) q b bt loc (sgA v l 5 [])):=by
 have T:=cturn_any h hg hl ha
 generalize sgS v l 5 []=v1 at *
 generalize sgA v l 5 []=xs at *
 clear h hg hl ha
 go_enter Tryz.func79,Tryz.ntmps79
 go_wp2_with(go_at_call 68;refine T.mono ?_;clear T;rintro e u2 ⟨x,rfl,hx⟩;have HX:=hide hx;clear hx)
 go_ret
 exact HX.out
set_option maxRecDepth 100000 in
set_option maxHeartbeats 1000000 in
theorem cngo_any(h:Up B O w p v q r b bt loc)(hg:∀u,Rg.Kept (fun i _=>Eo O i) w u→Gl u){id:Int}{l:Lk}{a:Nat}(hl:v.L id=some l)(ha:loc id=some a){kk:Nat}{n:List Int}(hk:kk≤10)(h0:kk≠0)(hnn:numsB n=true)(f:FitL l kk n){na:Option Addr}{nc:Nat}(hn:Ints w na n)(hnE:∀ad,na=some ad→¬Eo O ad.block∧ad.block<w.heap.size):
 Calls Tryz.prog 157 #[.pointer (some ⟨p,0,none⟩),.pointer (some ⟨a,0,none⟩),.agg #[.string (kC kk),.int .i64 l.o.id,.slice na n.length nc]] w (SendR B O w p (ngS v l kk n) q b bt loc (ngA v l kk n)):=by
 have hf:Fits22 v.L [⟨kk,l.o.id,n⟩]:=fit_led h.g hl hk h0 hnn f
 obtain⟨W,hW⟩:∃W,W=w.alloc (.cells #[.string (kC kk),.int .i64 l.o.id,.slice na n.length nc] 104):=⟨_,rfl⟩
 have hbW:Below w.heap.size w W:=by rw[hW];exact(zF _ _).alloc (zD _) _
 have NT:Hid (∀X,X=W.alloc (.cells #[.string (kC kk),.int .i64 l.o.id,.slice na n.length nc] 104)→Calls Tryz.prog 133 #[.pointer (some ⟨p,0,none⟩),.slice (some ⟨W.heap.size,0,none⟩) 1 1] X fun x w'=>x= .returned (.int .i64 (noE v 1))∧UStp B O w p (noteS v [⟨kk,l.o.id,n⟩]) q b bt loc w'):=fun X hX=>by
  obtain⟨h1,h2⟩:=h.row1 hbW (kC kk) (e:=⟨kk,l.o.id,n⟩) rfl hX (hn.below hbW) (fun ad e=>⟨(hnE ad e).1,zJ (hnE ad e).2 hbW.size⟩);refine((h.on h1).note1 (fun u' hk=>hg u' ((zE h1).trans hk)) hf h2).mono ?_;rintro x w' ⟨h3,h4⟩;exact⟨h3,h4.from h1⟩
 unfold ngS ngA
 unfold noteS at NT
 have hs:W.heap.size=w.heap.size+1:=by rw[hW];simp
 rw[hs,hW]at NT
 clear hW hbW hn hnE
 rcases noE_two v 1 with⟨e1,e2⟩|⟨e1,e2⟩
 ·rw[e1]at NT;rw[e2,if_pos rfl,if_pos rfl];rw[show([⟨kk,l.o.id,n⟩]:List Et).length =1 from rfl,e2,if_pos rfl]at NT;have GO:Hid (∀u,UStp B O w p (addC v [⟨kk,l.o.id,n⟩]) q b bt loc u→Calls Tryz.prog 60 #[.pointer (some ⟨p,0,none⟩),.pointer (some ⟨a,0,none⟩)] u (SendR B O w p (goS (addC v [⟨kk,l.o.id,n⟩]) (folL l kk n)) q b bt loc (goA (addC v [⟨kk,l.o.id,n⟩]) (folL l kk n)))):=fun u hu=>goon_then hg (add_led h.g hl h0 n).1 ha hu
  generalize goS (addC v [⟨kk,l.o.id,n⟩]) (folL l kk n)=v1 at *;generalize goA (addC v [⟨kk,l.o.id,n⟩]) (folL l kk n)=xs at *;generalize addC v [⟨kk,l.o.id,n⟩]=v2 at *;generalize kC kk=K at *;generalize l.o.id=oi at *;generalize n.length=nl at *;clear h hg hl ha hf e1 e2 hnn f;go_enter Tryz.func157,Tryz.ntmps157
  have N2:=NT.out _ rfl
  go_wp2_with(first
   |(go_at_call 133;refine N2.mono ?_;clear N2;rintro e u2 ⟨rfl,hx⟩;have G2:=GO.out u2 hx;clear hx GO)
   |(go_at_call 60;refine G2.mono ?_;clear G2;rintro e u3 h7;have HX:=hide h7;obtain⟨ra,rc,O9,r9,loc9,rfl,-⟩:=h7))
  go_ret
  exact HX.out
 ·rw[e1]at NT;rw[e2,if_neg (by decide),if_neg (by decide)];rw[show([⟨kk,l.o.id,n⟩]:List Et).length =1 from rfl,e2,if_neg (by decide)]at NT;generalize kC kk=K at *;generalize l.o.id=oi at *;generalize n.length=nl at *;clear h hg hl ha hf e1 e2 hnn f;go_enter Tryz.func157,Tryz.ntmps157
  have N2:=NT.out _ rfl
  go_wp2_with(go_at_call 133;refine N2.mono ?_;clear N2;rintro e u2 ⟨rfl,hx⟩;have HX:=hide hx.quiet;clear hx)
  go_ret
  exact HX.out
end
end Go.Proofs.YthfgmpooehkhgaaGreatDoor
