import Derived.Test.YthfgmpooehkhgaaGreatDoorSmbhnpjl
import Derived.Test.YthfgmpooehkhgaaGreatDoorSmigddag
namespace Go.Proofs.YthfgmpooehkhgaaGreatDoor.Gd.Pu.Pa
open Go Go.RowKit Go.Maps
structure ElemOf (α:Type) where
 val:α→Value
 enc:α→DataW Unit
 el:Value→Option (DataW Unit×List MemPlace)
 fwd:∀c,el (val c)=some (enc c,[])
 inv:∀v y,el v=some y→∃c,v=val c∧y=(enc c,[])
 inj:∀c d,enc c=enc d→c=d
 minj:∀c d,val c=val d→c=d
def Mx{α:Type}(X:ElemOf α)(P:Program)(k:TypeId)(w:World)(b n:Nat)(r:Int→Option α):Prop:=∃D:DataW Unit,w.ownsMap P k X.el b n D∧FitsG X.enc D r
section
variable {α:Type}{X:ElemOf α}{P:Program}{k t e:TypeId}{w w':World}{b n:Nat}{r:Int→Option α}
theorem Mx.lt(h:Mx X P k w b n r):b<w.heap.size:=by obtain⟨D,hD,_⟩:=h;exact hD.lt
theorem Mx.mono{n':Nat}(h:Mx X P k w b n r)(hn:n≤n'):Mx X P k w b n' r:=by obtain⟨D,hD,hf⟩:=h;exact⟨D,hD.mono hn,hf⟩
theorem Mx.kept{E:Nat→Obj→Prop}(h:Mx X P k w b n r)(hk:Rg.Kept E w w')(hb:∀o,¬E b o):Mx X P k w' b n r:=by
 obtain⟨D,⟨es,c,h1,h2⟩,hf⟩:=h
 exact⟨D,⟨es,c,hk.block _ _ h1 (hb _),h2⟩,hf⟩
theorem Mx.on(h:Mx X P k w b n r)(hb:Below w.heap.size w w'):Mx X P k w' b n r:=h.kept (E:=fun _ _=>False) (Rg.Kept.of_below hb) (fun _ h=>h)
theorem Mx.new(X:ElemOf α)(P:Program)(k:TypeId)(w:World):Mx X P k (w.alloc (.map #[] 0)) w.heap.size 0 (fun _=>none):=⟨.map [],World.ownsMap_made _ _ _ _,FitsG.new _⟩
theorem _root_.Go.Proofs.YthfgmpooehkhgaaGreatDoor.Gd.FitsG.at_{D:DataW Unit}{c z:α}{id:Int}(f:FitsG X.enc D r)(h:D.atKey (.int .i64 id) (X.enc z)=X.enc c):(r id).getD z=c:=by
 have h1:=(f.2 id).1 (X.enc z)
 rw[h]at h1
 cases hg:r id with
 |none=>rw[hg]at h1;exact(X.inj _ _ h1).symm
 |some d=>rw[hg]at h1;exact(X.inj _ _ h1).symm
theorem Mx.look(h:Mx X P k w b n r)(hk:P.underlying k=some (.int .i64))(ht:P.underlying t=some (.map k e)){z:α}(hz:(zeroValue e).run P w= .ok (X.val z) w){id:Int}(hw:(Lit.int .i64 id).wf =true):
 (Instr.lookup t (.map (some b)) (.int .i64 id) false).run P w= .ok (X.val ((r id).getD z)) w:=by
 obtain⟨D,hD,f⟩:=h
 obtain⟨v,ps,hrun,hv⟩:=hD.lookup (int_keyed hk) ht hz (X.fwd z) (keyOf_int_mk hk hw)
 obtain⟨c,rfl,hc⟩:=X.inv _ _ hv
 rw[hrun,f.at_ (congrArg Prod.fst hc)]
theorem Mx.put(h:Mx X P k w b n r)(hk:P.underlying k=some (.int .i64))(ht:P.underlying t=some (.map k e)){id:Int}(hw:(Lit.int .i64 id).wf =true)(hn:n<1000000)(c:α):
 ∃w1,(Instr.mapUpdate t (.map (some b)) (.int .i64 id) (X.val c)).run P w= .ok () w1∧Mx X P k w1 b (n+1) (updO r id (some c))∧Rg.Kept (fun i _=>i=b) w w1:=by
 obtain⟨D,hD,f⟩:=h
 obtain⟨w1,hrun,o1,t1⟩:=hD.store (int_keyed hk) ht (by unfold maxLen;omega) (keyOf_int_mk hk hw) (X.fwd c)
 exact⟨w1,hrun,⟨_,o1,f.put id c⟩,Rg.Kept.grown t1.grown (fun i _ e=>(by cases e;rfl))⟩
end
section
variable {α:Type}{X:ElemOf α}{P:Program}{k:TypeId}{w:World}{b q n:Nat}{D:DataW Unit}{g:Int→Option α}{left:Lit→Bool}{cnt:Nat}{ss:List Int}
 {ops:Array Oper} {rest:List Oper} {o:Oper} {a:Act} {Q:Exit→Act→World→Prop}
theorem next_elem(hg:o.guard=none)(it:Operand)(hop:o.op=Op.next it false)(hk:P.underlying k=some (.int .i64))(hit:a.eval it= .pointer (some ⟨q,0,none⟩))(h:w.ranges P k X.el b q n D left cnt)(f:FitsG X.enc D g)(hC:CollectedI D left ss)
 (hDone:(∀x,x∈ss↔(g x).isSome =true)→wpList P ops Q rest (a.put o.dst (.tuple #[.bool false])) w)
 (hMore:∀(x:Int)(c:α)(w':World)(left':Lit→Bool)(cnt':Nat),g x=some c→x∉ss→w'.ranges P k X.el b q n D left' cnt'→CollectedI D left' (ss++ [x])→w'.rangeLeft b q<w.rangeLeft b q→w.grownBy w' (some q)→w'.heap.size=w.heap.size→
   (Instr.entry (.pointer (some ⟨q,0,none⟩))).run P w'= .ok (.tuple #[.int .i64 x,X.val c]) w'→wpList P ops Q rest (a.put o.dst (.tuple #[.bool true,.int .i64 x,X.val c])) w'):
 wpList P ops Q (o::rest) a w:=by
 refine wpList_next_ranges w hg it hop k (int_keyed hk) X.el encZ X.val (fun key kl e=>by obtain⟨x,hx,_⟩:=Maps.keyOf_i64 hk e;exact⟨x,hx⟩) (fun v y e=>by obtain⟨c,hc,_⟩:=X.inv _ _ e;exact⟨c,hc⟩) b q n D left cnt hit h ?_ ?_
 ·intro _ hl;exact hDone (fun x=>by rw[hC.2 x,(f.2 x).2,hl];simp)
 ·intro x c kl y w' cnt' hkey hlk hv hat hrg hlt hgr hsz hen;obtain⟨x',ex,rfl,_⟩:=Maps.keyOf_i64 hk hkey;obtain rfl:x=x':=encZ_inj ex;obtain⟨c',ec,rfl⟩:=X.inv _ _ hv;obtain rfl:c=c':=X.minj _ _ ec;have hgx:g x=some c:=by
   have h1:=(f.2 x).1
   cases hg:g x with
   |none=>
    exfalso;have h2:=hat .nil
    have h3:=hat (.lit (.bool true))
    rw[h1,hg]at h2 h3;have h4:(DataW.nil:DataW Unit)= .lit (.bool true):=(show DataW.nil=X.enc c from h2).trans (show DataW.lit (.bool true)=X.enc c from h3).symm
    cases h4
   |some d=>
    have h2:=hat (X.enc c)
    rw[h1,hg]at h2;rw[X.inj d c h2]
  have hnx:x∉ss:=fun hx=>by have:=((hC.2 x).1 hx).2;rw[hlk]at this;cases this
  exact hMore x c w' _ cnt' hgx hnx hrg (hC.step hlk hat) (by rw[hrg.left_eq,h.left_eq];exact hlt) hgr hsz hen
end
end Go.Proofs.YthfgmpooehkhgaaGreatDoor.Gd.Pu.Pa
