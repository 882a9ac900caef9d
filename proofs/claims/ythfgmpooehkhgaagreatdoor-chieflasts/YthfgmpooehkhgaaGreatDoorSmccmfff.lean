import Derived.Test.YthfgmpooehkhgaaGreatDoorSmabdogb
import Derived.Test.YthfgmpooehkhgaaGreatDoorSmigddag
import Derived.Deep.CutBlock
namespace Go.Proofs.YthfgmpooehkhgaaGreatDoor.Hd
open Go.ChangeShapes Go.WideShapes Go.ChangeAt Go.RowKit Go.Maps
end Go.Proofs.YthfgmpooehkhgaaGreatDoor.Hd
namespace Go.Proofs.YthfgmpooehkhgaaGreatDoor.Bl
open Go.ChangeShapes Go.WideShapes Go.ChangeAt Go.RowKit Go.Maps
theorem lawI:Keyed Tryz.prog 3:=int_keyed Tryz.underlying3
theorem zeroI(w:World):(zeroValue 3).run Tryz.prog w= .ok (.int .i64 0) w:=by kernel_rfl
theorem wf_of{a:Int}(h1: -9223372036854775808≤a)(h2:a≤9223372036854775807):(Lit.int .i64 a).wf =true:=WalkArith.wf_i64 ⟨h1,h2⟩
theorem bel_al{a w:World}(h:Below a.heap.size a w)(o:Obj):Below a.heap.size a (w.alloc o):=h.alloc h.size o
def FitB(D:DataW Unit)(h:Int→Int):Prop:=IsMap D∧∀x:Int,D.atKey (.int .i64 x) (.lit (.int .i64 0))= .lit (.int .i64 (lf (h x)))∧Maps.has D (.int .i64 x)=decide (h x≠0)
theorem FitB.new:FitB (.map []) (fun _=>0):=⟨isMap_empty,fun _=>⟨rfl,rfl⟩⟩
theorem FitB.put{D:DataW Unit}{h:Int→Int}(f:FitB D h)(id n:Int)(hn:0≤n):FitB (D.put (.int .i64 id) (.lit (.int .i64 n))) (upd h id (n+1)):=by
 refine⟨f.1.put _ _,fun x=>?_⟩
 by_cases e:x=id
 ·subst e;have hk:WideAt.IsKeyLit (Lit.int .i64 x):=trivial
  rw[upd_same,atKey_put_same f.1 hk,has_put_same f.1 hk,lf_up hn];exact⟨rfl,by simp;omega⟩
 ·rw[upd_other h _ e,atKey_put_other (by simpa using e),has_put_other (by simpa using e)];exact f.2 x
theorem FitB.del{D:DataW Unit}{h:Int→Int}(f:FitB D h)(id:Int):FitB (D.del (.int .i64 id)) (upd h id 0):=by
 refine⟨f.1.del _,fun x=>?_⟩
 by_cases e:x=id
 ·subst e;rw[upd_same,atKey_del_same,has_del_same];exact⟨rfl,by simp⟩
 ·rw[upd_other h 0 e,atKey_del_other (by simpa using e),has_del_other (by simpa using e)];exact f.2 x
def growE(E:Nat→Prop)(w w':World):Nat→Prop:=fun k=>E k∨(w.heap.size≤k∧k<w'.heap.size)
def BtV(E:Nat→Prop)(w:World)(p:Nat)(t:Int)(h:Int→Int)(n:Nat)(mv:Value):Prop:=
 w.heap[p]?=some (.cells #[.int .i64 t,mv] 162 (0,0))∧
 ((mv= .map none∧h=fun _=>0)∨∃b,mv= .map (some b)∧E b∧∃D:DataW Unit,w.ownsMap Tryz.prog 3 (plainElem Tryz.prog 3) b n D∧FitB D h)
def Bt(B:Nat)(E:Nat→Prop)(w:World)(p:Nat)(t:Int)(h:Int→Int)(n:Nat):Prop:=
 (∀k,E k→B≤k∧k<w.heap.size)∧E p∧GoodT t h∧∃mv,BtV E w p t h n mv
section
variable {B:Nat}{E E':Nat→Prop}{w w':World}{p:Nat}{t:Int}{h:Int→Int}{n n':Nat}{mv:Value}
theorem BtV.kept{F:Nat→Obj→Prop}(k:BtV E w p t h n mv)(hp:E p)(hk:Rg.Kept F w w')(hE:∀k o,E k→¬F k o):BtV E w' p t h n mv:=by
 obtain⟨h1,h2⟩:=k
 refine⟨hk.block _ _ h1 (hE _ _ hp),?_⟩
 rcases h2 with h2|⟨b,e1,e2,D,⟨es,c,e3,e4⟩,e5⟩
 ·exact .inl h2
 ·exact .inr ⟨b,e1,e2,D,⟨es,c,hk.block _ _ e3 (hE _ _ e2),e4⟩,e5⟩
theorem BtV.mono(k:BtV E w p t h n mv)(hn:n≤n')(hE:∀k,E k→E' k):BtV E' w p t h n' mv:=
 ⟨k.1,k.2.imp id (fun⟨b,e1,e2,D,e3,e4⟩=>⟨b,e1,hE _ e2,D,e3.mono hn,e4⟩)⟩
theorem Bt.good(k:Bt B E w p t h n):GoodT t h:=k.2.2.1
theorem Bt.low(k:Bt B E w p t h n):B≤w.heap.size:=by have:=k.1 p k.2.1;omega
theorem Bt.more(k:Bt B E w p t h n)(hn:n≤n'):Bt B E w p t h n':=by
 obtain⟨h1,h2,h3,mv,h4⟩:=k
 exact⟨h1,h2,h3,mv,h4.mono hn (fun _ e=>e)⟩
theorem Bt.kept{F:Nat→Obj→Prop}(k:Bt B E w p t h n)(hk:Rg.Kept F w w')(hE:∀k o,E k→¬F k o):Bt B E w' p t h n:=by
 obtain⟨h1,h2,h3,mv,h4⟩:=k
 exact⟨fun k e=>⟨(h1 k e).1,Nat.lt_of_lt_of_le (h1 k e).2 hk.size⟩,h2,h3,mv,h4.kept h2 hk hE⟩
theorem Bt.on(k:Bt B E w p t h n)(hb:Below w.heap.size w w'):Bt B E w' p t h n:=k.kept (F:=fun _ _=>False) (Rg.Kept.of_below hb) (fun _ _ _ h=>h)
theorem Bt.grow{W:World}(k:Bt B E w p t h n)(hB:B≤W.heap.size):Bt B (growE E W w) w p t h n:=by
 obtain⟨h1,h2,h3,mv,h4⟩:=k
 exact⟨fun k e=>e.elim (h1 k) (fun e=>⟨by omega,e.2⟩),.inl h2,h3,mv,h4.mono (Nat.le_refl _) (fun _ e=> .inl e)⟩
theorem BtV.cellT(k:BtV E w p t h n mv):w.cell? ⟨p,0,none⟩=some (.int .i64 t):=by rw[cell_of k.1];rfl
theorem BtV.cellM(k:BtV E w p t h n mv):w.cell? ⟨p,1,none⟩=some mv:=by rw[cell_of k.1];rfl
theorem BtV.frozen(k:BtV E w p t h n mv)(i:Nat):w.frozen? ⟨p,i,none⟩=false:=frozen_of_row _ _ _ _ _ k.1
theorem BtV.lt(k:BtV E w p t h n mv):p<w.heap.size:=(Array.getElem?_eq_some_iff.1 k.1).1
theorem BtV.look_ok(k:BtV E w p t h n mv){id:Int}(hw:(Lit.int .i64 id).wf =true):
 (Instr.lookup 160 mv (.int .i64 id) true).run Tryz.prog w= .ok (.tuple #[.int .i64 (lf (h id)),.bool (hasB h id)]) w:=by
 rcases k.2 with⟨rfl,rfl⟩|⟨b,rfl,_,D,h5,h6⟩
 ·show _=Result.ok (Value.tuple #[.int .i64 0,.bool false]) w
  kernel_rfl
 ·obtain⟨v,ps,hrun,hv⟩:=h5.look_ok lawI Tryz.underlying160 (zeroI _) (plainElem_int Tryz.underlying3 (by decide)) (keyOf_int_mk Tryz.underlying3 hw);obtain⟨c,rfl,hc,_⟩:=plainElem_int_inv Tryz.underlying3 hv;have e1:=(h6.2 id).1
  have e2:D.atKey (.int .i64 id) (.lit (.int .i64 0))= .lit (.int .i64 c):=congrArg Prod.fst hc
  rw[e1]at e2;rw[hrun,(h6.2 id).2];cases e2;rfl
end
theorem own_look{w:World}{b n:Nat}{D:DataW Unit}(h5:w.ownsMap Tryz.prog 3 (plainElem Tryz.prog 3) b n D){id:Int}(hw:(Lit.int .i64 id).wf =true){x:Int}(hx:D.atKey (.int .i64 id) (.lit (.int .i64 0))= .lit (.int .i64 x)):
 (Instr.lookup 160 (.map (some b)) (.int .i64 id) false).run Tryz.prog w= .ok (.int .i64 x) w:=by
 obtain⟨v,ps,hrun,hv⟩:=h5.lookup lawI Tryz.underlying160 (zeroI _) (plainElem_int Tryz.underlying3 (by decide)) (keyOf_int_mk Tryz.underlying3 hw)
 obtain⟨c,rfl,hc,_⟩:=plainElem_int_inv Tryz.underlying3 hv
 have e2:D.atKey (.int .i64 id) (.lit (.int .i64 0))= .lit (.int .i64 c):=congrArg Prod.fst hc
 rw[hx]at e2
 rw[hrun]
 cases e2
 rfl
theorem turned_kept{w w1:World}{b:Nat}(h:w.mapTurned w1 b):Rg.Kept (fun i _=>i=b) w w1:=Rg.Kept.grown h.grown (fun i _ e=>(by cases e;rfl))
theorem bisid_any(id:Int)(w:World):Calls Tryz.prog 135 #[.int .i64 id] w fun e w'=>e= .returned (.bool (isI id))∧w=w':=by
 by_cases h0:1≤id
 ·by_cases h1:id≤999
  ·have hm:true=isI id:=(isI_iff.2 ⟨h0,h1⟩).symm
   rw[←hm];clear hm;go_enter Tryz.func135,Tryz.ntmps135
   go_wp2
   go_ret
   exact⟨rfl,rfl⟩
  ·have hm:false=isI id:=by unfold isI;simp;omega
   rw[←hm];clear hm;go_enter Tryz.func135,Tryz.ntmps135
   go_wp2
   go_ret
   exact⟨rfl,rfl⟩
 ·have hm:false=isI id:=by unfold isI;simp;omega
  rw[←hm];clear hm;go_enter Tryz.func135,Tryz.ntmps135
  go_wp2
  go_ret
  exact⟨rfl,rfl⟩
set_option maxHeartbeats 400000 in
theorem bhas_any{B:Nat}{E:Nat→Prop}{w:World}{p:Nat}{t:Int}{h:Int→Int}{n:Nat}(k:Bt B E w p t h n){id:Int}(hw:(Lit.int .i64 id).wf =true):
 Calls Tryz.prog 136 #[.pointer (some ⟨p,0,none⟩),.int .i64 id] w fun e w'=>e= .returned (.bool (hasB h id))∧w=w':=by
 obtain⟨-,-,-,mv,hv⟩:=k
 have c1:=hv.cellM
 have hl:=hv.look_ok hw
 clear hv
 obtain⟨v,hv⟩:∃v,v=lf (h id):=⟨_,rfl⟩
 obtain⟨q,hq⟩:∃q,q=hasB h id:=⟨_,rfl⟩
 rw[←hq,←hv]at hl
 rw[←hq]
 clear hv hq
 go_enter Tryz.func136,Tryz.ntmps136
 go_wp2
 go_ret
 exact⟨rfl,rfl⟩
set_option maxHeartbeats 400000 in
theorem bnew_any(r:Int)(w:World):
 Calls Tryz.prog 51 #[.int .i64 r] w fun e w'=>∃p,e= .returned (.pointer (some ⟨p,0,none⟩))∧p=w.heap.size∧Bt w.heap.size (fun k=>k=p) w' p (clampT r) (fun _=>0) 0∧Below w.heap.size w w':=by
 have hG:Hid (GoodT (clampT r) (fun _=>0)):=GoodT.new
 have key:∀c W,c=clampT r→W=w.alloc (.cells #[.int .i64 c,.map none] 162)→Bt w.heap.size (fun k=>k=w.heap.size) W w.heap.size (clampT r) (fun _=>0) 0∧Below w.heap.size w W:=by
  rintro c W rfl rfl;exact⟨⟨fun k e=>⟨Nat.le_of_eq e.symm,by rw[e];simp⟩,rfl,hG.out,_,World.alloc_heap_new _ _,.inl ⟨rfl,rfl⟩⟩,bel_al (Below.refl _ _) _⟩
 have KEY:=hide key
 clear key hG
 by_cases h0:1≤r
 ·by_cases h1:r≤20
  ·have HC:Hid (r=clampT r):=(clampT_in h0 h1).symm
   go_enter Tryz.func51,Tryz.ntmps51
   go_wp2
   go_ret
   exact⟨_,rfl,rfl,KEY.out _ _ HC.out rfl⟩
  ·have HC:Hid (20=clampT r):=by show _=_;unfold clampT;rw[if_neg (by omega),if_neg h1]
   go_enter Tryz.func51,Tryz.ntmps51
   go_wp2
   go_ret
   exact⟨_,rfl,rfl,KEY.out _ _ HC.out rfl⟩
 ·have HC:Hid (1=clampT r):=by show _=_;unfold clampT;rw[if_pos (by omega)]
  go_enter Tryz.func51,Tryz.ntmps51
  go_wp2
  go_ret
  exact⟨_,rfl,rfl,KEY.out _ _ HC.out rfl⟩
section
variable {B:Nat}{E:Nat→Prop}{w:World}{p:Nat}{t:Int}{h:Int→Int}{n:Nat}
theorem BtV.map{mv:Value}(k:BtV E w p t h n mv){id:Int}(hx:h id≠0):∃b,mv= .map (some b)∧E b∧b≠p∧∃D:DataW Unit,w.ownsMap Tryz.prog 3 (plainElem Tryz.prog 3) b n D∧FitB D h:=by
 rcases k.2 with⟨_,rfl⟩|⟨b,e1,e2,D,e3,e4⟩
 ·exact absurd rfl hx
 ·refine⟨b,e1,e2,?_,D,e3,e4⟩;rintro rfl;obtain⟨es,c,hb,_⟩:=e3;rw[k.1]at hb;cases hb
theorem Bt.turn{b:Nat}{w1:World}{D:DataW Unit}{h':Int→Int}{n':Nat}(hE:∀k,E k→B≤k∧k<w.heap.size)(hp:E p)(hb:E b)(hne:b≠p)(h1:w.heap[p]?=some (.cells #[.int .i64 t,.map (some b)] 162 (0,0)))
 (hk:Rg.Kept (fun i _=>i=b) w w1) (ho:w1.ownsMap Tryz.prog 3 (plainElem Tryz.prog 3) b n' D) (hf:FitB D h') (hg:GoodT t h'):Bt B E w1 p t h' n'∧Rg.Kept (fun i _=>E i) w w1:=
 ⟨⟨fun k e=>⟨(hE k e).1,Nat.lt_of_lt_of_le (hE k e).2 hk.size⟩,hp,hg,_,hk.block _ _ h1 (fun e=>hne e.symm),.inr ⟨b,rfl,hb,D,ho,hf⟩⟩,hk.mono (fun _ _ e=>by rw[e];exact hb)⟩
theorem turned_size{w w1:World}{b:Nat}(h:w.mapTurned w1 b):w1.heap.size=w.heap.size:=by
 obtain⟨_,_,_,_,_,rfl⟩:=h
 simp[Go.ChangeMaps.setBlock]
theorem own_upd{b:Nat}{D:DataW Unit}(hown:w.ownsMap Tryz.prog 3 (plainElem Tryz.prog 3) b n D){id v:Int}(hw:(Lit.int .i64 id).wf =true)(h0:0≤v)(h1:v≤20)(hn:n<1000000):
 ∃w2:World,(Instr.mapUpdate 160 (.map (some b)) (.int .i64 id) (.int .i64 v)).run Tryz.prog w.drew= .ok () w2∧w2.ownsMap Tryz.prog 3 (plainElem Tryz.prog 3) b (n+1) (D.put (.int .i64 id) (.lit (.int .i64 v)))∧Rg.Kept (fun i _=>i=b) w w2∧w2.heap.size=w.heap.size:=by
 have hownD:w.drew.ownsMap Tryz.prog 3 (plainElem Tryz.prog 3) b n D:=hown
 obtain⟨w1,hrun,o1,t1⟩:=hownD.store lawI Tryz.underlying160 (by unfold maxLen;omega) (keyOf_int_mk Tryz.underlying3 hw) (plainElem_int Tryz.underlying3 (wf_of (a:=v) (by omega) (by omega)))
 have kd:Rg.Kept (fun i _=>i=b) w w.drew:=Rg.Kept.of_below (Below.refl _ w).drew
 exact⟨w1,hrun,o1,kd.trans (turned_kept t1),(turned_size t1).trans rfl⟩
theorem own_upd0{b:Nat}{D:DataW Unit}(hown:w.ownsMap Tryz.prog 3 (plainElem Tryz.prog 3) b n D){id v:Int}(hw:(Lit.int .i64 id).wf =true)(h0:0≤v)(h1:v≤20)(hn:n<1000000):
 ∃w2:World,(Instr.mapUpdate 160 (.map (some b)) (.int .i64 id) (.int .i64 v)).run Tryz.prog w= .ok () w2∧w2.ownsMap Tryz.prog 3 (plainElem Tryz.prog 3) b (n+1) (D.put (.int .i64 id) (.lit (.int .i64 v)))∧Rg.Kept (fun i _=>i=b) w w2:=by
 obtain⟨w1,hrun,o1,t1⟩:=hown.store lawI Tryz.underlying160 (by unfold maxLen;omega) (keyOf_int_mk Tryz.underlying3 hw) (plainElem_int Tryz.underlying3 (wf_of (a:=v) (by omega) (by omega)))
 exact⟨w1,hrun,o1,turned_kept t1⟩
set_option maxHeartbeats 1000000 in
theorem bcut_any(k:Bt B E w p t h n){id:Int}(hw:(Lit.int .i64 id).wf =true):
 Calls Tryz.prog 74 #[.pointer (some ⟨p,0,none⟩),.int .i64 id] w fun e w'=>e= .returned (.bool (hasB h id))∧Bt B E w' p t (cutH h id) (n+1)∧Rg.Kept (fun i _=>E i) w w':=by
 have H:=bhas_any k hw
 by_cases hz:h id=0
 ·have hd:hasB h id=false:=by simp[hasB,hz]
  rw[hd]at H ⊢;rw[cutH_no hz];have HK:=hide (k.more (Nat.le_succ n))
  clear k hd hz;go_enter Tryz.func74,Tryz.ntmps74
  go_wp2_with(go_at_call 136;refine H.mono ?_;rintro e w' ⟨rfl,rfl⟩)
  go_ret
  exact⟨rfl,HK.out,Rg.Kept.refl _ _⟩
 ·have hd:hasB h id=true:=by simp[hasB,hz]
  rw[hd]at H ⊢;have g2:=k.good.cut id
  obtain⟨hE,hp,-,mv,hv⟩:=k;have c1:=hv.cellM
  obtain⟨b,rfl,hEb,hne,D,hown,hf⟩:=hv.map hz;have hkey:=keyOf_int_mk Tryz.underlying3 hw
  have fin:∀w1,w1.ownsMap Tryz.prog 3 (plainElem Tryz.prog 3) b n (D.del (.int .i64 id))→w.mapTurned w1 b→Bt B E w1 p t (cutH h id) (n+1)∧Rg.Kept (fun i _=>E i) w w1:=fun w1 o1 t1=>
   Bt.turn hE hp hEb hne hv.1 (turned_kept t1) (o1.mono (Nat.le_succ n)) (hf.del id) g2
  have FIN:=hide fin
  clear fin hE hp hv hEb hne hf g2 hz hd;go_enter Tryz.func74,Tryz.ntmps74
  go_wp2_with(first
   |(go_at_call 136;refine H.mono ?_;rintro e w' ⟨rfl,rfl⟩)
   |(at_delete;refine wpList_delete_own _ rfl _ _ 160 3 rfl 3 lawI Tryz.underlying160 _ b n D rfl hown _ _ rfl hkey ?_;intro w1 hown1 hturn1)
   |go_in)
  go_ret
  exact⟨rfl,FIN.out _ hown1 hturn1⟩
set_option maxHeartbeats 1000000 in
theorem bagn_any(k:Bt B E w p t h n){id:Int}(hw:(Lit.int .i64 id).wf =true)(hn:n<1000000):
 Calls Tryz.prog 80 #[.pointer (some ⟨p,0,none⟩),.int .i64 id] w fun e w'=>e= .returned (.bool (hasB h id))∧Bt B E w' p t (agnH t h id) (n+1)∧Rg.Kept (fun i _=>E i) w w':=by
 have H:=bhas_any k hw
 by_cases hz:h id=0
 ·have hd:hasB h id=false:=by simp[hasB,hz]
  rw[hd]at H ⊢;have e2:agnH t h id=h:=if_pos hz
  rw[e2];have HK:=hide (k.more (Nat.le_succ n))
  clear k hd hz e2;go_enter Tryz.func80,Tryz.ntmps80
  go_wp2_with(go_at_call 136;refine H.mono ?_;rintro e w' ⟨rfl,rfl⟩)
  go_ret
  exact⟨rfl,HK.out,Rg.Kept.refl _ _⟩
 ·have hd:hasB h id=true:=by simp[hasB,hz]
  rw[hd]at H ⊢;have g2:=k.good.agn id
  have ht:=k.good.lo
  have ht2:=k.good.hi
  obtain⟨hE,hp,-,mv,hv⟩:=k;have c0:=hv.cellT
  have c1:=hv.cellM
  obtain⟨b,rfl,hEb,hne,D,hown,hf⟩:=hv.map hz;have e2:agnH t h id=upd h id (t+1):=if_neg hz
  rw[e2]at g2 ⊢;obtain⟨w2,r2,o2,k2,-⟩:=own_upd hown hw (v:=t) (by omega) ht2 hn;have FIN:=hide (Bt.turn hE hp hEb hne hv.1 k2 o2 (hf.put id t (by omega)) g2)
  clear hE hp hv hEb hne hf g2 hz hd e2 o2 k2 hown ht ht2;go_enter Tryz.func80,Tryz.ntmps80
  go_wp2_with(go_at_call 136;refine H.mono ?_;rintro e w' ⟨rfl,rfl⟩)
  go_region
  all_goals go_wp2
  all_goals go_ret
  all_goals exact⟨rfl,FIN.out⟩
set_option maxHeartbeats 1000000 in
theorem bring_any(k:Bt B E w p t h n){id:Int}(hw:(Lit.int .i64 id).wf =true)(hn:n<1000000):
 Calls Tryz.prog 78 #[.pointer (some ⟨p,0,none⟩),.int .i64 id] w fun e w'=>e= .returned (.tuple #[.bool (hasB h id),.bool (oftB h id)])∧Bt B E w' p t (ringH h id) (n+1)∧Rg.Kept (fun i _=>E i) w w':=by
 have H:=bhas_any k hw
 by_cases hz:h id=0
 ·have hd:hasB h id=false:=by simp[hasB,hz]
  have ho:oftB h id=false:=by simp[oftB,hz]
  have e2:ringH h id=h:=if_pos (by omega)
  rw[hd]at H ⊢;rw[ho,e2];have HK:=hide (k.more (Nat.le_succ n))
  clear k hd hz e2 ho;go_enter Tryz.func78,Tryz.ntmps78
  go_wp2_with(go_at_call 136;refine H.mono ?_;rintro e w' ⟨rfl,rfl⟩)
  go_ret2
  exact⟨rfl,HK.out,Rg.Kept.refl _ _⟩
 ·have hd:hasB h id=true:=by simp[hasB,hz]
  have hps:=k.good.pos id
  rw[hd]at H ⊢;by_cases h1:h id=1
  ·have ho:oftB h id=true:=by simp[oftB,h1]
   have e2:ringH h id=h:=if_pos (by omega)
   rw[ho,e2];have HK:=hide (k.more (Nat.le_succ n))
   obtain⟨hE,hp,-,mv,hv⟩:=k;have c1:=hv.cellM
   obtain⟨b,rfl,hEb,hne,D,hown,hf⟩:=hv.map hz;have hl:=own_look hown hw (x:=0) (by rw[(hf.2 id).1,h1];rfl)
   clear hd hz e2 ho hE hp hv hEb hne hown hf h1 hps;go_enter Tryz.func78,Tryz.ntmps78
   go_wp2_with(go_at_call 136;refine H.mono ?_;rintro e w' ⟨rfl,rfl⟩)
   go_ret2
   exact⟨rfl,HK.out,Rg.Kept.refl _ _⟩
  ·have ho:oftB h id=false:=by simp[oftB,h1]
   have e2:ringH h id=upd h id (h id-1):=if_neg (by omega)
   have g2:=k.good.ring id
   have htp:=k.good.top id
   have hth:=k.good.hi
   rw[e2]at g2 ⊢;rw[ho];obtain⟨hE,hp,-,mv,hv⟩:=k;have c1:=hv.cellM
   obtain⟨b,rfl,hEb,hne,D,hown,hf⟩:=hv.map hz;obtain⟨x,hx⟩:∃x,h id=x+1:=⟨h id-1,by omega⟩
   have hat:D.atKey (.int .i64 id) (.lit (.int .i64 0))= .lit (.int .i64 x):=by rw[(hf.2 id).1,hx,lf_up (by omega)]
   have hl:=own_look hown hw hat
   rw[show h id-1=(x-1)+1 by omega]at g2 ⊢;have hx1:1≤x:=by omega
   have hx2:x≤20:=by omega
   obtain⟨w2,r2,o2,k2⟩:=own_upd0 hown hw (v:=x-1) (by omega) (by omega) hn;have FIN:=hide (Bt.turn hE hp hEb hne hv.1 k2 o2 (hf.put id (x-1) (by omega)) g2)
   have q0:(x==0)=false:=by simp;omega
   clear hE hp hv hEb hne hf g2 hz hd e2 o2 k2 hown ho h1 htp hth hat hx hps;go_enter Tryz.func78,Tryz.ntmps78
   go_wp2_with(go_at_call 136;refine H.mono ?_;rintro e w' ⟨rfl,rfl⟩)
   go_ret2
   exact⟨rfl,FIN.out⟩
set_option maxHeartbeats 1000000 in
theorem bhang_any(k:Bt B E w p t h n){id:Int}(hw:(Lit.int .i64 id).wf =true)(hn:n<1000000):
 Calls Tryz.prog 59 #[.pointer (some ⟨p,0,none⟩),.int .i64 id] w fun e w'=>e= .returned (.bool (hangB h id))∧Bt B (growE E w w') w' p t (hangH t h id) (n+1)∧Rg.Kept (fun i _=>E i) w w':=by
 have H:=bhas_any k hw
 have I:=bisid_any id w
 have HLW:=hide k.low
 cases hi:isI id
 ·rw[hi]at I;have hB:hangB h id=false:=by simp[hangB,hi]
  have e2:hangH t h id=h:=if_neg (by rw[hB];simp)
  rw[hB,e2];have HK:=hide (k.more (Nat.le_succ n))
  clear k hB e2 H hi;go_enter Tryz.func59,Tryz.ntmps59
  go_wp2_with(go_at_call 135;refine I.mono ?_;rintro e w' ⟨rfl,rfl⟩)
  go_ret
  exact⟨rfl,HK.out.grow HLW.out,Rg.Kept.refl _ _⟩
 ·rw[hi]at I;by_cases hz:h id=0
  ·have hB:hangB h id=true:=by simp[hangB,hi,hz]
   have e2:hangH t h id=upd h id (t+1):=if_pos hB
   have hd:hasB h id=false:=by simp[hasB,hz]
   have g2:=k.good.hang id
   have ht:=k.good.lo
   have ht2:=k.good.hi
   rw[hd]at H;rw[e2]at g2 ⊢;rw[hB];obtain⟨hE,hp,-,mv,hv⟩:=k;have c0:=hv.cellT
   have c1:=hv.cellM
   rcases hv.2 with⟨rfl,hh⟩|⟨b,rfl,hEb,D,hown,hf⟩
   ·have hlt:=hv.lt
    have f1:=hv.frozen 1
    have hnm:∀u:World,(binOp BinOp.eql 160 (.map none) (.map none)).run Tryz.prog u= .ok (.bool true) u:=fun _=>by kernel_rfl
    have hmm:=@run_makeMap Tryz.prog
    obtain⟨V,hV⟩:∃V,(w.setCell ⟨p,1,none⟩ (.map (some w.heap.size))).alloc (.map #[] 0)=V:=⟨_,rfl⟩
    have hV2:V=(w.alloc (.map #[] 0)).setCell ⟨p,1,none⟩ (.map (some w.heap.size)):=by rw[←hV];simp[go_sem,hlt]
    have hkV:Rg.Kept (fun i _=>E i) w V:=by rw[hV2];exact(Rg.Kept.alloc _).trans (Rg.Kept.setCell _ (fun _=>hp))
    have hzV:V.heap.size=w.heap.size+1:=by rw[hV2];simp
    have hpV:V.heap[p]?=some (.cells #[.int .i64 t,.map (some w.heap.size)] 162 (0,0)):=by
     have h3:(w.alloc (.map #[] 0)).heap[p]?=some (.cells #[.int .i64 t,.map none] 162 (0,0)):=(Below.heap_alloc _ _ _ hlt).trans hv.1
     rw[hV2,heap_setCell_same _ _ _ _ _ _ h3];rfl
    have hown:V.ownsMap Tryz.prog 3 (plainElem Tryz.prog 3) w.heap.size n (.map []:DataW Unit):=by
     rw[hV2];exact((World.ownsMap_made _ _ _ _).setCell (a:=⟨p,1,none⟩) (show w.heap.size≠p by omega) _).mono (Nat.zero_le _)
    obtain⟨w2,r2,o2,k2,e1⟩:=own_upd hown hw (v:=t) (by omega) ht2 hn;rw[hzV]at e1;have HB:=HLW.out
    have fin:Bt B (growE E w w2) w2 p t (upd h id (t+1)) (n+1)∧Rg.Kept (fun i _=>E i) w w2:=by
     subst hh;obtain⟨q1,q2⟩:=Bt.turn (B:=B) (E:=growE E w w2) (w:=V) (p:=p) (t:=t) (b:=w.heap.size) (fun k e=>e.elim (fun e=>⟨(hE k e).1,by have:=(hE k e).2;omega⟩) (fun e=>⟨by omega,by omega⟩)) (.inl hp) (.inr ⟨Nat.le_refl _,by omega⟩) (by omega) hpV (k2) o2 (FitB.new.put id t (by omega)) g2;refine⟨q1,⟨q2.os.trans hkV.os,q2.tape.trans hkV.tape,q2.output.trans hkV.output,Nat.le_trans hkV.size q2.size,fun i o hi hx=>q2.block i o (hkV.block i o hi hx) (fun e=>e.elim hx (fun e=>?_))⟩⟩;have:=(Array.getElem?_eq_some_iff.1 hi).1
     omega
    have FIN:=hide fin
    have d0:V.cell? ⟨p,0,none⟩=some (.int .i64 t):=by rw[cell_of hpV];rfl
    have d1:V.cell? ⟨p,1,none⟩=some (.map (some w.heap.size)):=by rw[cell_of hpV];rfl
    clear fin hE hp hv hh g2 hz hB e2 hd o2 k2 hown hpV hzV hkV hV2 ht ht2 e1 HB;go_enter Tryz.func59,Tryz.ntmps59
    go_wp2_with(first
     |(go_at_call 135;refine I.mono ?_;rintro e w' ⟨rfl,rfl⟩)
     |(go_at_call 136;refine H.mono ?_;rintro e w' ⟨rfl,rfl⟩))
    go_region
    all_goals go_wp2
    all_goals go_ret
    all_goals exact⟨rfl,FIN.out⟩
   ·have hne:b≠p:=by
     rintro rfl;obtain⟨es,c,hb,_⟩:=hown;rw[hv.1]at hb;cases hb
    have hnm:∀u:World,(binOp BinOp.eql 160 (.map (some b)) (.map none)).run Tryz.prog u= .ok (.bool false) u:=fun _=>by kernel_rfl
    obtain⟨w2,r2,o2,k2,-⟩:=own_upd hown hw (v:=t) (by omega) ht2 hn;have fin:=Bt.turn hE hp hEb hne hv.1 k2 o2 (hf.put id t (by omega)) g2
    have FIN:=hide fin
    clear fin hE hp hv hEb hne hf g2 hz hB e2 hd o2 k2 hown ht ht2;go_enter Tryz.func59,Tryz.ntmps59
    go_wp2_with(first
     |(go_at_call 135;refine I.mono ?_;rintro e w' ⟨rfl,rfl⟩)
     |(go_at_call 136;refine H.mono ?_;rintro e w' ⟨rfl,rfl⟩))
    go_region
    all_goals go_wp2
    all_goals go_ret
    all_goals exact⟨rfl,FIN.out.1.grow HLW.out,FIN.out.2⟩
  ·have hB:hangB h id=false:=by simp[hangB,hz]
   have e2:hangH t h id=h:=if_neg (by rw[hB];simp)
   have hd:hasB h id=true:=by simp[hasB,hz]
   rw[hd]at H;rw[hB,e2];have HK:=hide (k.more (Nat.le_succ n))
   clear k hB e2 hi hz hd;go_enter Tryz.func59,Tryz.ntmps59
   go_wp2_with(first
    |(go_at_call 135;refine I.mono ?_;rintro e w' ⟨rfl,rfl⟩)
    |(go_at_call 136;refine H.mono ?_;rintro e w' ⟨rfl,rfl⟩))
   go_ret
   exact⟨rfl,HK.out.grow HLW.out,Rg.Kept.refl _ _⟩
end
end Go.Proofs.YthfgmpooehkhgaaGreatDoor.Bl
