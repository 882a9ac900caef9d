import Derived.Test.YthfgmpooehkhgaaGreatDoorSmjgkifg
import Derived.Laws.CopyOwn
import Derived.Test.YthfgmpooehkhgaaGreatDoorSmamdiei
namespace Go.Proofs.YthfgmpooehkhgaaGreatDoor.Sg
open Go.ChangeShapes Go.WideShapes Go.ChangeAt Go.RowKit
open List renaming setIfInBounds_toArray→zA,set_cons_zero→zB,set_cons_succ→zC
open Nat renaming le_refl→zD,lt_of_lt_of_le→zJ
open Below renaming refl→zF
open Go.AllReadyH renaming cons→zG,nil→zH
open Go.World renaming alloc_heap_new→zI
structure Rq (w:World) (o:Od) (a:Option Addr) (c:Nat) (u:World):Prop where
 ob:u.heap[w.heap.size]?=some (.cells #[.int .i64 o.id,.int .i64 o.item,.int .i64 o.qty,.int .i64 o.client,.int .i64 o.price,.slice a o.steps.length c] 32 (0,0))
 bel:Below w.heap.size w u
 sz:w.heap.size<u.heap.size
theorem Rq.on{w:World}{o:Od}{a:Option Addr}{c:Nat}{u v:World}(h:Rq w o a c u)(hb:Below u.heap.size u v):Rq w o a c v:=
 ⟨(hb.block _ (Array.getElem?_eq_some_iff.1 h.ob).1).trans h.ob,bel_on' h.bel hb,by have:=hb.size;have:=h.sz;omega⟩
theorem Rq.onB{w:World}{o:Od}{a:Option Addr}{c:Nat}{u v:World}(h:Rq w o a c u){B:Nat}(hB:w.heap.size<B)(hb:Below B u v):Rq w o a c v:=
 ⟨(hb.block _ (by omega)).trans h.ob,h.bel.trans (hb.mono (by omega)),by have:=hb.size;have:=h.sz;omega⟩
theorem Rq.drew{w:World}{o:Od}{a:Option Addr}{c:Nat}{u:World}(h:Rq w o a c u):Rq w o a c u.drew:=⟨h.ob,h.bel.drew,h.sz⟩
theorem Rq.new{w:World}{o:Od}{a:Option Addr}{c:Nat}:Rq w o a c (w.alloc (.cells #[.int .i64 o.id,.int .i64 o.item,.int .i64 o.qty,.int .i64 o.client,.int .i64 o.price,.slice a o.steps.length c] 32)):=
 ⟨zI w _,(zF _ _).alloc (zD _) _,by simp⟩
theorem keepB{u v:World}{k:Nat}{o:Obj}(h:u.heap[k]?=some o)(hb:Below u.heap.size u v):v.heap[k]?=some o:=(hb.block _ (Array.getElem?_eq_some_iff.1 h).1).trans h
theorem ne_old{u:World}{k g:Nat}{o:Obj}(h:u.heap[k]?=some o)(hg:u.heap.size≤g):g≠k:=by have:=(Array.getElem?_eq_some_iff.1 h).1;omega
theorem step_allocM{ops:Array Oper}{o:Oper}{a:Act}{w:World}{K:Act→World→Prop}{Q:Exit→Act→World→Prop}{E:Prop}{d:Tmp}(hw:Region.wanted o (yielded ops a.tmps)=true)
 (ho:o.op= .alloc 34) (hd:o.dst=some d)
 (h:∀p w',w'.heap[p]?=some (.cells #[.int .i64 0,.int .i64 0,.int .i64 0,.int .i64 0,.int .i64 0,.int .i64 0,.int .i64 0] 34 (0,0))→Below w.heap.size w w'→w.heap.size≤p→K (a.put (some d) (.pointer (some ⟨p,0,none⟩))) w'):
 if Region.wanted o (yielded ops a.tmps)=true then Oper.wp Tryz.prog o a w K Q else E:=by
 rw[if_pos hw]
 have hr:(execOp a.eval o).run Tryz.prog w= .ok (.value (.pointer (some ⟨w.heap.size,0,none⟩))) (w.alloc (.cells #[.int .i64 0,.int .i64 0,.int .i64 0,.int .i64 0,.int .i64 0,.int .i64 0,.int .i64 0] 34)):=by
  unfold execOp;rw[ho];kernel_rfl
 unfold Oper.wp
 rw[hr,Oper.upon_value,hd]
 exact h w.heap.size _ (zI w _) ((zF _ _).alloc (zD _) _) (zD _)
theorem step_storeM{ops:Array Oper}{o:Oper}{a:Act}{w:World}{K:Act→World→Prop}{Q:Exit→Act→World→Prop}{E:Prop}(hw:Region.wanted o (yielded ops a.tmps)=true)(d s:Operand)
 (ho:o.op= .store 34 d s) (p:Nat) (hd:a.eval d= .pointer (some ⟨p,0,none⟩)) {x0 x1 x2 x3 x4 x5 x6:Int} (hs:a.eval s= .agg #[.int .i64 x0,.int .i64 x1,.int .i64 x2,.int .i64 x3,.int .i64 x4,.int .i64 x5,.int .i64 x6])
 {v0 v1 v2 v3 v4 v5 v6:Value} (hp:w.heap[p]?=some (.cells #[v0,v1,v2,v3,v4,v5,v6] 34 (0,0)))
 (h:∀w',w'.heap[p]?=some (.cells #[.int .i64 x0,.int .i64 x1,.int .i64 x2,.int .i64 x3,.int .i64 x4,.int .i64 x5,.int .i64 x6] 34 (0,0))→(∀k,k≠p→w'.heap[k]?=w.heap[k]?)→(∀B,B≤p→Below B w w')→K (a.put o.dst undef) w'):
 if Region.wanted o (yielded ops a.tmps)=true then Oper.wp Tryz.prog o a w K Q else E:=by
 rw[if_pos hw]
 refine wp_store_row 34 d s ho p _ hd hs 34 _ hp (by kernel_rfl) rfl (by simp[Value.oneCell']) (h _ (setRow_heap _ _ _ _ _ _ hp) (fun k hk=>setRow_other _ _ _ _ hk) (fun B hB=>below_setRow (zF _ _) hB _))
theorem region_via{P:Program}{id:Nat}{ops:Array Oper}{Q:Exit→Act→World→Prop}{a:Act}{w:World}{b:Bool}(Fin:Act→World→Prop)(h1:(Code.region id ops b).wp P (fun e a' w'=>e= .normal ∧Fin a' w') a w)(h2:∀a' w',Fin a' w'→Q .normal a' w'):(Code.region id ops b).wp P Q a w:=
 Code.wp_mono (fun e a' w' h=>by obtain⟨rfl,h⟩:=h;exact h2 a' w' h) h1
set_option maxRecDepth 100000 in
theorem step_msg{ops:Array Oper}{o:Oper}{a:Act}{w:World}{K:Act→World→Prop}{Q:Exit→Act→World→Prop}{E:Prop}(hw:Region.wanted o (yielded ops a.tmps)=true)(x y z:Operand)
 (ho:o.op= .call {callee:= .value (.func 236),args:=#[x,y,z],argTypes:=#[32,3,3]}) (od:Od) (ad:Option Addr) (c:Nat) (k t:Int) (hx:a.eval x= .agg #[.int .i64 od.id,.int .i64 od.item,.int .i64 od.qty,.int .i64 od.client,.int .i64 od.price,.slice ad od.steps.length c]) (hy:a.eval y= .int .i64 k) (hz:a.eval z= .int .i64 t)
 (h:∀w',Below w.heap.size w w'→K (a.put o.dst (.agg #[.int .i64 k,.int .i64 0,.int .i64 t,.int .i64 od.id,.int .i64 0,.int .i64 0,.int .i64 0])) w'):
 if Region.wanted o (yielded ops a.tmps)=true then Oper.wp Tryz.prog o a w K Q else E:=by
 rw[if_pos hw]
 have hr:(execOp a.eval o).run Tryz.prog w= .ok (.enter 236 #[.agg #[.int .i64 od.id,.int .i64 od.item,.int .i64 od.qty,.int .i64 od.client,.int .i64 od.price,.slice ad od.steps.length c],.int .i64 k,.int .i64 t]) w:=by
  unfold execOp;rw[ho];have EN:∀args u,(callFunc 236 args).run Tryz.prog u= .ok (.enter 236 args) u:=enters_of Tryz.func236 (by kernel_rfl) rfl
  simp only[resolve,invoke,Sem.run_bind,List.map_toArray,List.map_cons,List.map_nil,hx,hy,hz];exact EN _ _
 unfold Oper.wp
 rw[hr,Oper.upon_enter]
 refine(msg_any od ad c k t w).mono ?_
 rintro e w' ⟨rfl,hb⟩
 exact h w' hb
theorem prep_end{w X:World}{s:Nat}{o:Od}(hB:Below w.heap.size w X)(hs:X.heap.size=s):OwnM w (prepL o) (.returned (.slice (some ⟨s,0,none⟩) 2 2)) ((X.alloc (.cells #[.int .i64 6,.int .i64 0,.int .i64 1,.int .i64 o.id,.int .i64 0,.int .i64 o.item,.int .i64 o.qty,.int .i64 6,.int .i64 0,.int .i64 2,.int .i64 o.id,.int .i64 0,.int .i64 o.client,.int .i64 o.price] 34)).drew.drew):=by
 subst hs
 refine⟨_,2,rfl,zD _,(fun h=>by cases h),?_,((hB.alloc hB.size _).drew).drew⟩
 exact mrow_new X w.heap.size hB.size (prepL o) _ rfl (by show 2≤_;omega)
set_option maxRecDepth 100000 in
set_option maxHeartbeats 8000000 in
theorem prep_any(o:Od)(a:Option Addr)(c:Nat)(w:World):
 Calls Tryz.prog 212 #[.agg #[.int .i64 o.id,.int .i64 o.item,.int .i64 o.qty,.int .i64 o.client,.int .i64 o.price,.slice a o.steps.length c]] w (OwnM w (prepL o)):=by
 have HR:=Rq.new (w:=w) (o:=o) (a:=a) (c:=c)
 obtain⟨V0,hV0⟩:∃V,V=w.alloc (.cells #[.int .i64 o.id,.int .i64 o.item,.int .i64 o.qty,.int .i64 o.client,.int .i64 o.price,.slice a o.steps.length c] 32):=⟨_,rfl⟩
 rw[←hV0]at HR
 replace HR:=HR.drew
 go_enter Tryz.func212,Tryz.ntmps212
 go_wp2_with fail
 rw[←hV0]
 clear hV0
 refine region_via (fun a' W=>∃g m,a'= {tmps:=#[.agg #[.int .i64 o.id,.int .i64 o.item,.int .i64 o.qty,.int .i64 o.client,.int .i64 o.price,.slice a o.steps.length c],.pointer (some ⟨w.heap.size,0,none⟩),.slice none 0 0,.pointer (some ⟨g,0,none⟩),.pointer (some ⟨m,0,none⟩),.agg #[.int .i64 o.id,.int .i64 o.item,.int .i64 o.qty,.int .i64 o.client,.int .i64 o.price,.slice a o.steps.length c],.agg #[.int .i64 6,.int .i64 0,.int .i64 1,.int .i64 o.id,.int .i64 0,.int .i64 0,.int .i64 0],.agg #[.int .i64 o.id,.int .i64 o.item,.int .i64 o.qty,.int .i64 o.client,.int .i64 o.price,.slice a o.steps.length c],.agg #[.int .i64 6,.int .i64 0,.int .i64 2,.int .i64 o.id,.int .i64 0,.int .i64 0,.int .i64 0],undef,undef,undef,undef,undef,undef,undef,undef,undef,undef,undef,undef,undef,undef,undef],defers:=[]}∧W.heap[g]?=some (.cells #[.int .i64 6,.int .i64 0,.int .i64 1,.int .i64 o.id,.int .i64 0,.int .i64 0,.int .i64 0] 34 (0,0))∧W.heap[m]?=some (.cells #[.int .i64 6,.int .i64 0,.int .i64 2,.int .i64 o.id,.int .i64 0,.int .i64 0,.int .i64 0] 34 (0,0))∧g≠m∧w.heap.size<g∧w.heap.size<m∧Rq w o a c W) ?_ ?_
 ·refine wp_region_held_drew (S:=fun u=>Rq w o a c u) (by kernel_rfl) HR (fun hHeld=>?_);refine wpAnyH_take (i:=0) (oi:={dst:=some 5,op:=_,type:=_,pos:=_,after:=_,guard:=_}) (v:= .agg #[.int .i64 o.id,.int .i64 o.item,.int .i64 o.qty,.int .i64 o.client,.int .i64 o.price,.slice a o.steps.length c]) rfl (by kernel_rfl) (by kernel_rfl) (by kernel_rfl) (fun _ _ _ h=>absurd h.1 (by simp)) (Or.inl ⟨by kernel_rfl,?_⟩) hHeld ?_
  ·intro u hu;obtain⟨d0,d1,d2,d3,d4,d5⟩:=six_cells hu.ob;go_simp
  try simp only[Act.put,zA,zB,zC]
  refine wpAnyH_take (i:=2) (oi:={dst:=some 7,op:=_,type:=_,pos:=_,after:=_,guard:=_}) (v:= .agg #[.int .i64 o.id,.int .i64 o.item,.int .i64 o.qty,.int .i64 o.client,.int .i64 o.price,.slice a o.steps.length c]) rfl (by kernel_rfl) (by kernel_rfl) (by kernel_rfl) (fun _ _ _ h=>absurd h.1 (by simp)) (Or.inl ⟨by kernel_rfl,?_⟩) hHeld ?_
  ·intro u hu;obtain⟨d0,d1,d2,d3,d4,d5⟩:=six_cells hu.ob;go_simp
  try simp only[Act.put,zA,zB,zC]
  refine wpAnyH_ready (rs:=[1,4,5]) (by kernel_rfl) (by simp) ?_;refine zG (o:={dst:=some 6,op:=_,type:=_,pos:=_,after:=_,guard:=_}) rfl (fun K hK=>?_) ?_
  ·refine step_msg rfl _ _ _ rfl o a c 6 1 rfl rfl rfl ?_;intro U hb;replace HR:=HR.on hb;clear hb;refine hK.out _ _ HR (fun hHeld=>?_);clear hK K;try simp only[Act.put,zA,zB,zC]
   refine wpAnyH_ready (rs:=[3,4,5]) (by kernel_rfl) (by simp) ?_;refine zG (o:={dst:=some 8,op:=_,type:=_,pos:=_,after:=_,guard:=_}) rfl (fun K hK=>?_) ?_
   ·refine step_msg rfl _ _ _ rfl o a c 6 2 rfl rfl rfl ?_;intro U hb;replace HR:=HR.on hb;clear hb;refine hK.out _ _ HR (fun hHeld=>?_);clear hK K;try simp only[Act.put,zA,zB,zC]
    refine wpAnyH_ready (rs:=[4,5]) (by kernel_rfl) (by simp) ?_;refine zG (o:={dst:=some 3,op:=_,type:=_,pos:=_,after:=_,guard:=_}) rfl (fun K hK=>?_) ?_
    ·refine step_allocM (d:=3) rfl rfl rfl ?_;intro g U hG hb hg;have gg:w.heap.size<g:=zJ HR.sz hg
     replace HR:=HR.on hb;clear hb hg;refine hK.out _ _ HR (fun hHeld=>?_);clear hK K;try simp only[Act.put,zA,zB,zC]
     refine wpAnyH_ready (rs:=[5]) (by kernel_rfl) (by simp) ?_;refine zG (o:={dst:=some 4,op:=_,type:=_,pos:=_,after:=_,guard:=_}) rfl (fun K hK=>?_) ?_
     ·refine step_allocM (d:=4) rfl rfl rfl ?_;intro m U hM hb hg;have gm:w.heap.size<m:=zJ HR.sz hg
      have hne:g≠m:=(ne_old hG hg).symm
      replace hG:=keepB hG hb;replace HR:=HR.on hb;clear hb hg;refine hK.out _ _ HR (fun hHeld=>?_);clear hK K;try simp only[Act.put,zA,zB,zC]
      refine wpAnyH_ready (rs:=[6]) (by kernel_rfl) (by simp) ?_;refine zG (o:={dst:=none,op:=_,type:=_,pos:=_,after:=_,guard:=_}) rfl (fun K hK=>?_) ?_
      ·refine step_storeM rfl _ _ rfl g rfl rfl hG ?_;clear hG;intro U hG hk hb;replace hM:=(hk _ hne.symm).trans hM;replace HR:=HR.onB gg (hb _ (zD _));clear hk hb;refine hK.out _ _ HR (fun hHeld=>?_);clear hK K;try simp only[Act.put]
       refine wpAnyH_ready (rs:=[7]) (by kernel_rfl) (by simp) ?_;refine zG (o:={dst:=none,op:=_,type:=_,pos:=_,after:=_,guard:=_}) rfl (fun K hK=>?_) ?_
       ·refine step_storeM rfl _ _ rfl m rfl rfl hM ?_;clear hM;intro U hM hk hb;replace hG:=(hk _ hne).trans hG;replace HR:=HR.onB gm (hb _ (zD _));clear hk hb;refine hK.out _ _ HR (fun hHeld=>?_);clear hK K;try simp only[Act.put]
        refine wpAnyH_done (by kernel_rfl) ?_ _;exact⟨rfl,g,m,rfl,hG,hM,hne,gg,gm,HR⟩
       exact zH
      exact zH
     exact zH
    refine zG (o:={dst:=some 4,op:=_,type:=_,pos:=_,after:=_,guard:=_}) rfl (fun K hK=>?_) ?_
    ·refine step_allocM (d:=4) rfl rfl rfl ?_;intro m U hM hb hg;have gm:w.heap.size<m:=zJ HR.sz hg
     replace HR:=HR.on hb;clear hb hg;refine hK.out _ _ HR (fun hHeld=>?_);clear hK K;try simp only[Act.put,zA,zB,zC]
     refine wpAnyH_ready (rs:=[4]) (by kernel_rfl) (by simp) ?_;refine zG (o:={dst:=some 3,op:=_,type:=_,pos:=_,after:=_,guard:=_}) rfl (fun K hK=>?_) ?_
     ·refine step_allocM (d:=3) rfl rfl rfl ?_;intro g U hG hb hg;have gg:w.heap.size<g:=zJ HR.sz hg
      have hne:g≠m:=ne_old hM hg
      replace hM:=keepB hM hb;replace HR:=HR.on hb;clear hb hg;refine hK.out _ _ HR (fun hHeld=>?_);clear hK K;try simp only[Act.put,zA,zB,zC]
      refine wpAnyH_ready (rs:=[6]) (by kernel_rfl) (by simp) ?_;refine zG (o:={dst:=none,op:=_,type:=_,pos:=_,after:=_,guard:=_}) rfl (fun K hK=>?_) ?_
      ·refine step_storeM rfl _ _ rfl g rfl rfl hG ?_;clear hG;intro U hG hk hb;replace hM:=(hk _ hne.symm).trans hM;replace HR:=HR.onB gg (hb _ (zD _));clear hk hb;refine hK.out _ _ HR (fun hHeld=>?_);clear hK K;try simp only[Act.put]
       refine wpAnyH_ready (rs:=[7]) (by kernel_rfl) (by simp) ?_;refine zG (o:={dst:=none,op:=_,type:=_,pos:=_,after:=_,guard:=_}) rfl (fun K hK=>?_) ?_
       ·refine step_storeM rfl _ _ rfl m rfl rfl hM ?_;clear hM;intro U hM hk hb;replace hG:=(hk _ hne).trans hG;replace HR:=HR.onB gm (hb _ (zD _));clear hk hb;refine hK.out _ _ HR (fun hHeld=>?_);clear hK K;try simp only[Act.put]
        refine wpAnyH_done (by kernel_rfl) ?_ _;exact⟨rfl,g,m,rfl,hG,hM,hne,gg,gm,HR⟩
       exact zH
      exact zH
     exact zH
    exact zH
   refine zG (o:={dst:=some 3,op:=_,type:=_,pos:=_,after:=_,guard:=_}) rfl (fun K hK=>?_) ?_
   ·refine step_allocM (d:=3) rfl rfl rfl ?_;intro g U hG hb hg;have gg:w.heap.size<g:=zJ HR.sz hg
    replace HR:=HR.on hb;clear hb hg;refine hK.out _ _ HR (fun hHeld=>?_);clear hK K;try simp only[Act.put,zA,zB,zC]
    refine wpAnyH_ready (rs:=[3,5]) (by kernel_rfl) (by simp) ?_;refine zG (o:={dst:=some 8,op:=_,type:=_,pos:=_,after:=_,guard:=_}) rfl (fun K hK=>?_) ?_
    ·refine step_msg rfl _ _ _ rfl o a c 6 2 rfl rfl rfl ?_;intro U hb;replace hG:=keepB hG hb;replace HR:=HR.on hb;clear hb;refine hK.out _ _ HR (fun hHeld=>?_);clear hK K;try simp only[Act.put,zA,zB,zC]
     refine wpAnyH_ready (rs:=[5]) (by kernel_rfl) (by simp) ?_;refine zG (o:={dst:=some 4,op:=_,type:=_,pos:=_,after:=_,guard:=_}) rfl (fun K hK=>?_) ?_
     ·refine step_allocM (d:=4) rfl rfl rfl ?_;intro m U hM hb hg;have gm:w.heap.size<m:=zJ HR.sz hg
      have hne:g≠m:=(ne_old hG hg).symm
      replace hG:=keepB hG hb;replace HR:=HR.on hb;clear hb hg;refine hK.out _ _ HR (fun hHeld=>?_);clear hK K;try simp only[Act.put,zA,zB,zC]
      refine wpAnyH_ready (rs:=[6]) (by kernel_rfl) (by simp) ?_;refine zG (o:={dst:=none,op:=_,type:=_,pos:=_,after:=_,guard:=_}) rfl (fun K hK=>?_) ?_
      ·refine step_storeM rfl _ _ rfl g rfl rfl hG ?_;clear hG;intro U hG hk hb;replace hM:=(hk _ hne.symm).trans hM;replace HR:=HR.onB gg (hb _ (zD _));clear hk hb;refine hK.out _ _ HR (fun hHeld=>?_);clear hK K;try simp only[Act.put]
       refine wpAnyH_ready (rs:=[7]) (by kernel_rfl) (by simp) ?_;refine zG (o:={dst:=none,op:=_,type:=_,pos:=_,after:=_,guard:=_}) rfl (fun K hK=>?_) ?_
       ·refine step_storeM rfl _ _ rfl m rfl rfl hM ?_;clear hM;intro U hM hk hb;replace hG:=(hk _ hne).trans hG;replace HR:=HR.onB gm (hb _ (zD _));clear hk hb;refine hK.out _ _ HR (fun hHeld=>?_);clear hK K;try simp only[Act.put]
        refine wpAnyH_done (by kernel_rfl) ?_ _;exact⟨rfl,g,m,rfl,hG,hM,hne,gg,gm,HR⟩
       exact zH
      exact zH
     exact zH
    refine zG (o:={dst:=some 4,op:=_,type:=_,pos:=_,after:=_,guard:=_}) rfl (fun K hK=>?_) ?_
    ·refine step_allocM (d:=4) rfl rfl rfl ?_;intro m U hM hb hg;have gm:w.heap.size<m:=zJ HR.sz hg
     have hne:g≠m:=(ne_old hG hg).symm
     replace hG:=keepB hG hb;replace HR:=HR.on hb;clear hb hg;refine hK.out _ _ HR (fun hHeld=>?_);clear hK K;try simp only[Act.put,zA,zB,zC]
     refine wpAnyH_ready (rs:=[3]) (by kernel_rfl) (by simp) ?_;refine zG (o:={dst:=some 8,op:=_,type:=_,pos:=_,after:=_,guard:=_}) rfl (fun K hK=>?_) ?_
     ·refine step_msg rfl _ _ _ rfl o a c 6 2 rfl rfl rfl ?_;intro U hb;replace hG:=keepB hG hb;replace hM:=keepB hM hb;replace HR:=HR.on hb;clear hb;refine hK.out _ _ HR (fun hHeld=>?_);clear hK K;try simp only[Act.put,zA,zB,zC]
      refine wpAnyH_ready (rs:=[6]) (by kernel_rfl) (by simp) ?_;refine zG (o:={dst:=none,op:=_,type:=_,pos:=_,after:=_,guard:=_}) rfl (fun K hK=>?_) ?_
      ·refine step_storeM rfl _ _ rfl g rfl rfl hG ?_;clear hG;intro U hG hk hb;replace hM:=(hk _ hne.symm).trans hM;replace HR:=HR.onB gg (hb _ (zD _));clear hk hb;refine hK.out _ _ HR (fun hHeld=>?_);clear hK K;try simp only[Act.put]
       refine wpAnyH_ready (rs:=[7]) (by kernel_rfl) (by simp) ?_;refine zG (o:={dst:=none,op:=_,type:=_,pos:=_,after:=_,guard:=_}) rfl (fun K hK=>?_) ?_
       ·refine step_storeM rfl _ _ rfl m rfl rfl hM ?_;clear hM;intro U hM hk hb;replace hG:=(hk _ hne).trans hG;replace HR:=HR.onB gm (hb _ (zD _));clear hk hb;refine hK.out _ _ HR (fun hHeld=>?_);clear hK K;try simp only[Act.put]
        refine wpAnyH_done (by kernel_rfl) ?_ _;exact⟨rfl,g,m,rfl,hG,hM,hne,gg,gm,HR⟩
       exact zH
      exact zH
     exact zH
    exact zH
   refine zG (o:={dst:=some 4,op:=_,type:=_,pos:=_,after:=_,guard:=_}) rfl (fun K hK=>?_) ?_
   ·refine step_allocM (d:=4) rfl rfl rfl ?_;intro m U hM hb hg;have gm:w.heap.size<m:=zJ HR.sz hg
    replace HR:=HR.on hb;clear hb hg;refine hK.out _ _ HR (fun hHeld=>?_);clear hK K;try simp only[Act.put,zA,zB,zC]
    refine wpAnyH_ready (rs:=[3,4]) (by kernel_rfl) (by simp) ?_;refine zG (o:={dst:=some 8,op:=_,type:=_,pos:=_,after:=_,guard:=_}) rfl (fun K hK=>?_) ?_
    ·refine step_msg rfl _ _ _ rfl o a c 6 2 rfl rfl rfl ?_;intro U hb;replace hM:=keepB hM hb;replace HR:=HR.on hb;clear hb;refine hK.out _ _ HR (fun hHeld=>?_);clear hK K;try simp only[Act.put,zA,zB,zC]
     refine wpAnyH_ready (rs:=[4]) (by kernel_rfl) (by simp) ?_;refine zG (o:={dst:=some 3,op:=_,type:=_,pos:=_,after:=_,guard:=_}) rfl (fun K hK=>?_) ?_
     ·refine step_allocM (d:=3) rfl rfl rfl ?_;intro g U hG hb hg;have gg:w.heap.size<g:=zJ HR.sz hg
      have hne:g≠m:=ne_old hM hg
      replace hM:=keepB hM hb;replace HR:=HR.on hb;clear hb hg;refine hK.out _ _ HR (fun hHeld=>?_);clear hK K;try simp only[Act.put,zA,zB,zC]
      refine wpAnyH_ready (rs:=[6]) (by kernel_rfl) (by simp) ?_;refine zG (o:={dst:=none,op:=_,type:=_,pos:=_,after:=_,guard:=_}) rfl (fun K hK=>?_) ?_
      ·refine step_storeM rfl _ _ rfl g rfl rfl hG ?_;clear hG;intro U hG hk hb;replace hM:=(hk _ hne.symm).trans hM;replace HR:=HR.onB gg (hb _ (zD _));clear hk hb;refine hK.out _ _ HR (fun hHeld=>?_);clear hK K;try simp only[Act.put]
       refine wpAnyH_ready (rs:=[7]) (by kernel_rfl) (by simp) ?_;refine zG (o:={dst:=none,op:=_,type:=_,pos:=_,after:=_,guard:=_}) rfl (fun K hK=>?_) ?_
       ·refine step_storeM rfl _ _ rfl m rfl rfl hM ?_;clear hM;intro U hM hk hb;replace hG:=(hk _ hne).trans hG;replace HR:=HR.onB gm (hb _ (zD _));clear hk hb;refine hK.out _ _ HR (fun hHeld=>?_);clear hK K;try simp only[Act.put]
        refine wpAnyH_done (by kernel_rfl) ?_ _;exact⟨rfl,g,m,rfl,hG,hM,hne,gg,gm,HR⟩
       exact zH
      exact zH
     exact zH
    refine zG (o:={dst:=some 3,op:=_,type:=_,pos:=_,after:=_,guard:=_}) rfl (fun K hK=>?_) ?_
    ·refine step_allocM (d:=3) rfl rfl rfl ?_;intro g U hG hb hg;have gg:w.heap.size<g:=zJ HR.sz hg
     have hne:g≠m:=ne_old hM hg
     replace hM:=keepB hM hb;replace HR:=HR.on hb;clear hb hg;refine hK.out _ _ HR (fun hHeld=>?_);clear hK K;try simp only[Act.put,zA,zB,zC]
     refine wpAnyH_ready (rs:=[3]) (by kernel_rfl) (by simp) ?_;refine zG (o:={dst:=some 8,op:=_,type:=_,pos:=_,after:=_,guard:=_}) rfl (fun K hK=>?_) ?_
     ·refine step_msg rfl _ _ _ rfl o a c 6 2 rfl rfl rfl ?_;intro U hb;replace hG:=keepB hG hb;replace hM:=keepB hM hb;replace HR:=HR.on hb;clear hb;refine hK.out _ _ HR (fun hHeld=>?_);clear hK K;try simp only[Act.put,zA,zB,zC]
      refine wpAnyH_ready (rs:=[6]) (by kernel_rfl) (by simp) ?_;refine zG (o:={dst:=none,op:=_,type:=_,pos:=_,after:=_,guard:=_}) rfl (fun K hK=>?_) ?_
      ·refine step_storeM rfl _ _ rfl g rfl rfl hG ?_;clear hG;intro U hG hk hb;replace hM:=(hk _ hne.symm).trans hM;replace HR:=HR.onB gg (hb _ (zD _));clear hk hb;refine hK.out _ _ HR (fun hHeld=>?_);clear hK K;try simp only[Act.put]
       refine wpAnyH_ready (rs:=[7]) (by kernel_rfl) (by simp) ?_;refine zG (o:={dst:=none,op:=_,type:=_,pos:=_,after:=_,guard:=_}) rfl (fun K hK=>?_) ?_
       ·refine step_storeM rfl _ _ rfl m rfl rfl hM ?_;clear hM;intro U hM hk hb;replace hG:=(hk _ hne).trans hG;replace HR:=HR.onB gm (hb _ (zD _));clear hk hb;refine hK.out _ _ HR (fun hHeld=>?_);clear hK K;try simp only[Act.put]
        refine wpAnyH_done (by kernel_rfl) ?_ _;exact⟨rfl,g,m,rfl,hG,hM,hne,gg,gm,HR⟩
       exact zH
      exact zH
     exact zH
    exact zH
   exact zH
  refine zG (o:={dst:=some 3,op:=_,type:=_,pos:=_,after:=_,guard:=_}) rfl (fun K hK=>?_) ?_
  ·refine step_allocM (d:=3) rfl rfl rfl ?_;intro g U hG hb hg;have gg:w.heap.size<g:=zJ HR.sz hg
   replace HR:=HR.on hb;clear hb hg;refine hK.out _ _ HR (fun hHeld=>?_);clear hK K;try simp only[Act.put,zA,zB,zC]
   refine wpAnyH_ready (rs:=[1,5]) (by kernel_rfl) (by simp) ?_;refine zG (o:={dst:=some 6,op:=_,type:=_,pos:=_,after:=_,guard:=_}) rfl (fun K hK=>?_) ?_
   ·refine step_msg rfl _ _ _ rfl o a c 6 1 rfl rfl rfl ?_;intro U hb;replace hG:=keepB hG hb;replace HR:=HR.on hb;clear hb;refine hK.out _ _ HR (fun hHeld=>?_);clear hK K;try simp only[Act.put,zA,zB,zC]
    refine wpAnyH_ready (rs:=[3,5]) (by kernel_rfl) (by simp) ?_;refine zG (o:={dst:=some 8,op:=_,type:=_,pos:=_,after:=_,guard:=_}) rfl (fun K hK=>?_) ?_
    ·refine step_msg rfl _ _ _ rfl o a c 6 2 rfl rfl rfl ?_;intro U hb;replace hG:=keepB hG hb;replace HR:=HR.on hb;clear hb;refine hK.out _ _ HR (fun hHeld=>?_);clear hK K;try simp only[Act.put,zA,zB,zC]
     refine wpAnyH_ready (rs:=[5]) (by kernel_rfl) (by simp) ?_;refine zG (o:={dst:=some 4,op:=_,type:=_,pos:=_,after:=_,guard:=_}) rfl (fun K hK=>?_) ?_
     ·refine step_allocM (d:=4) rfl rfl rfl ?_;intro m U hM hb hg;have gm:w.heap.size<m:=zJ HR.sz hg
      have hne:g≠m:=(ne_old hG hg).symm
      replace hG:=keepB hG hb;replace HR:=HR.on hb;clear hb hg;refine hK.out _ _ HR (fun hHeld=>?_);clear hK K;try simp only[Act.put,zA,zB,zC]
      refine wpAnyH_ready (rs:=[6]) (by kernel_rfl) (by simp) ?_;refine zG (o:={dst:=none,op:=_,type:=_,pos:=_,after:=_,guard:=_}) rfl (fun K hK=>?_) ?_
      ·refine step_storeM rfl _ _ rfl g rfl rfl hG ?_;clear hG;intro U hG hk hb;replace hM:=(hk _ hne.symm).trans hM;replace HR:=HR.onB gg (hb _ (zD _));clear hk hb;refine hK.out _ _ HR (fun hHeld=>?_);clear hK K;try simp only[Act.put]
       refine wpAnyH_ready (rs:=[7]) (by kernel_rfl) (by simp) ?_;refine zG (o:={dst:=none,op:=_,type:=_,pos:=_,after:=_,guard:=_}) rfl (fun K hK=>?_) ?_
       ·refine step_storeM rfl _ _ rfl m rfl rfl hM ?_;clear hM;intro U hM hk hb;replace hG:=(hk _ hne).trans hG;replace HR:=HR.onB gm (hb _ (zD _));clear hk hb;refine hK.out _ _ HR (fun hHeld=>?_);clear hK K;try simp only[Act.put]
        refine wpAnyH_done (by kernel_rfl) ?_ _;exact⟨rfl,g,m,rfl,hG,hM,hne,gg,gm,HR⟩
       exact zH
      exact zH
     exact zH
    refine zG (o:={dst:=some 4,op:=_,type:=_,pos:=_,after:=_,guard:=_}) rfl (fun K hK=>?_) ?_
    ·refine step_allocM (d:=4) rfl rfl rfl ?_;intro m U hM hb hg;have gm:w.heap.size<m:=zJ HR.sz hg
     have hne:g≠m:=(ne_old hG hg).symm
     replace hG:=keepB hG hb;replace HR:=HR.on hb;clear hb hg;refine hK.out _ _ HR (fun hHeld=>?_);clear hK K;try simp only[Act.put,zA,zB,zC]
     refine wpAnyH_ready (rs:=[3]) (by kernel_rfl) (by simp) ?_;refine zG (o:={dst:=some 8,op:=_,type:=_,pos:=_,after:=_,guard:=_}) rfl (fun K hK=>?_) ?_
     ·refine step_msg rfl _ _ _ rfl o a c 6 2 rfl rfl rfl ?_;intro U hb;replace hG:=keepB hG hb;replace hM:=keepB hM hb;replace HR:=HR.on hb;clear hb;refine hK.out _ _ HR (fun hHeld=>?_);clear hK K;try simp only[Act.put,zA,zB,zC]
      refine wpAnyH_ready (rs:=[6]) (by kernel_rfl) (by simp) ?_;refine zG (o:={dst:=none,op:=_,type:=_,pos:=_,after:=_,guard:=_}) rfl (fun K hK=>?_) ?_
      ·refine step_storeM rfl _ _ rfl g rfl rfl hG ?_;clear hG;intro U hG hk hb;replace hM:=(hk _ hne.symm).trans hM;replace HR:=HR.onB gg (hb _ (zD _));clear hk hb;refine hK.out _ _ HR (fun hHeld=>?_);clear hK K;try simp only[Act.put]
       refine wpAnyH_ready (rs:=[7]) (by kernel_rfl) (by simp) ?_;refine zG (o:={dst:=none,op:=_,type:=_,pos:=_,after:=_,guard:=_}) rfl (fun K hK=>?_) ?_
       ·refine step_storeM rfl _ _ rfl m rfl rfl hM ?_;clear hM;intro U hM hk hb;replace hG:=(hk _ hne).trans hG;replace HR:=HR.onB gm (hb _ (zD _));clear hk hb;refine hK.out _ _ HR (fun hHeld=>?_);clear hK K;try simp only[Act.put]
        refine wpAnyH_done (by kernel_rfl) ?_ _;exact⟨rfl,g,m,rfl,hG,hM,hne,gg,gm,HR⟩
       exact zH
      exact zH
     exact zH
    exact zH
   refine zG (o:={dst:=some 4,op:=_,type:=_,pos:=_,after:=_,guard:=_}) rfl (fun K hK=>?_) ?_
   ·refine step_allocM (d:=4) rfl rfl rfl ?_;intro m U hM hb hg;have gm:w.heap.size<m:=zJ HR.sz hg
    have hne:g≠m:=(ne_old hG hg).symm
    replace hG:=keepB hG hb;replace HR:=HR.on hb;clear hb hg;refine hK.out _ _ HR (fun hHeld=>?_);clear hK K;try simp only[Act.put,zA,zB,zC]
    refine wpAnyH_ready (rs:=[1]) (by kernel_rfl) (by simp) ?_;refine zG (o:={dst:=some 6,op:=_,type:=_,pos:=_,after:=_,guard:=_}) rfl (fun K hK=>?_) ?_
    ·refine step_msg rfl _ _ _ rfl o a c 6 1 rfl rfl rfl ?_;intro U hb;replace hG:=keepB hG hb;replace hM:=keepB hM hb;replace HR:=HR.on hb;clear hb;refine hK.out _ _ HR (fun hHeld=>?_);clear hK K;try simp only[Act.put,zA,zB,zC]
     refine wpAnyH_ready (rs:=[3]) (by kernel_rfl) (by simp) ?_;refine zG (o:={dst:=some 8,op:=_,type:=_,pos:=_,after:=_,guard:=_}) rfl (fun K hK=>?_) ?_
     ·refine step_msg rfl _ _ _ rfl o a c 6 2 rfl rfl rfl ?_;intro U hb;replace hG:=keepB hG hb;replace hM:=keepB hM hb;replace HR:=HR.on hb;clear hb;refine hK.out _ _ HR (fun hHeld=>?_);clear hK K;try simp only[Act.put,zA,zB,zC]
      refine wpAnyH_ready (rs:=[6]) (by kernel_rfl) (by simp) ?_;refine zG (o:={dst:=none,op:=_,type:=_,pos:=_,after:=_,guard:=_}) rfl (fun K hK=>?_) ?_
      ·refine step_storeM rfl _ _ rfl g rfl rfl hG ?_;clear hG;intro U hG hk hb;replace hM:=(hk _ hne.symm).trans hM;replace HR:=HR.onB gg (hb _ (zD _));clear hk hb;refine hK.out _ _ HR (fun hHeld=>?_);clear hK K;try simp only[Act.put]
       refine wpAnyH_ready (rs:=[7]) (by kernel_rfl) (by simp) ?_;refine zG (o:={dst:=none,op:=_,type:=_,pos:=_,after:=_,guard:=_}) rfl (fun K hK=>?_) ?_
       ·refine step_storeM rfl _ _ rfl m rfl rfl hM ?_;clear hM;intro U hM hk hb;replace hG:=(hk _ hne).trans hG;replace HR:=HR.onB gm (hb _ (zD _));clear hk hb;refine hK.out _ _ HR (fun hHeld=>?_);clear hK K;try simp only[Act.put]
        refine wpAnyH_done (by kernel_rfl) ?_ _;exact⟨rfl,g,m,rfl,hG,hM,hne,gg,gm,HR⟩
       exact zH
      exact zH
     exact zH
    exact zH
   exact zH
  refine zG (o:={dst:=some 4,op:=_,type:=_,pos:=_,after:=_,guard:=_}) rfl (fun K hK=>?_) ?_
  ·refine step_allocM (d:=4) rfl rfl rfl ?_;intro m U hM hb hg;have gm:w.heap.size<m:=zJ HR.sz hg
   replace HR:=HR.on hb;clear hb hg;refine hK.out _ _ HR (fun hHeld=>?_);clear hK K;try simp only[Act.put,zA,zB,zC]
   refine wpAnyH_ready (rs:=[1,4]) (by kernel_rfl) (by simp) ?_;refine zG (o:={dst:=some 6,op:=_,type:=_,pos:=_,after:=_,guard:=_}) rfl (fun K hK=>?_) ?_
   ·refine step_msg rfl _ _ _ rfl o a c 6 1 rfl rfl rfl ?_;intro U hb;replace hM:=keepB hM hb;replace HR:=HR.on hb;clear hb;refine hK.out _ _ HR (fun hHeld=>?_);clear hK K;try simp only[Act.put,zA,zB,zC]
    refine wpAnyH_ready (rs:=[3,4]) (by kernel_rfl) (by simp) ?_;refine zG (o:={dst:=some 8,op:=_,type:=_,pos:=_,after:=_,guard:=_}) rfl (fun K hK=>?_) ?_
    ·refine step_msg rfl _ _ _ rfl o a c 6 2 rfl rfl rfl ?_;intro U hb;replace hM:=keepB hM hb;replace HR:=HR.on hb;clear hb;refine hK.out _ _ HR (fun hHeld=>?_);clear hK K;try simp only[Act.put,zA,zB,zC]
     refine wpAnyH_ready (rs:=[4]) (by kernel_rfl) (by simp) ?_;refine zG (o:={dst:=some 3,op:=_,type:=_,pos:=_,after:=_,guard:=_}) rfl (fun K hK=>?_) ?_
     ·refine step_allocM (d:=3) rfl rfl rfl ?_;intro g U hG hb hg;have gg:w.heap.size<g:=zJ HR.sz hg
      have hne:g≠m:=ne_old hM hg
      replace hM:=keepB hM hb;replace HR:=HR.on hb;clear hb hg;refine hK.out _ _ HR (fun hHeld=>?_);clear hK K;try simp only[Act.put,zA,zB,zC]
      refine wpAnyH_ready (rs:=[6]) (by kernel_rfl) (by simp) ?_;refine zG (o:={dst:=none,op:=_,type:=_,pos:=_,after:=_,guard:=_}) rfl (fun K hK=>?_) ?_
      ·refine step_storeM rfl _ _ rfl g rfl rfl hG ?_;clear hG;intro U hG hk hb;replace hM:=(hk _ hne.symm).trans hM;replace HR:=HR.onB gg (hb _ (zD _));clear hk hb;refine hK.out _ _ HR (fun hHeld=>?_);clear hK K;try simp only[Act.put]
       refine wpAnyH_ready (rs:=[7]) (by kernel_rfl) (by simp) ?_;refine zG (o:={dst:=none,op:=_,type:=_,pos:=_,after:=_,guard:=_}) rfl (fun K hK=>?_) ?_
       ·refine step_storeM rfl _ _ rfl m rfl rfl hM ?_;clear hM;intro U hM hk hb;replace hG:=(hk _ hne).trans hG;replace HR:=HR.onB gm (hb _ (zD _));clear hk hb;refine hK.out _ _ HR (fun hHeld=>?_);clear hK K;try simp only[Act.put]
        refine wpAnyH_done (by kernel_rfl) ?_ _;exact⟨rfl,g,m,rfl,hG,hM,hne,gg,gm,HR⟩
       exact zH
      exact zH
     exact zH
    refine zG (o:={dst:=some 3,op:=_,type:=_,pos:=_,after:=_,guard:=_}) rfl (fun K hK=>?_) ?_
    ·refine step_allocM (d:=3) rfl rfl rfl ?_;intro g U hG hb hg;have gg:w.heap.size<g:=zJ HR.sz hg
     have hne:g≠m:=ne_old hM hg
     replace hM:=keepB hM hb;replace HR:=HR.on hb;clear hb hg;refine hK.out _ _ HR (fun hHeld=>?_);clear hK K;try simp only[Act.put,zA,zB,zC]
     refine wpAnyH_ready (rs:=[3]) (by kernel_rfl) (by simp) ?_;refine zG (o:={dst:=some 8,op:=_,type:=_,pos:=_,after:=_,guard:=_}) rfl (fun K hK=>?_) ?_
     ·refine step_msg rfl _ _ _ rfl o a c 6 2 rfl rfl rfl ?_;intro U hb;replace hG:=keepB hG hb;replace hM:=keepB hM hb;replace HR:=HR.on hb;clear hb;refine hK.out _ _ HR (fun hHeld=>?_);clear hK K;try simp only[Act.put,zA,zB,zC]
      refine wpAnyH_ready (rs:=[6]) (by kernel_rfl) (by simp) ?_;refine zG (o:={dst:=none,op:=_,type:=_,pos:=_,after:=_,guard:=_}) rfl (fun K hK=>?_) ?_
      ·refine step_storeM rfl _ _ rfl g rfl rfl hG ?_;clear hG;intro U hG hk hb;replace hM:=(hk _ hne.symm).trans hM;replace HR:=HR.onB gg (hb _ (zD _));clear hk hb;refine hK.out _ _ HR (fun hHeld=>?_);clear hK K;try simp only[Act.put]
       refine wpAnyH_ready (rs:=[7]) (by kernel_rfl) (by simp) ?_;refine zG (o:={dst:=none,op:=_,type:=_,pos:=_,after:=_,guard:=_}) rfl (fun K hK=>?_) ?_
       ·refine step_storeM rfl _ _ rfl m rfl rfl hM ?_;clear hM;intro U hM hk hb;replace hG:=(hk _ hne).trans hG;replace HR:=HR.onB gm (hb _ (zD _));clear hk hb;refine hK.out _ _ HR (fun hHeld=>?_);clear hK K;try simp only[Act.put]
        refine wpAnyH_done (by kernel_rfl) ?_ _;exact⟨rfl,g,m,rfl,hG,hM,hne,gg,gm,HR⟩
       exact zH
      exact zH
     exact zH
    exact zH
   refine zG (o:={dst:=some 3,op:=_,type:=_,pos:=_,after:=_,guard:=_}) rfl (fun K hK=>?_) ?_
   ·refine step_allocM (d:=3) rfl rfl rfl ?_;intro g U hG hb hg;have gg:w.heap.size<g:=zJ HR.sz hg
    have hne:g≠m:=ne_old hM hg
    replace hM:=keepB hM hb;replace HR:=HR.on hb;clear hb hg;refine hK.out _ _ HR (fun hHeld=>?_);clear hK K;try simp only[Act.put,zA,zB,zC]
    refine wpAnyH_ready (rs:=[1]) (by kernel_rfl) (by simp) ?_;refine zG (o:={dst:=some 6,op:=_,type:=_,pos:=_,after:=_,guard:=_}) rfl (fun K hK=>?_) ?_
    ·refine step_msg rfl _ _ _ rfl o a c 6 1 rfl rfl rfl ?_;intro U hb;replace hG:=keepB hG hb;replace hM:=keepB hM hb;replace HR:=HR.on hb;clear hb;refine hK.out _ _ HR (fun hHeld=>?_);clear hK K;try simp only[Act.put,zA,zB,zC]
     refine wpAnyH_ready (rs:=[3]) (by kernel_rfl) (by simp) ?_;refine zG (o:={dst:=some 8,op:=_,type:=_,pos:=_,after:=_,guard:=_}) rfl (fun K hK=>?_) ?_
     ·refine step_msg rfl _ _ _ rfl o a c 6 2 rfl rfl rfl ?_;intro U hb;replace hG:=keepB hG hb;replace hM:=keepB hM hb;replace HR:=HR.on hb;clear hb;refine hK.out _ _ HR (fun hHeld=>?_);clear hK K;try simp only[Act.put,zA,zB,zC]
      refine wpAnyH_ready (rs:=[6]) (by kernel_rfl) (by simp) ?_;refine zG (o:={dst:=none,op:=_,type:=_,pos:=_,after:=_,guard:=_}) rfl (fun K hK=>?_) ?_
      ·refine step_storeM rfl _ _ rfl g rfl rfl hG ?_;clear hG;intro U hG hk hb;replace hM:=(hk _ hne.symm).trans hM;replace HR:=HR.onB gg (hb _ (zD _));clear hk hb;refine hK.out _ _ HR (fun hHeld=>?_);clear hK K;try simp only[Act.put]
       refine wpAnyH_ready (rs:=[7]) (by kernel_rfl) (by simp) ?_;refine zG (o:={dst:=none,op:=_,type:=_,pos:=_,after:=_,guard:=_}) rfl (fun K hK=>?_) ?_
       ·refine step_storeM rfl _ _ rfl m rfl rfl hM ?_;clear hM;intro U hM hk hb;replace hG:=(hk _ hne).trans hG;replace HR:=HR.onB gm (hb _ (zD _));clear hk hb;refine hK.out _ _ HR (fun hHeld=>?_);clear hK K;try simp only[Act.put]
        refine wpAnyH_done (by kernel_rfl) ?_ _;exact⟨rfl,g,m,rfl,hG,hM,hne,gg,gm,HR⟩
       exact zH
      exact zH
     exact zH
    exact zH
   exact zH
  exact zH
 ·rintro a' W ⟨g,m,rfl,hG,hM,hne,gg,gm,HR⟩;obtain⟨⟨m0,m1,m2,m3,m4,m5,m6⟩,n0,n1,n2,n3,n4,n5,n6⟩:=seven_cells hG;obtain⟨⟨j0,j1,j2,j3,j4,j5,j6⟩,k0,k1,k2,k3,k4,k5,k6⟩:=seven_cells hM;obtain⟨d0,d1,d2,d3,d4,d5⟩:=six_cells HR.ob;have hne':=hne.symm
  have x1:g≠w.heap.size:=by omega
  have x2:m≠w.heap.size:=by omega
  have x3:=x1.symm
  have x4:=x2.symm
  have HG:=hide gg
  have HM:=hide gm
  clear gg gm
  go_wp2_with fail
  go_region
  go_wp2_with fail
  go_region
  have hB:=(((HR.bel.setCell (p:=⟨g,5,none⟩) (Nat.le_of_lt HG.out) (.int .i64 o.item)).setCell (p:=⟨g,6,none⟩) (Nat.le_of_lt HG.out) (.int .i64 o.qty)).setCell (p:=⟨m,5,none⟩) (Nat.le_of_lt HM.out) (.int .i64 o.client)).setCell (p:=⟨m,6,none⟩) (Nat.le_of_lt HM.out) (.int .i64 o.price)
  have HBX:=hide hB
  clear hB
  go_wp2
  go_ret
  exact prep_end HBX.out (by simp)
theorem own_cast{W:World}{B:Nat}{a:Option Addr}{c:Nat}{L m M:List Mg}(h:L++m=M)(ho:W.ownsRow B 34 7 (.slice a (L.length+m.length) c) (L++m).length (mgCells (L++m))):W.ownsRow B 34 7 (.slice a M.length c) M.length (mgCells M):=by
 subst h
 rw[List.length_append]at ho ⊢
 exact ho
def decP(o:Od)(f:Fa)(k:Int):Nat→List Mg
 |0=>[]
 |1=>if f.k0 then[]else[msgM o k 1]
 |_=>decL o f k
theorem decP_len(o:Od)(f:Fa)(k:Int)(j:Nat):(decP o f k j).length ≤2:=by
 unfold decP decL
 split
 ·simp
 ·split<;>simp
 ·cases f.k0<;>cases f.k1<;>simp
theorem own_on{w u:World}{base:Nat}{e:TypeId}{s:Nat}{v:Value}{n:Nat}{xs:List Value}(h:w.ownsRow base e s v n xs)(hb:Below w.heap.size w u):u.ownsRow base e s v n xs:=
 row_stays h (fun k _ _ hc=>hb.block k (Array.getElem?_eq_some_iff.1 hc).1)
theorem grown_off{W w1:World}{B:Nat}{v:Value}{t t':TypeId}{s n:Nat}{xs:List Value}(hown:W.ownsRow B t s v n xs)(hg:W.grownBy w1 v.ownBlock){k:Nat}{cs:Array Value}(hk:W.heap[k]?=some (.cells cs t' (0,0)))(hne:t'≠t):w1.heap[k]?=some (.cells cs t' (0,0)):=by
 refine(hg.block k (Array.getElem?_eq_some_iff.1 hk).1 (fun e=>?_)).trans hk
 rcases hown.2 with⟨rfl,_⟩|⟨g,cap,cur,rfl,_,hc,_⟩
 ·simp[Value.ownBlock]at e
 ·simp[Value.ownBlock]at e;subst e;rw[hk]at hc;cases hc;exact hne rfl
theorem Rd.grown{w:World}{p q:Nat}{t:TypeId}{o:Od}{a:Option Addr}{c:Nat}{f:Fa}{da:Option Addr}{dc:Nat}{ua:Option Addr}{uc:Nat}{u w1:World}{v:Value}{n:Nat}{xs:List Value}(h:Rd w p q t o a c f da dc ua uc u)(ha:Sts w a o.steps)(hi:FaIn w f da dc ua uc)
 (hown:u.ownsRow w.heap.size 34 7 v n xs) (h1:32≠34) (h2:t≠34) (hg:u.grownBy w1 v.ownBlock):Rd w p q t o a c f da dc ua uc w1:=by
 have hb:Below w.heap.size u w1:=(zF _ _).grown hg h.bel.size (fun k e=>(hown.lt k e).1)
 have hB:=h.bel.trans hb
 exact⟨grown_off hown hg h.ob h1,grown_off hown hg h.fb h2,ha.below hB,hi.below hB,hB,h.hl⟩
set_option maxRecDepth 100000 in
set_option maxHeartbeats 4000000 in
theorem deci_any(o:Od)(a:Option Addr)(c:Nat)(f:Fa)(da:Option Addr)(dc:Nat)(ua:Option Addr)(uc:Nat)(k:Int)(w:World)(ha:Sts w a o.steps)(hl:o.steps.length≤9223372036854775807)(hi:FaIn w f da dc ua uc):
 Calls Tryz.prog 208 #[.agg #[.int .i64 o.id,.int .i64 o.item,.int .i64 o.qty,.int .i64 o.client,.int .i64 o.price,.slice a o.steps.length c],.agg #[.slice da f.dn.length dc,.slice ua f.un.length uc,.bool f.asked,.bool f.yes,.bool f.turned,.bool f.k0,.bool f.k1,.bool f.ship,.bool f.d0,.bool f.d1,.bool f.acc],.int .i64 k] w (OwnM w (decL o f k)):=by
 have HR:=Rd.new (c:=c) 68 ha hl hi
 have ix0:∀W,(Instr.index 65 (.agg #[.bool f.k0,.bool f.k1]) (.int .i64 0)).run Tryz.prog W= .ok (.bool f.k0) W:=fun W=>by kernel_rfl
 have ix1:∀W,(Instr.index 65 (.agg #[.bool f.k0,.bool f.k1]) (.int .i64 1)).run Tryz.prog W= .ok (.bool f.k1) W:=fun W=>by kernel_rfl
 have HA:=hide ha
 have HI:=hide hi
 clear ha hl hi
 go_enter Tryz.func208,Tryz.ntmps208
 go_wp2
 go_loopw [7,12] (fun v i wr=>∃(j c1:Nat)(a1:Option Addr),i= .int .i64 j∧j≤2∧v= .slice a1 (decP o f k j).length c1∧Hid (wr.ownsRow w.heap.size 34 7 (.slice a1 (decP o f k j).length c1) (decP o f k j).length (mgCells (decP o f k j)))∧Hid (Rd w w.heap.size (w.heap.size+1) 68 o a c f da dc ua uc wr)) (fun _ i _=>2-(intOf i).toNat)
 case atStart=>exact⟨0,0,none,rfl,Nat.zero_le _,rfl,row_nil _ _ _ _,HR⟩
 case round=>
  obtain⟨j,c1,a1,rfl,hj,rfl,HROW,HRR⟩:=hrel;have HLE:=hide (decP_len o f k j)
  obtain rfl|rfl|rfl:j=0∨j=1∨j=2:=by omega
  ·cases hk:f.k0
   ·rw[hk]at ix0;have HNX:Hid (decP o f k 0++ [msgM o k 1]=decP o f k 1):=by show _=_;unfold decP;rw[hk];rfl
    obtain⟨D,hD⟩:∃D,decP o f k 0=D:=⟨_,rfl⟩
    rw[hD]at HROW HNX HLE ⊢;clear hD;have HH:=HRR.out.cells
    obtain⟨⟨d0,d1,d2,d3,d4,d5⟩,e0,e1,e2,e3,e4,e5,e6,e7,e8,e9,e10⟩:=HH;clear HR
    go_wp2_with(first
     |(go_at_call 236;with_reducible refine(msg_any o a c k 1 _).mono ?_;rintro e u ⟨rfl,hb⟩;have HRU:=hide (HRR.out.on hb);have HRW:=hide (own_on HROW.out hb);clear hb d0 d1 d2 d3 d4 d5 e0 e1 e2 e3 e4 e5 e6 e7 e8 e9 e10)
     |(at_builtin;refine append_mgs rfl _ _ rfl w.heap.size _ D rfl (HRW.out.alloc _) (some ⟨u.heap.size,0,none⟩) [msgM o k 1] 1 rfl (fun h=>by cases h) (mgs_new u [msgM o k 1] #[.int .i64 k,.int .i64 0,.int .i64 1,.int .i64 o.id,.int .i64 0,.int .i64 0,.int .i64 0] rfl) (by have:=HLE.out;simp;omega) (by have:=HRU.out.bel.size;simp;omega) ?_;intro a2 c2 w2 o2 g2;have HO2:=hide (own_cast HNX.out o2);have HR2:=hide ((HRU.out.on ((zF _ _).alloc (zD _) _)).grown HA.out HI.out (HRW.out.alloc _) (by decide) (by decide) g2);clear o2 g2))
    go_roundw
    case rel=>exact⟨1,c2,a2,by go_num,by omega,by rw[←HNX.out];simp,HO2,HR2⟩
    case measure=>simp[intOf]
   ·rw[hk]at ix0;have HNX:Hid (decP o f k 0=decP o f k 1):=by show _=_;unfold decP;rw[hk];simp
    rw[HNX.out]at HROW ⊢
    go_wp2
    go_roundw
    case rel=>exact⟨1,c1,a1,by go_num,by omega,rfl,HROW.out,HRR⟩
    case measure=>simp[intOf]
  ·cases hk:f.k1
   ·rw[hk]at ix1;have HNX:Hid (decP o f k 1++ [msgM o k 2]=decP o f k 2):=by show _=_;unfold decP decL;rw[hk];rfl
    obtain⟨D,hD⟩:∃D,decP o f k 1=D:=⟨_,rfl⟩
    rw[hD]at HROW HNX HLE ⊢;clear hD;have HH:=HRR.out.cells
    obtain⟨⟨d0,d1,d2,d3,d4,d5⟩,e0,e1,e2,e3,e4,e5,e6,e7,e8,e9,e10⟩:=HH;clear HR
    go_wp2_with(first
     |(go_at_call 236;with_reducible refine(msg_any o a c k 2 _).mono ?_;rintro e u ⟨rfl,hb⟩;have HRU:=hide (HRR.out.on hb);have HRW:=hide (own_on HROW.out hb);clear hb d0 d1 d2 d3 d4 d5 e0 e1 e2 e3 e4 e5 e6 e7 e8 e9 e10)
     |(at_builtin;refine append_mgs rfl _ _ rfl w.heap.size _ D rfl (HRW.out.alloc _) (some ⟨u.heap.size,0,none⟩) [msgM o k 2] 1 rfl (fun h=>by cases h) (mgs_new u [msgM o k 2] #[.int .i64 k,.int .i64 0,.int .i64 2,.int .i64 o.id,.int .i64 0,.int .i64 0,.int .i64 0] rfl) (by have:=HLE.out;simp;omega) (by have:=HRU.out.bel.size;simp;omega) ?_;intro a2 c2 w2 o2 g2;have HO2:=hide (own_cast HNX.out o2);have HR2:=hide ((HRU.out.on ((zF _ _).alloc (zD _) _)).grown HA.out HI.out (HRW.out.alloc _) (by decide) (by decide) g2);clear o2 g2))
    go_roundw
    case rel=>exact⟨2,c2,a2,by go_num,by omega,by rw[←HNX.out];simp,HO2,HR2⟩
    case measure=>simp[intOf]
   ·rw[hk]at ix1;have HNX:Hid (decP o f k 1=decP o f k 2):=by show _=_;unfold decP decL;rw[hk];simp
    rw[HNX.out]at HROW ⊢
    go_wp2
    go_roundw
    case rel=>exact⟨2,c1,a1,by go_num,by omega,rfl,HROW.out,HRR⟩
    case measure=>simp[intOf]
  ·have HLC:Hid ((decP o f k 2).length ≤c1∧(a1=none→decP o f k 2= []∧c1=0)):=by
    obtain⟨a',c',e,hc⟩:=row_slice HROW.out;cases e;exact⟨hc,fun h=>by subst h;have:=row_none HROW.out;exact⟨List.eq_nil_of_length_eq_zero this.1,this.2⟩⟩
   go_wp2
   go_ret
   exact⟨a1,c1,rfl,HLC.out.1,HLC.out.2,HROW.out,HRR.out.bel⟩
set_option maxRecDepth 100000 in
set_option maxHeartbeats 4000000 in
theorem undo_any(o:Od)(a:Option Addr)(c:Nat)(i:Nat)(w:World)(ha:Sts w a o.steps)(hi:i<o.steps.length):
 Calls Tryz.prog 209 #[.agg #[.int .i64 o.id,.int .i64 o.item,.int .i64 o.qty,.int .i64 o.client,.int .i64 o.price,.slice a o.steps.length c],.int .i64 i] w fun e w'=>e= .returned (.agg #[.int .i64 (undoM o i).k,.int .i64 (undoM o i).fr,.int .i64 (undoM o i).to,.int .i64 (undoM o i).id,.int .i64 (undoM o i).st,.int .i64 (undoM o i).a,.int .i64 (undoM o i).b])∧Below w.heap.size w w':=by
 have HR:=Ro.new (w:=w) (o:=o) (a:=a) (c:=c)
 obtain⟨b,off,rfl,-,-⟩:=ha.at hi
 unfold undoM
 obtain⟨x,hx⟩:∃x,stAt o.steps i=x:=⟨_,rfl⟩
 have HC:Hid (∀u,Below w.heap.size w u→u.cell? ⟨b,off+i*2,none⟩=some (.int .i64 x.1)∧u.cell? ⟨b,off+i*2+1,none⟩=some (.int .i64 x.2)):=fun u hu=>by
  obtain⟨b',off',e,h0,h1⟩:=(ha.below hu).at hi;cases e;rw[hx]at h0 h1;exact⟨h0,h1⟩
 rw[hx]
 have q:(i:Int)<(o.steps.length:Int):=by omega
 clear hx ha
 obtain⟨V0,hV0⟩:∃V,V=(w.alloc (.cells #[.int .i64 o.id,.int .i64 o.item,.int .i64 o.qty,.int .i64 o.client,.int .i64 o.price,.slice (some ⟨b,off,none⟩) o.steps.length c] 32)).alloc (.cells #[.int .i64 0,.int .i64 0,.int .i64 0,.int .i64 0,.int .i64 0,.int .i64 0,.int .i64 0] 34):=⟨_,rfl⟩
 rw[←hV0]at HR
 obtain⟨⟨d0,d1,d2,d3,d4,d5⟩,⟨z0,z1,z2,z3,z4,z5,z6⟩,y0,y1,y2,y3,y4,y5,y6⟩:=HR.cells
 obtain⟨h0,h1⟩:=HC.out V0 HR.bel
 have MS:∀u,Calls Tryz.prog 236 #[.agg #[.int .i64 o.id,.int .i64 o.item,.int .i64 o.qty,.int .i64 o.client,.int .i64 o.price,.slice (some ⟨b,off,none⟩) o.steps.length c],.int .i64 4,.int .i64 x.1] u fun e w'=>e= .returned (.agg #[.int .i64 4,.int .i64 0,.int .i64 x.1,.int .i64 o.id,.int .i64 0,.int .i64 0,.int .i64 0])∧Below u.heap.size u w':=fun u=>msg_any o _ c 4 x.1 u
 go_enter Tryz.func209,Tryz.ntmps209
 go_wp2_with fail
 rw[←hV0]
 clear hV0
 have HS0:=hide HR.sz
 have nw1:¬w.heap.size=V0.heap.size:=by have:=HR.sz;omega
 have nw2:¬b=V0.heap.size:=by have:=World.block_lt_of_cell? _ _ h0;simp only at this;omega
 have nw3:¬V0.heap.size=w.heap.size:=fun e=>nw1 e.symm
 have nw4:¬V0.heap.size=b:=fun e=>nw2 e.symm
 refine region_via (fun a' W=>∃M,a'= {tmps:=#[.agg #[.int .i64 o.id,.int .i64 o.item,.int .i64 o.qty,.int .i64 o.client,.int .i64 o.price,.slice (some ⟨b,off,none⟩) o.steps.length c],.int .i64 i,.pointer (some ⟨w.heap.size,0,none⟩),undef,.pointer (some ⟨w.heap.size+1,0,none⟩),.pointer (some ⟨M,0,none⟩),.agg #[.int .i64 o.id,.int .i64 o.item,.int .i64 o.qty,.int .i64 o.client,.int .i64 o.price,.slice (some ⟨b,off,none⟩) o.steps.length c],.pointer (some ⟨w.heap.size,5,none⟩),.slice (some ⟨b,off,none⟩) o.steps.length c,.int .i64 i,.pointer (some ⟨b,off+i*2,none⟩),.pointer (some ⟨b,off+i*2,none⟩),.int .i64 x.1,.agg #[.int .i64 4,.int .i64 0,.int .i64 x.1,.int .i64 o.id,.int .i64 0,.int .i64 0,.int .i64 0],undef,undef,undef],defers:=[]}∧W.heap[M]?=some (.cells #[.int .i64 4,.int .i64 0,.int .i64 x.1,.int .i64 o.id,.int .i64 0,.int .i64 0,.int .i64 0] 34 (0,0))∧w.heap.size+1<M∧Ro w o (some ⟨b,off,none⟩) c W) ?_ ?_
 ·skip
  go_region_held3(fun w'=>w'.cell? ⟨w.heap.size,0,none⟩=some (.int .i64 o.id)∧w'.cell? ⟨w.heap.size,1,none⟩=some (.int .i64 o.item)∧w'.cell? ⟨w.heap.size,2,none⟩=some (.int .i64 o.qty)∧w'.cell? ⟨w.heap.size,3,none⟩=some (.int .i64 o.client)∧w'.cell? ⟨w.heap.size,4,none⟩=some (.int .i64 o.price)∧w'.cell? ⟨w.heap.size,5,none⟩=some (.slice (some ⟨b,off,none⟩) o.steps.length c)∧w'.cell? ⟨b,off+i*2,none⟩=some (.int .i64 x.1)) (go_keep) (first
   |(go_at_call 236;with_reducible refine(MS V0.drew).mono ?_;rintro e u ⟨rfl,hb⟩;replace HR:=HR.drew.on hb;have hs:=HR.sz;clear d0 d1 d2 d3 d4 d5 z0 z1 z2 z3 z4 z5 z6 y0 y1 y2 y3 y4 y5 y6;obtain⟨⟨d0,d1,d2,d3,d4,d5⟩,⟨z0,z1,z2,z3,z4,z5,z6⟩,y0,y1,y2,y3,y4,y5,y6⟩:=HR.cells;obtain⟨h0,h1⟩:=HC.out u HR.bel)
   |(go_at_call 236;with_reducible refine(MS (V0.alloc (.cells #[.int .i64 0,.int .i64 0,.int .i64 0,.int .i64 0,.int .i64 0,.int .i64 0,.int .i64 0] 34)).drew).mono ?_;rintro e u ⟨rfl,hb⟩;have hM:=(hb.block V0.heap.size (by simp)).trans (at_drew (zI V0 (.cells #[.int .i64 0,.int .i64 0,.int .i64 0,.int .i64 0,.int .i64 0,.int .i64 0,.int .i64 0] 34)));replace HR:=(HR.alloc _).drew.on hb;have hs:=HR.sz;clear d0 d1 d2 d3 d4 d5 z0 z1 z2 z3 z4 z5 z6 y0 y1 y2 y3 y4 y5 y6;obtain⟨⟨d0,d1,d2,d3,d4,d5⟩,⟨z0,z1,z2,z3,z4,z5,z6⟩,y0,y1,y2,y3,y4,y5,y6⟩:=HR.cells;obtain⟨h0,h1⟩:=HC.out u HR.bel;obtain⟨⟨m0,m1,m2,m3,m4,m5,m6⟩,n0,n1,n2,n3,n4,n5,n6⟩:=seven_cells hM))
  ·refine⟨rfl,u.heap.size,rfl,zI u _,?_,HR.alloc _⟩;omega
  ·obtain⟨F1,F2⟩:=fill7 hM (B:=V0.heap.size) (zD _) (.int .i64 4) (.int .i64 0) (.int .i64 x.1) (.int .i64 o.id) (.int .i64 0) (.int .i64 0) (.int .i64 0);exact⟨rfl,V0.heap.size,rfl,F1,HS0.out,HR.onB HS0.out F2⟩
 ·rintro a' V ⟨M,rfl,hM,hm,HR⟩;clear d0 d1 d2 d3 d4 d5 z0 z1 z2 z3 z4 z5 z6 y0 y1 y2 y3 y4 y5 y6 h0 h1 nw1 nw2 nw3 nw4 HS0;have GM:Hid (w.heap.size≤M):=by show _≤_;omega
  have NM:Hid (M≠w.heap.size∧M≠w.heap.size+1):=by show _∧_;omega
  obtain⟨⟨m0,m1,m2,m3,m4,m5,m6⟩,n0,n1,n2,n3,n4,n5,n6⟩:=seven_cells hM;obtain⟨⟨d0,d1,d2,d3,d4,d5⟩,⟨z0,z1,z2,z3,z4,z5,z6⟩,y0,y1,y2,y3,y4,y5,y6⟩:=HR.cells;have nM1:=NM.out.1
  have nM2:=NM.out.2
  have nM3:=NM.out.1.symm
  have nM4:=NM.out.2.symm
  have HE:=hide ((HR.one (i:=4) GM.out NM.out (.int .i64 (i:Int))))
  clear hm
  go_wp2
  obtain⟨F1,F2⟩:=fill7 HE.out.rb (B:=w.heap.size) (by omega) (.int .i64 4) (.int .i64 0) (.int .i64 x.1) (.int .i64 o.id) (.int .i64 (i:Int)) (.int .i64 0) (.int .i64 0);refine bodyPost_ret (v:= .agg #[.int .i64 4,.int .i64 0,.int .i64 x.1,.int .i64 o.id,.int .i64 (i:Int),.int .i64 0,.int .i64 0]) ?_ rfl ?_
  ·exact results_cell_row Tryz.results209 _ _ (w.heap.size+1) 34 _ (0,0) _ rfl F1 Tryz.underlying34 rfl (by kernel_rfl)
  exact⟨rfl,HE.out.bel.trans F2⟩
end Go.Proofs.YthfgmpooehkhgaaGreatDoor.Sg
namespace Go.Proofs.YthfgmpooehkhgaaGreatDoor.Sg
open Go.ChangeShapes Go.WideShapes Go.ChangeAt Go.RowKit Go.Shelf
open List renaming setIfInBounds_toArray→zA,set_cons_zero→zB,set_cons_succ→zC,length_cons→zQ
open Nat renaming le_refl→zD,le_trans→zK
open Below renaming refl→zF,heap_setCell→zN
open Go.AllReadyH renaming cons→zG,nil→zH
set_option maxRecDepth 100000 in
theorem upon_round{l n:Nat}{P:Program}{o:Oper}{a:Act}{K:Act→World→Prop}{Q:Exit→Act→World→Prop}{r:Result Next}(h:o.upon P a K Q r):o.uponIn (Fence.wide.inRound l) n P a K Q r:=by
 cases r with
 |ok x w=>
  cases x with
  |value v=>exact h
  |skip=>exact h
  |defer d=>exact h
  |enter f args=>exact⟨fun h=>(by cases h),CallsIn.inRound l (callsIn_wide.2 h)⟩
  |row r args=>exact⟨fun h=>(by cases h),fun c cs _=>let ⟨v,w',r,s⟩:=h c cs;⟨v,w',r,stepsIn_wide.2 s⟩⟩
  |_=>exact h.elim
 |halt x w=>cases x<;>exact h
set_option maxRecDepth 100000 in
theorem op_round{l n:Nat}{P:Program}{ops:Array Oper}{i:Nat}{a:Act}{w:World}{K:Act→World→Prop}{Q:Exit→Act→World→Prop}(hd:∀(i:Nat)(o:Oper)(c:Call),ops[i]?=some o→o.op≠ .defer c)(hq:¬LetsOut Q)(h:wpOp P ops Q i K a w):wpOpIn (Fence.wide.inRound l) n P ops Q i K a w:=by
 unfold wpOp at h
 unfold wpOpIn
 cases ho:ops[i]?with
 |none=>simp only[ho]at h ⊢;exact h
 |some o=>
  simp only[ho]at h ⊢;split
  ·rename_i hw;rw[if_pos hw]at h;rcases h with h|⟨_,h⟩
   ·refine⟨fun _ _=>trivial,?_⟩;rw[Oper.semAt_eq _ _ _ (fun c=>hd i o c ho)];exact upon_round h
   ·exact absurd h hq
  ·rename_i hw;rw[if_neg hw]at h;exact⟨fun _ _=>trivial,h⟩
set_option maxRecDepth 100000 in
theorem any_round{l n:Nat}{P:Program}{md:Region.Mode}{ops:Array Oper}{Q:Exit→Act→World→Prop}(hd:∀(i:Nat)(o:Oper)(c:Call),ops[i]?=some o→o.op≠ .defer c)(hq:¬LetsOut Q):∀(fuel:Nat)(listed:Array Bool)(a:Act)(w:World),wpAny P md ops Q fuel listed a w→wpAnyIn (Fence.wide.inRound l) n P md ops Q fuel listed a w
 |0,_,_,_,h=>h
 |fuel+1,_,_,_,h=>⟨h.1,fun i hi=>wpOpIn_mono (fun a' w'=>any_round hd hq fuel _ a' w') (op_round hd hq (h.2 i hi))⟩
def noDefer(ops:Array Oper):Bool:=ops.all fun o=>match o.op with| .defer _=>false|_=>true
set_option maxRecDepth 100000 in
theorem noDefer_spec{ops:Array Oper}(h:noDefer ops=true)(i:Nat)(o:Oper)(c:Call)(ho:ops[i]?=some o):o.op≠ .defer c:=by
 intro e
 unfold noDefer at h
 rw[Array.all_eq_true_iff_forall_mem]at h
 have:=h o (Array.mem_of_getElem? ho)
 rw[e]at this
 cases this
set_option maxRecDepth 100000 in
theorem region_round{l n:Nat}{P:Program}{id:Nat}{ops:Array Oper}{Q:Exit→Act→World→Prop}{S:World→Prop}{a:Act}{w:World}(Fin:Act→World→Prop)(hm:P.follows .mixedOrders =true)(hd:noDefer ops=true)(hS:S w.drew)
 (h:S w.drew→wpAnyH P .any ops (fun e a' w'=>e= .normal ∧Fin a' w') S ops.size (Array.replicate ops.size false) a w.drew) (h2:∀a' w',Fin a' w'→Q .normal a' w'):(Code.region id ops true).wpIn (Fence.wide.inRound l) n P Q a w:=
 have hq:¬LetsOut (fun e a' w'=>e=Exit.normal∧Fin a' w'):=fun h=>by
  obtain⟨_,_,h,_⟩:=h;cases h
 wpIn_mono (wpIn_region_any hm (any_round (noDefer_spec hd) hq _ _ _ _ (wpAny_of_held _ _ _ _ (h hS)))) (fun e a' w' h=>by obtain⟨rfl,h⟩:=h;exact h2 a' w' h)
theorem step_go{ops:Array Oper}{o:Oper}{a:Act}{w:World}{K:Act→World→Prop}{Q:Exit→Act→World→Prop}{E:Prop}(hw:Region.wanted o (yielded ops a.tmps)=true){f:FuncId}{vals:Array Value}{R:Ending→World→Prop}
 (hr:(execOp a.eval o).run Tryz.prog w= .ok (.enter f vals) w) (C:Calls Tryz.prog f vals w R) (h:∀e w',R e w'→∃v,e= .returned v∧K (a.put o.dst v) w'):
 if Region.wanted o (yielded ops a.tmps)=true then Oper.wp Tryz.prog o a w K Q else E:=by
 rw[if_pos hw]
 unfold Oper.wp
 rw[hr,Oper.upon_enter]
 refine C.mono ?_
 intro e w' he
 obtain⟨v,rfl,hk⟩:=h e w' he
 exact hk
set_option maxRecDepth 100000 in
theorem run_go1{o:Oper}{a:Act}{w:World}{f:FuncId}{x:Operand}{ts:Array TypeId}(v:Value)(ho:o.op= .call {callee:= .value (.func f),args:=#[x],argTypes:=ts})(hx:a.eval x=v)(en:∀args u,(callFunc f args).run Tryz.prog u= .ok (.enter f args) u):(execOp a.eval o).run Tryz.prog w= .ok (.enter f #[v]) w:=by
 unfold execOp
 rw[ho]
 simp only[resolve,invoke,Sem.run_bind,List.map_toArray,List.map_cons,List.map_nil,hx]
 exact en _ _
set_option maxRecDepth 100000 in
theorem run_go2{o:Oper}{a:Act}{w:World}{f:FuncId}{x y:Operand}{ts:Array TypeId}(v u:Value)(ho:o.op= .call {callee:= .value (.func f),args:=#[x,y],argTypes:=ts})(hx:a.eval x=v)(hy:a.eval y=u)(en:∀args u,(callFunc f args).run Tryz.prog u= .ok (.enter f args) u):(execOp a.eval o).run Tryz.prog w= .ok (.enter f #[v,u]) w:=by
 unfold execOp
 rw[ho]
 simp only[resolve,invoke,Sem.run_bind,List.map_toArray,List.map_cons,List.map_nil,hx,hy]
 exact en _ _
set_option maxRecDepth 100000 in
theorem run_go3{o:Oper}{a:Act}{w:World}{f:FuncId}{x y z:Operand}{ts:Array TypeId}(v u t:Value)(ho:o.op= .call {callee:= .value (.func f),args:=#[x,y,z],argTypes:=ts})(hx:a.eval x=v)(hy:a.eval y=u)(hz:a.eval z=t)(en:∀args u,(callFunc f args).run Tryz.prog u= .ok (.enter f args) u):(execOp a.eval o).run Tryz.prog w= .ok (.enter f #[v,u,t]) w:=by
 unfold execOp
 rw[ho]
 simp only[resolve,invoke,Sem.run_bind,List.map_toArray,List.map_cons,List.map_nil,hx,hy,hz]
 exact en _ _
set_option maxRecDepth 100000 in
theorem step_load{ops:Array Oper}{o:Oper}{a:Act}{w:World}{K:Act→World→Prop}{Q:Exit→Act→World→Prop}{E:Prop}(hw:Region.wanted o (yielded ops a.tmps)=true){v:Value}
 (hr:(execOp a.eval o).run Tryz.prog w= .ok (.value v) w) (h:K (a.put o.dst v) w):
 if Region.wanted o (yielded ops a.tmps)=true then Oper.wp Tryz.prog o a w K Q else E:=by
 rw[if_pos hw]
 unfold Oper.wp
 rw[hr,Oper.upon_value]
 exact h
set_option maxRecDepth 100000 in
theorem step_build{ops:Array Oper}{o:Oper}{a:Act}{w:World}{K:Act→World→Prop}{Q:Exit→Act→World→Prop}{E:Prop}(hw:Region.wanted o (yielded ops a.tmps)=true)(x:Operand)
 (ho:o.op= .buildSlice 29 1 #[(0,x)]) (m:Mg) (hx:a.eval x= .agg #[.int .i64 m.k,.int .i64 m.fr,.int .i64 m.to,.int .i64 m.id,.int .i64 m.st,.int .i64 m.a,.int .i64 m.b])
 (h:∀p w',Mgs w' (some ⟨p,0,none⟩) [m]→Below w.heap.size w w'→K (a.put o.dst (.slice (some ⟨p,0,none⟩) 1 1)) w'):
 if Region.wanted o (yielded ops a.tmps)=true then Oper.wp Tryz.prog o a w K Q else E:=by
 have hr:(execOp a.eval o).run Tryz.prog w= .ok (.value (.slice (some ⟨w.heap.size,0,none⟩) 1 1)) (w.alloc (.cells #[.int .i64 m.k,.int .i64 m.fr,.int .i64 m.to,.int .i64 m.id,.int .i64 m.st,.int .i64 m.a,.int .i64 m.b] 34)):=by
  unfold execOp;rw[ho];simp only[List.map_toArray,List.map_cons,List.map_nil,hx];kernel_rfl
 rw[if_pos hw]
 unfold Oper.wp
 rw[hr,Oper.upon_value]
 exact h w.heap.size _ (mgs_new w [m] _ rfl) ((zF _ _).alloc (zD _) _)
set_option maxRecDepth 100000 in
theorem step_app{ops:Array Oper}{o:Oper}{a:Act}{w:World}{K:Act→World→Prop}{Q:Exit→Act→World→Prop}{E:Prop}(hw:Region.wanted o (yielded ops a.tmps)=true)(s x:Operand)
 (ho:o.op= .call {callee:= .builtin .append,args:=#[s,x],argTypes:=#[29,29]})
 (base:Nat) (v:Value) (L:List Mg) (hs:a.eval s=v) (hown:w.ownsRow base 34 7 v L.length (mgCells L)) (ao:Option Addr) (m:List Mg) (c:Nat) (hx:a.eval x= .slice ao m.length c) (hn:ao=none→m= []∧c=0)
 (hm:Mgs w ao m) (hb:L.length+m.length≤1000000) (hbase:base≤w.heap.size)
 (h:∀a' c' w',w'.ownsRow base 34 7 (.slice a' (L++m).length c') (L++m).length (mgCells (L++m))→w.grownBy w' v.ownBlock→K (a.put o.dst (.slice a' (L++m).length c')) w'):
 if Region.wanted o (yielded ops a.tmps)=true then Oper.wp Tryz.prog o a w K Q else E:=by
 rw[if_pos hw]
 obtain⟨i0,hi,hz0,hz1,hz2⟩:=info_parts Tryz.infoMsg
 have key:∃v' w',(Builtin.append_ #[29,29] o.type #[v,.slice ao m.length c]).run Tryz.prog w= .ok v' w'∧w'.ownsRow base 34 7 v' (L++m).length (mgCells (L++m))∧w.grownBy w' v.ownBlock:=by
  cases ao with
  |none=>
   obtain⟨rfl,rfl⟩:=hn rfl;exact⟨v,w,run_append_owned_none (P:=Tryz.prog) (w:=w) base 29 o.type 34 i0 7 Tryz.underlying29 hi v _ _ hown,by simpa using hown,⟨rfl,rfl,rfl,zD _,fun _ _ _=>rfl⟩⟩
  |some ad=>
   obtain⟨v',w',hr,h2,h3,_,_⟩:=run_append_own_at (P:=Tryz.prog) w base 29 o.type 34 i0 _ 7 56 Tryz.underlying29 hi hz0 hz1 hz2 rfl (by decide) v L.length (mgCells L) hown ad m.length c (mgCells m) (mgCells_len m) (mgs_news hm) (fun u hu=>mgCells_one hu) (by unfold maxLen;omega) (by omega) hbase;exact⟨v',w',hr,by rw[mgCells_append,List.length_append];exact h2,h3⟩
 obtain⟨v',w',hr,h2,h3⟩:=key
 unfold Oper.wp execOp
 simp only[ho,resolve,invoke,builtin,Sem.run_bind,Sem.run_pure,Result.andThen_ok,List.map_toArray,List.map_cons,List.map_nil,hs,hx,hr]
 obtain⟨a',c',rfl,_⟩:=row_slice h2
 exact h a' c' w' h2 h3
set_option maxRecDepth 100000 in
theorem step_put{ops:Array Oper}{o:Oper}{a:Act}{w:World}{K:Act→World→Prop}{Q:Exit→Act→World→Prop}{E:Prop}(hw:Region.wanted o (yielded ops a.tmps)=true)(d s:Operand){t:TypeId}
 (ho:o.op= .store 29 d s) (p:Nat) (hd:a.eval d= .pointer (some ⟨p,0,none⟩)) (ao:Option Addr) (n c:Nat) (hs:a.eval s= .slice ao n c) {v:Value} (hp:Boxed w p t v)
 (h:K (a.put o.dst undef) (w.setCell ⟨p,0,none⟩ (.slice ao n c))):
 if Region.wanted o (yielded ops a.tmps)=true then Oper.wp Tryz.prog o a w K Q else E:=by
 rw[if_pos hw]
 unfold Oper.wp execOp
 rw[ho]
 have hc:=hp.cell
 have hf:=hp.frozen
 simp only[hd,hs]
 simp[go_sem,hc,hf]
 exact h
structure TF (w:World) (N1:Nat) (o:Od) (a:Option Addr) (c:Nat) (f:Fa) (da:Option Addr) (dc:Nat) (ua:Option Addr) (uc:Nat) (W:World):Prop where
 ob:W.heap[w.heap.size]?=some (.cells #[.int .i64 o.id,.int .i64 o.item,.int .i64 o.qty,.int .i64 o.client,.int .i64 o.price,.slice a o.steps.length c] 32 (0,0))
 fb:W.heap[w.heap.size+1]?=some (.cells #[.slice da f.dn.length dc,.slice ua f.un.length uc,.bool f.asked,.bool f.yes,.bool f.turned,.bool f.k0,.bool f.k1,.bool f.ship,.bool f.d0,.bool f.d1,.bool f.acc] 68 (0,0))
 bel:Below w.heap.size w W
 sz:N1≤W.heap.size
 n1:w.heap.size+1+1<N1
def Nd(w:World)(N1:Nat)(v:Value)(acc:List Mg)(W:World):Prop:=Boxed W (w.heap.size+1+1) 29 v∧W.ownsRow N1 34 7 v acc.length (mgCells acc)
def TI(w:World)(N1:Nat)(o:Od)(a:Option Addr)(c:Nat)(f:Fa)(da:Option Addr)(dc:Nat)(ua:Option Addr)(uc:Nat)(g:Int×Int→List Mg×Bool)(L pre:List (Int×Int))(W:World):Prop:=
 TF w N1 o a c f da dc ua uc W∧∃v acc,Nd w N1 v acc W∧runS g L []=runS g (L.drop pre.length) acc∧acc.length≤2*pre.length
def TX(w:World)(N1:Nat)(o:Od)(a:Option Addr)(c:Nat)(f:Fa)(da:Option Addr)(dc:Nat)(ua:Option Addr)(uc:Nat)(g:Int×Int→List Mg×Bool)(L:List (Int×Int))(W:World):Prop:=
 TF w N1 o a c f da dc ua uc W∧∃v,Nd w N1 v (runS g L []) W
section
variable {w:World}{N1:Nat}{o:Od}{a:Option Addr}{c:Nat}{f:Fa}{da:Option Addr}{dc:Nat}{ua:Option Addr}{uc:Nat}{g:Int×Int→List Mg×Bool}{L:List (Int×Int)}
theorem TF.own{β:Type}{X:Nat}(hX:w.heap.size≤X):OwnFrom X (fun(_:β) W=>TF w N1 o a c f da dc ua uc W):=fun _ _ _ _ hs hg hr=>
 ⟨(cells_stay hg hr hs.ob).trans hs.ob,(cells_stay hg hr hs.fb).trans hs.fb,hs.bel.grown hg hs.bel.size (fun k e=>zK hX (hr k e).1),zK hs.sz hg.size,hs.n1⟩
theorem Nd.own{W W':World}{row:Option Nat}{X:Nat}{v:Value}{acc:List Mg}(h:Nd w N1 v acc W)(hg:W.grownBy W' row)(hr:∀r,row=some r→X≤r∧∃o:Obj,W.heap[r]?=some o∧o.isCells=false):Nd w N1 v acc W':=
 ⟨(cells_stay hg hr h.1).trans h.1,row_stays h.2 (fun _ _ _ hc=>cells_stay hg hr hc)⟩
theorem TI.own{X:Nat}(hX:w.heap.size≤X):OwnFrom X (TI w N1 o a c f da dc ua uc g L):=fun pre W W' row hs hg hr=>by
 obtain⟨h1,v,acc,h2,h3⟩:=hs
 exact⟨TF.own (β:=Unit) hX () W W' row h1 hg hr,v,acc,h2.own hg hr,h3⟩
theorem TX.own{β:Type}{X:Nat}(hX:w.heap.size≤X):OwnFrom X (fun(_:β) W=>TX w N1 o a c f da dc ua uc g L W):=fun _ W W' row hs hg hr=>by
 obtain⟨h1,v,h2⟩:=hs
 exact⟨TF.own (β:=Unit) hX () W W' row h1 hg hr,v,h2.own hg hr⟩
theorem drop_next{pre:List (Int×Int)}{x:Int×Int}(h:pre++ [x]<+:L):L.drop pre.length=x::L.drop (pre.length+1):=by
 obtain⟨r,rfl⟩:=h
 simp
theorem TI.next{pre:List (Int×Int)}{x:Int×Int}{W:World}(h:TI w N1 o a c f da dc ua uc g L pre W)(hp:pre++ [x]<+:L)(hx:g x=([],false)):TI w N1 o a c f da dc ua uc g L (pre++ [x]) W:=by
 obtain⟨h1,v,acc,h2,h3,h4⟩:=h
 refine⟨h1,v,acc,h2,?_,by simp;omega⟩
 rw[h3,drop_next hp,runS,hx]
 simp
theorem TI.more{pre:List (Int×Int)}{x:Int×Int}{W:World}{v:Value}{acc m:List Mg}(h1:TF w N1 o a c f da dc ua uc W)(h2:Nd w N1 v (acc++m) W)(h3:runS g L []=runS g (L.drop pre.length) acc)(h4:acc.length≤2*pre.length)(hp:pre++ [x]<+:L)(hx:g x=(m,false))(hm:m.length≤2):TI w N1 o a c f da dc ua uc g L (pre++ [x]) W:=by
 refine⟨h1,v,acc++m,h2,?_,by simp;omega⟩
 rw[h3,drop_next hp,runS,hx]
 simp
theorem TX.more{pre:List (Int×Int)}{x:Int×Int}{W:World}{v:Value}{acc m:List Mg}(h1:TF w N1 o a c f da dc ua uc W)(h2:Nd w N1 v (acc++m) W)(h3:runS g L []=runS g (L.drop pre.length) acc)(hp:pre++ [x]<+:L)(hx:g x=(m,true)):TX w N1 o a c f da dc ua uc g L W:=by
 refine⟨h1,v,?_⟩
 rw[h3,drop_next hp,runS,hx]
 exact h2
theorem TI.end{W:World}(h:TI w N1 o a c f da dc ua uc g L L W):TX w N1 o a c f da dc ua uc g L W:=by
 obtain⟨h1,v,acc,h2,h3,_⟩:=h
 refine⟨h1,v,?_⟩
 rw[h3,List.drop_length,runS]
 exact h2
structure Rr (w:World) (N1:Nat) (o:Od) (a:Option Addr) (c:Nat) (f:Fa) (da:Option Addr) (dc:Nat) (ua:Option Addr) (uc:Nat) (W:World) (Bx:Nat) (x:Int×Int) (u:World):Prop where
 tf:TF w N1 o a c f da dc ua uc u
 ab:u.heap[Bx]?=some (.cells #[.int .i64 x.1,.int .i64 x.2] 216 (0,0))
 kp:Kept 34 (fun k=>k=w.heap.size+1+1) W u
variable {W:World}{Bx:Nat}{x:Int×Int}{u u':World}
theorem TF.on(h:TF w N1 o a c f da dc ua uc u)(hb:Below u.heap.size u u'):TF w N1 o a c f da dc ua uc u':=
 ⟨keepB h.ob hb,keepB h.fb hb,bel_on' h.bel hb,zK h.sz hb.size,h.n1⟩
theorem Rr.on(h:Rr w N1 o a c f da dc ua uc W Bx x u)(hb:Below u.heap.size u u'):Rr w N1 o a c f da dc ua uc W Bx x u':=
 ⟨h.tf.on hb,keepB h.ab hb,h.kp.trans (Kept.of_below hb)⟩
theorem Rr.drew(h:Rr w N1 o a c f da dc ua uc W Bx x u):Rr w N1 o a c f da dc ua uc W Bx x u.drew:=
 ⟨⟨h.tf.ob,h.tf.fb,h.tf.bel.drew,h.tf.sz,h.tf.n1⟩,h.ab,h.kp.trans (Kept.of_below (zF _ _).drew)⟩
theorem Nd.on{v:Value}{acc:List Mg}(h:Nd w N1 v acc u)(hb:Below u.heap.size u u'):Nd w N1 v acc u':=⟨keepB h.1 hb,own_on h.2 hb⟩
theorem Rr.grown{v:Value}{acc:List Mg}(h:Rr w N1 o a c f da dc ua uc W Bx x u)(hn:Nd w N1 v acc u)(hg:u.grownBy u' v.ownBlock):Rr w N1 o a c f da dc ua uc W Bx x u'∧Boxed u' (w.heap.size+1+1) 29 v:=by
 have hlt:=fun k e=>(hn.2.lt k e).1
 have hN:w.heap.size≤N1:=by have:=h.tf.n1;omega
 refine⟨⟨⟨grown_off hn.2 hg h.tf.ob (by decide),grown_off hn.2 hg h.tf.fb (by decide),h.tf.bel.trans ((zF _ _).grown hg h.tf.bel.size (fun k e=>zK hN (hlt k e))),zK h.tf.sz hg.size,h.tf.n1⟩,grown_off hn.2 hg h.ab (by decide),h.kp.trans ⟨hg.os,hg.tape,hg.output,hg.size,fun k ob hk hx hc=>?_⟩⟩,grown_off hn.2 hg hn.1 (by decide)⟩
 refine(hg.block k (Array.getElem?_eq_some_iff.1 hk).1 (fun e=>?_)).trans hk
 rcases hn.2.2 with⟨rfl,_⟩|⟨g',cap,cur,rfl,_,hcc,_⟩
 ·simp[Value.ownBlock]at e
 ·simp[Value.ownBlock]at e;subst e;rw[hk]at hcc;cases hcc;exact hc _ _ rfl
theorem Rr.put{v v':Value}{acc:List Mg}(h:Rr w N1 o a c f da dc ua uc W Bx x u)(hbx:Boxed u (w.heap.size+1+1) 29 v)(hrow:u.ownsRow N1 34 7 v' acc.length (mgCells acc)):
 Rr w N1 o a c f da dc ua uc W Bx x (u.setCell ⟨w.heap.size+1+1,0,none⟩ v')∧Nd w N1 v' acc (u.setCell ⟨w.heap.size+1+1,0,none⟩ v'):=by
 have ne:∀ {k:Nat}{cs:Array Value}{t:TypeId},u.heap[k]?=some (.cells cs t (0,0))→t≠29→(u.setCell ⟨w.heap.size+1+1,0,none⟩ v').heap[k]?=some (.cells cs t (0,0)):=fun {k cs t} hk ht=>by
  refine(zN _ _ _ _ (fun e=>?_)).trans hk;subst e;rw[show u.heap[w.heap.size+1+1]?=_ from hbx]at hk;simp only[Option.some.injEq,Obj.cells.injEq]at hk;exact ht hk.2.1.symm
 refine⟨⟨⟨ne h.tf.ob (by decide),ne h.tf.fb (by decide),h.tf.bel.setCell (p:=⟨w.heap.size+1+1,0,none⟩) (by show _≤w.heap.size+1+1;omega) _,by have:=h.tf.sz;simpa using this,h.tf.n1⟩,ne h.ab (by decide),h.kp.trans ⟨rfl,rfl,rfl,by simp,fun k ob hk hx _=>?_⟩⟩,hbx.set v',?_⟩
 ·exact(zN _ _ _ _ (show k≠w.heap.size+1+1 from hx)).trans hk
 ·exact row_stays hrow (fun k cs _ hc=>(ne hc (by decide)).trans hc.symm)
theorem TX.back(h:TX w N1 o a c f da dc ua uc g L W){D:Nat}(hD:N1≤D)(hK:W.heap[D]?=some (.deferred (some []))):∃av cv,W.cell? ⟨w.heap.size+1+1,0,none⟩=some (.slice av (runS g L []).length cv)∧OwnM w (runS g L []) (.returned (.slice av (runS g L []).length cv)) (W.putObj D (.deferred none)):=by
 obtain⟨h1,v,h2,h3⟩:=h
 obtain⟨av,cv,rfl,hc⟩:=row_slice h3
 refine⟨av,cv,h2.cell,av,cv,rfl,hc,fun e=>?_,?_,h1.bel.trans ⟨rfl,rfl,rfl,by simp,fun k hk=>World.putObj_heap_other (by have:=h1.n1;omega)⟩⟩
 ·subst e;have:=row_none h3
  exact⟨List.eq_nil_of_length_eq_zero this.1,this.2⟩
 ·have h8:=ownsRow_putObj h3 (.deferred none) hK rfl
  refine⟨h8.1,?_⟩;rcases h8.2 with h|⟨g',cap,cur,e1,e2,e3⟩
  ·exact .inl h
  ·exact .inr ⟨g',cap,cur,e1,by have:=h1.n1;omega,e3⟩
end
attribute [local go_sem] Oper.semAt_some
theorem up_mem(k:Int){x:Int×Int}:∀(m j:Nat),x∈upL k j m→∃i:Nat,j≤i∧i<j+m∧x=(k,(i:Int))
 |0,_,h=>by simp[upL]at h
 |m+1,j,h=>by
  rw[upL,List.mem_cons]at h;rcases h with rfl|h
  ·exact⟨j,zD _,by omega,rfl⟩
  ·obtain⟨i,h1,h2,rfl⟩:=up_mem k m (j+1) h;exact⟨i,by omega,by omega,rfl⟩
theorem plan_mem{o:Od}(hm:mayO o=true){pre:List (Int×Int)}{x:Int×Int}(h:pre++ [x]<+:planL o):(∃j:Nat,j<o.steps.length∧x=(1,(j:Int)))∨x=(6,0)∨x=(9,0)∨x=(15,0):=by
 have hx:x∈planL o:=h.subset (by simp)
 rw[planL_may hm,List.mem_append]at hx
 rcases hx with hx|hx
 ·obtain⟨i,_,h2,rfl⟩:=up_mem 1 _ _ hx;exact .inl ⟨i,by omega,rfl⟩
 ·simp at hx;exact .inr hx
theorem may_three'{o:Od}(h:mayO o=true):o.steps.length≤3:=by
 unfold mayO stepsB at h
 simp at h
 exact h.2.1
theorem plan_few{o:Od}(hm:mayO o=true){pre:List (Int×Int)}{x:Int×Int}(h:pre++ [x]<+:planL o):pre.length≤5:=by
 have h1:=h.length_le
 rw[planL_may hm]at h1
 have:=may_three' hm
 simp[upL_len]at h1
 omega
set_option maxRecDepth 100000 in
set_option maxHeartbeats 8000000 in
theorem forward_any(o:Od)(a:Option Addr)(c:Nat)(f:Fa)(da:Option Addr)(dc:Nat)(ua:Option Addr)(uc:Nat)(w:World)(ha:Sts w a o.steps)(hl:o.steps.length≤9223372036854775807)(hi:FaIn w f da dc ua uc)(hm:mayO o=true)(h1:f.dn.length=o.steps.length)(h2:f.un.length=o.steps.length):
 Calls Tryz.prog 182 #[.agg #[.int .i64 o.id,.int .i64 o.item,.int .i64 o.qty,.int .i64 o.client,.int .i64 o.price,.slice a o.steps.length c],.agg #[.slice da f.dn.length dc,.slice ua f.un.length uc,.bool f.asked,.bool f.yes,.bool f.turned,.bool f.k0,.bool f.k1,.bool f.ship,.bool f.d0,.bool f.d1,.bool f.acc]] w (OwnM w (runS (fwdS o f) (planL o) [])):=by
 refine(callsIn_wide (n:=5)).1 ?_
 obtain⟨U,hU⟩:∃U,U=((w.alloc (.cells #[.int .i64 o.id,.int .i64 o.item,.int .i64 o.qty,.int .i64 o.client,.int .i64 o.price,.slice a o.steps.length c] 32)).alloc (.cells #[.slice da f.dn.length dc,.slice ua f.un.length uc,.bool f.asked,.bool f.yes,.bool f.turned,.bool f.k0,.bool f.k1,.bool f.ship,.bool f.d0,.bool f.d1,.bool f.acc] 68)).alloc (.cells #[.slice none 0 0] 29):=⟨_,rfl⟩
 have hbU:Below w.heap.size w U:=by rw[hU];exact(((zF _ _).alloc (zD _) _).alloc (by simp) _).alloc (by simp;omega) _
 have hsz:U.heap.size=w.heap.size+1+1+1:=by rw[hU];simp
 have hal:=allocs_at [.cells #[.int .i64 o.id,.int .i64 o.item,.int .i64 o.qty,.int .i64 o.client,.int .i64 o.price,.slice a o.steps.length c] 32 (0,0),.cells #[.slice da f.dn.length dc,.slice ua f.un.length uc,.bool f.asked,.bool f.yes,.bool f.turned,.bool f.k0,.bool f.k1,.bool f.ship,.bool f.d0,.bool f.d1,.bool f.acc] 68 (0,0),.cells #[.slice none 0 0] 29 (0,0)] w
 have hb0:U.heap[w.heap.size]?=some (.cells #[.int .i64 o.id,.int .i64 o.item,.int .i64 o.qty,.int .i64 o.client,.int .i64 o.price,.slice a o.steps.length c] 32 (0,0)):=by rw[hU];exact hal 0 _ rfl
 have hb1:U.heap[w.heap.size+1]?=some (.cells #[.slice da f.dn.length dc,.slice ua f.un.length uc,.bool f.asked,.bool f.yes,.bool f.turned,.bool f.k0,.bool f.k1,.bool f.ship,.bool f.d0,.bool f.d1,.bool f.acc] 68 (0,0)):=by rw[hU];exact hal 1 _ rfl
 have hb2:U.heap[w.heap.size+1+1]?=some (.cells #[.slice none 0 0] 29 (0,0)):=by rw[hU];exact hal 2 _ rfl
 have HAU:=(callsIn_wide (n:=4)).2 (plan_any o a c U (ha.below hbU) hl)
 have HUW:=hide hU
 have HL:=hide hl
 have HA:=hide ha
 have HI:=hide hi
 have HMY:=hide hm
 have HDN:=hide h1
 have HUN:=hide h2
 rw[hU]at HAU
 clear hU ha hl hal hi hm h1 h2
 refine callsIn_of_wp_marks Tryz.func182 rfl trivial ?_ rfl
 simp only[Tryz.ntmps182,List.size_toArray,zQ,List.length_nil,Nat.reduceAdd,Nat.reduceSub,Array.replicate_succ,Array.replicate_zero,List.push_toArray,List.append_toArray,List.nil_append,List.cons_append]
 gi_wp2_with fail
 refine wpIn_wide.2 (wp_scope_straight ((wpIn_wide (n:=5)).1 ?_))
 gi_wp2_with fail
 refine wpIn_label ?_
 gi_wp2_with fail
 refine⟨trivial,HAU.mono ?_⟩
 rintro e w1 ⟨Bp,rfl,hb,hsq⟩
 rw[←HUW.out]at hb hsq
 clear HAU
 have hB1:Below w.heap.size w w1:=bel_on' hbU hb
 have hN1:w.heap.size+1+1<w1.heap.size:=by have:=hb.size;omega
 have h0:TI w w1.heap.size o a c f da dc ua uc (fwdS o f) (planL o) [] w1:=⟨⟨keepB hb0 hb,keepB hb1 hb,hB1,zD _,hN1⟩,_,[],⟨keepB hb2 hb,World.ownsRow_nil _ _ _ _⟩,rfl,zD _⟩
 have ES:=hsq (fun k=>k=w.heap.size+1+1) (fun k h=>by omega)
 clear hb0 hb1 hb2 hb hbU hsq
 gi_wp2_with fail
 refine range_acts (t:=34) (X:=fun k=>k=w.heap.size+1+1) (enc:=encA) (L:=planL o) (I:=TI w w1.heap.size o a c f da dc ua uc (fwdS o f) (planL o)) (Ix:=fun c' _ W=>c'= .exit 0∧TX w w1.heap.size o a c f da dc ua uc (fwdS o f) (planL o) W)
  (Ax:=fun x a' W=>∃Bx,W.heap[Bx]?=some (.cells #[.int .i64 x.1,.int .i64 x.2] 216 (0,0))∧a'= {tmps:=#[.agg #[.int .i64 o.id,.int .i64 o.item,.int .i64 o.qty,.int .i64 o.client,.int .i64 o.price,.slice a o.steps.length c],.agg #[.slice da f.dn.length dc,.slice ua f.un.length uc,.bool f.asked,.bool f.yes,.bool f.turned,.bool f.k0,.bool f.k1,.bool f.ship,.bool f.d0,.bool f.d1,.bool f.acc],.pointer (some ⟨w.heap.size,0,none⟩),.pointer (some ⟨w.heap.size+1,0,none⟩),.slice none 0 0,.pointer (some ⟨w.heap.size+1+1,0,none⟩),.pointer (some ⟨Bx,0,none⟩),.agg #[.int .i64 o.id,.int .i64 o.item,.int .i64 o.qty,.int .i64 o.client,.int .i64 o.price,.slice a o.steps.length c],.func (.func 265) #[] #[.pointer (some ⟨Bp,0,none⟩)],encA x,undef,undef,undef,undef,undef,undef,undef,undef,undef,undef,undef,undef,undef,undef,undef,undef,undef,undef,undef,undef,undef,undef,undef,undef,undef,undef,undef,undef,undef,undef,undef,undef,undef,undef,undef,undef,undef,undef,undef,undef,undef,undef,undef],defers:=[]})
  (gf:=265) (lb:=#[.pointer (some ⟨Bp,0,none⟩)]) rfl (enters_of Tryz.func265 (by kernel_rfl) rfl) ES (fun k h=>by omega) rfl
  (TI.own hB1.size) (fun c' W0 W W' row hs hg hr=>?ix) (fun x a'=>?ax) h0 ?assign ?body ?done ?stop
 case ix=>exact⟨hs.1,TX.own (β:=Unit) hB1.size () W W' row hs.2 hg hr⟩
 case ax=>
  intro _ W W' row hs hg hr;obtain⟨Bx,h1,h2⟩:=hs;exact⟨Bx,(cells_stay hg hr h1).trans h1,h2⟩
 case assign=>
  intro l pre x W K hI hK;have hbA:Below W.heap.size W (W.alloc (.cells #[.int .i64 x.1,.int .i64 x.2] 216)):=(zF _ _).alloc (zD _) _
  have HK:=hK {tmps:=#[.agg #[.int .i64 o.id,.int .i64 o.item,.int .i64 o.qty,.int .i64 o.client,.int .i64 o.price,.slice a o.steps.length c],.agg #[.slice da f.dn.length dc,.slice ua f.un.length uc,.bool f.asked,.bool f.yes,.bool f.turned,.bool f.k0,.bool f.k1,.bool f.ship,.bool f.d0,.bool f.d1,.bool f.acc],.pointer (some ⟨w.heap.size,0,none⟩),.pointer (some ⟨w.heap.size+1,0,none⟩),.slice none 0 0,.pointer (some ⟨w.heap.size+1+1,0,none⟩),.pointer (some ⟨W.heap.size,0,none⟩),.agg #[.int .i64 o.id,.int .i64 o.item,.int .i64 o.qty,.int .i64 o.client,.int .i64 o.price,.slice a o.steps.length c],.func (.func 265) #[] #[.pointer (some ⟨Bp,0,none⟩)],encA x,undef,undef,undef,undef,undef,undef,undef,undef,undef,undef,undef,undef,undef,undef,undef,undef,undef,undef,undef,undef,undef,undef,undef,undef,undef,undef,undef,undef,undef,undef,undef,undef,undef,undef,undef,undef,undef,undef,undef,undef,undef,undef,undef],defers:=[]} _ (Kept.of_below hbA) (own_grows (TI.own (X:=w1.heap.size) hB1.size) hI hbA) ⟨W.heap.size,World.alloc_heap_new W _,rfl⟩
  clear hK;unfold encA at HK ⊢
  gi_wp2
  exact HK
 case done=>
  rintro D W hD hT hK;obtain⟨av,cv,hc,hO⟩:=hT.end.back hD hK;have HO:=hide hO
  clear hO hT
  gi_wp2
  refine⟨by simp,.inl ⟨_,_,rfl,run_takeDeferred hK,?_⟩⟩;refine⟨_,results_tmp rfl _ _ _,?_⟩;exact HO.out
 case stop=>
  rintro D c' pre W hD- - ⟨rfl,hT⟩ hK;obtain⟨av,cv,hc,hO⟩:=hT.back hD hK;have HO:=hide hO
  clear hO hT
  gi_wp2
  refine⟨by simp,.inl ⟨_,_,rfl,run_takeDeferred hK,?_⟩⟩;refine⟨_,results_tmp rfl _ _ _,?_⟩;exact HO.out
 case body=>
  rintro l pre x a' W hI ⟨Bx,hbx,rfl⟩ hpq;have hfew:=plan_few HMY.out hpq
  obtain⟨hTF,v,acc,HND,h3,h4⟩:=id hI;have hacc:acc.length≤10:=by omega
  clear hfew;unfold encA;rcases plan_mem HMY.out hpq with⟨j,hj,rfl⟩|rfl|rfl|rfl
  ·have q0:W.cell? ⟨Bx,0,none⟩=some (.int .i64 1):=by rw[cell_of hbx];rfl
   have q1:W.cell? ⟨Bx,1,none⟩=some (.int .i64 (j:Int)):=by rw[cell_of hbx];rfl
   obtain⟨e0,e1,e2,e3,e4,e5,e6,e7,e8,e9,e10⟩:=ten_cells hTF.fb;obtain⟨d0,d1,d2,d3,d4,d5⟩:=six_cells hTF.ob;have hdl:j<f.dn.length:=by rw[HDN.out];exact hj
   obtain⟨db,doff,y,rfl,hy,hc⟩:=(HI.out.below hTF.bel).dn.get hdl;have qj:(j:Int)<(f.dn.length:Int):=by omega
   have HG:Hid (fwdS o f (1,(j:Int))=if y then([],false)else([doM o j],true)):=by
    show _=_
    unfold fwdS;simp[List.getD,hy]
   cases y
   ·have HTF:=hide hTF
    have HRR:Rr w w1.heap.size o a c f (some ⟨db,doff,none⟩) dc ua uc W Bx (1,(j:Int)) W:=⟨hTF,hbx,Kept.refl _ _ _⟩
    have HH:=hide (And.intro h3 (And.intro h4 hpq))
    have HIJ:=hide hj
    clear hI hbx hTF hpq hj hdl hy h3 h4
    gi_wp2_with fail
    obtain⟨h3,h4,hpq⟩:=HH.out;have hj:=HIJ.out
    clear q0 q1 d0 d1 d2 d3 d4 d5 e0 e1 e2 e3 e4 e5 e6 e7 e8 e9 e10 hc;refine region_round (S:=fun u=>Rr w w1.heap.size o a c f (some ⟨db,doff,none⟩) dc ua uc W Bx (1,(j:Int)) u) (fun _ W'=>Rr w w1.heap.size o a c f (some ⟨db,doff,none⟩) dc ua uc W Bx (1,(j:Int)) W'∧∃v',Nd w w1.heap.size v' (acc++ [doM o j]) W') (by kernel_rfl) (by kernel_rfl) HRR.drew (fun hHeld=>?_) ?_
    ·have hn:=Nd.on HND (u':=W.drew) (zF _ _).drew
     replace HRR:=HRR.drew;refine wpAnyH_take (i:=1) (oi:={dst:=some 21,op:=_,type:=_,pos:=_,after:=_,guard:=_}) (v:= .agg #[.int .i64 o.id,.int .i64 o.item,.int .i64 o.qty,.int .i64 o.client,.int .i64 o.price,.slice a o.steps.length c]) rfl (by kernel_rfl) (by kernel_rfl) (by kernel_rfl) (fun _ _ _ h=>absurd h.1 (by simp)) (Or.inl ⟨by kernel_rfl,?_⟩) hHeld ?_
     ·intro u hu;obtain⟨d0,d1,d2,d3,d4,d5⟩:=six_cells hu.tf.ob;go_simp
     try simp only[Act.put,zA,zB,zC]
     refine wpAnyH_take (i:=2) (oi:={dst:=some 22,op:=_,type:=_,pos:=_,after:=_,guard:=_}) (v:= .pointer (some ⟨Bx,1,none⟩)) rfl (by kernel_rfl) (by kernel_rfl) (by kernel_rfl) (fun _ _ _ h=>absurd h.1 (by simp)) (Or.inl ⟨by kernel_rfl,?_⟩) hHeld ?_
     ·intro u hu;go_simp
     try simp only[Act.put,zA,zB,zC]
     refine wpAnyH_take (i:=3) (oi:={dst:=some 23,op:=_,type:=_,pos:=_,after:=_,guard:=_}) (v:= .int .i64 (j:Int)) rfl (by kernel_rfl) (by kernel_rfl) (by kernel_rfl) (fun _ _ _ h=>absurd h.1 (by simp)) (Or.inl ⟨by kernel_rfl,?_⟩) hHeld ?_
     ·intro u hu;have q0:u.cell? ⟨Bx,0,none⟩=some (.int .i64 1):=by rw[cell_of hu.ab];rfl
      have q1:u.cell? ⟨Bx,1,none⟩=some (.int .i64 (j:Int)):=by rw[cell_of hu.ab];rfl
      go_simp
     try simp only[Act.put,zA,zB,zC]
     refine wpAnyH_ready (rs:=[0,4]) (by kernel_rfl) (by simp) ?_;refine zG (o:={dst:=some 20,op:=_,type:=_,pos:=_,after:=_,guard:=_}) rfl (fun K hK=>?_) ?_
     ·refine step_load rfl (v:=v) (by have hc:=hn.1.cell;go_simp) ?_;refine hK.out _ _ HRR (fun hHeld=>?_);clear hK K;try simp only[Act.put,zA,zB,zC]
      refine wpAnyH_ready (rs:=[4]) (by kernel_rfl) (by simp) ?_;refine zG (o:={dst:=some 24,op:=_,type:=_,pos:=_,after:=_,guard:=_}) rfl (fun K hK=>?_) ?_
      ·refine step_go rfl (run_go2 _ _ rfl rfl rfl (enters_of Tryz.func211 (by kernel_rfl) rfl)) (do_any o a c j _ (HA.out.below HRR.tf.bel) hj) ?_;rintro e u2 ⟨rfl,hb⟩;refine⟨_,rfl,?_⟩;replace HRR:=HRR.on hb;replace hn:=hn.on hb;clear hb;refine hK.out _ _ HRR (fun hHeld=>?_);clear hK K;try simp only[Act.put,zA,zB,zC]
       refine wpAnyH_ready (rs:=[5]) (by kernel_rfl) (by simp) ?_;refine zG (o:={dst:=some 25,op:=_,type:=_,pos:=_,after:=_,guard:=_}) rfl (fun K hK=>?_) ?_
       ·refine step_build rfl _ rfl (doM o j) rfl ?_;intro p2 u3 hms hb;replace HRR:=HRR.on hb;replace hn:=hn.on hb;clear hb;refine hK.out _ _ HRR (fun hHeld=>?_);clear hK K;try simp only[Act.put,zA,zB,zC]
        refine wpAnyH_ready (rs:=[6]) (by kernel_rfl) (by simp) ?_;refine zG (o:={dst:=some 26,op:=_,type:=_,pos:=_,after:=_,guard:=_}) rfl (fun K hK=>?_) ?_
        ·refine step_app rfl _ _ rfl w1.heap.size v acc rfl hn.2 (some ⟨p2,0,none⟩) ([doM o j]) 1 rfl (fun h=>by cases h) hms (by have:=hacc;simp only[zQ,List.length_nil];omega) HRR.tf.sz ?_;intro a4 c4 w4 hown hg;obtain⟨HR4,hb4⟩:=HRR.grown hn hg;replace HRR:=HR4;clear HR4 hn hms hg;refine hK.out _ _ HRR (fun hHeld=>?_);clear hK K;try simp only[Act.put,zA,zB,zC]
         refine wpAnyH_ready (rs:=[7]) (by kernel_rfl) (by simp) ?_;refine zG (o:={dst:=none,op:=_,type:=_,pos:=_,after:=_,guard:=_}) rfl (fun K hK=>?_) ?_
         ·refine step_put rfl _ _ rfl (w.heap.size+1+1) rfl a4 _ c4 rfl hb4 ?_;obtain⟨HR5,hn5⟩:=HRR.put hb4 hown;replace HRR:=HR5;clear HR5 hb4 hown;refine hK.out _ _ HRR (fun hHeld=>?_);clear hK K;try simp only[Act.put]
          refine wpAnyH_done (by kernel_rfl) ?_ _;exact⟨rfl,HRR,_,hn5⟩
         exact zH
        exact zH
       exact zH
      exact zH
     refine zG (o:={dst:=some 24,op:=_,type:=_,pos:=_,after:=_,guard:=_}) rfl (fun K hK=>?_) ?_
     ·refine step_go rfl (run_go2 _ _ rfl rfl rfl (enters_of Tryz.func211 (by kernel_rfl) rfl)) (do_any o a c j _ (HA.out.below HRR.tf.bel) hj) ?_;rintro e u2 ⟨rfl,hb⟩;refine⟨_,rfl,?_⟩;replace HRR:=HRR.on hb;replace hn:=hn.on hb;clear hb;refine hK.out _ _ HRR (fun hHeld=>?_);clear hK K;try simp only[Act.put,zA,zB,zC]
      refine wpAnyH_ready (rs:=[0,5]) (by kernel_rfl) (by simp) ?_;refine zG (o:={dst:=some 20,op:=_,type:=_,pos:=_,after:=_,guard:=_}) rfl (fun K hK=>?_) ?_
      ·refine step_load rfl (v:=v) (by have hc:=hn.1.cell;go_simp) ?_;refine hK.out _ _ HRR (fun hHeld=>?_);clear hK K;try simp only[Act.put,zA,zB,zC]
       refine wpAnyH_ready (rs:=[5]) (by kernel_rfl) (by simp) ?_;refine zG (o:={dst:=some 25,op:=_,type:=_,pos:=_,after:=_,guard:=_}) rfl (fun K hK=>?_) ?_
       ·refine step_build rfl _ rfl (doM o j) rfl ?_;intro p2 u3 hms hb;replace HRR:=HRR.on hb;replace hn:=hn.on hb;clear hb;refine hK.out _ _ HRR (fun hHeld=>?_);clear hK K;try simp only[Act.put,zA,zB,zC]
        refine wpAnyH_ready (rs:=[6]) (by kernel_rfl) (by simp) ?_;refine zG (o:={dst:=some 26,op:=_,type:=_,pos:=_,after:=_,guard:=_}) rfl (fun K hK=>?_) ?_
        ·refine step_app rfl _ _ rfl w1.heap.size v acc rfl hn.2 (some ⟨p2,0,none⟩) ([doM o j]) 1 rfl (fun h=>by cases h) hms (by have:=hacc;simp only[zQ,List.length_nil];omega) HRR.tf.sz ?_;intro a4 c4 w4 hown hg;obtain⟨HR4,hb4⟩:=HRR.grown hn hg;replace HRR:=HR4;clear HR4 hn hms hg;refine hK.out _ _ HRR (fun hHeld=>?_);clear hK K;try simp only[Act.put,zA,zB,zC]
         refine wpAnyH_ready (rs:=[7]) (by kernel_rfl) (by simp) ?_;refine zG (o:={dst:=none,op:=_,type:=_,pos:=_,after:=_,guard:=_}) rfl (fun K hK=>?_) ?_
         ·refine step_put rfl _ _ rfl (w.heap.size+1+1) rfl a4 _ c4 rfl hb4 ?_;obtain⟨HR5,hn5⟩:=HRR.put hb4 hown;replace HRR:=HR5;clear HR5 hb4 hown;refine hK.out _ _ HRR (fun hHeld=>?_);clear hK K;try simp only[Act.put]
          refine wpAnyH_done (by kernel_rfl) ?_ _;exact⟨rfl,HRR,_,hn5⟩
         exact zH
        exact zH
       exact zH
      refine zG (o:={dst:=some 25,op:=_,type:=_,pos:=_,after:=_,guard:=_}) rfl (fun K hK=>?_) ?_
      ·refine step_build rfl _ rfl (doM o j) rfl ?_;intro p2 u3 hms hb;replace HRR:=HRR.on hb;replace hn:=hn.on hb;clear hb;refine hK.out _ _ HRR (fun hHeld=>?_);clear hK K;try simp only[Act.put,zA,zB,zC]
       refine wpAnyH_ready (rs:=[0]) (by kernel_rfl) (by simp) ?_;refine zG (o:={dst:=some 20,op:=_,type:=_,pos:=_,after:=_,guard:=_}) rfl (fun K hK=>?_) ?_
       ·refine step_load rfl (v:=v) (by have hc:=hn.1.cell;go_simp) ?_;refine hK.out _ _ HRR (fun hHeld=>?_);clear hK K;try simp only[Act.put,zA,zB,zC]
        refine wpAnyH_ready (rs:=[6]) (by kernel_rfl) (by simp) ?_;refine zG (o:={dst:=some 26,op:=_,type:=_,pos:=_,after:=_,guard:=_}) rfl (fun K hK=>?_) ?_
        ·refine step_app rfl _ _ rfl w1.heap.size v acc rfl hn.2 (some ⟨p2,0,none⟩) ([doM o j]) 1 rfl (fun h=>by cases h) hms (by have:=hacc;simp only[zQ,List.length_nil];omega) HRR.tf.sz ?_;intro a4 c4 w4 hown hg;obtain⟨HR4,hb4⟩:=HRR.grown hn hg;replace HRR:=HR4;clear HR4 hn hms hg;refine hK.out _ _ HRR (fun hHeld=>?_);clear hK K;try simp only[Act.put,zA,zB,zC]
         refine wpAnyH_ready (rs:=[7]) (by kernel_rfl) (by simp) ?_;refine zG (o:={dst:=none,op:=_,type:=_,pos:=_,after:=_,guard:=_}) rfl (fun K hK=>?_) ?_
         ·refine step_put rfl _ _ rfl (w.heap.size+1+1) rfl a4 _ c4 rfl hb4 ?_;obtain⟨HR5,hn5⟩:=HRR.put hb4 hown;replace HRR:=HR5;clear HR5 hb4 hown;refine hK.out _ _ HRR (fun hHeld=>?_);clear hK K;try simp only[Act.put]
          refine wpAnyH_done (by kernel_rfl) ?_ _;exact⟨rfl,HRR,_,hn5⟩
         exact zH
        exact zH
       exact zH
      exact zH
     exact zH
    ·rintro a' W' ⟨HR5,v',hn5⟩
     gi_wp2
     exact⟨HR5.kp,rfl,TX.more HR5.tf hn5 h3 hpq HG.out⟩
   ·have HNX:=hide (hI.next hpq HG.out)
    clear hI hbx hTF hpq HND h3 h4 hj hdl hy
    gi_wp2
    exact⟨Kept.refl _ _ _,HNX.out⟩
  ·have q0:W.cell? ⟨Bx,0,none⟩=some (.int .i64 6):=by rw[cell_of hbx];rfl
   have q1:W.cell? ⟨Bx,1,none⟩=some (.int .i64 0):=by rw[cell_of hbx];rfl
   obtain⟨e0,e1,e2,e3,e4,e5,e6,e7,e8,e9,e10⟩:=ten_cells hTF.fb;obtain⟨d0,d1,d2,d3,d4,d5⟩:=six_cells hTF.ob;cases hy:f.yes
   ·have HG:Hid (fwdS o f (6,0)=(prepL o,true)):=by show _=_;unfold fwdS;simp[hy]
    rw[hy]at e3;have HRR:Rr w w1.heap.size o a c f da dc ua uc W Bx (6,0) W:=⟨hTF,hbx,Kept.refl _ _ _⟩
    have HH:=hide (And.intro h3 (And.intro h4 hpq))
    clear hI hbx hTF hpq h3 h4 hy
    gi_wp2_with fail
    obtain⟨h3,h4,hpq⟩:=HH.out;clear q0 q1 d0 d1 d2 d3 d4 d5 e0 e1 e2 e3 e4 e5 e6 e7 e8 e9 e10;refine region_round (S:=fun u=>Rr w w1.heap.size o a c f da dc ua uc W Bx (6,0) u) (fun _ W'=>Rr w w1.heap.size o a c f da dc ua uc W Bx (6,0) W'∧∃v',Nd w w1.heap.size v' (acc++prepL o) W') (by kernel_rfl) (by kernel_rfl) HRR.drew (fun hHeld=>?_) ?_
    ·have hn:=Nd.on HND (u':=W.drew) (zF _ _).drew
     replace HRR:=HRR.drew;refine wpAnyH_take (i:=1) (oi:={dst:=some 32,op:=_,type:=_,pos:=_,after:=_,guard:=_}) (v:= .agg #[.int .i64 o.id,.int .i64 o.item,.int .i64 o.qty,.int .i64 o.client,.int .i64 o.price,.slice a o.steps.length c]) rfl (by kernel_rfl) (by kernel_rfl) (by kernel_rfl) (fun _ _ _ h=>absurd h.1 (by simp)) (Or.inl ⟨by kernel_rfl,?_⟩) hHeld ?_
     ·intro u hu;obtain⟨d0,d1,d2,d3,d4,d5⟩:=six_cells hu.tf.ob;go_simp
     try simp only[Act.put,zA,zB,zC]
     refine wpAnyH_ready (rs:=[0,2]) (by kernel_rfl) (by simp) ?_;refine zG (o:={dst:=some 31,op:=_,type:=_,pos:=_,after:=_,guard:=_}) rfl (fun K hK=>?_) ?_
     ·refine step_load rfl (v:=v) (by have hc:=hn.1.cell;go_simp) ?_;refine hK.out _ _ HRR (fun hHeld=>?_);clear hK K;try simp only[Act.put,zA,zB,zC]
      refine wpAnyH_ready (rs:=[2]) (by kernel_rfl) (by simp) ?_;refine zG (o:={dst:=some 33,op:=_,type:=_,pos:=_,after:=_,guard:=_}) rfl (fun K hK=>?_) ?_
      ·refine step_go rfl (run_go1 _ rfl rfl (enters_of Tryz.func212 (by kernel_rfl) rfl)) (prep_any o a c _) ?_;rintro e u2 ⟨a2,c2,rfl,h21,h22,h23,hb⟩;refine⟨_,rfl,?_⟩;replace HRR:=HRR.on hb;replace hn:=hn.on hb;have hms:=row_mgs h23
       clear hb;refine hK.out _ _ HRR (fun hHeld=>?_);clear hK K;try simp only[Act.put,zA,zB,zC]
       refine wpAnyH_ready (rs:=[3]) (by kernel_rfl) (by simp) ?_;refine zG (o:={dst:=some 34,op:=_,type:=_,pos:=_,after:=_,guard:=_}) rfl (fun K hK=>?_) ?_
       ·refine step_app rfl _ _ rfl w1.heap.size v acc rfl hn.2 a2 (prepL o) c2 rfl h22 hms (by have:=hacc;show _+2≤_;omega) HRR.tf.sz ?_;intro a4 c4 w4 hown hg;obtain⟨HR4,hb4⟩:=HRR.grown hn hg;replace HRR:=HR4;clear HR4 hn hms hg;refine hK.out _ _ HRR (fun hHeld=>?_);clear hK K;try simp only[Act.put,zA,zB,zC]
        refine wpAnyH_ready (rs:=[4]) (by kernel_rfl) (by simp) ?_;refine zG (o:={dst:=none,op:=_,type:=_,pos:=_,after:=_,guard:=_}) rfl (fun K hK=>?_) ?_
        ·refine step_put rfl _ _ rfl (w.heap.size+1+1) rfl a4 _ c4 rfl hb4 ?_;obtain⟨HR5,hn5⟩:=HRR.put hb4 hown;replace HRR:=HR5;clear HR5 hb4 hown;refine hK.out _ _ HRR (fun hHeld=>?_);clear hK K;try simp only[Act.put]
         refine wpAnyH_done (by kernel_rfl) ?_ _;exact⟨rfl,HRR,_,hn5⟩
        exact zH
       exact zH
      exact zH
     refine zG (o:={dst:=some 33,op:=_,type:=_,pos:=_,after:=_,guard:=_}) rfl (fun K hK=>?_) ?_
     ·refine step_go rfl (run_go1 _ rfl rfl (enters_of Tryz.func212 (by kernel_rfl) rfl)) (prep_any o a c _) ?_;rintro e u2 ⟨a2,c2,rfl,h21,h22,h23,hb⟩;refine⟨_,rfl,?_⟩;replace HRR:=HRR.on hb;replace hn:=hn.on hb;have hms:=row_mgs h23
      clear hb;refine hK.out _ _ HRR (fun hHeld=>?_);clear hK K;try simp only[Act.put,zA,zB,zC]
      refine wpAnyH_ready (rs:=[0]) (by kernel_rfl) (by simp) ?_;refine zG (o:={dst:=some 31,op:=_,type:=_,pos:=_,after:=_,guard:=_}) rfl (fun K hK=>?_) ?_
      ·refine step_load rfl (v:=v) (by have hc:=hn.1.cell;go_simp) ?_;refine hK.out _ _ HRR (fun hHeld=>?_);clear hK K;try simp only[Act.put,zA,zB,zC]
       refine wpAnyH_ready (rs:=[3]) (by kernel_rfl) (by simp) ?_;refine zG (o:={dst:=some 34,op:=_,type:=_,pos:=_,after:=_,guard:=_}) rfl (fun K hK=>?_) ?_
       ·refine step_app rfl _ _ rfl w1.heap.size v acc rfl hn.2 a2 (prepL o) c2 rfl h22 hms (by have:=hacc;show _+2≤_;omega) HRR.tf.sz ?_;intro a4 c4 w4 hown hg;obtain⟨HR4,hb4⟩:=HRR.grown hn hg;replace HRR:=HR4;clear HR4 hn hms hg;refine hK.out _ _ HRR (fun hHeld=>?_);clear hK K;try simp only[Act.put,zA,zB,zC]
        refine wpAnyH_ready (rs:=[4]) (by kernel_rfl) (by simp) ?_;refine zG (o:={dst:=none,op:=_,type:=_,pos:=_,after:=_,guard:=_}) rfl (fun K hK=>?_) ?_
        ·refine step_put rfl _ _ rfl (w.heap.size+1+1) rfl a4 _ c4 rfl hb4 ?_;obtain⟨HR5,hn5⟩:=HRR.put hb4 hown;replace HRR:=HR5;clear HR5 hb4 hown;refine hK.out _ _ HRR (fun hHeld=>?_);clear hK K;try simp only[Act.put]
         refine wpAnyH_done (by kernel_rfl) ?_ _;exact⟨rfl,HRR,_,hn5⟩
        exact zH
       exact zH
      exact zH
     exact zH
    ·rintro a' W' ⟨HR5,v',hn5⟩
     gi_wp2
     exact⟨HR5.kp,rfl,TX.more HR5.tf hn5 h3 hpq HG.out⟩
   ·have HG:Hid (fwdS o f (6,0)=([],false)):=by show _=_;unfold fwdS;simp[hy]
    rw[hy]at e3;have HNX:=hide (hI.next hpq HG.out)
    clear hI hbx hTF hpq HND h3 h4 hy
    gi_wp2
    exact⟨Kept.refl _ _ _,HNX.out⟩
  ·have q0:W.cell? ⟨Bx,0,none⟩=some (.int .i64 9):=by rw[cell_of hbx];rfl
   have q1:W.cell? ⟨Bx,1,none⟩=some (.int .i64 0):=by rw[cell_of hbx];rfl
   obtain⟨e0,e1,e2,e3,e4,e5,e6,e7,e8,e9,e10⟩:=ten_cells hTF.fb;obtain⟨d0,d1,d2,d3,d4,d5⟩:=six_cells hTF.ob;have HG:Hid (fwdS o f (9,0)=(decL o f 9,false)):=rfl
   have HDL:=hide (decP_len o f 9 2)
   have HRR:Rr w w1.heap.size o a c f da dc ua uc W Bx (9,0) W:=⟨hTF,hbx,Kept.refl _ _ _⟩
   have HH:=hide (And.intro h3 (And.intro h4 hpq))
   clear hI hbx hTF hpq h3 h4
   gi_wp2_with fail
   obtain⟨h3,h4,hpq⟩:=HH.out;clear q0 q1 d0 d1 d2 d3 d4 d5 e0 e1 e2 e3 e4 e5 e6 e7 e8 e9 e10;refine region_round (S:=fun u=>Rr w w1.heap.size o a c f da dc ua uc W Bx (9,0) u) (fun _ W'=>Rr w w1.heap.size o a c f da dc ua uc W Bx (9,0) W'∧∃v',Nd w w1.heap.size v' (acc++decL o f 9) W') (by kernel_rfl) (by kernel_rfl) HRR.drew (fun hHeld=>?_) ?_
   ·have hn:=Nd.on HND (u':=W.drew) (zF _ _).drew
    replace HRR:=HRR.drew;refine wpAnyH_take (i:=1) (oi:={dst:=some 38,op:=_,type:=_,pos:=_,after:=_,guard:=_}) (v:= .agg #[.int .i64 o.id,.int .i64 o.item,.int .i64 o.qty,.int .i64 o.client,.int .i64 o.price,.slice a o.steps.length c]) rfl (by kernel_rfl) (by kernel_rfl) (by kernel_rfl) (fun _ _ _ h=>absurd h.1 (by simp)) (Or.inl ⟨by kernel_rfl,?_⟩) hHeld ?_
    ·intro u hu;obtain⟨d0,d1,d2,d3,d4,d5⟩:=six_cells hu.tf.ob;go_simp
    try simp only[Act.put,zA,zB,zC]
    refine wpAnyH_take (i:=2) (oi:={dst:=some 39,op:=_,type:=_,pos:=_,after:=_,guard:=_}) (v:= .agg #[.slice da f.dn.length dc,.slice ua f.un.length uc,.bool f.asked,.bool f.yes,.bool f.turned,.bool f.k0,.bool f.k1,.bool f.ship,.bool f.d0,.bool f.d1,.bool f.acc]) rfl (by kernel_rfl) (by kernel_rfl) (by kernel_rfl) (fun _ _ _ h=>absurd h.1 (by simp)) (Or.inl ⟨by kernel_rfl,?_⟩) hHeld ?_
    ·intro u hu;obtain⟨e0,e1,e2,e3,e4,e5,e6,e7,e8,e9,e10⟩:=ten_cells hu.tf.fb;go_simp
    try simp only[Act.put,zA,zB,zC]
    refine wpAnyH_ready (rs:=[0,3]) (by kernel_rfl) (by simp) ?_;refine zG (o:={dst:=some 37,op:=_,type:=_,pos:=_,after:=_,guard:=_}) rfl (fun K hK=>?_) ?_
    ·refine step_load rfl (v:=v) (by have hc:=hn.1.cell;go_simp) ?_;refine hK.out _ _ HRR (fun hHeld=>?_);clear hK K;try simp only[Act.put,zA,zB,zC]
     refine wpAnyH_ready (rs:=[3]) (by kernel_rfl) (by simp) ?_;refine zG (o:={dst:=some 40,op:=_,type:=_,pos:=_,after:=_,guard:=_}) rfl (fun K hK=>?_) ?_
     ·refine step_go rfl (run_go3 _ _ _ rfl rfl rfl rfl (enters_of Tryz.func208 (by kernel_rfl) rfl)) (deci_any o a c f da dc ua uc 9 _ (HA.out.below HRR.tf.bel) HL.out (HI.out.below HRR.tf.bel)) ?_;rintro e u2 ⟨a2,c2,rfl,h21,h22,h23,hb⟩;refine⟨_,rfl,?_⟩;replace HRR:=HRR.on hb;replace hn:=hn.on hb;have hms:=row_mgs h23
      clear hb;refine hK.out _ _ HRR (fun hHeld=>?_);clear hK K;try simp only[Act.put,zA,zB,zC]
      refine wpAnyH_ready (rs:=[4]) (by kernel_rfl) (by simp) ?_;refine zG (o:={dst:=some 41,op:=_,type:=_,pos:=_,after:=_,guard:=_}) rfl (fun K hK=>?_) ?_
      ·refine step_app rfl _ _ rfl w1.heap.size v acc rfl hn.2 a2 (decL o f 9) c2 rfl h22 hms (by have:=hacc;have:(decL o f 9).length ≤2:=HDL.out;omega) HRR.tf.sz ?_;intro a4 c4 w4 hown hg;obtain⟨HR4,hb4⟩:=HRR.grown hn hg;replace HRR:=HR4;clear HR4 hn hms hg;refine hK.out _ _ HRR (fun hHeld=>?_);clear hK K;try simp only[Act.put,zA,zB,zC]
       refine wpAnyH_ready (rs:=[5]) (by kernel_rfl) (by simp) ?_;refine zG (o:={dst:=none,op:=_,type:=_,pos:=_,after:=_,guard:=_}) rfl (fun K hK=>?_) ?_
       ·refine step_put rfl _ _ rfl (w.heap.size+1+1) rfl a4 _ c4 rfl hb4 ?_;obtain⟨HR5,hn5⟩:=HRR.put hb4 hown;replace HRR:=HR5;clear HR5 hb4 hown;refine hK.out _ _ HRR (fun hHeld=>?_);clear hK K;try simp only[Act.put]
        refine wpAnyH_done (by kernel_rfl) ?_ _;exact⟨rfl,HRR,_,hn5⟩
       exact zH
      exact zH
     exact zH
    refine zG (o:={dst:=some 40,op:=_,type:=_,pos:=_,after:=_,guard:=_}) rfl (fun K hK=>?_) ?_
    ·refine step_go rfl (run_go3 _ _ _ rfl rfl rfl rfl (enters_of Tryz.func208 (by kernel_rfl) rfl)) (deci_any o a c f da dc ua uc 9 _ (HA.out.below HRR.tf.bel) HL.out (HI.out.below HRR.tf.bel)) ?_;rintro e u2 ⟨a2,c2,rfl,h21,h22,h23,hb⟩;refine⟨_,rfl,?_⟩;replace HRR:=HRR.on hb;replace hn:=hn.on hb;have hms:=row_mgs h23
     clear hb;refine hK.out _ _ HRR (fun hHeld=>?_);clear hK K;try simp only[Act.put,zA,zB,zC]
     refine wpAnyH_ready (rs:=[0]) (by kernel_rfl) (by simp) ?_;refine zG (o:={dst:=some 37,op:=_,type:=_,pos:=_,after:=_,guard:=_}) rfl (fun K hK=>?_) ?_
     ·refine step_load rfl (v:=v) (by have hc:=hn.1.cell;go_simp) ?_;refine hK.out _ _ HRR (fun hHeld=>?_);clear hK K;try simp only[Act.put,zA,zB,zC]
      refine wpAnyH_ready (rs:=[4]) (by kernel_rfl) (by simp) ?_;refine zG (o:={dst:=some 41,op:=_,type:=_,pos:=_,after:=_,guard:=_}) rfl (fun K hK=>?_) ?_
      ·refine step_app rfl _ _ rfl w1.heap.size v acc rfl hn.2 a2 (decL o f 9) c2 rfl h22 hms (by have:=hacc;have:(decL o f 9).length ≤2:=HDL.out;omega) HRR.tf.sz ?_;intro a4 c4 w4 hown hg;obtain⟨HR4,hb4⟩:=HRR.grown hn hg;replace HRR:=HR4;clear HR4 hn hms hg;refine hK.out _ _ HRR (fun hHeld=>?_);clear hK K;try simp only[Act.put,zA,zB,zC]
       refine wpAnyH_ready (rs:=[5]) (by kernel_rfl) (by simp) ?_;refine zG (o:={dst:=none,op:=_,type:=_,pos:=_,after:=_,guard:=_}) rfl (fun K hK=>?_) ?_
       ·refine step_put rfl _ _ rfl (w.heap.size+1+1) rfl a4 _ c4 rfl hb4 ?_;obtain⟨HR5,hn5⟩:=HRR.put hb4 hown;replace HRR:=HR5;clear HR5 hb4 hown;refine hK.out _ _ HRR (fun hHeld=>?_);clear hK K;try simp only[Act.put]
        refine wpAnyH_done (by kernel_rfl) ?_ _;exact⟨rfl,HRR,_,hn5⟩
       exact zH
      exact zH
     exact zH
    exact zH
   ·rintro a' W' ⟨HR5,v',hn5⟩
    gi_wp2
    exact⟨HR5.kp,TI.more HR5.tf hn5 h3 h4 hpq HG.out (HDL.out)⟩
  ·have q0:W.cell? ⟨Bx,0,none⟩=some (.int .i64 15):=by rw[cell_of hbx];rfl
   have q1:W.cell? ⟨Bx,1,none⟩=some (.int .i64 0):=by rw[cell_of hbx];rfl
   obtain⟨e0,e1,e2,e3,e4,e5,e6,e7,e8,e9,e10⟩:=ten_cells hTF.fb;obtain⟨d0,d1,d2,d3,d4,d5⟩:=six_cells hTF.ob;cases hy:f.ship
   ·have HG:Hid (fwdS o f (15,0)=([shipM o],false)):=by show _=_;unfold fwdS;simp[hy]
    rw[hy]at e7;have HRR:Rr w w1.heap.size o a c f da dc ua uc W Bx (15,0) W:=⟨hTF,hbx,Kept.refl _ _ _⟩
    have HH:=hide (And.intro h3 (And.intro h4 hpq))
    clear hI hbx hTF hpq h3 h4 hy
    gi_wp2_with fail
    obtain⟨h3,h4,hpq⟩:=HH.out;clear q0 q1 d0 d1 d2 d3 d4 d5 e0 e1 e2 e3 e4 e5 e6 e7 e8 e9 e10;refine region_round (S:=fun u=>Rr w w1.heap.size o a c f da dc ua uc W Bx (15,0) u) (fun _ W'=>Rr w w1.heap.size o a c f da dc ua uc W Bx (15,0) W'∧∃v',Nd w w1.heap.size v' (acc++ [shipM o]) W') (by kernel_rfl) (by kernel_rfl) HRR.drew (fun hHeld=>?_) ?_
    ·have hn:=Nd.on HND (u':=W.drew) (zF _ _).drew
     replace HRR:=HRR.drew;refine wpAnyH_take (i:=1) (oi:={dst:=some 48,op:=_,type:=_,pos:=_,after:=_,guard:=_}) (v:= .agg #[.int .i64 o.id,.int .i64 o.item,.int .i64 o.qty,.int .i64 o.client,.int .i64 o.price,.slice a o.steps.length c]) rfl (by kernel_rfl) (by kernel_rfl) (by kernel_rfl) (fun _ _ _ h=>absurd h.1 (by simp)) (Or.inl ⟨by kernel_rfl,?_⟩) hHeld ?_
     ·intro u hu;obtain⟨d0,d1,d2,d3,d4,d5⟩:=six_cells hu.tf.ob;go_simp
     try simp only[Act.put,zA,zB,zC]
     refine wpAnyH_ready (rs:=[0,2]) (by kernel_rfl) (by simp) ?_;refine zG (o:={dst:=some 47,op:=_,type:=_,pos:=_,after:=_,guard:=_}) rfl (fun K hK=>?_) ?_
     ·refine step_load rfl (v:=v) (by have hc:=hn.1.cell;go_simp) ?_;refine hK.out _ _ HRR (fun hHeld=>?_);clear hK K;try simp only[Act.put,zA,zB,zC]
      refine wpAnyH_ready (rs:=[2]) (by kernel_rfl) (by simp) ?_;refine zG (o:={dst:=some 49,op:=_,type:=_,pos:=_,after:=_,guard:=_}) rfl (fun K hK=>?_) ?_
      ·refine step_go rfl (run_go1 _ rfl rfl (enters_of Tryz.func213 (by kernel_rfl) rfl)) (ship_any o a c _) ?_;rintro e u2 ⟨rfl,hb⟩;refine⟨_,rfl,?_⟩;replace HRR:=HRR.on hb;replace hn:=hn.on hb;clear hb;refine hK.out _ _ HRR (fun hHeld=>?_);clear hK K;try simp only[Act.put,zA,zB,zC]
       refine wpAnyH_ready (rs:=[3]) (by kernel_rfl) (by simp) ?_;refine zG (o:={dst:=some 50,op:=_,type:=_,pos:=_,after:=_,guard:=_}) rfl (fun K hK=>?_) ?_
       ·refine step_build rfl _ rfl (shipM o) rfl ?_;intro p2 u3 hms hb;replace HRR:=HRR.on hb;replace hn:=hn.on hb;clear hb;refine hK.out _ _ HRR (fun hHeld=>?_);clear hK K;try simp only[Act.put,zA,zB,zC]
        refine wpAnyH_ready (rs:=[4]) (by kernel_rfl) (by simp) ?_;refine zG (o:={dst:=some 51,op:=_,type:=_,pos:=_,after:=_,guard:=_}) rfl (fun K hK=>?_) ?_
        ·refine step_app rfl _ _ rfl w1.heap.size v acc rfl hn.2 (some ⟨p2,0,none⟩) ([shipM o]) 1 rfl (fun h=>by cases h) hms (by have:=hacc;simp only[zQ,List.length_nil];omega) HRR.tf.sz ?_;intro a4 c4 w4 hown hg;obtain⟨HR4,hb4⟩:=HRR.grown hn hg;replace HRR:=HR4;clear HR4 hn hms hg;refine hK.out _ _ HRR (fun hHeld=>?_);clear hK K;try simp only[Act.put,zA,zB,zC]
         refine wpAnyH_ready (rs:=[5]) (by kernel_rfl) (by simp) ?_;refine zG (o:={dst:=none,op:=_,type:=_,pos:=_,after:=_,guard:=_}) rfl (fun K hK=>?_) ?_
         ·refine step_put rfl _ _ rfl (w.heap.size+1+1) rfl a4 _ c4 rfl hb4 ?_;obtain⟨HR5,hn5⟩:=HRR.put hb4 hown;replace HRR:=HR5;clear HR5 hb4 hown;refine hK.out _ _ HRR (fun hHeld=>?_);clear hK K;try simp only[Act.put]
          refine wpAnyH_done (by kernel_rfl) ?_ _;exact⟨rfl,HRR,_,hn5⟩
         exact zH
        exact zH
       exact zH
      exact zH
     refine zG (o:={dst:=some 49,op:=_,type:=_,pos:=_,after:=_,guard:=_}) rfl (fun K hK=>?_) ?_
     ·refine step_go rfl (run_go1 _ rfl rfl (enters_of Tryz.func213 (by kernel_rfl) rfl)) (ship_any o a c _) ?_;rintro e u2 ⟨rfl,hb⟩;refine⟨_,rfl,?_⟩;replace HRR:=HRR.on hb;replace hn:=hn.on hb;clear hb;refine hK.out _ _ HRR (fun hHeld=>?_);clear hK K;try simp only[Act.put,zA,zB,zC]
      refine wpAnyH_ready (rs:=[0,3]) (by kernel_rfl) (by simp) ?_;refine zG (o:={dst:=some 47,op:=_,type:=_,pos:=_,after:=_,guard:=_}) rfl (fun K hK=>?_) ?_
      ·refine step_load rfl (v:=v) (by have hc:=hn.1.cell;go_simp) ?_;refine hK.out _ _ HRR (fun hHeld=>?_);clear hK K;try simp only[Act.put,zA,zB,zC]
       refine wpAnyH_ready (rs:=[3]) (by kernel_rfl) (by simp) ?_;refine zG (o:={dst:=some 50,op:=_,type:=_,pos:=_,after:=_,guard:=_}) rfl (fun K hK=>?_) ?_
       ·refine step_build rfl _ rfl (shipM o) rfl ?_;intro p2 u3 hms hb;replace HRR:=HRR.on hb;replace hn:=hn.on hb;clear hb;refine hK.out _ _ HRR (fun hHeld=>?_);clear hK K;try simp only[Act.put,zA,zB,zC]
        refine wpAnyH_ready (rs:=[4]) (by kernel_rfl) (by simp) ?_;refine zG (o:={dst:=some 51,op:=_,type:=_,pos:=_,after:=_,guard:=_}) rfl (fun K hK=>?_) ?_
        ·refine step_app rfl _ _ rfl w1.heap.size v acc rfl hn.2 (some ⟨p2,0,none⟩) ([shipM o]) 1 rfl (fun h=>by cases h) hms (by have:=hacc;simp only[zQ,List.length_nil];omega) HRR.tf.sz ?_;intro a4 c4 w4 hown hg;obtain⟨HR4,hb4⟩:=HRR.grown hn hg;replace HRR:=HR4;clear HR4 hn hms hg;refine hK.out _ _ HRR (fun hHeld=>?_);clear hK K;try simp only[Act.put,zA,zB,zC]
         refine wpAnyH_ready (rs:=[5]) (by kernel_rfl) (by simp) ?_;refine zG (o:={dst:=none,op:=_,type:=_,pos:=_,after:=_,guard:=_}) rfl (fun K hK=>?_) ?_
         ·refine step_put rfl _ _ rfl (w.heap.size+1+1) rfl a4 _ c4 rfl hb4 ?_;obtain⟨HR5,hn5⟩:=HRR.put hb4 hown;replace HRR:=HR5;clear HR5 hb4 hown;refine hK.out _ _ HRR (fun hHeld=>?_);clear hK K;try simp only[Act.put]
          refine wpAnyH_done (by kernel_rfl) ?_ _;exact⟨rfl,HRR,_,hn5⟩
         exact zH
        exact zH
       exact zH
      refine zG (o:={dst:=some 50,op:=_,type:=_,pos:=_,after:=_,guard:=_}) rfl (fun K hK=>?_) ?_
      ·refine step_build rfl _ rfl (shipM o) rfl ?_;intro p2 u3 hms hb;replace HRR:=HRR.on hb;replace hn:=hn.on hb;clear hb;refine hK.out _ _ HRR (fun hHeld=>?_);clear hK K;try simp only[Act.put,zA,zB,zC]
       refine wpAnyH_ready (rs:=[0]) (by kernel_rfl) (by simp) ?_;refine zG (o:={dst:=some 47,op:=_,type:=_,pos:=_,after:=_,guard:=_}) rfl (fun K hK=>?_) ?_
       ·refine step_load rfl (v:=v) (by have hc:=hn.1.cell;go_simp) ?_;refine hK.out _ _ HRR (fun hHeld=>?_);clear hK K;try simp only[Act.put,zA,zB,zC]
        refine wpAnyH_ready (rs:=[4]) (by kernel_rfl) (by simp) ?_;refine zG (o:={dst:=some 51,op:=_,type:=_,pos:=_,after:=_,guard:=_}) rfl (fun K hK=>?_) ?_
        ·refine step_app rfl _ _ rfl w1.heap.size v acc rfl hn.2 (some ⟨p2,0,none⟩) ([shipM o]) 1 rfl (fun h=>by cases h) hms (by have:=hacc;simp only[zQ,List.length_nil];omega) HRR.tf.sz ?_;intro a4 c4 w4 hown hg;obtain⟨HR4,hb4⟩:=HRR.grown hn hg;replace HRR:=HR4;clear HR4 hn hms hg;refine hK.out _ _ HRR (fun hHeld=>?_);clear hK K;try simp only[Act.put,zA,zB,zC]
         refine wpAnyH_ready (rs:=[5]) (by kernel_rfl) (by simp) ?_;refine zG (o:={dst:=none,op:=_,type:=_,pos:=_,after:=_,guard:=_}) rfl (fun K hK=>?_) ?_
         ·refine step_put rfl _ _ rfl (w.heap.size+1+1) rfl a4 _ c4 rfl hb4 ?_;obtain⟨HR5,hn5⟩:=HRR.put hb4 hown;replace HRR:=HR5;clear HR5 hb4 hown;refine hK.out _ _ HRR (fun hHeld=>?_);clear hK K;try simp only[Act.put]
          refine wpAnyH_done (by kernel_rfl) ?_ _;exact⟨rfl,HRR,_,hn5⟩
         exact zH
        exact zH
       exact zH
      exact zH
     exact zH
    ·rintro a' W' ⟨HR5,v',hn5⟩
     gi_wp2
     exact⟨HR5.kp,TI.more HR5.tf hn5 h3 h4 hpq HG.out (by simp)⟩
   ·have HG:Hid (fwdS o f (15,0)=([],false)):=by show _=_;unfold fwdS;simp[hy]
    rw[hy]at e7;have HNX:=hide (hI.next hpq HG.out)
    clear hI hbx hTF hpq HND h3 h4 hy
    gi_wp2
    exact⟨Kept.refl _ _ _,HNX.out⟩
attribute [local go_sem] Oper.semAt_some
theorem dn_mem(k:Int){x:Int×Int}:∀(m:Nat),x∈dnL k m→∃i:Nat,i<m∧x=(k,(i:Int))
 |0,h=>by simp[dnL]at h
 |m+1,h=>by
  rw[dnL,List.mem_cons]at h;rcases h with rfl|h
  ·exact⟨m,by omega,rfl⟩
  ·obtain⟨i,h1,rfl⟩:=dn_mem k m h;exact⟨i,by omega,rfl⟩
theorem dnL_len(k:Int):∀m:Nat,(dnL k m).length =m
 |0=>rfl
 |m+1=>by rw[dnL];simp[dnL_len k m]
theorem back_mem{o:Od}(hm:mayO o=true){pre:List (Int×Int)}{x:Int×Int}(h:pre++ [x]<+:backL o):(∃j:Nat,j<o.steps.length∧x=(4,(j:Int)))∨x=(10,0):=by
 have hx:x∈backL o:=h.subset (by simp)
 rw[backL_may hm,List.mem_cons]at hx
 rcases hx with hx|hx
 ·exact .inr hx
 ·obtain⟨i,h2,rfl⟩:=dn_mem 4 _ hx;exact .inl ⟨i,by omega,rfl⟩
theorem back_few{o:Od}(hm:mayO o=true){pre:List (Int×Int)}{x:Int×Int}(h:pre++ [x]<+:backL o):pre.length≤5:=by
 have h1:=h.length_le
 rw[backL_may hm]at h1
 have:=may_three' hm
 simp[dnL_len]at h1
 omega
set_option maxRecDepth 100000 in
set_option maxHeartbeats 8000000 in
theorem sback_any(o:Od)(a:Option Addr)(c:Nat)(f:Fa)(da:Option Addr)(dc:Nat)(ua:Option Addr)(uc:Nat)(w:World)(ha:Sts w a o.steps)(hl:o.steps.length≤9223372036854775807)(hi:FaIn w f da dc ua uc)(hm:mayO o=true)(h1:f.dn.length=o.steps.length)(h2:f.un.length=o.steps.length):
 Calls Tryz.prog 181 #[.agg #[.int .i64 o.id,.int .i64 o.item,.int .i64 o.qty,.int .i64 o.client,.int .i64 o.price,.slice a o.steps.length c],.agg #[.slice da f.dn.length dc,.slice ua f.un.length uc,.bool f.asked,.bool f.yes,.bool f.turned,.bool f.k0,.bool f.k1,.bool f.ship,.bool f.d0,.bool f.d1,.bool f.acc]] w (OwnM w (runS (bckS o f) (backL o) [])):=by
 refine(callsIn_wide (n:=5)).1 ?_
 obtain⟨U,hU⟩:∃U,U=((w.alloc (.cells #[.int .i64 o.id,.int .i64 o.item,.int .i64 o.qty,.int .i64 o.client,.int .i64 o.price,.slice a o.steps.length c] 32)).alloc (.cells #[.slice da f.dn.length dc,.slice ua f.un.length uc,.bool f.asked,.bool f.yes,.bool f.turned,.bool f.k0,.bool f.k1,.bool f.ship,.bool f.d0,.bool f.d1,.bool f.acc] 68)).alloc (.cells #[.slice none 0 0] 29):=⟨_,rfl⟩
 have hbU:Below w.heap.size w U:=by rw[hU];exact(((zF _ _).alloc (zD _) _).alloc (by simp) _).alloc (by simp;omega) _
 have hsz:U.heap.size=w.heap.size+1+1+1:=by rw[hU];simp
 have hal:=allocs_at [.cells #[.int .i64 o.id,.int .i64 o.item,.int .i64 o.qty,.int .i64 o.client,.int .i64 o.price,.slice a o.steps.length c] 32 (0,0),.cells #[.slice da f.dn.length dc,.slice ua f.un.length uc,.bool f.asked,.bool f.yes,.bool f.turned,.bool f.k0,.bool f.k1,.bool f.ship,.bool f.d0,.bool f.d1,.bool f.acc] 68 (0,0),.cells #[.slice none 0 0] 29 (0,0)] w
 have hb0:U.heap[w.heap.size]?=some (.cells #[.int .i64 o.id,.int .i64 o.item,.int .i64 o.qty,.int .i64 o.client,.int .i64 o.price,.slice a o.steps.length c] 32 (0,0)):=by rw[hU];exact hal 0 _ rfl
 have hb1:U.heap[w.heap.size+1]?=some (.cells #[.slice da f.dn.length dc,.slice ua f.un.length uc,.bool f.asked,.bool f.yes,.bool f.turned,.bool f.k0,.bool f.k1,.bool f.ship,.bool f.d0,.bool f.d1,.bool f.acc] 68 (0,0)):=by rw[hU];exact hal 1 _ rfl
 have hb2:U.heap[w.heap.size+1+1]?=some (.cells #[.slice none 0 0] 29 (0,0)):=by rw[hU];exact hal 2 _ rfl
 have HAU:=(callsIn_wide (n:=4)).2 (back_any o a c U (ha.below hbU) hl)
 have HUW:=hide hU
 have HL:=hide hl
 have HA:=hide ha
 have HI:=hide hi
 have HMY:=hide hm
 have HDN:=hide h1
 have HUN:=hide h2
 rw[hU]at HAU
 clear hU ha hl hal hi hm h1 h2
 refine callsIn_of_wp_marks Tryz.func181 rfl trivial ?_ rfl
 simp only[Tryz.ntmps181,List.size_toArray,zQ,List.length_nil,Nat.reduceAdd,Nat.reduceSub,Array.replicate_succ,Array.replicate_zero,List.push_toArray,List.append_toArray,List.nil_append,List.cons_append]
 gi_wp2_with fail
 refine wpIn_wide.2 (wp_scope_straight ((wpIn_wide (n:=5)).1 ?_))
 gi_wp2_with fail
 refine wpIn_label ?_
 gi_wp2_with fail
 refine⟨trivial,HAU.mono ?_⟩
 rintro e w1 ⟨Bp,rfl,hb,hsq⟩
 rw[←HUW.out]at hb hsq
 clear HAU
 have hB1:Below w.heap.size w w1:=bel_on' hbU hb
 have hN1:w.heap.size+1+1<w1.heap.size:=by have:=hb.size;omega
 have h0:TI w w1.heap.size o a c f da dc ua uc (bckS o f) (backL o) [] w1:=⟨⟨keepB hb0 hb,keepB hb1 hb,hB1,zD _,hN1⟩,_,[],⟨keepB hb2 hb,World.ownsRow_nil _ _ _ _⟩,rfl,zD _⟩
 have ES:=hsq (fun k=>k=w.heap.size+1+1) (fun k h=>by omega)
 clear hb0 hb1 hb2 hb hbU hsq
 gi_wp2_with fail
 refine range_acts (t:=34) (X:=fun k=>k=w.heap.size+1+1) (enc:=encA) (L:=backL o) (I:=TI w w1.heap.size o a c f da dc ua uc (bckS o f) (backL o)) (Ix:=fun c' _ W=>c'= .exit 0∧TX w w1.heap.size o a c f da dc ua uc (bckS o f) (backL o) W)
  (Ax:=fun x a' W=>∃Bx,W.heap[Bx]?=some (.cells #[.int .i64 x.1,.int .i64 x.2] 216 (0,0))∧a'= {tmps:=#[.agg #[.int .i64 o.id,.int .i64 o.item,.int .i64 o.qty,.int .i64 o.client,.int .i64 o.price,.slice a o.steps.length c],.agg #[.slice da f.dn.length dc,.slice ua f.un.length uc,.bool f.asked,.bool f.yes,.bool f.turned,.bool f.k0,.bool f.k1,.bool f.ship,.bool f.d0,.bool f.d1,.bool f.acc],.pointer (some ⟨w.heap.size,0,none⟩),.pointer (some ⟨w.heap.size+1,0,none⟩),.slice none 0 0,.pointer (some ⟨w.heap.size+1+1,0,none⟩),.pointer (some ⟨Bx,0,none⟩),.agg #[.int .i64 o.id,.int .i64 o.item,.int .i64 o.qty,.int .i64 o.client,.int .i64 o.price,.slice a o.steps.length c],.func (.func 265) #[] #[.pointer (some ⟨Bp,0,none⟩)],encA x,undef,undef,undef,undef,undef,undef,undef,undef,undef,undef,undef,undef,undef,undef,undef,undef,undef,undef,undef,undef,undef,undef,undef,undef,undef],defers:=[]})
  (gf:=265) (lb:=#[.pointer (some ⟨Bp,0,none⟩)]) rfl (enters_of Tryz.func265 (by kernel_rfl) rfl) ES (fun k h=>by omega) rfl
  (TI.own hB1.size) (fun c' W0 W W' row hs hg hr=>?ix) (fun x a'=>?ax) h0 ?assign ?body ?done ?stop
 case ix=>exact⟨hs.1,TX.own (β:=Unit) hB1.size () W W' row hs.2 hg hr⟩
 case ax=>
  intro _ W W' row hs hg hr;obtain⟨Bx,h1,h2⟩:=hs;exact⟨Bx,(cells_stay hg hr h1).trans h1,h2⟩
 case assign=>
  intro l pre x W K hI hK;have hbA:Below W.heap.size W (W.alloc (.cells #[.int .i64 x.1,.int .i64 x.2] 216)):=(zF _ _).alloc (zD _) _
  have HK:=hK {tmps:=#[.agg #[.int .i64 o.id,.int .i64 o.item,.int .i64 o.qty,.int .i64 o.client,.int .i64 o.price,.slice a o.steps.length c],.agg #[.slice da f.dn.length dc,.slice ua f.un.length uc,.bool f.asked,.bool f.yes,.bool f.turned,.bool f.k0,.bool f.k1,.bool f.ship,.bool f.d0,.bool f.d1,.bool f.acc],.pointer (some ⟨w.heap.size,0,none⟩),.pointer (some ⟨w.heap.size+1,0,none⟩),.slice none 0 0,.pointer (some ⟨w.heap.size+1+1,0,none⟩),.pointer (some ⟨W.heap.size,0,none⟩),.agg #[.int .i64 o.id,.int .i64 o.item,.int .i64 o.qty,.int .i64 o.client,.int .i64 o.price,.slice a o.steps.length c],.func (.func 265) #[] #[.pointer (some ⟨Bp,0,none⟩)],encA x,undef,undef,undef,undef,undef,undef,undef,undef,undef,undef,undef,undef,undef,undef,undef,undef,undef,undef,undef,undef,undef,undef,undef,undef,undef],defers:=[]} _ (Kept.of_below hbA) (own_grows (TI.own (X:=w1.heap.size) hB1.size) hI hbA) ⟨W.heap.size,World.alloc_heap_new W _,rfl⟩
  clear hK;unfold encA at HK ⊢
  gi_wp2
  exact HK
 case done=>
  rintro D W hD hT hK;obtain⟨av,cv,hc,hO⟩:=hT.end.back hD hK;have HO:=hide hO
  clear hO hT
  gi_wp2
  refine⟨by simp,.inl ⟨_,_,rfl,run_takeDeferred hK,?_⟩⟩;refine⟨_,results_tmp rfl _ _ _,?_⟩;exact HO.out
 case stop=>
  rintro D c' pre W hD- - ⟨rfl,hT⟩ hK;obtain⟨av,cv,hc,hO⟩:=hT.back hD hK;have HO:=hide hO
  clear hO hT
  gi_wp2
  refine⟨by simp,.inl ⟨_,_,rfl,run_takeDeferred hK,?_⟩⟩;refine⟨_,results_tmp rfl _ _ _,?_⟩;exact HO.out
 case body=>
  rintro l pre x a' W hI ⟨Bx,hbx,rfl⟩ hpq;have hfew:=back_few HMY.out hpq
  obtain⟨hTF,v,acc,HND,h3,h4⟩:=id hI;have hacc:acc.length≤10:=by omega
  clear hfew;unfold encA;rcases back_mem HMY.out hpq with⟨j,hj,rfl⟩|rfl
  ·have q0:W.cell? ⟨Bx,0,none⟩=some (.int .i64 4):=by rw[cell_of hbx];rfl
   have q1:W.cell? ⟨Bx,1,none⟩=some (.int .i64 (j:Int)):=by rw[cell_of hbx];rfl
   obtain⟨e0,e1,e2,e3,e4,e5,e6,e7,e8,e9,e10⟩:=ten_cells hTF.fb;obtain⟨d0,d1,d2,d3,d4,d5⟩:=six_cells hTF.ob;have hdl:j<f.un.length:=by rw[HUN.out];exact hj
   obtain⟨db,doff,y,rfl,hy,hc⟩:=(HI.out.below hTF.bel).un.get hdl;have qj:(j:Int)<(f.un.length:Int):=by omega
   have HG:Hid (bckS o f (4,(j:Int))=if y then([],false)else([undoM o j],true)):=by
    show _=_
    unfold bckS;simp[List.getD,hy]
   cases y
   ·have HTF:=hide hTF
    have HRR:Rr w w1.heap.size o a c f da dc (some ⟨db,doff,none⟩) uc W Bx (4,(j:Int)) W:=⟨hTF,hbx,Kept.refl _ _ _⟩
    have HH:=hide (And.intro h3 (And.intro h4 hpq))
    have HIJ:=hide hj
    clear hI hbx hTF hpq hj hdl hy h3 h4
    gi_wp2_with fail
    obtain⟨h3,h4,hpq⟩:=HH.out;have hj:=HIJ.out
    clear q0 q1 d0 d1 d2 d3 d4 d5 e0 e1 e2 e3 e4 e5 e6 e7 e8 e9 e10 hc;refine region_round (S:=fun u=>Rr w w1.heap.size o a c f da dc (some ⟨db,doff,none⟩) uc W Bx (4,(j:Int)) u) (fun _ W'=>Rr w w1.heap.size o a c f da dc (some ⟨db,doff,none⟩) uc W Bx (4,(j:Int)) W'∧∃v',Nd w w1.heap.size v' (acc++ [undoM o j]) W') (by kernel_rfl) (by kernel_rfl) HRR.drew (fun hHeld=>?_) ?_
    ·have hn:=Nd.on HND (u':=W.drew) (zF _ _).drew
     replace HRR:=HRR.drew;refine wpAnyH_take (i:=1) (oi:={dst:=some 28,op:=_,type:=_,pos:=_,after:=_,guard:=_}) (v:= .agg #[.int .i64 o.id,.int .i64 o.item,.int .i64 o.qty,.int .i64 o.client,.int .i64 o.price,.slice a o.steps.length c]) rfl (by kernel_rfl) (by kernel_rfl) (by kernel_rfl) (fun _ _ _ h=>absurd h.1 (by simp)) (Or.inl ⟨by kernel_rfl,?_⟩) hHeld ?_
     ·intro u hu;obtain⟨d0,d1,d2,d3,d4,d5⟩:=six_cells hu.tf.ob;go_simp
     try simp only[Act.put,zA,zB,zC]
     refine wpAnyH_take (i:=2) (oi:={dst:=some 29,op:=_,type:=_,pos:=_,after:=_,guard:=_}) (v:= .pointer (some ⟨Bx,1,none⟩)) rfl (by kernel_rfl) (by kernel_rfl) (by kernel_rfl) (fun _ _ _ h=>absurd h.1 (by simp)) (Or.inl ⟨by kernel_rfl,?_⟩) hHeld ?_
     ·intro u hu;go_simp
     try simp only[Act.put,zA,zB,zC]
     refine wpAnyH_take (i:=3) (oi:={dst:=some 30,op:=_,type:=_,pos:=_,after:=_,guard:=_}) (v:= .int .i64 (j:Int)) rfl (by kernel_rfl) (by kernel_rfl) (by kernel_rfl) (fun _ _ _ h=>absurd h.1 (by simp)) (Or.inl ⟨by kernel_rfl,?_⟩) hHeld ?_
     ·intro u hu;have q0:u.cell? ⟨Bx,0,none⟩=some (.int .i64 4):=by rw[cell_of hu.ab];rfl
      have q1:u.cell? ⟨Bx,1,none⟩=some (.int .i64 (j:Int)):=by rw[cell_of hu.ab];rfl
      go_simp
     try simp only[Act.put,zA,zB,zC]
     refine wpAnyH_ready (rs:=[0,4]) (by kernel_rfl) (by simp) ?_;refine zG (o:={dst:=some 27,op:=_,type:=_,pos:=_,after:=_,guard:=_}) rfl (fun K hK=>?_) ?_
     ·refine step_load rfl (v:=v) (by have hc:=hn.1.cell;go_simp) ?_;refine hK.out _ _ HRR (fun hHeld=>?_);clear hK K;try simp only[Act.put,zA,zB,zC]
      refine wpAnyH_ready (rs:=[4]) (by kernel_rfl) (by simp) ?_;refine zG (o:={dst:=some 31,op:=_,type:=_,pos:=_,after:=_,guard:=_}) rfl (fun K hK=>?_) ?_
      ·refine step_go rfl (run_go2 _ _ rfl rfl rfl (enters_of Tryz.func209 (by kernel_rfl) rfl)) (undo_any o a c j _ (HA.out.below HRR.tf.bel) hj) ?_;rintro e u2 ⟨rfl,hb⟩;refine⟨_,rfl,?_⟩;replace HRR:=HRR.on hb;replace hn:=hn.on hb;clear hb;refine hK.out _ _ HRR (fun hHeld=>?_);clear hK K;try simp only[Act.put,zA,zB,zC]
       refine wpAnyH_ready (rs:=[5]) (by kernel_rfl) (by simp) ?_;refine zG (o:={dst:=some 32,op:=_,type:=_,pos:=_,after:=_,guard:=_}) rfl (fun K hK=>?_) ?_
       ·refine step_build rfl _ rfl (undoM o j) rfl ?_;intro p2 u3 hms hb;replace HRR:=HRR.on hb;replace hn:=hn.on hb;clear hb;refine hK.out _ _ HRR (fun hHeld=>?_);clear hK K;try simp only[Act.put,zA,zB,zC]
        refine wpAnyH_ready (rs:=[6]) (by kernel_rfl) (by simp) ?_;refine zG (o:={dst:=some 33,op:=_,type:=_,pos:=_,after:=_,guard:=_}) rfl (fun K hK=>?_) ?_
        ·refine step_app rfl _ _ rfl w1.heap.size v acc rfl hn.2 (some ⟨p2,0,none⟩) ([undoM o j]) 1 rfl (fun h=>by cases h) hms (by have:=hacc;simp only[zQ,List.length_nil];omega) HRR.tf.sz ?_;intro a4 c4 w4 hown hg;obtain⟨HR4,hb4⟩:=HRR.grown hn hg;replace HRR:=HR4;clear HR4 hn hms hg;refine hK.out _ _ HRR (fun hHeld=>?_);clear hK K;try simp only[Act.put,zA,zB,zC]
         refine wpAnyH_ready (rs:=[7]) (by kernel_rfl) (by simp) ?_;refine zG (o:={dst:=none,op:=_,type:=_,pos:=_,after:=_,guard:=_}) rfl (fun K hK=>?_) ?_
         ·refine step_put rfl _ _ rfl (w.heap.size+1+1) rfl a4 _ c4 rfl hb4 ?_;obtain⟨HR5,hn5⟩:=HRR.put hb4 hown;replace HRR:=HR5;clear HR5 hb4 hown;refine hK.out _ _ HRR (fun hHeld=>?_);clear hK K;try simp only[Act.put]
          refine wpAnyH_done (by kernel_rfl) ?_ _;exact⟨rfl,HRR,_,hn5⟩
         exact zH
        exact zH
       exact zH
      exact zH
     refine zG (o:={dst:=some 31,op:=_,type:=_,pos:=_,after:=_,guard:=_}) rfl (fun K hK=>?_) ?_
     ·refine step_go rfl (run_go2 _ _ rfl rfl rfl (enters_of Tryz.func209 (by kernel_rfl) rfl)) (undo_any o a c j _ (HA.out.below HRR.tf.bel) hj) ?_;rintro e u2 ⟨rfl,hb⟩;refine⟨_,rfl,?_⟩;replace HRR:=HRR.on hb;replace hn:=hn.on hb;clear hb;refine hK.out _ _ HRR (fun hHeld=>?_);clear hK K;try simp only[Act.put,zA,zB,zC]
      refine wpAnyH_ready (rs:=[0,5]) (by kernel_rfl) (by simp) ?_;refine zG (o:={dst:=some 27,op:=_,type:=_,pos:=_,after:=_,guard:=_}) rfl (fun K hK=>?_) ?_
      ·refine step_load rfl (v:=v) (by have hc:=hn.1.cell;go_simp) ?_;refine hK.out _ _ HRR (fun hHeld=>?_);clear hK K;try simp only[Act.put,zA,zB,zC]
       refine wpAnyH_ready (rs:=[5]) (by kernel_rfl) (by simp) ?_;refine zG (o:={dst:=some 32,op:=_,type:=_,pos:=_,after:=_,guard:=_}) rfl (fun K hK=>?_) ?_
       ·refine step_build rfl _ rfl (undoM o j) rfl ?_;intro p2 u3 hms hb;replace HRR:=HRR.on hb;replace hn:=hn.on hb;clear hb;refine hK.out _ _ HRR (fun hHeld=>?_);clear hK K;try simp only[Act.put,zA,zB,zC]
        refine wpAnyH_ready (rs:=[6]) (by kernel_rfl) (by simp) ?_;refine zG (o:={dst:=some 33,op:=_,type:=_,pos:=_,after:=_,guard:=_}) rfl (fun K hK=>?_) ?_
        ·refine step_app rfl _ _ rfl w1.heap.size v acc rfl hn.2 (some ⟨p2,0,none⟩) ([undoM o j]) 1 rfl (fun h=>by cases h) hms (by have:=hacc;simp only[zQ,List.length_nil];omega) HRR.tf.sz ?_;intro a4 c4 w4 hown hg;obtain⟨HR4,hb4⟩:=HRR.grown hn hg;replace HRR:=HR4;clear HR4 hn hms hg;refine hK.out _ _ HRR (fun hHeld=>?_);clear hK K;try simp only[Act.put,zA,zB,zC]
         refine wpAnyH_ready (rs:=[7]) (by kernel_rfl) (by simp) ?_;refine zG (o:={dst:=none,op:=_,type:=_,pos:=_,after:=_,guard:=_}) rfl (fun K hK=>?_) ?_
         ·refine step_put rfl _ _ rfl (w.heap.size+1+1) rfl a4 _ c4 rfl hb4 ?_;obtain⟨HR5,hn5⟩:=HRR.put hb4 hown;replace HRR:=HR5;clear HR5 hb4 hown;refine hK.out _ _ HRR (fun hHeld=>?_);clear hK K;try simp only[Act.put]
          refine wpAnyH_done (by kernel_rfl) ?_ _;exact⟨rfl,HRR,_,hn5⟩
         exact zH
        exact zH
       exact zH
      refine zG (o:={dst:=some 32,op:=_,type:=_,pos:=_,after:=_,guard:=_}) rfl (fun K hK=>?_) ?_
      ·refine step_build rfl _ rfl (undoM o j) rfl ?_;intro p2 u3 hms hb;replace HRR:=HRR.on hb;replace hn:=hn.on hb;clear hb;refine hK.out _ _ HRR (fun hHeld=>?_);clear hK K;try simp only[Act.put,zA,zB,zC]
       refine wpAnyH_ready (rs:=[0]) (by kernel_rfl) (by simp) ?_;refine zG (o:={dst:=some 27,op:=_,type:=_,pos:=_,after:=_,guard:=_}) rfl (fun K hK=>?_) ?_
       ·refine step_load rfl (v:=v) (by have hc:=hn.1.cell;go_simp) ?_;refine hK.out _ _ HRR (fun hHeld=>?_);clear hK K;try simp only[Act.put,zA,zB,zC]
        refine wpAnyH_ready (rs:=[6]) (by kernel_rfl) (by simp) ?_;refine zG (o:={dst:=some 33,op:=_,type:=_,pos:=_,after:=_,guard:=_}) rfl (fun K hK=>?_) ?_
        ·refine step_app rfl _ _ rfl w1.heap.size v acc rfl hn.2 (some ⟨p2,0,none⟩) ([undoM o j]) 1 rfl (fun h=>by cases h) hms (by have:=hacc;simp only[zQ,List.length_nil];omega) HRR.tf.sz ?_;intro a4 c4 w4 hown hg;obtain⟨HR4,hb4⟩:=HRR.grown hn hg;replace HRR:=HR4;clear HR4 hn hms hg;refine hK.out _ _ HRR (fun hHeld=>?_);clear hK K;try simp only[Act.put,zA,zB,zC]
         refine wpAnyH_ready (rs:=[7]) (by kernel_rfl) (by simp) ?_;refine zG (o:={dst:=none,op:=_,type:=_,pos:=_,after:=_,guard:=_}) rfl (fun K hK=>?_) ?_
         ·refine step_put rfl _ _ rfl (w.heap.size+1+1) rfl a4 _ c4 rfl hb4 ?_;obtain⟨HR5,hn5⟩:=HRR.put hb4 hown;replace HRR:=HR5;clear HR5 hb4 hown;refine hK.out _ _ HRR (fun hHeld=>?_);clear hK K;try simp only[Act.put]
          refine wpAnyH_done (by kernel_rfl) ?_ _;exact⟨rfl,HRR,_,hn5⟩
         exact zH
        exact zH
       exact zH
      exact zH
     exact zH
    ·rintro a' W' ⟨HR5,v',hn5⟩
     gi_wp2
     exact⟨HR5.kp,rfl,TX.more HR5.tf hn5 h3 hpq HG.out⟩
   ·have HNX:=hide (hI.next hpq HG.out)
    clear hI hbx hTF hpq HND h3 h4 hj hdl hy
    gi_wp2
    exact⟨Kept.refl _ _ _,HNX.out⟩
  ·have q0:W.cell? ⟨Bx,0,none⟩=some (.int .i64 10):=by rw[cell_of hbx];rfl
   have q1:W.cell? ⟨Bx,1,none⟩=some (.int .i64 0):=by rw[cell_of hbx];rfl
   obtain⟨e0,e1,e2,e3,e4,e5,e6,e7,e8,e9,e10⟩:=ten_cells hTF.fb;obtain⟨d0,d1,d2,d3,d4,d5⟩:=six_cells hTF.ob;have HG:Hid (bckS o f (10,0)=(decL o f 10,false)):=rfl
   have HDL:=hide (decP_len o f 10 2)
   have HRR:Rr w w1.heap.size o a c f da dc ua uc W Bx (10,0) W:=⟨hTF,hbx,Kept.refl _ _ _⟩
   have HH:=hide (And.intro h3 (And.intro h4 hpq))
   clear hI hbx hTF hpq h3 h4
   gi_wp2_with fail
   obtain⟨h3,h4,hpq⟩:=HH.out;clear q0 q1 d0 d1 d2 d3 d4 d5 e0 e1 e2 e3 e4 e5 e6 e7 e8 e9 e10;refine region_round (S:=fun u=>Rr w w1.heap.size o a c f da dc ua uc W Bx (10,0) u) (fun _ W'=>Rr w w1.heap.size o a c f da dc ua uc W Bx (10,0) W'∧∃v',Nd w w1.heap.size v' (acc++decL o f 10) W') (by kernel_rfl) (by kernel_rfl) HRR.drew (fun hHeld=>?_) ?_
   ·have hn:=Nd.on HND (u':=W.drew) (zF _ _).drew
    replace HRR:=HRR.drew;refine wpAnyH_take (i:=1) (oi:={dst:=some 15,op:=_,type:=_,pos:=_,after:=_,guard:=_}) (v:= .agg #[.int .i64 o.id,.int .i64 o.item,.int .i64 o.qty,.int .i64 o.client,.int .i64 o.price,.slice a o.steps.length c]) rfl (by kernel_rfl) (by kernel_rfl) (by kernel_rfl) (fun _ _ _ h=>absurd h.1 (by simp)) (Or.inl ⟨by kernel_rfl,?_⟩) hHeld ?_
    ·intro u hu;obtain⟨d0,d1,d2,d3,d4,d5⟩:=six_cells hu.tf.ob;go_simp
    try simp only[Act.put,zA,zB,zC]
    refine wpAnyH_take (i:=2) (oi:={dst:=some 16,op:=_,type:=_,pos:=_,after:=_,guard:=_}) (v:= .agg #[.slice da f.dn.length dc,.slice ua f.un.length uc,.bool f.asked,.bool f.yes,.bool f.turned,.bool f.k0,.bool f.k1,.bool f.ship,.bool f.d0,.bool f.d1,.bool f.acc]) rfl (by kernel_rfl) (by kernel_rfl) (by kernel_rfl) (fun _ _ _ h=>absurd h.1 (by simp)) (Or.inl ⟨by kernel_rfl,?_⟩) hHeld ?_
    ·intro u hu;obtain⟨e0,e1,e2,e3,e4,e5,e6,e7,e8,e9,e10⟩:=ten_cells hu.tf.fb;go_simp
    try simp only[Act.put,zA,zB,zC]
    refine wpAnyH_ready (rs:=[0,3]) (by kernel_rfl) (by simp) ?_;refine zG (o:={dst:=some 14,op:=_,type:=_,pos:=_,after:=_,guard:=_}) rfl (fun K hK=>?_) ?_
    ·refine step_load rfl (v:=v) (by have hc:=hn.1.cell;go_simp) ?_;refine hK.out _ _ HRR (fun hHeld=>?_);clear hK K;try simp only[Act.put,zA,zB,zC]
     refine wpAnyH_ready (rs:=[3]) (by kernel_rfl) (by simp) ?_;refine zG (o:={dst:=some 17,op:=_,type:=_,pos:=_,after:=_,guard:=_}) rfl (fun K hK=>?_) ?_
     ·refine step_go rfl (run_go3 _ _ _ rfl rfl rfl rfl (enters_of Tryz.func208 (by kernel_rfl) rfl)) (deci_any o a c f da dc ua uc 10 _ (HA.out.below HRR.tf.bel) HL.out (HI.out.below HRR.tf.bel)) ?_;rintro e u2 ⟨a2,c2,rfl,h21,h22,h23,hb⟩;refine⟨_,rfl,?_⟩;replace HRR:=HRR.on hb;replace hn:=hn.on hb;have hms:=row_mgs h23
      clear hb;refine hK.out _ _ HRR (fun hHeld=>?_);clear hK K;try simp only[Act.put,zA,zB,zC]
      refine wpAnyH_ready (rs:=[4]) (by kernel_rfl) (by simp) ?_;refine zG (o:={dst:=some 18,op:=_,type:=_,pos:=_,after:=_,guard:=_}) rfl (fun K hK=>?_) ?_
      ·refine step_app rfl _ _ rfl w1.heap.size v acc rfl hn.2 a2 (decL o f 10) c2 rfl h22 hms (by have:=hacc;have:(decL o f 10).length ≤2:=HDL.out;omega) HRR.tf.sz ?_;intro a4 c4 w4 hown hg;obtain⟨HR4,hb4⟩:=HRR.grown hn hg;replace HRR:=HR4;clear HR4 hn hms hg;refine hK.out _ _ HRR (fun hHeld=>?_);clear hK K;try simp only[Act.put,zA,zB,zC]
       refine wpAnyH_ready (rs:=[5]) (by kernel_rfl) (by simp) ?_;refine zG (o:={dst:=none,op:=_,type:=_,pos:=_,after:=_,guard:=_}) rfl (fun K hK=>?_) ?_
       ·refine step_put rfl _ _ rfl (w.heap.size+1+1) rfl a4 _ c4 rfl hb4 ?_;obtain⟨HR5,hn5⟩:=HRR.put hb4 hown;replace HRR:=HR5;clear HR5 hb4 hown;refine hK.out _ _ HRR (fun hHeld=>?_);clear hK K;try simp only[Act.put]
        refine wpAnyH_done (by kernel_rfl) ?_ _;exact⟨rfl,HRR,_,hn5⟩
       exact zH
      exact zH
     exact zH
    refine zG (o:={dst:=some 17,op:=_,type:=_,pos:=_,after:=_,guard:=_}) rfl (fun K hK=>?_) ?_
    ·refine step_go rfl (run_go3 _ _ _ rfl rfl rfl rfl (enters_of Tryz.func208 (by kernel_rfl) rfl)) (deci_any o a c f da dc ua uc 10 _ (HA.out.below HRR.tf.bel) HL.out (HI.out.below HRR.tf.bel)) ?_;rintro e u2 ⟨a2,c2,rfl,h21,h22,h23,hb⟩;refine⟨_,rfl,?_⟩;replace HRR:=HRR.on hb;replace hn:=hn.on hb;have hms:=row_mgs h23
     clear hb;refine hK.out _ _ HRR (fun hHeld=>?_);clear hK K;try simp only[Act.put,zA,zB,zC]
     refine wpAnyH_ready (rs:=[0]) (by kernel_rfl) (by simp) ?_;refine zG (o:={dst:=some 14,op:=_,type:=_,pos:=_,after:=_,guard:=_}) rfl (fun K hK=>?_) ?_
     ·refine step_load rfl (v:=v) (by have hc:=hn.1.cell;go_simp) ?_;refine hK.out _ _ HRR (fun hHeld=>?_);clear hK K;try simp only[Act.put,zA,zB,zC]
      refine wpAnyH_ready (rs:=[4]) (by kernel_rfl) (by simp) ?_;refine zG (o:={dst:=some 18,op:=_,type:=_,pos:=_,after:=_,guard:=_}) rfl (fun K hK=>?_) ?_
      ·refine step_app rfl _ _ rfl w1.heap.size v acc rfl hn.2 a2 (decL o f 10) c2 rfl h22 hms (by have:=hacc;have:(decL o f 10).length ≤2:=HDL.out;omega) HRR.tf.sz ?_;intro a4 c4 w4 hown hg;obtain⟨HR4,hb4⟩:=HRR.grown hn hg;replace HRR:=HR4;clear HR4 hn hms hg;refine hK.out _ _ HRR (fun hHeld=>?_);clear hK K;try simp only[Act.put,zA,zB,zC]
       refine wpAnyH_ready (rs:=[5]) (by kernel_rfl) (by simp) ?_;refine zG (o:={dst:=none,op:=_,type:=_,pos:=_,after:=_,guard:=_}) rfl (fun K hK=>?_) ?_
       ·refine step_put rfl _ _ rfl (w.heap.size+1+1) rfl a4 _ c4 rfl hb4 ?_;obtain⟨HR5,hn5⟩:=HRR.put hb4 hown;replace HRR:=HR5;clear HR5 hb4 hown;refine hK.out _ _ HRR (fun hHeld=>?_);clear hK K;try simp only[Act.put]
        refine wpAnyH_done (by kernel_rfl) ?_ _;exact⟨rfl,HRR,_,hn5⟩
       exact zH
      exact zH
     exact zH
    exact zH
   ·rintro a' W' ⟨HR5,v',hn5⟩
    gi_wp2
    exact⟨HR5.kp,TI.more HR5.tf hn5 h3 h4 hpq HG.out (HDL.out)⟩
end Go.Proofs.YthfgmpooehkhgaaGreatDoor.Sg
namespace Go.Proofs.YthfgmpooehkhgaaGreatDoor.Sg
open Go.ChangeShapes Go.WideShapes Go.ChangeAt Go.RowKit
theorem OwnM.onto{w u w':World}{L:List Mg}{e:Ending}(h:OwnM u L e w')(hb:Below w.heap.size w u):OwnM w L e w':=by
 obtain⟨a,c,h1,h2,h3,h4,h5⟩:=h
 refine⟨a,c,h1,h2,h3,⟨h4.1,?_⟩,bel_on' hb h5⟩
 rcases h4.2 with h|⟨g,cap,cur,e1,e2,e3⟩
 ·exact .inl h
 ·exact .inr ⟨g,cap,cur,e1,Nat.le_trans hb.size e2,e3⟩
theorem OwnM.nil{w w':World}(hb:Below w.heap.size w w'):OwnM w [] (.returned (.slice none 0 0)) w':=
 ⟨none,0,rfl,Nat.le_refl _,fun _=>⟨rfl,rfl⟩,row_nil _ _ _ _,hb⟩
theorem mayF_parts{o:Od}{f:Fa}(h:mayF o f=true):mayO o=true∧f.dn.length=o.steps.length∧f.un.length=o.steps.length∧decF f=true∧donF f=true∧undF f=true:=by
 unfold mayF at h
 simp only[Bool.and_eq_true,decide_eq_true_eq]at h
 exact⟨h.1.1.1.1.1,h.1.1.1.1.2,h.1.1.1.2,h.1.1.2,h.1.2,h.2⟩
set_option maxRecDepth 100000 in
set_option maxHeartbeats 4000000 in
theorem snext_any(o:Od)(a:Option Addr)(c:Nat)(f:Fa)(da:Option Addr)(dc:Nat)(ua:Option Addr)(uc:Nat)(w:World)(ha:Sts w a o.steps)(hl:o.steps.length≤9223372036854775807)(hi:FaIn w f da dc ua uc):
 Calls Tryz.prog 144 #[.agg #[.int .i64 o.id,.int .i64 o.item,.int .i64 o.qty,.int .i64 o.client,.int .i64 o.price,.slice a o.steps.length c],.agg #[.slice da f.dn.length dc,.slice ua f.un.length uc,.bool f.asked,.bool f.yes,.bool f.turned,.bool f.k0,.bool f.k1,.bool f.ship,.bool f.d0,.bool f.d1,.bool f.acc]] w (OwnM w (nextF o f)):=by
 have HR:=Rd.new (c:=c) 68 ha hl hi
 have C1:∀u,Rd w w.heap.size (w.heap.size+1) 68 o a c f da dc ua uc u→Calls Tryz.prog 34 #[.agg #[.int .i64 o.id,.int .i64 o.item,.int .i64 o.qty,.int .i64 o.client,.int .i64 o.price,.slice a o.steps.length c],.agg #[.slice da f.dn.length dc,.slice ua f.un.length uc,.bool f.asked,.bool f.yes,.bool f.turned,.bool f.k0,.bool f.k1,.bool f.ship,.bool f.d0,.bool f.d1,.bool f.acc]] u fun e w'=>e= .returned (.bool (mayF o f))∧Below u.heap.size u w':=fun u h=>smay_any o a c f da dc ua uc u h.st h.hl h.fi
 obtain⟨⟨d0,d1,d2,d3,d4,d5⟩,e0,e1,e2,e3,e4,e5,e6,e7,e8,e9,e10⟩:=HR.cells
 unfold nextF
 clear ha hl hi
 cases p1:mayF o f
 ·rw[p1]at C1;rw[if_pos rfl];go_enter Tryz.func144,Tryz.ntmps144
  go_wp2_with(go_at_call 34;with_reducible refine((C1 _ HR)).mono ?_;rintro e u ⟨rfl,hb⟩;replace HR:=HR.on hb;clear hb d0 d1 d2 d3 d4 d5 e0 e1 e2 e3 e4 e5 e6 e7 e8 e9 e10;obtain⟨⟨d0,d1,d2,d3,d4,d5⟩,e0,e1,e2,e3,e4,e5,e6,e7,e8,e9,e10⟩:=HR.cells)
  go_ret
  exact OwnM.nil HR.bel
 rw[p1]at C1
 rw[if_neg (by simp)]
 obtain⟨m1,m2,m3,-,-,-⟩:=mayF_parts p1
 have C2:∀u,Rd w w.heap.size (w.heap.size+1) 68 o a c f da dc ua uc u→Calls Tryz.prog 181 #[.agg #[.int .i64 o.id,.int .i64 o.item,.int .i64 o.qty,.int .i64 o.client,.int .i64 o.price,.slice a o.steps.length c],.agg #[.slice da f.dn.length dc,.slice ua f.un.length uc,.bool f.asked,.bool f.yes,.bool f.turned,.bool f.k0,.bool f.k1,.bool f.ship,.bool f.d0,.bool f.d1,.bool f.acc]] u (OwnM u (runS (bckS o f) (backL o) [])):=fun u h=>sback_any o a c f da dc ua uc u h.st h.hl h.fi m1 m2 m3
 have C3:∀u,Rd w w.heap.size (w.heap.size+1) 68 o a c f da dc ua uc u→Calls Tryz.prog 182 #[.agg #[.int .i64 o.id,.int .i64 o.item,.int .i64 o.qty,.int .i64 o.client,.int .i64 o.price,.slice a o.steps.length c],.agg #[.slice da f.dn.length dc,.slice ua f.un.length uc,.bool f.asked,.bool f.yes,.bool f.turned,.bool f.k0,.bool f.k1,.bool f.ship,.bool f.d0,.bool f.d1,.bool f.acc]] u (OwnM u (runS (fwdS o f) (planL o) [])):=fun u h=>forward_any o a c f da dc ua uc u h.st h.hl h.fi m1 m2 m3
 clear m1 m2 m3
 obtain⟨NF,hNF⟩:∃N,runS (fwdS o f) (planL o) []=N:=⟨_,rfl⟩
 obtain⟨NB,hNB⟩:∃N,runS (bckS o f) (backL o) []=N:=⟨_,rfl⟩
 rw[hNF]at C3 ⊢
 rw[hNB]at C2 ⊢
 clear hNF hNB p1 d0 d1 d2 d3 d4 d5 e0 e1 e2 e3 e4 e5 e6 e7 e8 e9 e10
 obtain⟨dn,un,asked,yes,turned,k0,k1,ship,g0,g1,acc⟩:=f
 dsimp only at C1 C2 C3 ⊢
 have HC:=HR.cells;dsimp only at HC;obtain⟨⟨d0,d1,d2,d3,d4,d5⟩,e0,e1,e2,e3,e4,e5,e6,e7,e8,e9,e10⟩:=HC
 cases turned
 ·rw[if_neg (by simp)];clear C2;go_enter Tryz.func144,Tryz.ntmps144
  go_wp2_with(first
   |(go_at_call 34;with_reducible refine((C1 _ HR)).mono ?_;rintro e u ⟨rfl,hb⟩;replace HR:=HR.on hb;clear hb d0 d1 d2 d3 d4 d5 e0 e1 e2 e3 e4 e5 e6 e7 e8 e9 e10;have HC:=HR.cells;dsimp only at HC;obtain⟨⟨d0,d1,d2,d3,d4,d5⟩,e0,e1,e2,e3,e4,e5,e6,e7,e8,e9,e10⟩:=HC)
   |(go_at_call 182;(with_reducible refine((C3 _ HR)).mono ?_);intro e u2 h;have HO:=hide (h.onto HR.bel);clear h;obtain⟨a2,c2,rfl,h2⟩:=HO.out))
  go_ret
  exact HO.out
 ·rw[if_pos rfl];clear C3;go_enter Tryz.func144,Tryz.ntmps144
  go_wp2_with(first
   |(go_at_call 34;with_reducible refine((C1 _ HR)).mono ?_;rintro e u ⟨rfl,hb⟩;replace HR:=HR.on hb;clear hb d0 d1 d2 d3 d4 d5 e0 e1 e2 e3 e4 e5 e6 e7 e8 e9 e10;have HC:=HR.cells;dsimp only at HC;obtain⟨⟨d0,d1,d2,d3,d4,d5⟩,e0,e1,e2,e3,e4,e5,e6,e7,e8,e9,e10⟩:=HC)
   |(go_at_call 181;(with_reducible refine((C2 _ HR)).mono ?_);intro e u2 h;have HO:=hide (h.onto HR.bel);clear h;obtain⟨a2,c2,rfl,h2⟩:=HO.out))
  go_ret
  exact HO.out
end Go.Proofs.YthfgmpooehkhgaaGreatDoor.Sg
