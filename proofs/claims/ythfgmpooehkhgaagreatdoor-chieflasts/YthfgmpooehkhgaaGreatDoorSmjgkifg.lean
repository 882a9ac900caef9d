import Derived.Test.YthfgmpooehkhgaaGreatDoorSmilflcm
import Derived.Deep.RegionHeld3
namespace Go.Proofs.YthfgmpooehkhgaaGreatDoor.Sg
open Go.ChangeShapes Go.WideShapes Go.ChangeAt Go.RowKit
open Nat renaming le_refl→zD
open Below renaming refl→zF,heap_setCell→zN
open Go.World renaming alloc_heap_new→zI
theorem msg_any(o:Od)(a:Option Addr)(c:Nat)(k t:Int)(w:World):
 Calls Tryz.prog 236 #[.agg #[.int .i64 o.id,.int .i64 o.item,.int .i64 o.qty,.int .i64 o.client,.int .i64 o.price,.slice a o.steps.length c],.int .i64 k,.int .i64 t] w fun e w'=>e= .returned (.agg #[.int .i64 k,.int .i64 0,.int .i64 t,.int .i64 o.id,.int .i64 0,.int .i64 0,.int .i64 0])∧Below w.heap.size w w':=by
 have HB:Hid (Below w.heap.size w ((w.alloc (.cells #[.int .i64 o.id,.int .i64 o.item,.int .i64 o.qty,.int .i64 o.client,.int .i64 o.price,.slice a o.steps.length c] 32)).alloc (.cells #[.int .i64 k,.int .i64 0,.int .i64 t,.int .i64 o.id,.int .i64 0,.int .i64 0,.int .i64 0] 34))):=((zF _ _).alloc (zD _) _).alloc (by simp) _
 have HN:Hid (((w.alloc (.cells #[.int .i64 o.id,.int .i64 o.item,.int .i64 o.qty,.int .i64 o.client,.int .i64 o.price,.slice a o.steps.length c] 32)).alloc (.cells #[.int .i64 k,.int .i64 0,.int .i64 t,.int .i64 o.id,.int .i64 0,.int .i64 0,.int .i64 0] 34)).heap[w.heap.size+1]?=some (.cells #[.int .i64 k,.int .i64 0,.int .i64 t,.int .i64 o.id,.int .i64 0,.int .i64 0,.int .i64 0] 34 (0,0))):=by
  have:=zI (w.alloc (.cells #[.int .i64 o.id,.int .i64 o.item,.int .i64 o.qty,.int .i64 o.client,.int .i64 o.price,.slice a o.steps.length c] 32)) (.cells #[.int .i64 k,.int .i64 0,.int .i64 t,.int .i64 o.id,.int .i64 0,.int .i64 0,.int .i64 0] 34)
  rwa [World.size_alloc]at this
 go_enter Tryz.func236,Tryz.ntmps236
 go_wp2
 refine bodyPost_ret (v:= .agg #[.int .i64 k,.int .i64 0,.int .i64 t,.int .i64 o.id,.int .i64 0,.int .i64 0,.int .i64 0]) ?_ rfl ?_
 ·exact results_cell_row Tryz.results236 _ _ (w.heap.size+1) 34 _ (0,0) _ rfl HN.out Tryz.underlying34 rfl (by kernel_rfl)
 exact⟨rfl,HB.out⟩
structure Ro (w:World) (o:Od) (a:Option Addr) (c:Nat) (u:World):Prop where
 ob:u.heap[w.heap.size]?=some (.cells #[.int .i64 o.id,.int .i64 o.item,.int .i64 o.qty,.int .i64 o.client,.int .i64 o.price,.slice a o.steps.length c] 32 (0,0))
 rb:u.heap[w.heap.size+1]?=some (.cells #[.int .i64 0,.int .i64 0,.int .i64 0,.int .i64 0,.int .i64 0,.int .i64 0,.int .i64 0] 34 (0,0))
 bel:Below w.heap.size w u
 sz:w.heap.size+1<u.heap.size
theorem Ro.on{w:World}{o:Od}{a:Option Addr}{c:Nat}{u v:World}(h:Ro w o a c u)(hb:Below u.heap.size u v):Ro w o a c v:=
 ⟨(hb.block _ (Array.getElem?_eq_some_iff.1 h.ob).1).trans h.ob,(hb.block _ (Array.getElem?_eq_some_iff.1 h.rb).1).trans h.rb,bel_on' h.bel hb,by have:=hb.size;have:=h.sz;omega⟩
theorem Ro.new{w:World}{o:Od}{a:Option Addr}{c:Nat}:Ro w o a c ((w.alloc (.cells #[.int .i64 o.id,.int .i64 o.item,.int .i64 o.qty,.int .i64 o.client,.int .i64 o.price,.slice a o.steps.length c] 32)).alloc (.cells #[.int .i64 0,.int .i64 0,.int .i64 0,.int .i64 0,.int .i64 0,.int .i64 0,.int .i64 0] 34)):=by
 have b1:Below w.heap.size w (w.alloc (.cells #[.int .i64 o.id,.int .i64 o.item,.int .i64 o.qty,.int .i64 o.client,.int .i64 o.price,.slice a o.steps.length c] 32)):=(zF _ _).alloc (zD _) _
 refine⟨(Below.heap_alloc _ _ _ (by simp)).trans (zI w _),?_,b1.alloc b1.size _,by simp⟩
 have:=zI (w.alloc (.cells #[.int .i64 o.id,.int .i64 o.item,.int .i64 o.qty,.int .i64 o.client,.int .i64 o.price,.slice a o.steps.length c] 32)) (.cells #[.int .i64 0,.int .i64 0,.int .i64 0,.int .i64 0,.int .i64 0,.int .i64 0,.int .i64 0] 34)
 rwa [World.size_alloc]at this
theorem seven_cells{u:World}{n:Nat}{t:TypeId}{v0 v1 v2 v3 v4 v5 v6:Value}(h:u.heap[n]?=some (.cells #[v0,v1,v2,v3,v4,v5,v6] t (0,0))):(u.cell? ⟨n,0,none⟩=some v0∧u.cell? ⟨n,1,none⟩=some v1∧u.cell? ⟨n,2,none⟩=some v2∧u.cell? ⟨n,3,none⟩=some v3∧u.cell? ⟨n,4,none⟩=some v4∧u.cell? ⟨n,5,none⟩=some v5∧u.cell? ⟨n,6,none⟩=some v6)∧u.frozen? ⟨n,0,none⟩=false∧u.frozen? ⟨n,1,none⟩=false∧u.frozen? ⟨n,2,none⟩=false∧u.frozen? ⟨n,3,none⟩=false∧u.frozen? ⟨n,4,none⟩=false∧u.frozen? ⟨n,5,none⟩=false∧u.frozen? ⟨n,6,none⟩=false:=by
 refine⟨⟨?_,?_,?_,?_,?_,?_,?_⟩,frozen_of_row _ _ _ _ _ h,frozen_of_row _ _ _ _ _ h,frozen_of_row _ _ _ _ _ h,frozen_of_row _ _ _ _ _ h,frozen_of_row _ _ _ _ _ h,frozen_of_row _ _ _ _ _ h,frozen_of_row _ _ _ _ _ h⟩<;>(rw[cell_of h];rfl)
theorem Ro.cells{w:World}{o:Od}{a:Option Addr}{c:Nat}{u:World}(h:Ro w o a c u):
 (u.cell? ⟨w.heap.size,0,none⟩=some (.int .i64 o.id)∧u.cell? ⟨w.heap.size,1,none⟩=some (.int .i64 o.item)∧u.cell? ⟨w.heap.size,2,none⟩=some (.int .i64 o.qty)∧u.cell? ⟨w.heap.size,3,none⟩=some (.int .i64 o.client)∧u.cell? ⟨w.heap.size,4,none⟩=some (.int .i64 o.price)∧u.cell? ⟨w.heap.size,5,none⟩=some (.slice a o.steps.length c))∧
 (u.cell? ⟨w.heap.size+1,0,none⟩=some (.int .i64 0)∧u.cell? ⟨w.heap.size+1,1,none⟩=some (.int .i64 0)∧u.cell? ⟨w.heap.size+1,2,none⟩=some (.int .i64 0)∧u.cell? ⟨w.heap.size+1,3,none⟩=some (.int .i64 0)∧u.cell? ⟨w.heap.size+1,4,none⟩=some (.int .i64 0)∧u.cell? ⟨w.heap.size+1,5,none⟩=some (.int .i64 0)∧u.cell? ⟨w.heap.size+1,6,none⟩=some (.int .i64 0))∧u.frozen? ⟨w.heap.size+1,0,none⟩=false∧u.frozen? ⟨w.heap.size+1,1,none⟩=false∧u.frozen? ⟨w.heap.size+1,2,none⟩=false∧u.frozen? ⟨w.heap.size+1,3,none⟩=false∧u.frozen? ⟨w.heap.size+1,4,none⟩=false∧u.frozen? ⟨w.heap.size+1,5,none⟩=false∧u.frozen? ⟨w.heap.size+1,6,none⟩=false:=⟨six_cells h.ob,seven_cells h.rb⟩
theorem Ro.drew{w:World}{o:Od}{a:Option Addr}{c:Nat}{u:World}(h:Ro w o a c u):Ro w o a c u.drew:=⟨h.ob,h.rb,h.bel.drew,h.sz⟩
theorem Ro.alloc{w:World}{o:Od}{a:Option Addr}{c:Nat}{u:World}(h:Ro w o a c u)(x:Obj):Ro w o a c (u.alloc x):=h.on ((zF _ _).alloc (zD _) _)
theorem at_drew{X:World}{k:Nat}{o:Obj}(h:X.heap[k]?=some o):X.drew.heap[k]?=some o:=h
theorem Ro.onB{w:World}{o:Od}{a:Option Addr}{c:Nat}{u v:World}(h:Ro w o a c u){B:Nat}(hB:w.heap.size+1<B)(hb:Below B u v):Ro w o a c v:=
 ⟨(hb.block _ (by omega)).trans h.ob,(hb.block _ hB).trans h.rb,h.bel.trans (hb.mono (by omega)),by have:=hb.size;have:=h.sz;omega⟩
theorem fill7{X:World}{r B:Nat}{t:TypeId}{v0 v1 v2 v3 v4 v5 v6:Value}(h:X.heap[r]?=some (.cells #[v0,v1,v2,v3,v4,v5,v6] t (0,0)))(hB:B≤r)(x0 x1 x2 x3 x4 x5 x6:Value):
 (((((((X.setCell ⟨r,0,none⟩ x0).setCell ⟨r,1,none⟩ x1).setCell ⟨r,2,none⟩ x2).setCell ⟨r,3,none⟩ x3).setCell ⟨r,4,none⟩ x4).setCell ⟨r,5,none⟩ x5).setCell ⟨r,6,none⟩ x6).heap[r]?=some (.cells #[x0,x1,x2,x3,x4,x5,x6] t (0,0))∧
 Below B X (((((((X.setCell ⟨r,0,none⟩ x0).setCell ⟨r,1,none⟩ x1).setCell ⟨r,2,none⟩ x2).setCell ⟨r,3,none⟩ x3).setCell ⟨r,4,none⟩ x4).setCell ⟨r,5,none⟩ x5).setCell ⟨r,6,none⟩ x6):=by
 have h0:=heap_setCell_same _ _ 0 _ _ x0 h
 have h1:=heap_setCell_same _ _ 1 _ _ x1 h0
 have h2:=heap_setCell_same _ _ 2 _ _ x2 h1
 have h3:=heap_setCell_same _ _ 3 _ _ x3 h2
 have h4:=heap_setCell_same _ _ 4 _ _ x4 h3
 have h5:=heap_setCell_same _ _ 5 _ _ x5 h4
 have h6:=heap_setCell_same _ _ 6 _ _ x6 h5
 refine⟨by simpa using h6,?_⟩
 exact(((((((zF _ _).setCell (p:=⟨r,0,none⟩) hB _).setCell (p:=⟨r,1,none⟩) hB _).setCell (p:=⟨r,2,none⟩) hB _).setCell (p:=⟨r,3,none⟩) hB _).setCell (p:=⟨r,4,none⟩) hB _).setCell (p:=⟨r,5,none⟩) hB _).setCell (p:=⟨r,6,none⟩) hB _
theorem Ro.two{w:World}{o:Od}{a:Option Addr}{c:Nat}{V:World}(h:Ro w o a c V){M i j:Nat}(hM:w.heap.size≤M)(nM:M≠w.heap.size∧M≠w.heap.size+1)(x y:Value):Ro w o a c ((V.setCell ⟨M,i,none⟩ x).setCell ⟨M,j,none⟩ y):=by
 refine⟨?_,?_,(h.bel.setCell (p:=⟨M,i,none⟩) hM _).setCell (p:=⟨M,j,none⟩) hM _,by have:=h.sz;simpa using this⟩
 ·rw[zN _ _ _ _ (show w.heap.size≠M from fun e=>nM.1 e.symm),zN _ _ _ _ (show w.heap.size≠M from fun e=>nM.1 e.symm)];exact h.ob
 ·rw[zN _ _ _ _ (show w.heap.size+1≠M from fun e=>nM.2 e.symm),zN _ _ _ _ (show w.heap.size+1≠M from fun e=>nM.2 e.symm)];exact h.rb
theorem Ro.one{w:World}{o:Od}{a:Option Addr}{c:Nat}{V:World}(h:Ro w o a c V){M i:Nat}(hM:w.heap.size≤M)(nM:M≠w.heap.size∧M≠w.heap.size+1)(x:Value):Ro w o a c (V.setCell ⟨M,i,none⟩ x):=by
 refine⟨?_,?_,(h.bel.setCell (p:=⟨M,i,none⟩) hM _),by have:=h.sz;simpa using this⟩
 ·rw[zN _ _ _ _ (show w.heap.size≠M from fun e=>nM.1 e.symm)];exact h.ob
 ·rw[zN _ _ _ _ (show w.heap.size+1≠M from fun e=>nM.2 e.symm)];exact h.rb
set_option maxRecDepth 100000 in
set_option maxHeartbeats 4000000 in
theorem ship_any(o:Od)(a:Option Addr)(c:Nat)(w:World):
 Calls Tryz.prog 213 #[.agg #[.int .i64 o.id,.int .i64 o.item,.int .i64 o.qty,.int .i64 o.client,.int .i64 o.price,.slice a o.steps.length c]] w fun e w'=>e= .returned (.agg #[.int .i64 (shipM o).k,.int .i64 (shipM o).fr,.int .i64 (shipM o).to,.int .i64 (shipM o).id,.int .i64 (shipM o).st,.int .i64 (shipM o).a,.int .i64 (shipM o).b])∧Below w.heap.size w w':=by
 have HR:=Ro.new (w:=w) (o:=o) (a:=a) (c:=c)
 go_enter Tryz.func213,Tryz.ntmps213
 go_wp2_with(go_at_call 236;refine(msg_any o a c _ _ _).mono ?_;rintro e u ⟨rfl,hb⟩;replace HR:=HR.on hb;clear hb;obtain⟨⟨d0,d1,d2,d3,d4,d5⟩,⟨z0,z1,z2,z3,z4,z5,z6⟩,y0,y1,y2,y3,y4,y5,y6⟩:=HR.cells;have hs:=HR.sz)
 clear d0 d1 d2 d3 d4 d5 z0 z1 z2 z3 z4 z5 z6 y0 y1 y2 y3 y4 y5 y6
 obtain⟨V,hV⟩:∃V,V=u.alloc (.cells #[.int .i64 15,.int .i64 0,.int .i64 3,.int .i64 o.id,.int .i64 0,.int .i64 0,.int .i64 0] 34):=⟨_,rfl⟩
 obtain⟨M,hMe⟩:∃M,M=u.heap.size:=⟨_,rfl⟩
 have hM:V.heap[M]?=some (.cells #[.int .i64 15,.int .i64 0,.int .i64 3,.int .i64 o.id,.int .i64 0,.int .i64 0,.int .i64 0] 34 (0,0)):=by rw[hV,hMe];exact zI u _
 replace HR:=HR.on (v:=V) (by rw[hV];exact(zF _ _).alloc (zD _) _)
 have GM:Hid (w.heap.size≤M):=by show _≤_;omega
 have nM:M≠w.heap.size∧M≠w.heap.size+1:=by omega
 rw[←hV,←hMe]
 clear hV hMe hs
 obtain⟨⟨m0,m1,m2,m3,m4,m5,m6⟩,n0,n1,n2,n3,n4,n5,n6⟩:=seven_cells hM
 obtain⟨⟨d0,d1,d2,d3,d4,d5⟩,⟨z0,z1,z2,z3,z4,z5,z6⟩,y0,y1,y2,y3,y4,y5,y6⟩:=HR.cells
 have nM1:=nM.1
 have nM2:=nM.2
 have nM3:=nM.1.symm
 have nM4:=nM.2.symm
 have HE:=hide ((HR.two (i:=5) (j:=6) GM.out nM (.int .i64 o.item) (.int .i64 o.qty)))
 have NM:=hide nM
 clear nM
 go_region
 go_wp2
 obtain⟨F1,F2⟩:=fill7 HE.out.rb (B:=w.heap.size) (by omega) (.int .i64 15) (.int .i64 0) (.int .i64 3) (.int .i64 o.id) (.int .i64 0) (.int .i64 o.item) (.int .i64 o.qty)
 refine bodyPost_ret (v:= .agg #[.int .i64 15,.int .i64 0,.int .i64 3,.int .i64 o.id,.int .i64 0,.int .i64 o.item,.int .i64 o.qty]) ?_ rfl ?_
 ·exact results_cell_row Tryz.results213 _ _ (w.heap.size+1) 34 _ (0,0) _ rfl (at_drew F1) Tryz.underlying34 rfl (by kernel_rfl)
 exact⟨rfl,(HE.out.bel.trans F2).drew⟩
set_option maxRecDepth 100000 in
set_option maxHeartbeats 4000000 in
theorem do_any(o:Od)(a:Option Addr)(c:Nat)(i:Nat)(w:World)(ha:Sts w a o.steps)(hi:i<o.steps.length):
 Calls Tryz.prog 211 #[.agg #[.int .i64 o.id,.int .i64 o.item,.int .i64 o.qty,.int .i64 o.client,.int .i64 o.price,.slice a o.steps.length c],.int .i64 i] w fun e w'=>e= .returned (.agg #[.int .i64 (doM o i).k,.int .i64 (doM o i).fr,.int .i64 (doM o i).to,.int .i64 (doM o i).id,.int .i64 (doM o i).st,.int .i64 (doM o i).a,.int .i64 (doM o i).b])∧Below w.heap.size w w':=by
 have HR:=Ro.new (w:=w) (o:=o) (a:=a) (c:=c)
 obtain⟨b,off,rfl,-,-⟩:=ha.at hi
 unfold doM
 obtain⟨x,hx⟩:∃x,stAt o.steps i=x:=⟨_,rfl⟩
 have HC:Hid (∀u,Below w.heap.size w u→u.cell? ⟨b,off+i*2,none⟩=some (.int .i64 x.1)∧u.cell? ⟨b,off+i*2+1,none⟩=some (.int .i64 x.2)):=fun u hu=>by
  obtain⟨b',off',e,h0,h1⟩:=(ha.below hu).at hi;cases e;rw[hx]at h0 h1;exact⟨h0,h1⟩
 rw[hx]
 have q:(i:Int)<(o.steps.length:Int):=by omega
 clear hx ha
 obtain⟨V0,hV0⟩:∃V,V=(w.alloc (.cells #[.int .i64 o.id,.int .i64 o.item,.int .i64 o.qty,.int .i64 o.client,.int .i64 o.price,.slice (some ⟨b,off,none⟩) o.steps.length c] 32)).alloc (.cells #[.int .i64 0,.int .i64 0,.int .i64 0,.int .i64 0,.int .i64 0,.int .i64 0,.int .i64 0] 34):=⟨_,rfl⟩
 rw[←hV0]at HR
 obtain⟨⟨d0,d1,d2,d3,d4,d5⟩,⟨z0,z1,z2,z3,z4,z5,z6⟩,y0,y1,y2,y3,y4,y5,y6⟩:=HR.cells
 obtain⟨h0,h1⟩:=HC.out V0 HR.bel
 have MS:∀u,Calls Tryz.prog 236 #[.agg #[.int .i64 o.id,.int .i64 o.item,.int .i64 o.qty,.int .i64 o.client,.int .i64 o.price,.slice (some ⟨b,off,none⟩) o.steps.length c],.int .i64 1,.int .i64 x.1] u fun e w'=>e= .returned (.agg #[.int .i64 1,.int .i64 0,.int .i64 x.1,.int .i64 o.id,.int .i64 0,.int .i64 0,.int .i64 0])∧Below u.heap.size u w':=fun u=>msg_any o _ c 1 x.1 u
 go_enter Tryz.func211,Tryz.ntmps211
 go_wp2_with fail
 rw[←hV0]
 clear hV0
 have HS0:=hide HR.sz
 have nw1:¬w.heap.size=V0.heap.size:=by have:=HR.sz;omega
 have nw2:¬b=V0.heap.size:=by have:=World.block_lt_of_cell? _ _ h0;simp only at this;omega
 have nw3:¬V0.heap.size=w.heap.size:=fun e=>nw1 e.symm
 have nw4:¬V0.heap.size=b:=fun e=>nw2 e.symm
 go_region_held3(fun w'=>w'.cell? ⟨w.heap.size,0,none⟩=some (.int .i64 o.id)∧w'.cell? ⟨w.heap.size,1,none⟩=some (.int .i64 o.item)∧w'.cell? ⟨w.heap.size,2,none⟩=some (.int .i64 o.qty)∧w'.cell? ⟨w.heap.size,3,none⟩=some (.int .i64 o.client)∧w'.cell? ⟨w.heap.size,4,none⟩=some (.int .i64 o.price)∧w'.cell? ⟨w.heap.size,5,none⟩=some (.slice (some ⟨b,off,none⟩) o.steps.length c)∧w'.cell? ⟨b,off+i*2,none⟩=some (.int .i64 x.1)) (go_keep) (first
  |(go_at_call 236;with_reducible refine(MS V0.drew).mono ?_;rintro e u ⟨rfl,hb⟩;replace HR:=HR.drew.on hb;have hs:=HR.sz;clear d0 d1 d2 d3 d4 d5 z0 z1 z2 z3 z4 z5 z6 y0 y1 y2 y3 y4 y5 y6;obtain⟨⟨d0,d1,d2,d3,d4,d5⟩,⟨z0,z1,z2,z3,z4,z5,z6⟩,y0,y1,y2,y3,y4,y5,y6⟩:=HR.cells;obtain⟨h0,h1⟩:=HC.out u HR.bel)
  |(go_at_call 236;with_reducible refine(MS (V0.alloc (.cells #[.int .i64 0,.int .i64 0,.int .i64 0,.int .i64 0,.int .i64 0,.int .i64 0,.int .i64 0] 34)).drew).mono ?_;rintro e u ⟨rfl,hb⟩;have hM:=(hb.block V0.heap.size (by simp)).trans (at_drew (zI V0 (.cells #[.int .i64 0,.int .i64 0,.int .i64 0,.int .i64 0,.int .i64 0,.int .i64 0,.int .i64 0] 34)));replace HR:=(HR.alloc _).drew.on hb;have hs:=HR.sz;clear d0 d1 d2 d3 d4 d5 z0 z1 z2 z3 z4 z5 z6 y0 y1 y2 y3 y4 y5 y6;obtain⟨⟨d0,d1,d2,d3,d4,d5⟩,⟨z0,z1,z2,z3,z4,z5,z6⟩,y0,y1,y2,y3,y4,y5,y6⟩:=HR.cells;obtain⟨h0,h1⟩:=HC.out u HR.bel;obtain⟨⟨m0,m1,m2,m3,m4,m5,m6⟩,n0,n1,n2,n3,n4,n5,n6⟩:=seven_cells hM))
 all_goals go_wp2_with fail
 ·obtain⟨V,hV⟩:∃V,V=u.alloc (.cells #[.int .i64 1,.int .i64 0,.int .i64 x.1,.int .i64 o.id,.int .i64 0,.int .i64 0,.int .i64 0] 34):=⟨_,rfl⟩
  obtain⟨M,hMe⟩:∃M,M=u.heap.size:=⟨_,rfl⟩
  have hM:V.heap[M]?=some (.cells #[.int .i64 1,.int .i64 0,.int .i64 x.1,.int .i64 o.id,.int .i64 0,.int .i64 0,.int .i64 0] 34 (0,0)):=by rw[hV,hMe];exact zI u _
  have hbm:¬b=M:=by have:=World.block_lt_of_cell? _ _ h0;simp only at this;omega
  have GM:Hid (w.heap.size≤M):=by show _≤_;omega
  have NM:Hid (M≠w.heap.size∧M≠w.heap.size+1):=by show _∧_;omega
  replace HR:=HR.on (v:=V) (by rw[hV];exact(zF _ _).alloc (zD _) _);rw[←hV,←hMe];clear hV hMe hb hs h0 h1;clear d0 d1 d2 d3 d4 d5 z0 z1 z2 z3 z4 z5 z6 y0 y1 y2 y3 y4 y5 y6;clear nw1 nw2 nw3 nw4 HS0;obtain⟨h0,h1⟩:=HC.out V HR.bel;obtain⟨⟨m0,m1,m2,m3,m4,m5,m6⟩,n0,n1,n2,n3,n4,n5,n6⟩:=seven_cells hM;obtain⟨⟨d0,d1,d2,d3,d4,d5⟩,⟨z0,z1,z2,z3,z4,z5,z6⟩,y0,y1,y2,y3,y4,y5,y6⟩:=HR.cells;have nM1:=NM.out.1
  have nM2:=NM.out.2
  have nM3:=NM.out.1.symm
  have nM4:=NM.out.2.symm
  have hmb:¬M=b:=fun e=>hbm e.symm
  have HE:=hide ((HR.two (i:=4) (j:=5) GM.out NM.out (.int .i64 (i:Int)) (.int .i64 x.2)))
  go_region
  go_wp2
  obtain⟨F1,F2⟩:=fill7 HE.out.rb (B:=w.heap.size) (by omega) (.int .i64 1) (.int .i64 0) (.int .i64 x.1) (.int .i64 o.id) (.int .i64 (i:Int)) (.int .i64 x.2) (.int .i64 0);refine bodyPost_ret (v:= .agg #[.int .i64 1,.int .i64 0,.int .i64 x.1,.int .i64 o.id,.int .i64 (i:Int),.int .i64 x.2,.int .i64 0]) ?_ rfl ?_
  ·exact results_cell_row Tryz.results211 _ _ (w.heap.size+1) 34 _ (0,0) _ rfl (at_drew F1) Tryz.underlying34 rfl (by kernel_rfl)
  exact⟨rfl,(HE.out.bel.trans F2).drew⟩
 ·obtain⟨F1,F2⟩:=fill7 hM (B:=V0.heap.size) (zD _) (.int .i64 1) (.int .i64 0) (.int .i64 x.1) (.int .i64 o.id) (.int .i64 0) (.int .i64 0) (.int .i64 0);have hsz:=HS0.out
  replace HR:=HR.onB hsz F2;clear F2 hM m0 m1 m2 m3 m4 m5 m6 n0 n1 n2 n3 n4 n5 n6;obtain⟨V,hV⟩:∃V,V=(((((((u.setCell ⟨V0.heap.size,0,none⟩ (.int .i64 1)).setCell ⟨V0.heap.size,1,none⟩ (.int .i64 0)).setCell ⟨V0.heap.size,2,none⟩ (.int .i64 x.1)).setCell ⟨V0.heap.size,3,none⟩ (.int .i64 o.id)).setCell ⟨V0.heap.size,4,none⟩ (.int .i64 0)).setCell ⟨V0.heap.size,5,none⟩ (.int .i64 0)).setCell ⟨V0.heap.size,6,none⟩ (.int .i64 0)):=⟨_,rfl⟩
  rw[←hV]at F1 HR ⊢;obtain⟨M,hMe⟩:∃M,M=V0.heap.size:=⟨_,rfl⟩
  have hM:=F1
  rw[←hMe]at hM ⊢;have hbm:¬b=M:=by rw[hMe];exact nw2
  have GM:Hid (w.heap.size≤M):=by show _≤_;omega
  have NM:Hid (M≠w.heap.size∧M≠w.heap.size+1):=by show _∧_;omega
  clear hV hMe hb hs h0 h1 F1 hsz;clear d0 d1 d2 d3 d4 d5 z0 z1 z2 z3 z4 z5 z6 y0 y1 y2 y3 y4 y5 y6;clear nw1 nw2 nw3 nw4 HS0;obtain⟨h0,h1⟩:=HC.out V HR.bel;obtain⟨⟨m0,m1,m2,m3,m4,m5,m6⟩,n0,n1,n2,n3,n4,n5,n6⟩:=seven_cells hM;obtain⟨⟨d0,d1,d2,d3,d4,d5⟩,⟨z0,z1,z2,z3,z4,z5,z6⟩,y0,y1,y2,y3,y4,y5,y6⟩:=HR.cells;have nM1:=NM.out.1
  have nM2:=NM.out.2
  have nM3:=NM.out.1.symm
  have nM4:=NM.out.2.symm
  have hmb:¬M=b:=fun e=>hbm e.symm
  have HE:=hide ((HR.two (i:=4) (j:=5) GM.out NM.out (.int .i64 (i:Int)) (.int .i64 x.2)))
  go_region
  go_wp2
  obtain⟨F1,F2⟩:=fill7 HE.out.rb (B:=w.heap.size) (by omega) (.int .i64 1) (.int .i64 0) (.int .i64 x.1) (.int .i64 o.id) (.int .i64 (i:Int)) (.int .i64 x.2) (.int .i64 0);refine bodyPost_ret (v:= .agg #[.int .i64 1,.int .i64 0,.int .i64 x.1,.int .i64 o.id,.int .i64 (i:Int),.int .i64 x.2,.int .i64 0]) ?_ rfl ?_
  ·exact results_cell_row Tryz.results211 _ _ (w.heap.size+1) 34 _ (0,0) _ rfl (at_drew F1) Tryz.underlying34 rfl (by kernel_rfl)
  exact⟨rfl,(HE.out.bel.trans F2).drew⟩
end Go.Proofs.YthfgmpooehkhgaaGreatDoor.Sg
