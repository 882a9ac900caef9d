import Derived.Test.YthfgmpooehkhgaaGreatDoorSmagpinf
namespace Go.Proofs.YthfgmpooehkhgaaGreatDoor
open Go.ChangeShapes Go.WideShapes Go.ChangeAt Go.RowKit Go.Maps Sg Bl
open Nat renaming le_refl→zD
open Rg.Kept renaming of_below→zE
open Below renaming refl→zF
open Go.World renaming alloc_heap_new→zI
open List renaming eq_nil_of_length_eq_zero→zL
def Fbx(W0 W:World)(g m:Nat)(o:Od)(f:Fa)(sa:Option Addr)(sc:Nat)(da:Option Addr)(dc:Nat)(ua:Option Addr)(uc:Nat):Prop:=
 W.heap[g]?=some (.cells #[.int .i64 o.id,.int .i64 o.item,.int .i64 o.qty,.int .i64 o.client,.int .i64 o.price,.slice sa o.steps.length sc] 32 (0,0))∧W.heap[m]?=some (.cells #[.slice da f.dn.length dc,.slice ua f.un.length uc,.bool f.asked,.bool f.yes,.bool f.turned,.bool f.k0,.bool f.k1,.bool f.ship,.bool f.d0,.bool f.d1,.bool f.acc] 68 (0,0))∧g≠m∧W0.heap.size≤g∧W0.heap.size≤m∧Below W0.heap.size W0 W
theorem fbx_ab(W:World)(o:Od)(f:Fa)(sa:Option Addr)(sc:Nat)(da:Option Addr)(dc:Nat)(ua:Option Addr)(uc:Nat):Fbx W ((W.alloc (.cells #[.int .i64 o.id,.int .i64 o.item,.int .i64 o.qty,.int .i64 o.client,.int .i64 o.price,.slice sa o.steps.length sc] 32)).alloc (.cells #[.slice da f.dn.length dc,.slice ua f.un.length uc,.bool f.asked,.bool f.yes,.bool f.turned,.bool f.k0,.bool f.k1,.bool f.ship,.bool f.d0,.bool f.d1,.bool f.acc] 68)).drew W.heap.size (W.heap.size+1) o f sa sc da dc ua uc:=by
 refine⟨?_,?_,by omega,zD _,by omega,(((zF _ _).alloc (zD _) _).alloc (by simp) _).drew⟩
 ·show(((W.heap.push _).push _))[W.heap.size]?=_
  rw[Array.getElem?_push_lt (by simp),Array.getElem_push_eq]
 ·have h:=zI (W.alloc (.cells #[.int .i64 o.id,.int .i64 o.item,.int .i64 o.qty,.int .i64 o.client,.int .i64 o.price,.slice sa o.steps.length sc] 32)) (.cells #[.slice da f.dn.length dc,.slice ua f.un.length uc,.bool f.asked,.bool f.yes,.bool f.turned,.bool f.k0,.bool f.k1,.bool f.ship,.bool f.d0,.bool f.d1,.bool f.acc] 68)
  rw[World.size_alloc]at h;exact h
theorem fbx_ba(W:World)(o:Od)(f:Fa)(sa:Option Addr)(sc:Nat)(da:Option Addr)(dc:Nat)(ua:Option Addr)(uc:Nat):Fbx W ((W.alloc (.cells #[.slice da f.dn.length dc,.slice ua f.un.length uc,.bool f.asked,.bool f.yes,.bool f.turned,.bool f.k0,.bool f.k1,.bool f.ship,.bool f.d0,.bool f.d1,.bool f.acc] 68)).alloc (.cells #[.int .i64 o.id,.int .i64 o.item,.int .i64 o.qty,.int .i64 o.client,.int .i64 o.price,.slice sa o.steps.length sc] 32)).drew (W.heap.size+1) W.heap.size o f sa sc da dc ua uc:=by
 refine⟨?_,?_,by omega,by omega,zD _,(((zF _ _).alloc (zD _) _).alloc (by simp) _).drew⟩
 ·have h:=zI (W.alloc (.cells #[.slice da f.dn.length dc,.slice ua f.un.length uc,.bool f.asked,.bool f.yes,.bool f.turned,.bool f.k0,.bool f.k1,.bool f.ship,.bool f.d0,.bool f.d1,.bool f.acc] 68)) (.cells #[.int .i64 o.id,.int .i64 o.item,.int .i64 o.qty,.int .i64 o.client,.int .i64 o.price,.slice sa o.steps.length sc] 32)
  rw[World.size_alloc]at h;exact h
 ·show(((W.heap.push _).push _))[W.heap.size]?=_
  rw[Array.getElem?_push_lt (by simp),Array.getElem_push_eq]
def Norm_(F:Act→World→Prop):Exit→Act→World→Prop
 | .normal,a,w=>F a w
 |_,_,_=>False
theorem region_norm{P:Program}{id:Nat}{ops:Array Oper}{Q:Exit→Act→World→Prop}{a:Act}{w:World}{b:Bool}(Fin:Act→World→Prop)(h1:(Code.region id ops b).wp P (Norm_ Fin) a w)(h2:∀a' w',Fin a' w'→Q .normal a' w'):(Code.region id ops b).wp P Q a w:=
 Code.wp_mono (fun e a' w' h=>by cases e<;>first|exact h2 a' w' h|exact(h:False).elim) h1
def RowF(N:Nat)(W:World)(g m:Nat)(e:TypeId)(s:Nat)(a:Option Addr)(n c:Nat)(xs:List Value):Prop:=(∃B,W.ownsRow B e s (.slice a n c) n xs)∧∀x,a=some x→x.block≠g∧x.block≠m∧N≤x.block
theorem RowF.kept{N:Nat}{W W':World}{g m:Nat}{e:TypeId}{s:Nat}{a:Option Addr}{n c:Nat}{xs:List Value}(h:RowF N W g m e s a n c xs)(hk:Rg.Kept (fun i _=>i=g∨i=m) W W'):RowF N W' g m e s a n c xs:=by
 obtain⟨⟨B,h1⟩,h2⟩:=h
 refine⟨⟨B,own_keptR h1 hk (fun k _ e=>?_)⟩,h2⟩
 obtain⟨x,e3,rfl⟩:=own_some e
 exact fun e4=>e4.elim (h2 x e3).1 (h2 x e3).2.1
theorem RowF.on{N:Nat}{W W':World}{g m:Nat}{e:TypeId}{s:Nat}{a:Option Addr}{n c:Nat}{xs:List Value}(h:RowF N W g m e s a n c xs)(hb:Below W.heap.size W W'):RowF N W' g m e s a n c xs:=h.kept (zE hb)
theorem rowF_new{N:Nat}{W W':World}{g m:Nat}{e:TypeId}{s:Nat}{a:Option Addr}{n c:Nat}{xs:List Value}(h:W'.ownsRow W.heap.size e s (.slice a n c) n xs)(hg:g<W.heap.size)(hm:m<W.heap.size)(hN:N≤W.heap.size):RowF N W' g m e s a n c xs:=
 ⟨⟨_,h⟩,fun x e=>by
   have h2:=(h.lt x.block (by rw[e];rfl)).1
   omega⟩
theorem RowF.last{N:Nat}{W W':World}{g m:Nat}{e:TypeId}{s:Nat}{a:Option Addr}{n c:Nat}{xs:List Value}(h:RowF N W g m e s a n c xs){b:Nat}(hk:Rg.Kept (fun i _=>i=b∨i=b+1) W W')(hb:b+1<N):∃B,W'.ownsRow B e s (.slice a n c) n xs:=by
 obtain⟨⟨B,h1⟩,h2⟩:=h
 refine⟨B,own_keptR h1 hk (fun k _ e=>?_)⟩
 obtain⟨x,e3,rfl⟩:=own_some e
 have:=(h2 x e3).2.2
 exact fun e4=>by omega
section
variable {W0 V V':World}{g m:Nat}{o:Od}{f:Fa}{sa sa':Option Addr}{sc sc':Nat}{da da':Option Addr}{dc dc':Nat}{ua ua':Option Addr}{uc uc':Nat}
theorem Fbx.lt(h:Fbx W0 V g m o f sa sc da dc ua uc):g<V.heap.size∧m<V.heap.size:=⟨(Array.getElem?_eq_some_iff.1 h.1).1,(Array.getElem?_eq_some_iff.1 h.2.1).1⟩
theorem Fbx.on(h:Fbx W0 V g m o f sa sc da dc ua uc)(hb:Below V.heap.size V V'):Fbx W0 V' g m o f sa sc da dc ua uc:=
 ⟨Sg.keepB h.1 hb,Sg.keepB h.2.1 hb,h.2.2.1,h.2.2.2.1,h.2.2.2.2.1,h.2.2.2.2.2.trans (hb.mono h.2.2.2.2.2.size)⟩
theorem Fbx.set5(h:Fbx W0 V g m o f sa sc da dc ua uc):Fbx W0 (V.setCell ⟨g,5,none⟩ (.slice sa' o.steps.length sc')) g m o f sa' sc' da dc ua uc∧Rg.Kept (fun i _=>i=g∨i=m) V (V.setCell ⟨g,5,none⟩ (.slice sa' o.steps.length sc')):=by
 obtain⟨h1,h2,h3,h4,h5,h6⟩:=h
 have hk:Rg.Kept (fun i _=>i=g) V (V.setCell ⟨g,5,none⟩ (.slice sa' o.steps.length sc')):=kept_set V g 5 _
 refine⟨⟨?_,hk.block _ _ h2 (fun e=>h3 e.symm),h3,h4,h5,h6.trans (hk.bel h6.size (fun i _ e=>by omega))⟩,hk.mono (fun _ _ e=> .inl e)⟩
 rw[heap_setCell_same _ _ _ _ _ _ h1]
 rfl
theorem Fbx.set01(h:Fbx W0 V g m o f sa sc da dc ua uc):Fbx W0 ((V.setCell ⟨m,0,none⟩ (.slice da' f.dn.length dc')).setCell ⟨m,1,none⟩ (.slice ua' f.un.length uc')) g m o f sa sc da' dc' ua' uc'∧Rg.Kept (fun i _=>i=g∨i=m) V ((V.setCell ⟨m,0,none⟩ (.slice da' f.dn.length dc')).setCell ⟨m,1,none⟩ (.slice ua' f.un.length uc')):=by
 obtain⟨h1,h2,h3,h4,h5,h6⟩:=h
 have hk:Rg.Kept (fun i _=>i=m) V ((V.setCell ⟨m,0,none⟩ (.slice da' f.dn.length dc')).setCell ⟨m,1,none⟩ (.slice ua' f.un.length uc')):=(kept_set V m 0 _).trans (kept_set _ m 1 _)
 refine⟨⟨hk.block _ _ h1 h3,?_,h3,h4,h5,h6.trans (hk.bel h6.size (fun i _ e=>by omega))⟩,hk.mono (fun _ _ e=> .inr e)⟩
 have e1:(V.setCell ⟨m,0,none⟩ (.slice da' f.dn.length dc')).heap[m]?=some (.cells ((#[.slice da f.dn.length dc,.slice ua f.un.length uc,.bool f.asked,.bool f.yes,.bool f.turned,.bool f.k0,.bool f.k1,.bool f.ship,.bool f.d0,.bool f.d1,.bool f.acc]:Array Value).setIfInBounds 0 (.slice da' f.dn.length dc')) 68 (0,0)):=by rw[heap_setCell_same _ _ _ _ _ _ h2]
 rw[heap_setCell_same _ _ _ _ _ _ e1]
 rfl
theorem Fbx.m01(h:Fbx W0 V g m o f sa sc da dc ua uc):V.cell? ⟨m,0,none⟩=some (.slice da f.dn.length dc)∧V.cell? ⟨m,1,none⟩=some (.slice ua f.un.length uc)∧V.frozen? ⟨m,0,none⟩=false∧V.frozen? ⟨m,1,none⟩=false:=by
 refine⟨?_,?_,frozen_of_row _ _ _ _ _ h.2.1,frozen_of_row _ _ _ _ _ h.2.1⟩<;>rw[cell_of h.2.1]<;>rfl
end
theorem set_row6{V:World}{b:Nat}{t:TypeId}{x0 x1 x2 x3 x4 x5:Value}(h:V.heap[b]?=some (.cells #[x0,x1,x2,x3,x4,x5] t (0,0)))(y0 y1 y2 y3 y4 y5:Value):
 ((((((V.setCell ⟨b,0,none⟩ y0).setCell ⟨b,1,none⟩ y1).setCell ⟨b,2,none⟩ y2).setCell ⟨b,3,none⟩ y3).setCell ⟨b,4,none⟩ y4).setCell ⟨b,5,none⟩ y5).heap[b]?=some (.cells #[y0,y1,y2,y3,y4,y5] t (0,0))∧Rg.Kept (fun i _=>i=b) V ((((((V.setCell ⟨b,0,none⟩ y0).setCell ⟨b,1,none⟩ y1).setCell ⟨b,2,none⟩ y2).setCell ⟨b,3,none⟩ y3).setCell ⟨b,4,none⟩ y4).setCell ⟨b,5,none⟩ y5):=by
 refine⟨?_,((((((kept_set _ b 0 _).trans (kept_set _ b 1 _)).trans (kept_set _ b 2 _)).trans (kept_set _ b 3 _)).trans (kept_set _ b 4 _)).trans (kept_set _ b 5 _))⟩
 have h0:(V.setCell ⟨b,0,none⟩ y0).heap[b]?=some (.cells #[y0,x1,x2,x3,x4,x5] t (0,0)):=by rw[heap_setCell_same _ _ _ _ _ _ h];rfl
 have h1:((V.setCell ⟨b,0,none⟩ y0).setCell ⟨b,1,none⟩ y1).heap[b]?=some (.cells #[y0,y1,x2,x3,x4,x5] t (0,0)):=by rw[heap_setCell_same _ _ _ _ _ _ h0];rfl
 have h2:(((V.setCell ⟨b,0,none⟩ y0).setCell ⟨b,1,none⟩ y1).setCell ⟨b,2,none⟩ y2).heap[b]?=some (.cells #[y0,y1,y2,x3,x4,x5] t (0,0)):=by rw[heap_setCell_same _ _ _ _ _ _ h1];rfl
 have h3:((((V.setCell ⟨b,0,none⟩ y0).setCell ⟨b,1,none⟩ y1).setCell ⟨b,2,none⟩ y2).setCell ⟨b,3,none⟩ y3).heap[b]?=some (.cells #[y0,y1,y2,y3,x4,x5] t (0,0)):=by rw[heap_setCell_same _ _ _ _ _ _ h2];rfl
 have h4:(((((V.setCell ⟨b,0,none⟩ y0).setCell ⟨b,1,none⟩ y1).setCell ⟨b,2,none⟩ y2).setCell ⟨b,3,none⟩ y3).setCell ⟨b,4,none⟩ y4).heap[b]?=some (.cells #[y0,y1,y2,y3,y4,x5] t (0,0)):=by rw[heap_setCell_same _ _ _ _ _ _ h3];rfl
 have h5:((((((V.setCell ⟨b,0,none⟩ y0).setCell ⟨b,1,none⟩ y1).setCell ⟨b,2,none⟩ y2).setCell ⟨b,3,none⟩ y3).setCell ⟨b,4,none⟩ y4).setCell ⟨b,5,none⟩ y5).heap[b]?=some (.cells #[y0,y1,y2,y3,y4,y5] t (0,0)):=by rw[heap_setCell_same _ _ _ _ _ _ h4];rfl
 exact h5
theorem set_row11{V:World}{b:Nat}{t:TypeId}{x0 x1 x2 x3 x4 x5 x6 x7 x8 x9 x10:Value}(h:V.heap[b]?=some (.cells #[x0,x1,x2,x3,x4,x5,x6,x7,x8,x9,x10] t (0,0)))(y0 y1 y2 y3 y4 y5 y6 y7 y8 y9 y10:Value):
 (((((((((((V.setCell ⟨b,0,none⟩ y0).setCell ⟨b,1,none⟩ y1).setCell ⟨b,2,none⟩ y2).setCell ⟨b,3,none⟩ y3).setCell ⟨b,4,none⟩ y4).setCell ⟨b,5,none⟩ y5).setCell ⟨b,6,none⟩ y6).setCell ⟨b,7,none⟩ y7).setCell ⟨b,8,none⟩ y8).setCell ⟨b,9,none⟩ y9).setCell ⟨b,10,none⟩ y10).heap[b]?=some (.cells #[y0,y1,y2,y3,y4,y5,y6,y7,y8,y9,y10] t (0,0))∧Rg.Kept (fun i _=>i=b) V (((((((((((V.setCell ⟨b,0,none⟩ y0).setCell ⟨b,1,none⟩ y1).setCell ⟨b,2,none⟩ y2).setCell ⟨b,3,none⟩ y3).setCell ⟨b,4,none⟩ y4).setCell ⟨b,5,none⟩ y5).setCell ⟨b,6,none⟩ y6).setCell ⟨b,7,none⟩ y7).setCell ⟨b,8,none⟩ y8).setCell ⟨b,9,none⟩ y9).setCell ⟨b,10,none⟩ y10):=by
 refine⟨?_,(((((((((((kept_set _ b 0 _).trans (kept_set _ b 1 _)).trans (kept_set _ b 2 _)).trans (kept_set _ b 3 _)).trans (kept_set _ b 4 _)).trans (kept_set _ b 5 _)).trans (kept_set _ b 6 _)).trans (kept_set _ b 7 _)).trans (kept_set _ b 8 _)).trans (kept_set _ b 9 _)).trans (kept_set _ b 10 _))⟩
 have h0:(V.setCell ⟨b,0,none⟩ y0).heap[b]?=some (.cells #[y0,x1,x2,x3,x4,x5,x6,x7,x8,x9,x10] t (0,0)):=by rw[heap_setCell_same _ _ _ _ _ _ h];rfl
 have h1:((V.setCell ⟨b,0,none⟩ y0).setCell ⟨b,1,none⟩ y1).heap[b]?=some (.cells #[y0,y1,x2,x3,x4,x5,x6,x7,x8,x9,x10] t (0,0)):=by rw[heap_setCell_same _ _ _ _ _ _ h0];rfl
 have h2:(((V.setCell ⟨b,0,none⟩ y0).setCell ⟨b,1,none⟩ y1).setCell ⟨b,2,none⟩ y2).heap[b]?=some (.cells #[y0,y1,y2,x3,x4,x5,x6,x7,x8,x9,x10] t (0,0)):=by rw[heap_setCell_same _ _ _ _ _ _ h1];rfl
 have h3:((((V.setCell ⟨b,0,none⟩ y0).setCell ⟨b,1,none⟩ y1).setCell ⟨b,2,none⟩ y2).setCell ⟨b,3,none⟩ y3).heap[b]?=some (.cells #[y0,y1,y2,y3,x4,x5,x6,x7,x8,x9,x10] t (0,0)):=by rw[heap_setCell_same _ _ _ _ _ _ h2];rfl
 have h4:(((((V.setCell ⟨b,0,none⟩ y0).setCell ⟨b,1,none⟩ y1).setCell ⟨b,2,none⟩ y2).setCell ⟨b,3,none⟩ y3).setCell ⟨b,4,none⟩ y4).heap[b]?=some (.cells #[y0,y1,y2,y3,y4,x5,x6,x7,x8,x9,x10] t (0,0)):=by rw[heap_setCell_same _ _ _ _ _ _ h3];rfl
 have h5:((((((V.setCell ⟨b,0,none⟩ y0).setCell ⟨b,1,none⟩ y1).setCell ⟨b,2,none⟩ y2).setCell ⟨b,3,none⟩ y3).setCell ⟨b,4,none⟩ y4).setCell ⟨b,5,none⟩ y5).heap[b]?=some (.cells #[y0,y1,y2,y3,y4,y5,x6,x7,x8,x9,x10] t (0,0)):=by rw[heap_setCell_same _ _ _ _ _ _ h4];rfl
 have h6:(((((((V.setCell ⟨b,0,none⟩ y0).setCell ⟨b,1,none⟩ y1).setCell ⟨b,2,none⟩ y2).setCell ⟨b,3,none⟩ y3).setCell ⟨b,4,none⟩ y4).setCell ⟨b,5,none⟩ y5).setCell ⟨b,6,none⟩ y6).heap[b]?=some (.cells #[y0,y1,y2,y3,y4,y5,y6,x7,x8,x9,x10] t (0,0)):=by rw[heap_setCell_same _ _ _ _ _ _ h5];rfl
 have h7:((((((((V.setCell ⟨b,0,none⟩ y0).setCell ⟨b,1,none⟩ y1).setCell ⟨b,2,none⟩ y2).setCell ⟨b,3,none⟩ y3).setCell ⟨b,4,none⟩ y4).setCell ⟨b,5,none⟩ y5).setCell ⟨b,6,none⟩ y6).setCell ⟨b,7,none⟩ y7).heap[b]?=some (.cells #[y0,y1,y2,y3,y4,y5,y6,y7,x8,x9,x10] t (0,0)):=by rw[heap_setCell_same _ _ _ _ _ _ h6];rfl
 have h8:(((((((((V.setCell ⟨b,0,none⟩ y0).setCell ⟨b,1,none⟩ y1).setCell ⟨b,2,none⟩ y2).setCell ⟨b,3,none⟩ y3).setCell ⟨b,4,none⟩ y4).setCell ⟨b,5,none⟩ y5).setCell ⟨b,6,none⟩ y6).setCell ⟨b,7,none⟩ y7).setCell ⟨b,8,none⟩ y8).heap[b]?=some (.cells #[y0,y1,y2,y3,y4,y5,y6,y7,y8,x9,x10] t (0,0)):=by rw[heap_setCell_same _ _ _ _ _ _ h7];rfl
 have h9:((((((((((V.setCell ⟨b,0,none⟩ y0).setCell ⟨b,1,none⟩ y1).setCell ⟨b,2,none⟩ y2).setCell ⟨b,3,none⟩ y3).setCell ⟨b,4,none⟩ y4).setCell ⟨b,5,none⟩ y5).setCell ⟨b,6,none⟩ y6).setCell ⟨b,7,none⟩ y7).setCell ⟨b,8,none⟩ y8).setCell ⟨b,9,none⟩ y9).heap[b]?=some (.cells #[y0,y1,y2,y3,y4,y5,y6,y7,y8,y9,x10] t (0,0)):=by rw[heap_setCell_same _ _ _ _ _ _ h8];rfl
 have h10:(((((((((((V.setCell ⟨b,0,none⟩ y0).setCell ⟨b,1,none⟩ y1).setCell ⟨b,2,none⟩ y2).setCell ⟨b,3,none⟩ y3).setCell ⟨b,4,none⟩ y4).setCell ⟨b,5,none⟩ y5).setCell ⟨b,6,none⟩ y6).setCell ⟨b,7,none⟩ y7).setCell ⟨b,8,none⟩ y8).setCell ⟨b,9,none⟩ y9).setCell ⟨b,10,none⟩ y10).heap[b]?=some (.cells #[y0,y1,y2,y3,y4,y5,y6,y7,y8,y9,y10] t (0,0)):=by rw[heap_setCell_same _ _ _ _ _ _ h9];rfl
 exact h10
theorem fill_at{V:World}{b b2:Nat}{t t2:TypeId}{x0 x1 x2 x3 x4 x5 y0 y1 y2 y3 y4 y5 y6 y7 y8 y9 y10:Value}(h:V.heap[b]?=some (.cells #[x0,x1,x2,x3,x4,x5] t (0,0)))(h2:V.heap[b2]?=some (.cells #[y0,y1,y2,y3,y4,y5,y6,y7,y8,y9,y10] t2 (0,0)))(hne:b≠b2)
 (o:Od) (f:Fa) (sa:Option Addr) (sc:Nat) (da:Option Addr) (dc:Nat) (ua:Option Addr) (uc:Nat):
 ∃X:World,X=(((((((((((((((((V.setCell ⟨b,0,none⟩ (.int .i64 o.id)).setCell ⟨b,1,none⟩ (.int .i64 o.item)).setCell ⟨b,2,none⟩ (.int .i64 o.qty)).setCell ⟨b,3,none⟩ (.int .i64 o.client)).setCell ⟨b,4,none⟩ (.int .i64 o.price)).setCell ⟨b,5,none⟩ (.slice sa o.steps.length sc)).setCell ⟨b2,0,none⟩ (.slice da f.dn.length dc)).setCell ⟨b2,1,none⟩ (.slice ua f.un.length uc)).setCell ⟨b2,2,none⟩ (.bool f.asked)).setCell ⟨b2,3,none⟩ (.bool f.yes)).setCell ⟨b2,4,none⟩ (.bool f.turned)).setCell ⟨b2,5,none⟩ (.bool f.k0)).setCell ⟨b2,6,none⟩ (.bool f.k1)).setCell ⟨b2,7,none⟩ (.bool f.ship)).setCell ⟨b2,8,none⟩ (.bool f.d0)).setCell ⟨b2,9,none⟩ (.bool f.d1)).setCell ⟨b2,10,none⟩ (.bool f.acc)).drew ∧X.heap[b]?=some (.cells #[.int .i64 o.id,.int .i64 o.item,.int .i64 o.qty,.int .i64 o.client,.int .i64 o.price,.slice sa o.steps.length sc] t (0,0))∧X.heap[b2]?=some (.cells #[.slice da f.dn.length dc,.slice ua f.un.length uc,.bool f.asked,.bool f.yes,.bool f.turned,.bool f.k0,.bool f.k1,.bool f.ship,.bool f.d0,.bool f.d1,.bool f.acc] t2 (0,0))∧Rg.Kept (fun i _=>i=b∨i=b2) V X:=by
 obtain⟨p1,k1⟩:=set_row6 h (.int .i64 o.id) (.int .i64 o.item) (.int .i64 o.qty) (.int .i64 o.client) (.int .i64 o.price) (.slice sa o.steps.length sc)
 have h2':=k1.block _ _ h2 hne.symm
 obtain⟨p2,k2⟩:=set_row11 h2' (.slice da f.dn.length dc) (.slice ua f.un.length uc) (.bool f.asked) (.bool f.yes) (.bool f.turned) (.bool f.k0) (.bool f.k1) (.bool f.ship) (.bool f.d0) (.bool f.d1) (.bool f.acc)
 have p1':=k2.block _ _ p1 hne
 have k3:=(k1.mono (F:=fun i _=>i=b∨i=b2) (fun _ _ e=> .inl e)).trans (k2.mono (fun _ _ e=> .inr e))
 generalize (((((((((((((((((V.setCell ⟨b,0,none⟩ (.int .i64 o.id)).setCell ⟨b,1,none⟩ (.int .i64 o.item)).setCell ⟨b,2,none⟩ (.int .i64 o.qty)).setCell ⟨b,3,none⟩ (.int .i64 o.client)).setCell ⟨b,4,none⟩ (.int .i64 o.price)).setCell ⟨b,5,none⟩ (.slice sa o.steps.length sc)).setCell ⟨b2,0,none⟩ (.slice da f.dn.length dc)).setCell ⟨b2,1,none⟩ (.slice ua f.un.length uc)).setCell ⟨b2,2,none⟩ (.bool f.asked)).setCell ⟨b2,3,none⟩ (.bool f.yes)).setCell ⟨b2,4,none⟩ (.bool f.turned)).setCell ⟨b2,5,none⟩ (.bool f.k0)).setCell ⟨b2,6,none⟩ (.bool f.k1)).setCell ⟨b2,7,none⟩ (.bool f.ship)).setCell ⟨b2,8,none⟩ (.bool f.d0)).setCell ⟨b2,9,none⟩ (.bool f.d1)).setCell ⟨b2,10,none⟩ (.bool f.acc))=Y at *
 exact⟨Y.drew,rfl,p1',p2,k3.trans (zE (zF _ _).drew)⟩
theorem results_cells_tmp{P:Program}{fn:Func}{p q u:Tmp}{ty ty2:TypeId}(h:fn.results= #[.cell p ty,.cell q ty2,.tmp u])(tmps:Array Value)(w:World)(g g2:Nat)(t t2:TypeId)(cs cs2:Array Value)(fr fr2:Nat×Nat)(d d2:TypeDesc)(x:Value)
 (hp:tmps.getD p undef= .pointer (some ⟨g,0,none⟩)) (hq:tmps.getD q undef= .pointer (some ⟨g2,0,none⟩)) (hx:tmps.getD u undef=x) (hg:w.heap[g]?=some (.cells cs t fr)) (hg2:w.heap[g2]?=some (.cells cs2 t2 fr2))
 (hu:P.underlying ty=some d) (hd:(match d with| .struct _| .array _ _=>true|_=>false)=true) (hi:(P.info? ty).map (·.size)=some cs.size)
 (hu2:P.underlying ty2=some d2) (hd2:(match d2 with| .struct _| .array _ _=>true|_=>false)=true) (hi2:(P.info? ty2).map (·.size)=some cs2.size):
 (results fn tmps).run P w= .ok (.tuple #[.agg cs,.agg cs2,x]) w:=by
 have hp':tmps[p]?.getD undef= .pointer (some ⟨g,0,none⟩):=by simpa using hp
 have hq':tmps[q]?.getD undef= .pointer (some ⟨g2,0,none⟩):=by simpa using hq
 have hx':tmps[u]?.getD undef=x:=by simpa using hx
 simp[results,h,hp',hq',hx',asAddr,run_loadVar_row w g t ty cs fr d hg hu hd hi,run_loadVar_row w g2 t2 ty2 cs2 fr2 d2 hg2 hu2 hd2 hi2]
section
variable {B:Nat}{O:Pt→Nat→Prop}{w:World}{p:Nat}{v:Ch}{q:Nat}{r:Value}{b bt:Nat}{loc:Int→Option Nat}{Lq:List ByteArray}
set_option maxHeartbeats 2000000 in
set_option maxRecDepth 100000 in
theorem CkV.facts(k:CkV B O w p v q r b bt loc Lq){id:Int}(hw:(Lit.int .i64 id).wf =true){l:Lk}(hl:v.L id=some l)(hm:GoodL id l):
 Calls Tryz.prog 33 #[.pointer (some ⟨p,0,none⟩),.int .i64 id] w fun e w'=>(∃sa sc da dc ua uc,e= .returned (.tuple #[.agg #[.int .i64 l.o.id,.int .i64 l.o.item,.int .i64 l.o.qty,.int .i64 l.o.client,.int .i64 l.o.price,.slice sa l.o.steps.length sc],.agg #[.slice da l.f.dn.length dc,.slice ua l.f.un.length uc,.bool l.f.asked,.bool l.f.yes,.bool l.f.turned,.bool l.f.k0,.bool l.f.k1,.bool l.f.ship,.bool l.f.d0,.bool l.f.d1,.bool l.f.acc],.bool true])∧Sts w' sa l.o.steps∧FaIn w' l.f da dc ua uc)∧Below w.heap.size w w':=by
 obtain⟨a,h2,sa,sc,da,dc,ua,uc,tp,kl⟩:=k.ld id l hl
 obtain⟨W,hW⟩:∃W,W=(w.alloc (.cells #[.int .i64 0,.int .i64 0,.int .i64 0,.int .i64 0,.int .i64 0,.slice none 0 0] 32)).alloc (.cells #[.slice none 0 0,.slice none 0 0,.bool false,.bool false,.bool false,.bool false,.bool false,.bool false,.bool false,.bool false,.bool false] 68):=⟨_,rfl⟩
 have hbW:Below w.heap.size w W:=by rw[hW];exact((zF _ _).alloc (zD _) _).alloc (by simp) _
 have kW:=k.on hbW
 have klW:=kl.on hbW
 have hL:=kW.look hw
 obtain⟨-,-,-,c3,-⟩:=kW.cell3
 rw[h2,show ptV (some a)=Value.pointer (some ⟨a,0,none⟩)from rfl]at hL
 rw[hW]at hL c3
 have HF:Hid (∀u,Below W.heap.size W u→Below W.heap.size W u∧u.cell? ⟨p,3,none⟩=some (.map (some b))∧(Instr.lookup 92 (.map (some b)) (.int .i64 id) false).run Tryz.prog u= .ok (.pointer (some ⟨a,0,none⟩)) u∧
  u.cell? ⟨a,0,none⟩=some (.int .i64 l.o.id)∧u.cell? ⟨a,1,none⟩=some (.int .i64 l.o.item)∧u.cell? ⟨a,2,none⟩=some (.int .i64 l.o.qty)∧u.cell? ⟨a,3,none⟩=some (.int .i64 l.o.client)∧u.cell? ⟨a,4,none⟩=some (.int .i64 l.o.price)∧u.cell? ⟨a,5,none⟩=some (.slice sa l.o.steps.length sc)∧
  u.cell? ⟨a,6,none⟩=some (.slice da l.f.dn.length dc)∧u.cell? ⟨a,7,none⟩=some (.slice ua l.f.un.length uc)∧u.cell? ⟨a,8,none⟩=some (.bool l.f.asked)∧u.cell? ⟨a,9,none⟩=some (.bool l.f.yes)∧u.cell? ⟨a,10,none⟩=some (.bool l.f.turned)∧
  u.cell? ⟨a,11,none⟩=some (.bool l.f.k0)∧u.cell? ⟨a,12,none⟩=some (.bool l.f.k1)∧u.cell? ⟨a,13,none⟩=some (.bool l.f.ship)∧u.cell? ⟨a,14,none⟩=some (.bool l.f.d0)∧u.cell? ⟨a,15,none⟩=some (.bool l.f.d1)∧u.cell? ⟨a,16,none⟩=some (.bool l.f.acc)):=fun u hu=>by
  have kU:=kW.on hu
  have hLU:=kU.look hw
  rw[h2]at hLU;obtain⟨⟨b0,b1,b2,b3,b4,b5⟩,b6,b7,b8,b9,b10,b11,b12,b13,b14,b15,b16,-⟩:=(klW.on hu).cells;exact⟨hu,kU.cell3.2.2.2.1,hLU,b0,b1,b2,b3,b4,b5,b6,b7,b8,b9,b10,b11,b12,b13,b14,b15,b16⟩
 have HWW:=hide hW
 have H3:l.f.dn.length≤3∧l.f.un.length≤3:=by
  rw[hm.dl,hm.ul];exact⟨hm.st,hm.st⟩
 have HCD:Hid (∀u g m sa' sc',Fbx W u g m l.o l.f sa' sc' da dc ua uc→Calls Tryz.prog 117 #[.slice da l.f.dn.length dc] u fun e u'=>∃d' e',e= .returned (.slice d' l.f.dn.length e')∧Hid (RowF W.heap.size u' g m 4 1 d' l.f.dn.length e' (l.f.dn.map Value.bool))∧Below u.heap.size u u'∧Fbx W u' g m l.o l.f sa' sc' da dc ua uc):=fun u g m sa' sc' hF=>by
  have kU:=klW.on hF.2.2.2.2.2
  refine(clone_bools (by omega) (row_bls kU.dr) (fun e=>?_)).mono (fun _ _ ⟨d',e',e1,e2,e3⟩=>⟨d',e',e1,rowF_new e2 hF.lt.1 hF.lt.2 hF.2.2.2.2.2.size,e3,hF.on e3⟩);have h:=kU.dr
  rw[e]at h;obtain⟨h1,h2⟩:=row_none h;exact⟨zL h1,h2⟩
 have HCU:Hid (∀u g m sa' sc',Fbx W u g m l.o l.f sa' sc' da dc ua uc→Calls Tryz.prog 117 #[.slice ua l.f.un.length uc] u fun e u'=>∃d' e',e= .returned (.slice d' l.f.un.length e')∧Hid (RowF W.heap.size u' g m 4 1 d' l.f.un.length e' (l.f.un.map Value.bool))∧Below u.heap.size u u'∧Fbx W u' g m l.o l.f sa' sc' da dc ua uc):=fun u g m sa' sc' hF=>by
  have kU:=klW.on hF.2.2.2.2.2
  refine(clone_bools (by omega) (row_bls kU.ur) (fun e=>?_)).mono (fun _ _ ⟨d',e',e1,e2,e3⟩=>⟨d',e',e1,rowF_new e2 hF.lt.1 hF.lt.2 hF.2.2.2.2.2.size,e3,hF.on e3⟩);have h:=kU.ur
  rw[e]at h;obtain⟨h1,h2⟩:=row_none h;exact⟨zL h1,h2⟩
 have HCL:Hid (∀u,Below W.heap.size W u→Calls Tryz.prog 116 #[.slice sa l.o.steps.length sc] u (OwnT u l.o.steps)):=fun u hu=>by
  have kU:=klW.on hu
  refine clone_steps (by have:=hm.st;omega) (row_sts kU.sr) (fun e=>?_);have h:=kU.sr
  rw[e]at h;obtain⟨h1,h2⟩:=row_none h;exact⟨zL h1,h2⟩
 clear k kl h2 hl kW klW hW H3 hm
 go_enter Tryz.func33,Tryz.ntmps33
 go_wp2
 rw[←HWW.out]
 clear hL c3
 refine region_via (fun a' W'=>∃g m,a'= {tmps:=#[.pointer (some ⟨p,0,none⟩),.int .i64 id,undef,undef,.pointer (some ⟨w.heap.size,0,none⟩),.pointer (some ⟨w.heap.size+1,0,none⟩),.bool false,.pointer (some ⟨g,0,none⟩),.pointer (some ⟨m,0,none⟩),.pointer (some ⟨p,0,none⟩),.bool false,.bool false,.pointer (some ⟨p,0,none⟩),.pointer (some ⟨p,0,none⟩),.pointer (some ⟨p,3,none⟩),.map (some b),.int .i64 id,.pointer (some ⟨a,0,none⟩),.bool false,.bool false,undef,undef,.pointer (some ⟨p,0,none⟩),.pointer (some ⟨p,0,none⟩),.pointer (some ⟨p,3,none⟩),.map (some b),.int .i64 id,.pointer (some ⟨a,0,none⟩),.pointer (some ⟨a,0,none⟩),.pointer (some ⟨a,0,none⟩),.agg #[.int .i64 l.o.id,.int .i64 l.o.item,.int .i64 l.o.qty,.int .i64 l.o.client,.int .i64 l.o.price,.slice sa l.o.steps.length sc],.pointer (some ⟨p,0,none⟩),.pointer (some ⟨p,0,none⟩),.pointer (some ⟨p,3,none⟩),.map (some b),.int .i64 id,.pointer (some ⟨a,0,none⟩),.pointer (some ⟨a,0,none⟩),.pointer (some ⟨a,6,none⟩),.agg #[.slice da l.f.dn.length dc,.slice ua l.f.un.length uc,.bool l.f.asked,.bool l.f.yes,.bool l.f.turned,.bool l.f.k0,.bool l.f.k1,.bool l.f.ship,.bool l.f.d0,.bool l.f.d1,.bool l.f.acc],undef,undef,undef,undef,undef,undef,undef,undef,undef,undef,undef,undef,undef,undef],defers:=[]}∧Fbx W W' g m l.o l.f sa sc da dc ua uc) ?_ ?_
 ·have HZ:=HF.out W.drew (zF _ _).drew
  go_region_held3(fun u=>Below W.heap.size W u∧u.cell? ⟨p,3,none⟩=some (.map (some b))∧(Instr.lookup 92 (.map (some b)) (.int .i64 id) false).run Tryz.prog u= .ok (.pointer (some ⟨a,0,none⟩)) u∧
   u.cell? ⟨a,0,none⟩=some (.int .i64 l.o.id)∧u.cell? ⟨a,1,none⟩=some (.int .i64 l.o.item)∧u.cell? ⟨a,2,none⟩=some (.int .i64 l.o.qty)∧u.cell? ⟨a,3,none⟩=some (.int .i64 l.o.client)∧u.cell? ⟨a,4,none⟩=some (.int .i64 l.o.price)∧u.cell? ⟨a,5,none⟩=some (.slice sa l.o.steps.length sc)∧
   u.cell? ⟨a,6,none⟩=some (.slice da l.f.dn.length dc)∧u.cell? ⟨a,7,none⟩=some (.slice ua l.f.un.length uc)∧u.cell? ⟨a,8,none⟩=some (.bool l.f.asked)∧u.cell? ⟨a,9,none⟩=some (.bool l.f.yes)∧u.cell? ⟨a,10,none⟩=some (.bool l.f.turned)∧
   u.cell? ⟨a,11,none⟩=some (.bool l.f.k0)∧u.cell? ⟨a,12,none⟩=some (.bool l.f.k1)∧u.cell? ⟨a,13,none⟩=some (.bool l.f.ship)∧u.cell? ⟨a,14,none⟩=some (.bool l.f.d0)∧u.cell? ⟨a,15,none⟩=some (.bool l.f.d1)∧u.cell? ⟨a,16,none⟩=some (.bool l.f.acc)) (exact HF.out _ (by
    first
     |exact(zF _ _).drew
     |exact(zF _ _).drew.alloc (by simp) _
     |exact((zF _ _).drew.alloc (by simp) _).alloc (by simp) _
     |exact(((zF _ _).drew.alloc (by simp) _).alloc (by simp) _).setRow (by simp) _)) (fail)
  all_goals first
   |exact⟨rfl,_,_,rfl,fbx_ab W l.o l.f sa sc da dc ua uc⟩
   |exact⟨rfl,_,_,rfl,fbx_ba W l.o l.f sa sc da dc ua uc⟩
 ·rintro a' W' ⟨g,m,rfl,hFb⟩;obtain⟨x0,x1,x2,x3,x4,x5⟩:=six_cells hFb.1;have CL:=HCL.out W' hFb.2.2.2.2.2
  have HFB:=hide hFb
  clear hFb
  go_wp2_with(first
   |(go_at_call 116;refine CL.mono ?_;clear CL;rintro e u1 ⟨a1,c1,rfl,o1,hb1⟩;have HO1:=hide o1;have HB1:=hide hb1;clear x0 x1 x2 x3 x4 x5;obtain⟨x0,x1,x2,x3,x4,x5⟩:=six_cells (Sg.keepB HFB.out.1 hb1);have fz:=frozen_of_row _ _ 5 _ _ (Sg.keepB HFB.out.1 hb1);clear o1 hb1))
  obtain⟨F2,K2⟩:=(HFB.out.on HB1.out).set5 (sa':=a1) (sc':=c1);have R2:=hide ((rowF_new (N:=W.heap.size) HO1.out HFB.out.lt.1 HFB.out.lt.2 HFB.out.2.2.2.2.2.size).kept K2)
  clear x0 x1 x2 x3 x4 x5 fz K2 HO1 HB1 HFB HCL;generalize u1.setCell ⟨g,5,none⟩ (.slice a1 l.o.steps.length c1)=V2 at *;refine region_norm (fun a' W'=>∃d1 e1 d2 e2,a'= {tmps:=#[.pointer (some ⟨p,0,none⟩),.int .i64 id,undef,undef,.pointer (some ⟨w.heap.size,0,none⟩),.pointer (some ⟨w.heap.size+1,0,none⟩),.bool false,.pointer (some ⟨g,0,none⟩),.pointer (some ⟨m,0,none⟩),.pointer (some ⟨p,0,none⟩),.bool false,.bool false,.pointer (some ⟨p,0,none⟩),.pointer (some ⟨p,0,none⟩),.pointer (some ⟨p,3,none⟩),.map (some b),.int .i64 id,.pointer (some ⟨a,0,none⟩),.bool false,.bool false,undef,undef,.pointer (some ⟨p,0,none⟩),.pointer (some ⟨p,0,none⟩),.pointer (some ⟨p,3,none⟩),.map (some b),.int .i64 id,.pointer (some ⟨a,0,none⟩),.pointer (some ⟨a,0,none⟩),.pointer (some ⟨a,0,none⟩),.agg #[.int .i64 l.o.id,.int .i64 l.o.item,.int .i64 l.o.qty,.int .i64 l.o.client,.int .i64 l.o.price,.slice sa l.o.steps.length sc],.pointer (some ⟨p,0,none⟩),.pointer (some ⟨p,0,none⟩),.pointer (some ⟨p,3,none⟩),.map (some b),.int .i64 id,.pointer (some ⟨a,0,none⟩),.pointer (some ⟨a,0,none⟩),.pointer (some ⟨a,6,none⟩),.agg #[.slice da l.f.dn.length dc,.slice ua l.f.un.length uc,.bool l.f.asked,.bool l.f.yes,.bool l.f.turned,.bool l.f.k0,.bool l.f.k1,.bool l.f.ship,.bool l.f.d0,.bool l.f.d1,.bool l.f.acc],.pointer (some ⟨g,5,none⟩),.slice sa l.o.steps.length sc,.slice a1 l.o.steps.length c1,.pointer (some ⟨g,5,none⟩),.pointer (some ⟨m,0,none⟩),.slice da l.f.dn.length dc,.slice d1 l.f.dn.length e1,.pointer (some ⟨m,1,none⟩),.slice ua l.f.un.length uc,.slice d2 l.f.un.length e2,.pointer (some ⟨m,0,none⟩),.pointer (some ⟨m,1,none⟩),undef,undef],defers:=[]}∧Fbx W W' g m l.o l.f a1 c1 d1 e1 d2 e2∧RowF W.heap.size W' g m 107 2 a1 l.o.steps.length c1 (stCells l.o.steps)∧RowF W.heap.size W' g m 4 1 d1 l.f.dn.length e1 (l.f.dn.map Value.bool)∧RowF W.heap.size W' g m 4 1 d2 l.f.un.length e2 (l.f.un.map Value.bool)) ?_ ?_
  ·have F3:=F2.on (zF _ _).drew
   have R3:=hide (R2.out.on (zF _ _).drew)
   obtain⟨y0,y1,y2,y3⟩:=F3.m01;clear F2 R2;go_region_with(first
    |(go_at_call 117;refine(HCD.out _ g m a1 c1 F3).mono ?_;rintro e u3 ⟨d1,e1,rfl,r1,hb,F4⟩;have R4:=hide (R3.out.on hb);clear y0 y1 y2 y3;obtain⟨y0,y1,y2,y3⟩:=F4.m01;clear F3 R3 hb)
    |(go_at_call 117;refine(HCU.out _ g m a1 c1 F3).mono ?_;rintro e u3 ⟨d2,e2,rfl,r2,hb,F4⟩;have R4:=hide (R3.out.on hb);clear y0 y1 y2 y3;obtain⟨y0,y1,y2,y3⟩:=F4.m01;clear F3 R3 hb)
    |(go_at_call 117;refine(HCD.out _ g m a1 c1 F4).mono ?_;rintro e u4 ⟨d1,e1,rfl,r1,hb,F5⟩;have R5:=hide (R4.out.on hb);have r2':=hide (r2.out.on hb);clear y0 y1 y2 y3;obtain⟨y0,y1,y2,y3⟩:=F5.m01;clear F4 R4 hb r2)
    |(go_at_call 117;refine(HCU.out _ g m a1 c1 F4).mono ?_;rintro e u4 ⟨d2,e2,rfl,r2,hb,F5⟩;have R5:=hide (R4.out.on hb);have r1':=hide (r1.out.on hb);clear y0 y1 y2 y3;obtain⟨y0,y1,y2,y3⟩:=F5.m01;clear F4 R4 hb r1))
   all_goals(
    obtain⟨F6,K6⟩:=F5.set01 (da':=d1) (dc':=e1) (ua':=d2) (uc':=e2);exact⟨d1,e1,d2,e2,rfl,F6,R5.out.kept K6,r1'.out.kept K6,r2.out.kept K6⟩)
  ·rintro a' V3 ⟨d1,e1,d2,e2,rfl,F6,RS,RD,RU⟩;have hW:=HWW.out
   have z0:V3.heap[w.heap.size]?=some (.cells #[.int .i64 0,.int .i64 0,.int .i64 0,.int .i64 0,.int .i64 0,.slice none 0 0] 32 (0,0)):=by
    rw[F6.2.2.2.2.2.block _ (by rw[hW];simp;omega),hW];show((w.heap.push _).push _)[w.heap.size]?=_
    rw[Array.getElem?_push_lt (by simp),Array.getElem_push_eq]
   have z1:V3.heap[w.heap.size+1]?=some (.cells #[.slice none 0 0,.slice none 0 0,.bool false,.bool false,.bool false,.bool false,.bool false,.bool false,.bool false,.bool false,.bool false] 68 (0,0)):=by
    rw[F6.2.2.2.2.2.block _ (by rw[hW];simp),hW];have h:=zI (w.alloc (.cells #[.int .i64 0,.int .i64 0,.int .i64 0,.int .i64 0,.int .i64 0,.slice none 0 0] 32)) (.cells #[.slice none 0 0,.slice none 0 0,.bool false,.bool false,.bool false,.bool false,.bool false,.bool false,.bool false,.bool false,.bool false] 68)
    rw[World.size_alloc]at h;exact h
   obtain⟨x0,x1,x2,x3,x4,x5⟩:=six_cells F6.1;obtain⟨y0,y1,y2,y3,y4,y5,y6,y7,y8,y9,y10⟩:=ten_cells F6.2.1;obtain⟨u0,u1',u2,u3',u4',u5⟩:=six_cells z0;obtain⟨v0,v1,v2,v3,v4,v5,v6,v7,v8,v9,v10⟩:=ten_cells z1;have fz0:∀i,V3.frozen? ⟨w.heap.size,i,none⟩=false:=fun i=>frozen_of_row _ _ _ _ _ z0
   have fz1:∀i,V3.frozen? ⟨w.heap.size+1,i,none⟩=false:=fun i=>frozen_of_row _ _ _ _ _ z1
   have hs2:W.heap.size=w.heap.size+2:=by rw[hW];simp
   have n1:¬w.heap.size=g:=by have:=F6.2.2.2.1;omega
   have n2:¬w.heap.size=m:=by have:=F6.2.2.2.2.1;omega
   have n3:¬w.heap.size+1=g:=by have:=F6.2.2.2.1;omega
   have n4:¬w.heap.size+1=m:=by have:=F6.2.2.2.2.1;omega
   have HK6:=hide (And.intro F6 (And.intro RS (And.intro RD RU)))
   clear F6 RS RD RU hs2
   go_wp2
   go_region
   obtain⟨X,hX,Z0,Z1,KX⟩:=fill_at z0 z1 (by omega) l.o l.f a1 c1 d1 e1 d2 e2;rw[←hX];clear hX u0 u1' u2 u3' u4' u5 v0 v1 v2 v3 v4 v5 v6 v7 v8 v9 v10 fz0 fz1 x0 x1 x2 x3 x4 x5 y0 y1 y2 y3 y4 y5 y6 y7 y8 y9 y10 z0 z1;have HKX:=hide KX
   clear KX
   go_wp2
   refine bodyPost_ret (results_cells_tmp Tryz.results33 _ _ w.heap.size (w.heap.size+1) 32 68 _ _ (0,0) (0,0) _ _ (.bool true) rfl rfl rfl Z0 Z1 Tryz.underlying32 rfl (by kernel_rfl) Tryz.underlying68 rfl (by kernel_rfl)) rfl ?_;obtain⟨F6,RS,RD,RU⟩:=HK6.out;have KX:=HKX.out
   have hs2:w.heap.size+1<W.heap.size:=by rw[hW];simp
   have hB:Below w.heap.size w X:=(hbW.trans (F6.2.2.2.2.2.mono (by omega))).trans (KX.bel (Nat.le_trans hbW.size F6.2.2.2.2.2.size) (fun i _ e=>by omega))
   obtain⟨B1,q1⟩:=RS.last KX hs2;obtain⟨B2,q2⟩:=RD.last KX hs2;obtain⟨B3,q3⟩:=RU.last KX hs2;exact⟨⟨a1,c1,d1,e1,d2,e2,rfl,row_sts q1,⟨row_bls q2,row_bls q3,(row_cap q2).1,(row_cap q3).1,(row_cap q2).2,(row_cap q3).2⟩⟩,hB⟩
end
section
variable {B:Nat}{S:Nat→Prop}{w:World}{a:Nat}{l:Lk}{sa:Option Addr}{sc:Nat}{da:Option Addr}{dc:Nat}{ua:Option Addr}{uc:Nat}{tp:Option Nat}
theorem lfollow_any2(k:LdV B S w a l sa sc da dc ua uc tp){id':Int}(g:GoodL id' l)(hS:∀i,S i→i<w.heap.size){kk:Nat}{n:List Int}(hk:kk≤10)(h0:kk≠0)(f:FitL l kk n)(id:Int){na:Option Addr}{nc:Nat}(hn:Ints w na n)(hnS:n≠[]→∀ad,na=some ad→¬S ad.block):
 Calls Tryz.prog 151 #[.pointer (some ⟨a,0,none⟩),.agg #[.string (kC kk),.int .i64 id,.slice na n.length nc]] w (LFol B S w a (folL l kk n)):=by
 obtain h|h|h|h|h|h|h|h|h|h:kk=1∨kk=2∨kk=3∨kk=4∨kk=5∨kk=6∨kk=7∨kk=8∨kk=9∨kk=10:=by omega
 all_goals subst h
 ·obtain⟨h1,i,x,y,rfl⟩:=f.step rfl;obtain⟨b,o,rfl,hc⟩:=ints_at hn;exact lfol1 k h1 g.dl g.ul id i x y b o nc (hc 1 x rfl) (hc 2 y rfl) (hnS (by simp) _ rfl) hS
 ·obtain⟨i,rfl,hi⟩:=f.done rfl;obtain⟨b,o,rfl,hc⟩:=ints_at hn;exact lfol2 k id i hi b o nc (hc 0 _ rfl)
 ·obtain rfl:=f.none (.inl rfl);exact lfol3 k id na nc
 ·obtain rfl:=f.none (.inr (.inl rfl));exact lfol4 k id na nc
 ·obtain rfl:=f.none (.inr (.inr (.inl rfl)));exact lfol5 k id na nc
 ·obtain⟨i,rfl,hi⟩:=f.undone rfl;obtain⟨b,o,rfl,hc⟩:=ints_at hn;exact lfol6 k id i hi b o nc (hc 0 _ rfl)
 ·rcases f.node (.inl rfl)with rfl|rfl
  ·obtain⟨b,o,rfl,hc⟩:=ints_at hn;exact lfol7_1 k id b o nc (hc 0 _ rfl) (hnS (by simp) _ rfl)
  ·obtain⟨b,o,rfl,hc⟩:=ints_at hn;exact lfol7_2 k id b o nc (hc 0 _ rfl) (hnS (by simp) _ rfl)
 ·rcases f.node (.inr rfl)with rfl|rfl
  ·obtain⟨b,o,rfl,hc⟩:=ints_at hn;exact lfol8_1 k id b o nc (hc 0 _ rfl) (hnS (by simp) _ rfl)
  ·obtain⟨b,o,rfl,hc⟩:=ints_at hn;exact lfol8_2 k id b o nc (hc 0 _ rfl) (hnS (by simp) _ rfl)
 ·obtain rfl:=f.none (.inr (.inr (.inr (.inl rfl))));exact lfol9 k id na nc
 ·obtain rfl:=f.none (.inr (.inr (.inr (.inr rfl))));exact lfol10 k id na nc
end
section
variable {B:Nat}{O:Pt→Nat→Prop}{w:World}{p:Nat}{v:Ch}{q:Nat}{r:Value}{b bt:Nat}{loc:Int→Option Nat}{Lq:List ByteArray}
set_option maxRecDepth 100000 in
set_option maxHeartbeats 2000000 in
theorem cfollow_old2(k:CkV B O w p v q r b bt loc Lq)(gm:GoodM v.L){e:Et}(f:FitE v.L e)(hk0:e.k≠0){na:Option Addr}{nc:Nat}(hn:Ints w na e.n)(hnE:e.n≠[]→∀ad,na=some ad→¬Eo O ad.block):
 Calls Tryz.prog 89 #[.pointer (some ⟨p,0,none⟩),.agg #[.string (kC e.k),.int .i64 e.id,.slice na e.n.length nc]] w fun x w'=>(∃y,x= .returned y)∧CStp B O w p (putL v (fol v.L e)) q b bt loc Lq w':=by
 obtain⟨l,hl,fl⟩:=f.old hk0
 obtain⟨a,ha,sa,sc,da,dc,ua,uc,tp,kl⟩:=k.ld e.id l hl
 have hfo:fol v.L e=Gd.updO v.L e.id (some (folL l e.k e.n)):=by unfold fol;rw[if_neg hk0,hl];rfl
 rw[hfo]
 obtain⟨W,hW⟩:∃W,W=w.alloc (.cells #[.string (kC e.k),.int .i64 e.id,.slice na e.n.length nc] 104):=⟨_,rfl⟩
 have hbW:Below w.heap.size w W:=by rw[hW];exact(zF _ _).alloc (zD _) _
 obtain⟨b0,b1,b2⟩:=three_new w (.string (kC e.k)) (.int .i64 e.id) (.slice na e.n.length nc) 104
 rw[←hW]at b0 b1 b2
 have kW:=k.on hbW
 obtain⟨-,-,-,c3,-⟩:=kW.cell3
 have hw:=wf_id f.ok.i1 f.ok.i2
 have hb3:=k.bd
 have LF:Hid (∀u,Below W.heap.size W u→(Instr.lookup 92 (.map (some b)) (.int .i64 e.id) false).run Tryz.prog u= .ok (.pointer (some ⟨a,0,none⟩)) u∧Calls Tryz.prog 151 #[.pointer (some ⟨a,0,none⟩),.agg #[.string (kC e.k),.int .i64 e.id,.slice na e.n.length nc]] u fun x w'=>(∃y,x= .returned y)∧CStp B O w p (putL v (Gd.updO v.L e.id (some (folL l e.k e.n)))) q b bt loc Lq w'∧w'.cell? ⟨p,3,none⟩=some (.map (some b))∧w'.cell? ⟨w.heap.size,0,none⟩=some (.string (kC e.k))∧w'.cell? ⟨w.heap.size,1,none⟩=some (.int .i64 e.id)∧w'.cell? ⟨w.heap.size,2,none⟩=some (.slice na e.n.length nc)):=fun u hu=>by
  have ku:=kW.on hu
  have hwu:=bel_on' hbW hu
  have hL:=ku.look hw
  rw[ha]at hL;refine⟨hL,?_⟩;refine(lfollow_any2 (kl.on hwu) (gm _ _ hl) (fun i e2=>(ku.bd _ _ e2).2) f.ok.k hk0 fl e.id (hn.below hwu) (fun hne ad e2 e3=>hnE hne ad e2 ⟨_,e3⟩)).mono ?_;rintro x w' ⟨h1,h2,h3⟩;have k2:=ku.lstep hl ha h2 h3
  have hE:Rg.Kept (fun i _=>Eo O i) w w':=(zE hwu).trans (h3.mono (fun i _ e2=>⟨_,e2⟩))
  have nw:∀_:Obj,¬O (.ld e.id) w.heap.size:=fun _ e2=>by have:=(hb3 _ _ e2).2;omega
  refine⟨h1,⟨_,r,loc,k2,fun i e2=>st_grow hwu.size e2,hE,fun _ _ h=>h⟩,k2.cell3.2.2.2.1,kept_cellR h3 nw (cellL b0 hu),kept_cellR h3 nw (cellL b1 hu),kept_cellR h3 nw (cellL b2 hu)⟩
 have hK:=kC_begin hk0
 have hL0:=(LF.out W (zF _ _)).1
 have hL1:=(LF.out W.drew (zF _ _).drew).1
 have HW:=hide hW
 generalize kC e.k=K at *
 generalize e.id=ei at *
 generalize e.n.length=en at *
 generalize putL v (Gd.updO v.L ei (some (folL l e.k e.n)))=v' at *
 clear k kW hbW hW f fl hl ha kl hfo hn hnE gm hw hb3
 go_enter Tryz.func89,Tryz.ntmps89
 go_wp2_with fail
 rw[←HW.out]
 go_region_held3(fun w'=>w'.cell? ⟨p,3,none⟩=some (.map (some b))∧w'.cell? ⟨w.heap.size,0,none⟩=some (.string K)∧w'.cell? ⟨w.heap.size,1,none⟩=some (.int .i64 ei)∧w'.cell? ⟨w.heap.size,2,none⟩=some (.slice na en nc)) (go_keep) (first
  |(go_at_call 151;refine((LF.out _ (by first|exact zF _ _|exact(zF _ _).drew)).2).mono ?_;clear LF;rintro x u1 ⟨⟨y,rfl⟩,hx,h1,h2,h3,h4⟩;clear c3 b0 b1 b2;have c3:=h1;have b0:=h2;have b1:=h3;have b2:=h4;have HX:=hide hx;clear hx h1 h2 h3 h4))
 go_wp2
 go_end0
 exact⟨⟨_,rfl⟩,HX.out⟩
theorem cfollow_any2(k:CkV B O w p v q r b bt loc Lq)(gm:GoodM v.L){e:Et}(f:FitE v.L e){na:Option Addr}{nc:Nat}(hn:Ints w na e.n)(hnE:e.n≠[]→∀ad,na=some ad→¬Eo O ad.block):
 Calls Tryz.prog 89 #[.pointer (some ⟨p,0,none⟩),.agg #[.string (kC e.k),.int .i64 e.id,.slice na e.n.length nc]] w fun x w'=>(∃y,x= .returned y)∧CStp B O w p (putL v (fol v.L e)) q b bt loc Lq w':=by
 by_cases hk0:e.k=0
 ·obtain⟨hno,x0,x1,x2,x3,hen⟩:=f.new hk0;have hfo:fol v.L e=Gd.updO v.L e.id (some (newL e.id e.n)):=by unfold fol;rw[if_pos hk0]
  rw[hfo,hen,hk0];rw[hen]at hn;obtain⟨nb,no,rfl,_⟩:=ints_at hn;exact cfollow_new k gm f.ok.i1 f.ok.i2 hno hn (hnE (by rw[hen];simp) _ rfl)
 ·exact cfollow_old2 k gm f hk0 hn hnE
end
end Go.Proofs.YthfgmpooehkhgaaGreatDoor
namespace Go.Proofs.YthfgmpooehkhgaaGreatDoor
open Go.RowKit Sg Bl
section
variable {T i:Int}{v:Ch}{o:Od}{f:Fa}{y:Option (Bool×Bool)}{n:Nat}
end
section
variable {T:Int}{v:Ch}{o:Od}{y:Option (Bool×Bool)}{n:Nat}
end
section
variable {T i:Int}{v:Ch}{o:Od}{f:Fa}{y:Option (Bool×Bool)}{n:Nat}
end
end Go.Proofs.YthfgmpooehkhgaaGreatDoor
