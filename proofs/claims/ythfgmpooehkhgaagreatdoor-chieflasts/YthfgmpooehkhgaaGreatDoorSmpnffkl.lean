import Derived.Test.YthfgmpooehkhgaaGreatDoorSmpnpcpo
import Derived.Test.YthfgmpooehkhgaaGreatDoorSmjkgemh
import Derived.Test.YthfgmpooehkhgaaGreatDoorSmkbhmhl
namespace Go.Proofs.YthfgmpooehkhgaaGreatDoor
open Go.ChangeShapes Go.WideShapes Go.ChangeAt Go.RowKit Go.Maps
def growE(E:Nat→Prop)(w w':World):Nat→Prop:=fun k=>E k∨(w.heap.size≤k∧k<w'.heap.size)
theorem Jr.kept{B:Nat}{w w':World}{p:Nat}{v:Value}{room:Int}{L:List ByteArray}{sure:Nat}{down:Bool}{F:Nat→Obj→Prop}(h:Jr B w p v room L sure down)(hk:Rg.Kept F w w')(hp:∀o,¬F p o)(hv:∀k o,v.ownBlock=some k→¬F k o):Jr B w' p v room L sure down:=by
 obtain⟨h1,h2,h3,h4⟩:=h
 refine⟨hk.block _ _ h1 (hp _),h2,⟨h3.1,?_⟩,h4⟩
 rcases h3.2 with h|⟨g,cap,cur,rfl,hg,hc,rest⟩
 ·exact .inl h
 ·exact .inr ⟨g,cap,cur,rfl,hg,hk.block _ _ hc (hv g _ rfl),rest⟩
theorem Off.kept{p:Nat}{v v':Value}{w w':World}(h:Off p v v' w w'):Rg.Kept (fun k _=>k=p∨v.ownBlock=some k) w w':=
 ⟨h.1.1,h.1.2.1,h.1.2.2.1,h.size,fun _ _ hk hx=>(h.heap (Array.getElem?_eq_some_iff.1 hk).1 (fun e=>hx (.inl e)) (fun e=>hx (.inr e))).trans hk⟩
theorem two_cells{w:World}{k l:Nat}{cs cs':Array Value}{t t':TypeId}(h:w.heap[k]?=some (.cells cs t (0,0)))(h':w.heap[l]?=some (.cells cs' t' (0,0)))(ht:t≠t'):k≠l:=by
 rintro rfl
 rw[h]at h'
 simp only[Option.some.injEq,Obj.cells.injEq]at h'
 exact ht h'.2.1
theorem kept_cellR{F:Nat→Obj→Prop}{W W':World}(hk:Rg.Kept F W W'){a:Addr}{x:Value}(hF:∀o,¬F a.block o)(hc:W.cell? a=some x):W'.cell? a=some x:=by
 have hlt:=World.block_lt_of_cell? _ _ hc
 have e:W.heap[a.block]?=some W.heap[a.block]:=Array.getElem?_eq_getElem hlt
 rw[World.cell?_of_block ((hk.block _ _ e (hF _)).trans e.symm)]
 exact hc
theorem three_new(w:World)(x y z:Value)(t:TypeId):(w.alloc (.cells #[x,y,z] t)).cell? ⟨w.heap.size,0,none⟩=some x∧(w.alloc (.cells #[x,y,z] t)).cell? ⟨w.heap.size,1,none⟩=some y∧(w.alloc (.cells #[x,y,z] t)).cell? ⟨w.heap.size,2,none⟩=some z:=by
 have e:(w.alloc (.cells #[x,y,z] t)).heap[w.heap.size]?=some (.cells #[x,y,z] t (0,0)):=World.alloc_heap_new w _
 refine⟨?_,?_,?_⟩<;>(rw[cell_of e];rfl)
theorem kept_grow{E:Nat→Prop}{w u u':World}(h:Rg.Kept (fun k _=>E k) w u)(h':Rg.Kept (fun k _=>growE E w u k) u u'):Rg.Kept (fun k _=>E k) w u':=
 ⟨h'.os.trans h.os,h'.tape.trans h.tape,h'.output.trans h.output,Nat.le_trans h.size h'.size,fun k o hk hx=>h'.block k o (h.block k o hk hx) (fun e=>e.elim hx (fun e=>by have:=(Array.getElem?_eq_some_iff.1 hk).1;omega))⟩
theorem Ints.keptR{F:Nat→Obj→Prop}{w w':World}{a:Option Addr}{l:List Int}(h:Ints w a l)(hk:Rg.Kept F w w')(hF:∀ad o,a=some ad→¬F ad.block o):Ints w' a l:=by
 rcases h with h|⟨b,off,ha,hc⟩
 ·exact .inl h
 ·exact .inr ⟨b,off,ha,fun i hi=>kept_cellR hk (fun o=>hF ⟨b,off,none⟩ o ha) (hc i hi)⟩
theorem seven_of{w:World}{g:Nat}{x0 x1 x2 x3 x4 x5 x6:Value}{t:TypeId}(e:w.heap[g]?=some (.cells #[x0,x1,x2,x3,x4,x5,x6] t (0,0))):
 w.cell? ⟨g,0,none⟩=some x0∧w.cell? ⟨g,1,none⟩=some x1∧w.cell? ⟨g,2,none⟩=some x2∧w.cell? ⟨g,3,none⟩=some x3∧w.cell? ⟨g,4,none⟩=some x4∧w.cell? ⟨g,5,none⟩=some x5∧w.cell? ⟨g,6,none⟩=some x6:=by
 refine⟨?_,?_,?_,?_,?_,?_,?_⟩<;>(rw[cell_of e];rfl)
end Go.Proofs.YthfgmpooehkhgaaGreatDoor
namespace Go.Proofs.YthfgmpooehkhgaaGreatDoor
open Go.ChangeShapes Go.WideShapes Go.ChangeAt Go.RowKit Go.Shelf Go.Maps
theorem ownFrom_kept{β:Type}{X:Nat}{J:β→World→Prop}(h:∀s W W',J s W→Rg.Kept (fun k o=>X≤k∧o.isCells=false) W W'→J s W'):OwnFrom X J:=fun s W W' row hs hg hr=>
 h s W W' hs ⟨hg.os,hg.tape,hg.output,hg.size,fun k o hk hx=>(hg.block k (Array.getElem?_eq_some_iff.1 hk).1 (fun e=>by
  obtain⟨h1,o',h2,h3⟩:=hr k e.symm;rw[hk]at h2;cases h2;exact hx ⟨h1,h3⟩)).trans hk⟩
theorem good_own(N1 X:Nat)(x:Ev):OwnFrom X (fun(_:Unit) W=>Good N1 x W):=ownFrom_kept (fun _ _ _ hs hk=>
 ⟨hs.1.moveF (fun _ _ ⟨_,hc⟩=>(hk.block _ _ hc (fun e=>by cases e.2)).trans hc.symm),hs.2⟩)
end Go.Proofs.YthfgmpooehkhgaaGreatDoor
