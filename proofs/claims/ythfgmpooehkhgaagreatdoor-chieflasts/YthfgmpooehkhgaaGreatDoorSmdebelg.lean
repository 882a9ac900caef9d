import Derived.Test.YthfgmpooehkhgaaGreatDoorSmejmnjn
import Derived.Deep.RegionHeld3
import Derived.Deep.DrawnRows
import Derived.Test.YthfgmpooehkhgaaGreatDoorSmokfnph
namespace Go.Proofs.YthfgmpooehkhgaaGreatDoor
open Go.ChangeShapes Go.WideShapes Go.ChangeAt Go.RowKit
open List renaming setIfInBounds_toArray→zA,set_cons_zero→zB,set_cons_succ→zC,eq_nil_of_length_eq_zero→zL
open Nat renaming le_refl→zD,lt_of_lt_of_le→zJ,le_trans→zK
open Below renaming refl→zF,heap_setCell→zN
open Go.AllReadyH renaming cons→zG,nil→zH
set_option linter.unusedSimpArgs false
def FromR(ws:List ByteArray)(k:ByteArray)(id:Int)(l:List Int)(b:Bool):Prop:=
 (b=true→mayB k id l=true∧ws.map (·.data.toList)=wordsL k id l)∧
 ∀k' id' l',mayB k' id' l'=true→ws.map (·.data.toList)=wordsL k' id' l'→b=true
def Pre(ws:List ByteArray)(p:Nat)(k:ByteArray)(id:Int)(l:List Int):Prop:=
 (ws.take p).map (·.data.toList)=(wordsL k id l).take p∧l.length=p-2∧k.size≤281474976710656
theorem pre_zero(ws:List ByteArray):Pre ws 0 ⟨#[]⟩ 0 []:=⟨rfl,rfl,Nat.zero_le _⟩
theorem take_map_succ(ws:List ByteArray)(p:Nat)(h:p<ws.length):(ws.take (p+1)).map (·.data.toList)=(ws.take p).map (·.data.toList)++ [ws[p].data.toList]:=by
 rw[List.take_succ_eq_append_getElem h,List.map_append];rfl
theorem pre_kind(ws:List ByteArray)(h:0<ws.length)(id:Int)(hs:ws[0].size ≤281474976710656):Pre ws 1 ws[0] id []:=by
 refine⟨?_,rfl,hs⟩
 rw[take_map_succ ws 0 h]
 rfl
theorem pre_id(ws:List ByteArray)(h:1<ws.length){k:ByteArray}{id v:Int}{l:List Int}(hp:Pre ws 1 k id l)(hv:ws[1].data.toList =Lib.itoa v):Pre ws 2 k v l:=by
 refine⟨?_,hp.2⟩
 have e:=hp.1
 rw[take_map_succ ws 1 h,e,hv]
 have:l= []:=zL hp.2.1
 subst this
 rfl
theorem pre_num(ws:List ByteArray){p:Nat}(h2:2≤p)(h:p<ws.length){k:ByteArray}{id v:Int}{l:List Int}(hp:Pre ws p k id l)(hv:ws[p].data.toList =Lib.itoa v):Pre ws (p+1) k id (l++ [v]):=by
 obtain⟨e,hl,hs⟩:=hp
 refine⟨?_,by simp;omega,hs⟩
 rw[take_map_succ ws p h,e,hv]
 have n1:(wordsL k id l).length =p:=by simp[wordsL];omega
 have n2:(wordsL k id (l++ [v])).length =p+1:=by simp[wordsL];omega
 rw[List.take_of_length_le (by omega),List.take_of_length_le (by omega)]
 simp[wordsL]
theorem from_stop(ws:List ByteArray){p:Nat}(h1:1≤p)(h:p<ws.length){v:Int}(hn:NumR ws[p] v false)(k:ByteArray)(id:Int)(l:List Int):FromR ws k id l false:=by
 refine⟨(fun h=>by cases h),fun k' id' l' hm e=>?_⟩
 exfalso
 obtain⟨_,_,_,hi0,hi1,_,hl⟩:=may_parts hm
 have e2:(wordsL k' id' l')[p]?=some ws[p].data.toList :=by rw[←e];simp[h]
 have hx:∃n:Int,-1000000000≤n∧n≤1000000000∧ws[p].data.toList =Lib.itoa n:=by
  obtain⟨q,rfl⟩:∃q,p=q+1:=⟨p-1,by omega⟩
  simp only[wordsL,List.getElem?_cons_succ]at e2;cases q with
  |zero=>
   simp only[List.getElem?_cons_zero,Option.some.injEq]at e2;exact⟨id',by omega,by omega,e2.symm⟩
  |succ q=>
   simp only[List.getElem?_cons_succ,List.getElem?_map,Option.map_eq_some_iff]at e2;obtain⟨n,hn1,hn2⟩:=e2;exact⟨n,(hl n (List.mem_of_getElem? hn1)).1,(hl n (List.mem_of_getElem? hn1)).2,hn2.symm⟩
 obtain⟨n,n0,n1,en⟩:=hx
 have:=(hn.2 n n0 n1 en).1
 cases this
theorem from_end(ws:List ByteArray){k:ByteArray}{id:Int}{l:List Int}(hp:Pre ws ws.length k id l)(h2:2≤ws.length):FromR ws k id l (mayB k id l):=by
 obtain⟨e,hl,_⟩:=hp
 have n1:(wordsL k id l).length =ws.length:=by simp[wordsL];omega
 rw[List.take_length,List.take_of_length_le (by omega)]at e
 refine⟨fun h=>⟨h,e⟩,fun k' id' l' hm e'=>?_⟩
 obtain⟨rfl,rfl,rfl⟩:=words_inj (e.symm.trans e')
 exact hm
theorem from_few(ws:List ByteArray)(h2:ws.length<2)(k:ByteArray)(id:Int)(l:List Int):FromR ws k id l false:=by
 refine⟨(fun h=>by cases h),fun k' id' l' _ e=>?_⟩
 have:=congrArg List.length e
 simp[wordsL]at this
 omega
def IntsF(B:Nat)(w:World)(a:Option Addr)(l:List Int):Prop:=
 l= []∨∃b off,a=some ⟨b,off,none⟩∧B≤b∧(∃cs,w.heap[b]?=some (.cells cs 3 (0,0)))∧∀i,i<l.length→w.cell? ⟨b,off+i,none⟩=some (.int .i64 (l.getD i 0))
theorem IntsF.ints{B:Nat}{w:World}{a:Option Addr}{l:List Int}(h:IntsF B w a l):Ints w a l:=by
 rcases h with h|⟨b,off,h1,_,_,h3⟩
 ·exact .inl h
 ·exact .inr ⟨b,off,h1,h3⟩
theorem IntsF.moveF{B:Nat}{u W:World}{a:Option Addr}{l:List Int}(h:IntsF B u a l)(hk:∀k,B≤k→(∃cs,u.heap[k]?=some (.cells cs 3 (0,0)))→W.heap[k]?=u.heap[k]?):IntsF B W a l:=by
 rcases h with h|⟨b,off,h1,h2,h4,h3⟩
 ·exact .inl h
 ·refine .inr ⟨b,off,h1,h2,by rw[hk b h2 h4];exact h4,fun i hi=>?_⟩;rw[←h3 i hi];unfold World.cell?;simp only[hk b h2 h4]
theorem IntsF.lower{B B':Nat}{w:World}{a:Option Addr}{l:List Int}(h:IntsF B w a l)(hB:B'≤B):IntsF B' w a l:=by
 rcases h with h|⟨b,off,h1,h2,h3⟩
 ·exact .inl h
 ·exact .inr ⟨b,off,h1,zK hB h2,h3⟩
theorem IntsF.below{B:Nat}{w w':World}{a:Option Addr}{l:List Int}(h:IntsF B w a l)(hb:Below w.heap.size w w'):IntsF B w' a l:=
 h.moveF (fun k _ ⟨_,hc⟩=>hb.block k (Array.getElem?_eq_some_iff.1 hc).1)
theorem owned_numsF{w:World}{base:Nat}{v:Value}{n:Nat}{l:List Int}(h:w.ownsRow base 3 1 v n (l.map (Value.int .i64))):∃a c,v= .slice a n c∧(l.length=n∧n≤c)∧IntsF base w a l:=by
 have hc:=fun g hg=>h.cells (g:=g) hg
 obtain⟨hlen,h⟩:=id h
 rw[List.length_map,Nat.mul_one]at hlen
 rcases h with⟨rfl,he⟩|⟨g,cap,cur,rfl,hg,hcur,hnc,_⟩
 ·subst he;exact⟨none,0,rfl,⟨hlen,zD _⟩,.inl (zL hlen)⟩
 ·refine⟨_,cap,rfl,⟨hlen,hnc⟩,.inr ⟨g,0,rfl,hg,⟨cur,hcur⟩,fun i hi=>?_⟩⟩;have:=hc g rfl i (.int .i64 (l.getD i 0)) (by simp[List.getD,hi])
  rw[←st_add];exact this
def FSt(w wx:World)(k:ByteArray)(id:Int)(l:List Int)(nv:Value):Prop:=
 Below w.heap.size w wx∧w.heap.size+2≤wx.heap.size∧
 wx.heap[w.heap.size]?=some (.cells #[.string ⟨#[]⟩,.int .i64 0,.slice none 0 0] 104 (0,0))∧
 wx.heap[w.heap.size+1]?=some (.cells #[.string k,.int .i64 id,nv] 104 (0,0))∧
 wx.ownsRow (w.heap.size+2) 3 1 nv l.length (l.map (Value.int .i64))
theorem FSt.start(w:World):FSt w ((w.alloc (.cells #[.string ⟨#[]⟩,.int .i64 0,.slice none 0 0] 104)).alloc (.cells #[.string ⟨#[]⟩,.int .i64 0,.slice none 0 0] 104)) ⟨#[]⟩ 0 [] (.slice none 0 0):=by
 refine⟨((zF _ _).alloc (zD _) _).alloc (by simp) _,by simp,?_,?_,rfl,.inl ⟨rfl,rfl⟩⟩
 ·show((w.heap.push _).push _)[w.heap.size]?=_
  simp[Array.getElem?_push]
 ·show((w.heap.push _).push _)[w.heap.size+1]?=_
  rw[Array.getElem?_push];simp
theorem FSt.on{w wx wy:World}{k:ByteArray}{id:Int}{l:List Int}{nv:Value}(h:FSt w wx k id l nv)(hb:Below wx.heap.size wx wy):FSt w wy k id l nv:=by
 obtain⟨h1,h2,h3,h4,h5⟩:=h
 exact⟨bel_on' h1 hb,zK h2 hb.size,by rw[hb.block _ (by omega)];exact h3,by rw[hb.block _ (by omega)];exact h4,owned_on h5 hb⟩
theorem owned_set{w:World}{base:Nat}{e:TypeId}{v:Value}{n:Nat}{xs:List Value}(h:w.ownsRow base e 1 v n xs)(a:Addr)(u:Value)(ha:a.block<base):(w.setCell a u).ownsRow base e 1 v n xs:=by
 obtain⟨hlen,h⟩:=h
 refine⟨hlen,?_⟩
 rcases h with h|⟨g,cap,cur,hv,hg,hc,h1,h2,h3,h4⟩
 ·exact .inl h
 ·exact .inr ⟨g,cap,cur,hv,hg,by rw[zN _ _ _ _ (by omega)];exact hc,h1,h2,h3,h4⟩
theorem FSt.set0{w wx:World}{k:ByteArray}{id:Int}{l:List Int}{nv:Value}(h:FSt w wx k id l nv)(k':ByteArray):FSt w (wx.setCell ⟨w.heap.size+1,0,none⟩ (.string k')) k' id l nv:=by
 obtain⟨h1,h2,h3,h4,h5⟩:=h
 refine⟨h1.setCell (by simp) _,by simpa using h2,?_,?_,owned_set h5 _ _ (by simp)⟩
 ·rw[zN _ _ _ _ (by simp)];exact h3
 ·rw[heap_setCell_same _ _ _ _ _ _ h4];simp
theorem FSt.set1{w wx:World}{k:ByteArray}{id:Int}{l:List Int}{nv:Value}(h:FSt w wx k id l nv)(id':Int):FSt w (wx.setCell ⟨w.heap.size+1,1,none⟩ (.int .i64 id')) k id' l nv:=by
 obtain⟨h1,h2,h3,h4,h5⟩:=h
 refine⟨h1.setCell (by simp) _,by simpa using h2,?_,?_,owned_set h5 _ _ (by simp)⟩
 ·rw[zN _ _ _ _ (by simp)];exact h3
 ·rw[heap_setCell_same _ _ _ _ _ _ h4];simp
theorem FSt.app{w w5 w6:World}{k:ByteArray}{id:Int}{l l':List Int}{nv nv':Value}(h:FSt w w5 k id l nv)(g:w5.grownBy w6 nv.ownBlock)(o:w6.ownsRow (w.heap.size+2) 3 1 nv' l'.length (l'.map (Value.int .i64))):
 FSt w (w6.setCell ⟨w.heap.size+1,2,none⟩ nv') k id l' nv':=by
 obtain⟨h1,h2,h3,h4,h5⟩:=h
 have hb:Below (w.heap.size+2) w5 w6:=(zF _ _).grown g h2 (fun j hj=>(h5.lt j hj).1)
 have hs:=hb.size
 refine⟨(h1.trans (hb.mono (by omega))).setCell (by simp) _,by simp;omega,?_,?_,owned_set o _ _ (by simp)⟩
 ·rw[zN _ _ _ _ (by simp),hb.block _ (by omega)];exact h3
 ·rw[heap_setCell_same _ _ _ _ _ _ ((hb.block _ (by omega)).trans h4)];simp
theorem FSt.still{w w5 w6:World}{k:ByteArray}{id:Int}{l:List Int}{nv:Value}(h:FSt w w5 k id l nv)(g:w5.grownBy w6 nv.ownBlock):w6.cell? ⟨w.heap.size+1,2,none⟩=some nv:=by
 obtain⟨h1,h2,h3,h4,h5⟩:=h
 have hb:Below (w.heap.size+2) w5 w6:=(zF _ _).grown g h2 (fun j hj=>(h5.lt j hj).1)
 rw[cell_of ((hb.block _ (by omega)).trans h4)]
 rfl
theorem FSt.thaw{w wx:World}{k:ByteArray}{id:Int}{l:List Int}{nv:Value}(h:FSt w wx k id l nv)(j:Nat):wx.frozen? ⟨w.heap.size+1,j,none⟩=false∧wx.frozen? ⟨w.heap.size,j,none⟩=false:=by
 obtain⟨h1,h2,h3,h4,h5⟩:=h
 exact⟨frozen_of_row _ _ _ _ _ h4,frozen_of_row _ _ _ _ _ h3⟩
theorem FSt.thaw6{w w5 w6:World}{k:ByteArray}{id:Int}{l:List Int}{nv:Value}(h:FSt w w5 k id l nv)(g:w5.grownBy w6 nv.ownBlock):w6.frozen? ⟨w.heap.size+1,2,none⟩=false:=by
 obtain⟨h1,h2,h3,h4,h5⟩:=h
 have hb:Below (w.heap.size+2) w5 w6:=(zF _ _).grown g h2 (fun j hj=>(h5.lt j hj).1)
 exact frozen_of_row _ _ _ _ _ ((hb.block _ (by omega)).trans h4)
theorem FSt.cells{w wx:World}{k:ByteArray}{id:Int}{l:List Int}{nv:Value}(h:FSt w wx k id l nv):
 wx.cell? ⟨w.heap.size+1,0,none⟩=some (.string k)∧wx.cell? ⟨w.heap.size+1,1,none⟩=some (.int .i64 id)∧wx.cell? ⟨w.heap.size+1,2,none⟩=some nv∧
 wx.cell? ⟨w.heap.size,0,none⟩=some (.string ⟨#[]⟩)∧wx.cell? ⟨w.heap.size,1,none⟩=some (.int .i64 0)∧wx.cell? ⟨w.heap.size,2,none⟩=some (.slice none 0 0):=by
 obtain⟨h1,h2,h3,h4,h5⟩:=h
 refine⟨?_,?_,?_,?_,?_,?_⟩
 all_goals first|(rw[cell_of h4];rfl)|(rw[cell_of h3];rfl)
theorem FSt.res{w wx:World}{k:ByteArray}{id:Int}{l:List Int}{nv:Value}(h:FSt w wx k id l nv):
 FSt w wx k id l nv∧∀W,W=((wx.setCell ⟨w.heap.size,0,none⟩ (.string k)).setCell ⟨w.heap.size,1,none⟩ (.int .i64 id)).setCell ⟨w.heap.size,2,none⟩ nv→
  Below w.heap.size w W∧Below wx.heap.size (wx.setCell ⟨w.heap.size,0,none⟩ (.string k)) (wx.setCell ⟨w.heap.size,0,none⟩ (.string k))∧
  W.heap[w.heap.size]?=some (.cells #[.string k,.int .i64 id,nv] 104 (0,0))∧
  W.heap[w.heap.size+1]?=some (.cells #[.string k,.int .i64 id,nv] 104 (0,0))∧
  W.ownsRow (w.heap.size+2) 3 1 nv l.length (l.map (Value.int .i64)):=by
 refine⟨h,fun W hW=>?_⟩
 obtain⟨h1,h2,h3,h4,h5⟩:=h
 subst hW
 refine⟨((h1.setCell (by simp) _).setCell (by simp) _).setCell (by simp) _,zF _ _,?_,?_,?_⟩
 ·rw[heap_setCell_same _ _ _ _ _ _ (heap_setCell_same _ _ _ _ _ _ (heap_setCell_same _ _ _ _ _ _ h3))];simp
 ·rw[zN _ _ _ _ (by simp),zN _ _ _ _ (by simp),zN _ _ _ _ (by simp)];exact h4
 ·exact owned_set (owned_set (owned_set h5 _ _ (by simp)) _ _ (by simp)) _ _ (by simp)
attribute [local go_sem ↓] Go.wp_at_zero Go.wp_at_succ
set_option maxRecDepth 100000 in
set_option maxHeartbeats 8000000 in
theorem from_any(ws:List ByteArray)(a:Option Addr)(c:Nat)(w:World)(hst:Strs w a ws)(hlen:ws.length≤1000)(hsz:∀x∈ws,x.size≤281474976710656)(hg:Gl w):
 Calls Tryz.prog 216 #[.slice a ws.length c] w fun e w'=>∃k id l av cv b,e= .returned (.tuple #[.agg #[.string k,.int .i64 id,.slice av l.length cv],.bool b])∧IntsF (w.heap.size+2) w' av l∧(l.length≤1000∧l.length≤cv)∧FromR ws k id l b∧Below w.heap.size w w':=by
 have HST:Hid (Strs w a ws):=hst
 have HSZ:Hid (∀x∈ws,x.size≤281474976710656):=hsz
 have HG:Hid (Gl w):=hg
 clear hst hsz hg
 go_enter Tryz.func216,Tryz.ntmps216
 go_wp2
 go_step3
 go_wp2
 go_step3
 go_upto_block 0 with fail
 go_cut [5]from 6 to 44 (fun r wx=>∃(p:Nat)(k:ByteArray)(id:Int)(l:List Int)(nv:Value),r= .int .i64 p∧p≤ws.length∧Hid (FSt w wx k id l nv)∧l.length≤p∧Hid (p=ws.length→Pre ws p k id l)∧Hid (p≠ws.length→∀k id l,FromR ws k id l false))
 case first=>
  have HF0:Hid _:=FSt.start w
  go_wp2_with fail
  go_loopw [5,12] (fun r i wr=>∃(p:Nat)(k:ByteArray)(id:Int)(l:List Int)(nv:Value),r= .int .i64 p∧i= .int .i64 p∧p≤ws.length∧Hid (FSt w wr k id l nv)∧Hid (Pre ws p k id l)) (fun _ i _=>ws.length-(intOf i).toNat)
  case atStart=>exact⟨0,⟨#[]⟩,0,[],.slice none 0 0,rfl,rfl,Nat.zero_le _,HF0.out,pre_zero ws⟩
  case round=>
   obtain⟨p,k,id,l,nv,rfl,rfl,hp,HF,HP⟩:=hrel;by_cases hlt:p<ws.length
   ·rcases HST.out.below HF.out.1 with h|⟨b,off,rfl,hc⟩
    ·subst h;simp at hlt
    have hx:=hc p hlt
    clear hc;obtain⟨x,ex⟩:∃x,x=ws.getD p ByteArray.empty:=⟨_,rfl⟩
    rw[←ex]at hx;have HX:Hid (ws[p]=x):=by show _=_;rw[ex];simp[List.getD,hlt]
    clear ex;by_cases h0:p=0
    ·have q0:((p:Int)==0)=true:=by simp;omega
     have HP1:Hid (Pre ws (p+1) x id []):=by
      show Pre ws (p+1) x id []
      have:=HX.out
      subst h0;have h2:=pre_kind ws hlt id (HSZ.out _ (List.getElem_mem hlt))
      rwa [this]at h2
     obtain⟨d0,d1,d2,d3,d4,d5⟩:=HF.out.cells;have HF1:Hid _:=HF.out.set0 x
     have f0:=(HF.out.thaw 0).1
     obtain rfl:l= []:=zL (by rw[HP.out.2.1];omega);clear h0
     go_wp2
     go_roundw
     case rel=>exact⟨p+1,x,id,[],nv,by go_num,by go_num,by omega,HF1,HP1⟩
     case measure=>simp[intOf];omega
    ·have q0:((p:Int)==0)=false:=by simp;omega
     have HN:∀u:World,Below wr.heap.size wr u→Calls Tryz.prog 239 #[.string x] u fun e w'=>∃v b,e= .returned (.tuple #[.int .i64 v,.bool b])∧NumR x v b∧Below u.heap.size u w':=fun u hu=>
      number_any x u (HSZ.out x (by rw[←HX.out];exact List.getElem_mem hlt)) (HG.out.on (bel_on' HF.out.1 hu))
     go_wp2_with fail
     refine(HN _ (zF _ _)).mono ?_;rintro e w4 ⟨v,bb,rfl,hnum,hb4⟩;have HF4:Hid (FSt w w4 k id l nv):=HF.out.on hb4
     have HNU:Hid (NumR x v bb):=hnum
     clear hnum hb4 HN;cases bb
     ·go_wp2
      go_meet
      exact⟨p,k,id,l,nv,rfl,hp,HF4,by have:=HP.out.2.1;omega,(fun h=>absurd h (by omega)),fun _=>from_stop ws (by omega) hlt (by rw[HX.out];exact HNU.out)⟩
     ·have HV:Hid (ws[p].data.toList =Lib.itoa v):=by show _=_;rw[HX.out];exact(HNU.out.1 rfl).1
      obtain⟨d0,d1,d2,d3,d4,d5⟩:=HF4.out.cells;by_cases h1:p=1
      ·have q1:((p:Int)==1)=true:=by simp;omega
       have HP2:Hid (Pre ws (p+1) k v l):=by
        show Pre ws (p+1) k v l
        have e1:=HP.out
        have e2:=HV.out
        subst h1;exact pre_id ws hlt e1 e2
       have HF5:Hid _:=HF4.out.set1 v
       have f1:=(HF4.out.thaw 1).1
       clear h1
       go_wp2
       go_roundw
       case rel=>exact⟨p+1,k,v,l,nv,by go_num,by go_num,by omega,HF5,HP2⟩
       case measure=>simp[intOf];omega
      ·have q1:((p:Int)==1)=false:=by simp;omega
       have HP2:Hid _:=pre_num ws (by omega) hlt HP.out HV.out
       have HLL:Hid (l.length≤1000):=by show _≤_;have:=HP.out.2.1;omega
       have HF5:Hid (FSt w (w4.alloc (.cells #[.int .i64 v] 3)) k id l nv):=HF4.out.on ((zF _ _).alloc (zD _) _)
       go_wp2_with(first
        |(at_builtin;refine append_nums rfl (.tmp 29) (.tmp 31) rfl (w.heap.size+2) nv l.length l rfl HF5.out.2.2.2.2 ⟨w4.heap.size,0,none⟩ 1 1 [v] rfl rfl (ints_one w4 v) ?hnn ?hba ?_;(case hnn=>have:=HLL.out;omega);(case hba=>exact HF5.out.2.1);intro v6 w6 o6 g6;obtain⟨a6,c6,rfl,-,-⟩:=owned_nums o6;have d6:=HF5.out.still g6;have f6:=HF5.out.thaw6 g6;have HF6:Hid _:=HF5.out.app (l':=l++ [v]) g6 (by simpa using o6);clear o6 g6))
       go_roundw
       case rel=>exact⟨p+1,k,id,l++ [v],_,by go_num,by go_num,by omega,HF6,HP2⟩
       case measure=>simp[intOf];omega
   ·go_wp2
    go_meet
    have en:p=ws.length:=by omega
    exact⟨p,k,id,l,nv,rfl,hp,HF,by have:=HP.out.2.1;omega,fun _=>HP.out,fun h=>absurd en h⟩
 case rest=>
  obtain⟨p,k,id,l,nv,rfl,hp,HF,hlp,HPre,HStop⟩:=hcut;obtain⟨av,cv,rfl,hll,hin⟩:=owned_nums HF.out.2.2.2.2;have HIn:Hid _:=hin
  clear hin hll;obtain⟨d0,d1,d2,d3,d4,d5⟩:=HF.out.cells;have f0:=(HF.out.thaw 0).2
  have f1:=(HF.out.thaw 1).2
  have f2:=(HF.out.thaw 2).2
  by_cases hp1:(1:Int)<(p:Int)
  ·by_cases hq:((p:Int)==(ws.length:Int))=true
   ·have hd:decide ((1:Int)<(p:Int))=true:=by simpa using hp1
    have hpe:p=ws.length:=by have:=eq_of_beq hq;omega
    have HKS:Hid (k.size≤maxLen):=by show k.size≤maxLen;have:=(HPre.out hpe).2.2;unfold maxLen;omega
    have HPE:Hid (p=ws.length):=hpe
    clear hpe
    go_wp2_with fail
    refine wp_region_held_drew (S:=(fun w'=>w'.cell? ⟨w.heap.size+1,0,none⟩=some (.string k)∧w'.cell? ⟨w.heap.size+1,1,none⟩=some (.int .i64 id)∧w'.cell? ⟨w.heap.size+1,2,none⟩=some (.slice av l.length cv))) (by kernel_rfl) ⟨d0,d1,d2⟩ (fun hHeld=>?_);refine wpAnyH_take (i:=0) (oi:={dst:=some 45,op:=_,type:=_,pos:=_,after:=_,guard:=_}) (v:=?v1) rfl (by kernel_rfl) (by kernel_rfl) (by kernel_rfl) (fun _ _ _ h=>h) (Or.inl ⟨by kernel_rfl,?hy1⟩) hHeld ?rest1
    case hy1=>(intro w' hSw;(try dsimp only at hSw);go_simp;all_goals(with_reducible rfl))
    try simp only[Act.put,zA,zB,zC]
    refine wpAnyH_take (i:=1) (oi:={dst:=some 46,op:=_,type:=_,pos:=_,after:=_,guard:=_}) (v:=?v2) rfl (by kernel_rfl) (by kernel_rfl) (by kernel_rfl) (fun _ _ _ h=>h) (Or.inl ⟨by kernel_rfl,?hy2⟩) hHeld ?rest2
    case hy2=>(intro w' hSw;(try dsimp only at hSw);go_simp;all_goals(with_reducible rfl))
    try simp only[Act.put,zA,zB,zC]
    refine wpAnyH_take (i:=2) (oi:={dst:=some 47,op:=_,type:=_,pos:=_,after:=_,guard:=_}) (v:=?v3) rfl (by kernel_rfl) (by kernel_rfl) (by kernel_rfl) (fun _ _ _ h=>h) (Or.inl ⟨by kernel_rfl,?hy3⟩) hHeld ?rest3
    case hy3=>(intro w' hSw;(try dsimp only at hSw);go_simp;all_goals(with_reducible rfl))
    try simp only[Act.put,zA,zB,zC]
    refine wpAnyH_take (i:=3) (oi:={dst:=some 48,op:=_,type:=_,pos:=_,after:=_,guard:=_}) (v:=?v4) rfl (by kernel_rfl) (by kernel_rfl) (by kernel_rfl) (fun _ _ _ h=>h) (Or.inl ⟨by kernel_rfl,?hy4⟩) hHeld ?rest4
    case hy4=>(intro w' hSw;(try dsimp only at hSw);go_simp;all_goals(with_reducible rfl))
    try simp only[Act.put,zA,zB,zC]
    refine wpAnyH_take (i:=4) (oi:={dst:=some 49,op:=_,type:=_,pos:=_,after:=_,guard:=_}) (v:=?v5) rfl (by kernel_rfl) (by kernel_rfl) (by kernel_rfl) (fun _ _ _ h=>h) (Or.inl ⟨by kernel_rfl,?hy5⟩) hHeld ?rest5
    case hy5=>(intro w' hSw;(try dsimp only at hSw);go_simp;all_goals(with_reducible rfl))
    try simp only[Act.put,zA,zB,zC]
    refine wpAnyH_take (i:=5) (oi:={dst:=some 50,op:=_,type:=_,pos:=_,after:=_,guard:=_}) (v:=?v6) rfl (by kernel_rfl) (by kernel_rfl) (by kernel_rfl) (fun _ _ _ h=>h) (Or.inl ⟨by kernel_rfl,?hy6⟩) hHeld ?rest6
    case hy6=>(intro w' hSw;(try dsimp only at hSw);go_simp;all_goals(with_reducible rfl))
    try simp only[Act.put,zA,zB,zC]
    refine wpAnyH_take (i:=6) (oi:={dst:=some 51,op:=_,type:=_,pos:=_,after:=_,guard:=_}) (v:=?v7) rfl (by kernel_rfl) (by kernel_rfl) (by kernel_rfl) (fun _ _ _ h=>h) (Or.inl ⟨by kernel_rfl,?hy7⟩) hHeld ?rest7
    case hy7=>(intro w' hSw;(try dsimp only at hSw);go_simp;all_goals(with_reducible rfl))
    try simp only[Act.put,zA,zB,zC]
    refine wpAnyH_take (i:=7) (oi:={dst:=some 52,op:=_,type:=_,pos:=_,after:=_,guard:=_}) (v:=?v8) rfl (by kernel_rfl) (by kernel_rfl) (by kernel_rfl) (fun _ _ _ h=>h) (Or.inl ⟨by kernel_rfl,?hy8⟩) hHeld ?rest8
    case hy8=>(intro w' hSw;(try dsimp only at hSw);go_simp;all_goals(with_reducible rfl))
    try simp only[Act.put,zA,zB,zC]
    refine wpAnyH_take (i:=8) (oi:={dst:=some 53,op:=_,type:=_,pos:=_,after:=_,guard:=_}) (v:=?v9) rfl (by kernel_rfl) (by kernel_rfl) (by kernel_rfl) (fun _ _ _ h=>h) (Or.inl ⟨by kernel_rfl,?hy9⟩) hHeld ?rest9
    case hy9=>(intro w' hSw;(try dsimp only at hSw);go_simp;all_goals(with_reducible rfl))
    try simp only[Act.put,zA,zB,zC]
    refine wpAnyH_take (i:=9) (oi:={dst:=some 54,op:=_,type:=_,pos:=_,after:=_,guard:=_}) (v:=?v10) rfl (by kernel_rfl) (by kernel_rfl) (by kernel_rfl) (fun _ _ _ h=>h) (Or.inl ⟨by kernel_rfl,?hy10⟩) hHeld ?rest10
    case hy10=>(intro w' hSw;(try dsimp only at hSw);go_simp;all_goals(with_reducible rfl))
    try simp only[Act.put,zA,zB,zC]
    refine wpAnyH_take (i:=10) (oi:={dst:=some 55,op:=_,type:=_,pos:=_,after:=_,guard:=_}) (v:=?v11) rfl (by kernel_rfl) (by kernel_rfl) (by kernel_rfl) (fun _ _ _ h=>h) (Or.inl ⟨by kernel_rfl,?hy11⟩) hHeld ?rest11
    case hy11=>(intro w' hSw;(try dsimp only at hSw);go_simp;all_goals(with_reducible rfl))
    try simp only[Act.put,zA,zB,zC]
    obtain⟨bm,hbm⟩:∃b,mayB k id l=b:=⟨_,rfl⟩
    have HFR:Hid (FromR ws k id l bm):=by
     show FromR ws k id l bm
     have h1:=HPre.out HPE.out
     rw[HPE.out]at h1;rw[←hbm];exact from_end ws h1 (by have:=HPE.out;omega)
    have CM:Calls Tryz.prog 229 #[.agg #[.string k,.int .i64 id,.slice av l.length cv]] wc.drew fun e w'=>e= .returned (.bool bm)∧Below wc.drew.heap.size wc.drew w':=by
     rw[←hbm];exact may_any k id av l cv wc.drew HKS.out (Ints.below (w:=wc) HIn.out (zF _ _).drew) (by omega)
    clear hbm;refine wpAnyH_ready (rs:=[11]) (by kernel_rfl) (by simp) ?_;refine zG (o:={dst:=some 56,op:=_,type:=_,pos:=_,after:=_,guard:=_}) rfl (fun K hK=>?_) zH;rw[if_pos (by kernel_rfl)]
    go_wp2_with(first
     |(go_at_call 229;refine CM.mono ?_;rintro e w5 ⟨rfl,hb5⟩))
    have HF5:Hid (FSt w w5 k id l (.slice av l.length cv)):=HF.out.on ((zF _ _).drew.trans hb5)
    obtain⟨g0,g1,g2,g3,g4,g5⟩:=HF5.out.cells;have e0:=(HF5.out.thaw 0).2
    have e1:=(HF5.out.thaw 1).2
    have e2:=(HF5.out.thaw 2).2
    clear hb5 CM hHeld d0 d1 d2 d3 d4 d5 f0 f1 f2;refine hK.out _ _ ⟨g0,g1,g2⟩ (fun hHeld=>?_);clear hK K;try simp only[Act.put,zA,zB,zC]
    refine wpAnyH_take (i:=12) (oi:={dst:=some 57,op:=_,type:=_,pos:=_,after:=_,guard:=_}) (v:=?v912) rfl (by kernel_rfl) (by kernel_rfl) (by kernel_rfl) (fun _ _ _ h=>h) (Or.inl ⟨by kernel_rfl,?hy912⟩) hHeld ?rest912
    case hy912=>(intro w' hSw;(try dsimp only at hSw);go_simp;all_goals(with_reducible rfl))
    try simp only[Act.put,zA,zB,zC]
    refine wpAnyH_ready (rs:=[13]) (by kernel_rfl) (by simp) ?_;refine zG rfl (fun K hK=>?_) zH;rw[if_pos (by kernel_rfl)]
    go_wp2
    obtain⟨W,hW⟩:∃W,W=((w5.setCell ⟨w.heap.size,0,none⟩ (.string k)).setCell ⟨w.heap.size,1,none⟩ (.int .i64 id)).setCell ⟨w.heap.size,2,none⟩ (.slice av l.length cv):=⟨_,rfl⟩
    rw[←hW];obtain⟨r1,-,r3,r4,r5⟩:=HF5.out.res.2 W hW;have t0:W.cell? ⟨w.heap.size+1,0,none⟩=some (.string k):=by rw[cell_of r4];rfl
    have t1:W.cell? ⟨w.heap.size+1,1,none⟩=some (.int .i64 id):=by rw[cell_of r4];rfl
    have t2:W.cell? ⟨w.heap.size+1,2,none⟩=some (.slice av l.length cv):=by rw[cell_of r4];rfl
    have z0:W.cell? ⟨w.heap.size,0,none⟩=some (.string k):=by rw[cell_of r3];rfl
    have z1:W.cell? ⟨w.heap.size,1,none⟩=some (.int .i64 id):=by rw[cell_of r3];rfl
    have z2:W.cell? ⟨w.heap.size,2,none⟩=some (.slice av l.length cv):=by rw[cell_of r3];rfl
    have HR1:Hid _:=r1
    obtain⟨av',cv',e',hcap,hin⟩:=owned_numsF r5;cases e';have HCP:Hid (l.length≤cv):=hcap.2
    have HIW:Hid (IntsF (w.heap.size+2) W av l):=hin
    clear hW r1 r3 r4 r5 hin hcap hHeld g0 g1 g2 g3 g4 g5 e0 e1 e2;refine hK.out _ _ ⟨t0,t1,t2⟩ (fun hHeld=>?_);clear hK K;try simp only[Act.put,zA,zB,zC]
    refine wpAnyH_take (i:=14) (oi:={dst:=some 3,op:= .assign (.tmp 57),type:=4,pos:=_,after:=_,guard:=none}) (v:=?v923) rfl (by kernel_rfl) (by kernel_rfl) (by kernel_rfl) (fun _ _ _ h=>h) (Or.inl ⟨by kernel_rfl,?hy923⟩) hHeld ?rest923
    case hy923=>(intro w' hSw;(try dsimp only at hSw);go_simp;all_goals(with_reducible rfl))
    try simp only[Act.put,zA,zB,zC]
    refine wpAnyH_done (by kernel_rfl) ?_ _
    go_wp2
    rw[Exit.noGoto_ret];refine bodyPost_ret (v:= .tuple #[.agg #[.string k,.int .i64 id,.slice av l.length cv],.bool bm]) ?_ rfl ?_
    ·rw[results_cell_tmp Tryz.results216];simp[go_sem,z0,z1,z2]
    ·exact⟨k,id,l,_,_,bm,rfl,HIW.out,⟨by omega,HCP.out⟩,HFR.out,HR1.out⟩
   ·have hq':((p:Int)==(ws.length:Int))=false:=by simpa using hq
    have HFR:Hid (FromR ws k id l false):=HStop.out (by intro h;apply hq;rw[h];simp) k id l
    have hd:decide ((1:Int)<(p:Int))=true:=by simpa using hp1
    clear hq
    go_wp2_with fail
    refine wp_region_held_drew (S:=(fun w'=>w'.cell? ⟨w.heap.size+1,0,none⟩=some (.string k)∧w'.cell? ⟨w.heap.size+1,1,none⟩=some (.int .i64 id)∧w'.cell? ⟨w.heap.size+1,2,none⟩=some (.slice av l.length cv))) (by kernel_rfl) ⟨d0,d1,d2⟩ (fun hHeld=>?_);refine wpAnyH_take (i:=0) (oi:={dst:=some 45,op:=_,type:=_,pos:=_,after:=_,guard:=_}) (v:=?v12) rfl (by kernel_rfl) (by kernel_rfl) (by kernel_rfl) (fun _ _ _ h=>h) (Or.inl ⟨by kernel_rfl,?hy12⟩) hHeld ?rest12
    case hy12=>(intro w' hSw;(try dsimp only at hSw);go_simp;all_goals(with_reducible rfl))
    try simp only[Act.put,zA,zB,zC]
    refine wpAnyH_take (i:=1) (oi:={dst:=some 46,op:=_,type:=_,pos:=_,after:=_,guard:=_}) (v:=?v13) rfl (by kernel_rfl) (by kernel_rfl) (by kernel_rfl) (fun _ _ _ h=>h) (Or.inl ⟨by kernel_rfl,?hy13⟩) hHeld ?rest13
    case hy13=>(intro w' hSw;(try dsimp only at hSw);go_simp;all_goals(with_reducible rfl))
    try simp only[Act.put,zA,zB,zC]
    refine wpAnyH_take (i:=2) (oi:={dst:=some 47,op:=_,type:=_,pos:=_,after:=_,guard:=_}) (v:=?v14) rfl (by kernel_rfl) (by kernel_rfl) (by kernel_rfl) (fun _ _ _ h=>h) (Or.inl ⟨by kernel_rfl,?hy14⟩) hHeld ?rest14
    case hy14=>(intro w' hSw;(try dsimp only at hSw);go_simp;all_goals(with_reducible rfl))
    try simp only[Act.put,zA,zB,zC]
    refine wpAnyH_take (i:=3) (oi:={dst:=some 48,op:=_,type:=_,pos:=_,after:=_,guard:=_}) (v:=?v15) rfl (by kernel_rfl) (by kernel_rfl) (by kernel_rfl) (fun _ _ _ h=>h) (Or.inl ⟨by kernel_rfl,?hy15⟩) hHeld ?rest15
    case hy15=>(intro w' hSw;(try dsimp only at hSw);go_simp;all_goals(with_reducible rfl))
    try simp only[Act.put,zA,zB,zC]
    refine wpAnyH_take (i:=4) (oi:={dst:=some 49,op:=_,type:=_,pos:=_,after:=_,guard:=_}) (v:=?v16) rfl (by kernel_rfl) (by kernel_rfl) (by kernel_rfl) (fun _ _ _ h=>h) (Or.inl ⟨by kernel_rfl,?hy16⟩) hHeld ?rest16
    case hy16=>(intro w' hSw;(try dsimp only at hSw);go_simp;all_goals(with_reducible rfl))
    try simp only[Act.put,zA,zB,zC]
    refine wpAnyH_take (i:=5) (oi:={dst:=some 50,op:=_,type:=_,pos:=_,after:=_,guard:=_}) (v:=?v17) rfl (by kernel_rfl) (by kernel_rfl) (by kernel_rfl) (fun _ _ _ h=>h) (Or.inl ⟨by kernel_rfl,?hy17⟩) hHeld ?rest17
    case hy17=>(intro w' hSw;(try dsimp only at hSw);go_simp;all_goals(with_reducible rfl))
    try simp only[Act.put,zA,zB,zC]
    refine wpAnyH_take (i:=6) (oi:={dst:=some 51,op:=_,type:=_,pos:=_,after:=_,guard:=_}) (v:=?v18) rfl (by kernel_rfl) (by kernel_rfl) (by kernel_rfl) (fun _ _ _ h=>h) (Or.inl ⟨by kernel_rfl,?hy18⟩) hHeld ?rest18
    case hy18=>(intro w' hSw;(try dsimp only at hSw);go_simp;all_goals(with_reducible rfl))
    try simp only[Act.put,zA,zB,zC]
    refine wpAnyH_take (i:=7) (oi:={dst:=some 52,op:=_,type:=_,pos:=_,after:=_,guard:=_}) (v:=?v19) rfl (by kernel_rfl) (by kernel_rfl) (by kernel_rfl) (fun _ _ _ h=>h) (Or.inl ⟨by kernel_rfl,?hy19⟩) hHeld ?rest19
    case hy19=>(intro w' hSw;(try dsimp only at hSw);go_simp;all_goals(with_reducible rfl))
    try simp only[Act.put,zA,zB,zC]
    refine wpAnyH_take (i:=8) (oi:={dst:=some 53,op:=_,type:=_,pos:=_,after:=_,guard:=_}) (v:=?v20) rfl (by kernel_rfl) (by kernel_rfl) (by kernel_rfl) (fun _ _ _ h=>h) (Or.inl ⟨by kernel_rfl,?hy20⟩) hHeld ?rest20
    case hy20=>(intro w' hSw;(try dsimp only at hSw);go_simp;all_goals(with_reducible rfl))
    try simp only[Act.put,zA,zB,zC]
    refine wpAnyH_take (i:=9) (oi:={dst:=some 54,op:=_,type:=_,pos:=_,after:=_,guard:=_}) (v:=?v21) rfl (by kernel_rfl) (by kernel_rfl) (by kernel_rfl) (fun _ _ _ h=>h) (Or.inl ⟨by kernel_rfl,?hy21⟩) hHeld ?rest21
    case hy21=>(intro w' hSw;(try dsimp only at hSw);go_simp;all_goals(with_reducible rfl))
    try simp only[Act.put,zA,zB,zC]
    refine wpAnyH_take (i:=10) (oi:={dst:=some 55,op:=_,type:=_,pos:=_,after:=_,guard:=_}) (v:=undef) rfl (by kernel_rfl) (by kernel_rfl) (by kernel_rfl) (fun _ _ _ h=>h) (Or.inr ⟨by kernel_rfl,rfl⟩) hHeld ?_;try simp only[Act.put,zA,zB,zC]
    refine wpAnyH_take (i:=11) (oi:={dst:=some 56,op:=_,type:=_,pos:=_,after:=_,guard:=_}) (v:=undef) rfl (by kernel_rfl) (by kernel_rfl) (by kernel_rfl) (fun _ _ _ h=>h) (Or.inr ⟨by kernel_rfl,rfl⟩) hHeld ?_;try simp only[Act.put,zA,zB,zC]
    refine wpAnyH_take (i:=12) (oi:={dst:=some 57,op:=_,type:=_,pos:=_,after:=_,guard:=_}) (v:=?v22) rfl (by kernel_rfl) (by kernel_rfl) (by kernel_rfl) (fun _ _ _ h=>h) (Or.inl ⟨by kernel_rfl,?hy22⟩) hHeld ?rest22
    case hy22=>(intro w' hSw;(try dsimp only at hSw);go_simp;all_goals(with_reducible rfl))
    try simp only[Act.put,zA,zB,zC]
    refine wpAnyH_ready (rs:=[13]) (by kernel_rfl) (by simp) ?_;refine zG rfl (fun K hK=>?_) zH;rw[if_pos (by kernel_rfl)]
    go_wp2
    obtain⟨W,hW⟩:∃W,W=((wc.setCell ⟨w.heap.size,0,none⟩ (.string k)).setCell ⟨w.heap.size,1,none⟩ (.int .i64 id)).setCell ⟨w.heap.size,2,none⟩ (.slice av l.length cv):=⟨_,rfl⟩
    rw[←hW];obtain⟨r1,-,r3,r4,r5⟩:=HF.out.res.2 W hW;have t0:W.cell? ⟨w.heap.size+1,0,none⟩=some (.string k):=by rw[cell_of r4];rfl
    have t1:W.cell? ⟨w.heap.size+1,1,none⟩=some (.int .i64 id):=by rw[cell_of r4];rfl
    have t2:W.cell? ⟨w.heap.size+1,2,none⟩=some (.slice av l.length cv):=by rw[cell_of r4];rfl
    have z0:W.cell? ⟨w.heap.size,0,none⟩=some (.string k):=by rw[cell_of r3];rfl
    have z1:W.cell? ⟨w.heap.size,1,none⟩=some (.int .i64 id):=by rw[cell_of r3];rfl
    have z2:W.cell? ⟨w.heap.size,2,none⟩=some (.slice av l.length cv):=by rw[cell_of r3];rfl
    have HR1:Hid _:=r1
    obtain⟨av',cv',e',hcap,hin⟩:=owned_numsF r5;cases e';have HCP:Hid (l.length≤cv):=hcap.2
    have HIW:Hid (IntsF (w.heap.size+2) W av l):=hin
    clear hW r1 r3 r4 r5 hin hcap hHeld d0 d1 d2 d3 d4 d5 f0 f1 f2;refine hK.out _ _ ⟨t0,t1,t2⟩ (fun hHeld=>?_);clear hK K;try simp only[Act.put,zA,zB,zC]
    refine wpAnyH_take (i:=14) (oi:={dst:=some 3,op:= .assign (.tmp 57),type:=4,pos:=_,after:=_,guard:=none}) (v:=?v23) rfl (by kernel_rfl) (by kernel_rfl) (by kernel_rfl) (fun _ _ _ h=>h) (Or.inl ⟨by kernel_rfl,?hy23⟩) hHeld ?rest23
    case hy23=>(intro w' hSw;(try dsimp only at hSw);go_simp;all_goals(with_reducible rfl))
    try simp only[Act.put,zA,zB,zC]
    refine wpAnyH_done (by kernel_rfl) ?_ _
    go_wp2
    rw[Exit.noGoto_ret];refine bodyPost_ret (v:= .tuple #[.agg #[.string k,.int .i64 id,.slice av l.length cv],.bool false]) ?_ rfl ?_
    ·rw[results_cell_tmp Tryz.results216];simp[go_sem,z0,z1,z2]
    ·exact⟨k,id,l,_,_,false,rfl,HIW.out,⟨by omega,HCP.out⟩,HFR.out,HR1.out.drew⟩
  ·have hd:decide ((1:Int)<(p:Int))=false:=by simpa using hp1
   have HFR:Hid (FromR ws k id l false):=by
    by_cases h:p=ws.length
    ·exact from_few ws (by omega) k id l
    ·exact HStop.out h k id l
   clear hp1
   go_wp2_with fail
   refine wp_region_held_drew (S:=(fun w'=>w'.cell? ⟨w.heap.size+1,0,none⟩=some (.string k)∧w'.cell? ⟨w.heap.size+1,1,none⟩=some (.int .i64 id)∧w'.cell? ⟨w.heap.size+1,2,none⟩=some (.slice av l.length cv))) (by kernel_rfl) ⟨d0,d1,d2⟩ (fun hHeld=>?_);refine wpAnyH_take (i:=0) (oi:={dst:=some 45,op:=_,type:=_,pos:=_,after:=_,guard:=_}) (v:=?v24) rfl (by kernel_rfl) (by kernel_rfl) (by kernel_rfl) (fun _ _ _ h=>h) (Or.inl ⟨by kernel_rfl,?hy24⟩) hHeld ?rest24
   case hy24=>(intro w' hSw;(try dsimp only at hSw);go_simp;all_goals(with_reducible rfl))
   try simp only[Act.put,zA,zB,zC]
   refine wpAnyH_take (i:=1) (oi:={dst:=some 46,op:=_,type:=_,pos:=_,after:=_,guard:=_}) (v:=?v25) rfl (by kernel_rfl) (by kernel_rfl) (by kernel_rfl) (fun _ _ _ h=>h) (Or.inl ⟨by kernel_rfl,?hy25⟩) hHeld ?rest25
   case hy25=>(intro w' hSw;(try dsimp only at hSw);go_simp;all_goals(with_reducible rfl))
   try simp only[Act.put,zA,zB,zC]
   refine wpAnyH_take (i:=2) (oi:={dst:=some 47,op:=_,type:=_,pos:=_,after:=_,guard:=_}) (v:=?v26) rfl (by kernel_rfl) (by kernel_rfl) (by kernel_rfl) (fun _ _ _ h=>h) (Or.inl ⟨by kernel_rfl,?hy26⟩) hHeld ?rest26
   case hy26=>(intro w' hSw;(try dsimp only at hSw);go_simp;all_goals(with_reducible rfl))
   try simp only[Act.put,zA,zB,zC]
   refine wpAnyH_take (i:=3) (oi:={dst:=some 48,op:=_,type:=_,pos:=_,after:=_,guard:=_}) (v:=?v27) rfl (by kernel_rfl) (by kernel_rfl) (by kernel_rfl) (fun _ _ _ h=>h) (Or.inl ⟨by kernel_rfl,?hy27⟩) hHeld ?rest27
   case hy27=>(intro w' hSw;(try dsimp only at hSw);go_simp;all_goals(with_reducible rfl))
   try simp only[Act.put,zA,zB,zC]
   refine wpAnyH_take (i:=4) (oi:={dst:=some 49,op:=_,type:=_,pos:=_,after:=_,guard:=_}) (v:=undef) rfl (by kernel_rfl) (by kernel_rfl) (by kernel_rfl) (fun _ _ _ h=>h) (Or.inr ⟨by kernel_rfl,rfl⟩) hHeld ?_;try simp only[Act.put,zA,zB,zC]
   refine wpAnyH_take (i:=5) (oi:={dst:=some 50,op:=_,type:=_,pos:=_,after:=_,guard:=_}) (v:=undef) rfl (by kernel_rfl) (by kernel_rfl) (by kernel_rfl) (fun _ _ _ h=>h) (Or.inr ⟨by kernel_rfl,rfl⟩) hHeld ?_;try simp only[Act.put,zA,zB,zC]
   refine wpAnyH_take (i:=6) (oi:={dst:=some 51,op:=_,type:=_,pos:=_,after:=_,guard:=_}) (v:=undef) rfl (by kernel_rfl) (by kernel_rfl) (by kernel_rfl) (fun _ _ _ h=>h) (Or.inr ⟨by kernel_rfl,rfl⟩) hHeld ?_;try simp only[Act.put,zA,zB,zC]
   refine wpAnyH_take (i:=7) (oi:={dst:=some 52,op:=_,type:=_,pos:=_,after:=_,guard:=_}) (v:=undef) rfl (by kernel_rfl) (by kernel_rfl) (by kernel_rfl) (fun _ _ _ h=>h) (Or.inr ⟨by kernel_rfl,rfl⟩) hHeld ?_;try simp only[Act.put,zA,zB,zC]
   refine wpAnyH_take (i:=8) (oi:={dst:=some 53,op:=_,type:=_,pos:=_,after:=_,guard:=_}) (v:=?v28) rfl (by kernel_rfl) (by kernel_rfl) (by kernel_rfl) (fun _ _ _ h=>h) (Or.inl ⟨by kernel_rfl,?hy28⟩) hHeld ?rest28
   case hy28=>(intro w' hSw;(try dsimp only at hSw);go_simp;all_goals(with_reducible rfl))
   try simp only[Act.put,zA,zB,zC]
   refine wpAnyH_take (i:=9) (oi:={dst:=some 54,op:=_,type:=_,pos:=_,after:=_,guard:=_}) (v:=?v29) rfl (by kernel_rfl) (by kernel_rfl) (by kernel_rfl) (fun _ _ _ h=>h) (Or.inl ⟨by kernel_rfl,?hy29⟩) hHeld ?rest29
   case hy29=>(intro w' hSw;(try dsimp only at hSw);go_simp;all_goals(with_reducible rfl))
   try simp only[Act.put,zA,zB,zC]
   refine wpAnyH_take (i:=10) (oi:={dst:=some 55,op:=_,type:=_,pos:=_,after:=_,guard:=_}) (v:=undef) rfl (by kernel_rfl) (by kernel_rfl) (by kernel_rfl) (fun _ _ _ h=>h) (Or.inr ⟨by kernel_rfl,rfl⟩) hHeld ?_;try simp only[Act.put,zA,zB,zC]
   refine wpAnyH_take (i:=11) (oi:={dst:=some 56,op:=_,type:=_,pos:=_,after:=_,guard:=_}) (v:=undef) rfl (by kernel_rfl) (by kernel_rfl) (by kernel_rfl) (fun _ _ _ h=>h) (Or.inr ⟨by kernel_rfl,rfl⟩) hHeld ?_;try simp only[Act.put,zA,zB,zC]
   refine wpAnyH_take (i:=12) (oi:={dst:=some 57,op:=_,type:=_,pos:=_,after:=_,guard:=_}) (v:=?v30) rfl (by kernel_rfl) (by kernel_rfl) (by kernel_rfl) (fun _ _ _ h=>h) (Or.inl ⟨by kernel_rfl,?hy30⟩) hHeld ?rest30
   case hy30=>(intro w' hSw;(try dsimp only at hSw);go_simp;all_goals(with_reducible rfl))
   try simp only[Act.put,zA,zB,zC]
   refine wpAnyH_ready (rs:=[13]) (by kernel_rfl) (by simp) ?_;refine zG rfl (fun K hK=>?_) zH;rw[if_pos (by kernel_rfl)]
   go_wp2
   obtain⟨W,hW⟩:∃W,W=((wc.setCell ⟨w.heap.size,0,none⟩ (.string k)).setCell ⟨w.heap.size,1,none⟩ (.int .i64 id)).setCell ⟨w.heap.size,2,none⟩ (.slice av l.length cv):=⟨_,rfl⟩
   rw[←hW];obtain⟨r1,-,r3,r4,r5⟩:=HF.out.res.2 W hW;have t0:W.cell? ⟨w.heap.size+1,0,none⟩=some (.string k):=by rw[cell_of r4];rfl
   have t1:W.cell? ⟨w.heap.size+1,1,none⟩=some (.int .i64 id):=by rw[cell_of r4];rfl
   have t2:W.cell? ⟨w.heap.size+1,2,none⟩=some (.slice av l.length cv):=by rw[cell_of r4];rfl
   have z0:W.cell? ⟨w.heap.size,0,none⟩=some (.string k):=by rw[cell_of r3];rfl
   have z1:W.cell? ⟨w.heap.size,1,none⟩=some (.int .i64 id):=by rw[cell_of r3];rfl
   have z2:W.cell? ⟨w.heap.size,2,none⟩=some (.slice av l.length cv):=by rw[cell_of r3];rfl
   have HR1:Hid _:=r1
   obtain⟨av',cv',e',hcap,hin⟩:=owned_numsF r5;cases e';have HCP:Hid (l.length≤cv):=hcap.2
   have HIW:Hid (IntsF (w.heap.size+2) W av l):=hin
   clear hW r1 r3 r4 r5 hin hcap hHeld d0 d1 d2 d3 d4 d5 f0 f1 f2;refine hK.out _ _ ⟨t0,t1,t2⟩ (fun hHeld=>?_);clear hK K;try simp only[Act.put,zA,zB,zC]
   refine wpAnyH_take (i:=14) (oi:={dst:=some 3,op:= .assign (.tmp 57),type:=4,pos:=_,after:=_,guard:=none}) (v:=?v31) rfl (by kernel_rfl) (by kernel_rfl) (by kernel_rfl) (fun _ _ _ h=>h) (Or.inl ⟨by kernel_rfl,?hy31⟩) hHeld ?rest31
   case hy31=>(intro w' hSw;(try dsimp only at hSw);go_simp;all_goals(with_reducible rfl))
   try simp only[Act.put,zA,zB,zC]
   refine wpAnyH_done (by kernel_rfl) ?_ _
   go_wp2
   rw[Exit.noGoto_ret];refine bodyPost_ret (v:= .tuple #[.agg #[.string k,.int .i64 id,.slice av l.length cv],.bool false]) ?_ rfl ?_
   ·rw[results_cell_tmp Tryz.results216];simp[go_sem,z0,z1,z2]
   ·exact⟨k,id,l,_,_,false,rfl,HIW.out,⟨by omega,HCP.out⟩,HFR.out,HR1.out.drew⟩
def ParseR(s k:ByteArray)(id:Int)(l:List Int)(er:Int):Prop:=
 (er=0∧mayB k id l=true∧s.size≤80∧readB s=true∧readV s=txt k id l)∨
 (er≠0∧k=⟨#[]⟩∧id=0∧l= []∧(er=if 80<s.size then 2 else if readB s=true then 2 else 3)∧
   (s.size≤80→readB s=true→∀k' id' l',mayB k' id' l'=true→readV s≠txt k' id' l'))
theorem ParseR.uniq{s k k':ByteArray}{id id':Int}{l l':List Int}{er er':Int}(h:ParseR s k id l er)(h':ParseR s k' id' l' er'):k=k'∧id=id'∧l=l'∧er=er':=by
 rcases h with⟨a1,a2,a3,a4,a5⟩|⟨a1,a2,a3,a4,a5,a6⟩<;>rcases h' with⟨b1,b2,b3,b4,b5⟩|⟨b1,b2,b3,b4,b5,b6⟩
 ·obtain⟨c1,c2,c3⟩:=txt_inj a2 b2 (a5.symm.trans b5);exact⟨c1,c2,c3,a1.trans b1.symm⟩
 ·exact absurd a5 (b6 a3 a4 _ _ _ a2)
 ·exact absurd b5 (a6 b3 b4 _ _ _ b2)
 ·subst a2 a3 a4 b2 b3 b4;exact⟨rfl,rfl,rfl,a5.trans b5.symm⟩
theorem parse_long{s:ByteArray}(h:(s.size:Int)>80):ParseR s ⟨#[]⟩ 0 [] 2:=
 .inr ⟨by decide,rfl,rfl,rfl,by rw[if_pos (by omega)],fun h'=>by omega⟩
theorem parse_wrong{s:ByteArray}(h:¬(s.size:Int)>80)(hr:readB s=false):ParseR s ⟨#[]⟩ 0 [] 3:=
 .inr ⟨by decide,rfl,rfl,rfl,by rw[if_neg (by omega),if_neg (by rw[hr];decide)],fun _ h'=>by rw[hr]at h';cases h'⟩
theorem parse_no{s k:ByteArray}{id:Int}{l:List Int}(h:¬(s.size:Int)>80)(hr:readB s=true)(hf:FromR (cutB (readV s)) k id l false):ParseR s ⟨#[]⟩ 0 [] 2:=by
 refine .inr ⟨by decide,rfl,rfl,rfl,by rw[if_neg (by omega),if_pos hr],fun _ _ k' id' l' hm e=>?_⟩
 have:=hf.2 k' id' l' hm (by rw[cutB_data,e,cut_txt hm])
 cases this
theorem parse_yes{s k:ByteArray}{id:Int}{l:List Int}(h:¬(s.size:Int)>80)(hr:readB s=true)(hf:FromR (cutB (readV s)) k id l true):ParseR s k id l 0:=by
 obtain⟨h1,h2⟩:=hf.1 rfl
 rw[cutB_data]at h2
 exact .inl ⟨rfl,h1,by omega,hr,txt_of_words h2⟩
theorem zero_block(w:World):(w.alloc (.cells #[.string ⟨#[]⟩,.int .i64 0,.slice none 0 0] 104)).heap[w.heap.size]?=some (.cells #[.string ⟨#[]⟩,.int .i64 0,.slice none 0 0] 104 (0,0)):=by
 show(w.heap.push _)[w.heap.size]?=_
 simp
theorem cut_small{s:ByteArray}(h:s.size≤80):(cutB s).length ≤1000∧∀x∈cutB s,x.size≤281474976710656:=by
 constructor
 ·rw[cutB_len];have:=Lib.countB_le ⟨#[32]⟩ (by decide) s.size s (zD _)
  omega
 ·intro x hx;have e:=cutB_data s
  have hm:x.data.toList∈cutW s.data.toList:=by rw[←e];exact List.mem_map.2 ⟨x,hx,rfl⟩
  have hl:∀(n:Nat)(l:List UInt8),l.length≤n→∀y∈cutW l,y.length≤n:=by
   intro n;induction n with
   |zero=>intro l h y hy;have:=zL (Nat.le_zero.1 h);subst this;simp[cutW]at hy;subst hy;simp
   |succ n ih=>
    intro l h y hy;rcases cut_or l with hp|⟨q,r,rfl,hp⟩
    ·rw[cutW_plain hp]at hy;simp at hy;subst hy;exact h
    ·rw[cutW_at hp]at hy;rcases List.mem_cons.1 hy with rfl|hy
     ·simp at h;omega
     ·have:=ih r (by simp at h;omega) y hy;omega
  have h1:=hl _ _ (zD _) _ hm
  have h2:x.data.toList.length=x.size:=Array.length_toList
  have h3:s.data.toList.length=s.size:=Array.length_toList
  omega
theorem readV_small{s:ByteArray}(h:s.size≤80):(readV s).size ≤80:=by
 unfold readV
 split
 ·unfold head;simp;omega
 ·show 0≤80;omega
theorem strs_cut(w:World)(ws:List ByteArray):Strs (w.alloc (.cells (ws.map Value.string).toArray 9)) (some ⟨w.heap.size,0,none⟩) ws:=by
 by_cases h:ws= []
 ·exact .inl h
 ·refine .inr ⟨w.heap.size,0,rfl,fun i hi=>?_⟩;have e:(w.alloc (.cells (ws.map Value.string).toArray 9)).heap[w.heap.size]?=some (.cells (ws.map Value.string).toArray 9 (0,0)):=by
   show(w.heap.push _)[w.heap.size]?=_
   simp
  rw[cell_of e];simp[List.getD,hi]
theorem set3(u:World)(r:Nat)(x0 x1 x2 y0 y1 y2:Value)(h:u.heap[r]?=some (.cells #[x0,x1,x2] 104 (0,0)))(W:World)(hW:W=((u.setCell ⟨r,0,none⟩ y0).setCell ⟨r,1,none⟩ y1).setCell ⟨r,2,none⟩ y2):
 W.cell? ⟨r,0,none⟩=some y0∧W.cell? ⟨r,1,none⟩=some y1∧W.cell? ⟨r,2,none⟩=some y2∧Below r u W:=by
 have e:W.heap[r]?=some (.cells #[y0,y1,y2] 104 (0,0)):=by
  subst hW;rw[heap_setCell_same _ _ _ _ _ _ (heap_setCell_same _ _ _ _ _ _ (heap_setCell_same _ _ _ _ _ _ h))];simp
 refine⟨by rw[cell_of e];rfl,by rw[cell_of e];rfl,by rw[cell_of e];rfl,?_⟩
 subst hW
 have h1:=(zF r u).setCell (p:=⟨r,0,none⟩) (zD r) y0
 have h2:=h1.setCell (p:=⟨r,1,none⟩) (zD r) y1
 exact h2.setCell (p:=⟨r,2,none⟩) (zD r) y2
theorem zeros_of{u:World}{r:Nat}(h:u.heap[r]?=some (.cells #[.string ⟨#[]⟩,.int .i64 0,.slice none 0 0] 104 (0,0))):
 u.cell? ⟨r,0,none⟩=some (.string ⟨#[]⟩)∧u.cell? ⟨r,1,none⟩=some (.int .i64 0)∧u.cell? ⟨r,2,none⟩=some (.slice none 0 0)∧
 u.frozen? ⟨r,0,none⟩=false∧u.frozen? ⟨r,1,none⟩=false∧u.frozen? ⟨r,2,none⟩=false:=by
 refine⟨?_,?_,?_,frozen_of_row _ _ _ _ _ h,frozen_of_row _ _ _ _ _ h,frozen_of_row _ _ _ _ _ h⟩
 all_goals(rw[cell_of h];rfl)
set_option maxRecDepth 100000 in
set_option maxHeartbeats 4000000 in
theorem parse_anyF(s:ByteArray)(w:World)(hs:s.size≤140737488355328)(hg:Gl w):
 Calls Tryz.prog 186 #[.string s] w fun e w'=>∃k id l av cv er,e= .returned (.tuple #[.agg #[.string k,.int .i64 id,.slice av l.length cv],.int .i64 er])∧IntsF w.heap.size w' av l∧(l.length≤1000∧l.length≤cv)∧ParseR s k id l er∧Below w.heap.size w w':=by
 have HG:Hid (Gl w):=hg
 have HS:Hid (s.size≤140737488355328):=hs
 have h0:=zero_block w
 have HB:Hid (Below w.heap.size w (w.alloc (.cells #[.string ⟨#[]⟩,.int .i64 0,.slice none 0 0] 104))):=(zF _ _).alloc (zD _) _
 have H0:Hid _:=h0
 clear hg hs h0
 by_cases h80:(s.size:Int)>80
 ·have HP:Hid (ParseR s ⟨#[]⟩ 0 [] 2):=parse_long h80
  go_enter Tryz.func186,Tryz.ntmps186
  go_wp2
  refine bodyPost_ret (v:= .tuple #[.agg #[.string ⟨#[]⟩,.int .i64 0,.slice none 0 0],.int .i64 2]) ?_ rfl ?_
  ·rw[results_cell_tmp Tryz.results186];simp[go_sem]
  ·exact⟨⟨#[]⟩,0,[],none,0,2,rfl,.inl rfl,by simp,HP.out,HB.out⟩
 ·have h80':s.size≤80:=by omega
  have HR:=read_any s (w.alloc (.cells #[.string ⟨#[]⟩,.int .i64 0,.slice none 0 0] 104)) HS.out
  cases hr:readB s
  ·rw[hr]at HR;have HP:Hid (ParseR s ⟨#[]⟩ 0 [] 3):=parse_wrong h80 hr
   go_enter Tryz.func186,Tryz.ntmps186
   go_wp2_with(first
    |(go_at_call 215;refine HR.mono ?_;rintro e w1 ⟨rfl,hb1⟩;have k1:=(hb1.block w.heap.size (by simp)).trans H0.out;obtain⟨d0,d1,d2,f0,f1,f2⟩:=zeros_of k1))
   obtain⟨W,hW⟩:∃W,W=((w1.setCell ⟨w.heap.size,0,none⟩ (.string ⟨#[]⟩)).setCell ⟨w.heap.size,1,none⟩ (.int .i64 0)).setCell ⟨w.heap.size,2,none⟩ (.slice none 0 0):=⟨_,rfl⟩
   rw[←hW];obtain⟨z0,z1,z2,hbW⟩:=set3 w1 w.heap.size _ _ _ _ _ _ k1 W hW;refine bodyPost_ret (v:= .tuple #[.agg #[.string ⟨#[]⟩,.int .i64 0,.slice none 0 0],.int .i64 3]) ?_ rfl ?_
   ·rw[results_cell_tmp Tryz.results186];simp[go_sem,z0,z1,z2]
   ·exact⟨⟨#[]⟩,0,[],none,0,3,rfl,.inl rfl,by simp,HP.out,(bel_on' HB.out hb1).trans hbW⟩
  ·rw[hr]at HR;have HRB:Hid (readB s=true):=hr
   have H80:Hid (¬(s.size:Int)>80):=h80
   have HV:Hid ((readV s).size ≤80):=readV_small h80'
   have HC:Hid _:=cut_small HV.out
   clear hr h80';obtain⟨t,ht⟩:∃t,readV s=t:=⟨_,rfl⟩
   rw[ht]at HR HV HC;have HT:Hid (readV s=t):=ht
   clear ht;go_enter Tryz.func186,Tryz.ntmps186
   go_wp2_with(first
    |(go_at_call 215;refine HR.mono ?_;rintro e w1 ⟨rfl,hb1⟩;have H1:Hid (Below w.heap.size w w1):=bel_on' HB.out hb1;have k1:=(hb1.block w.heap.size (by simp)).trans H0.out;have K1:Hid _:=k1;clear k1 hb1)
    |(go_at_call 217;refine(split_any t _ ?h1 ?h2).mono ?_;(case h1=>have:=HV.out;omega);(case h2=>exact HG.out.on H1.out);rintro e w2 ⟨rfl,rfl⟩;have H2:Hid _:=(zF w1.heap.size w1).alloc (zD _) (.cells ((cutB t).map Value.string).toArray 9)))
   refine(from_any (cutB t) _ _ _ (strs_cut w1 (cutB t)) HC.out.1 HC.out.2 (HG.out.on (bel_on' H1.out H2.out))).mono ?_;rintro e w3 ⟨k,id,l,av,cv,b,rfl,hin,hll,hfr,hb3⟩;have HIn:Hid (IntsF (w1.heap.size+1+2) w3 av l):=by(show IntsF (w1.heap.size+1+2) w3 av l;simpa using hin)
   have HFR:Hid (FromR (cutB (readV s)) k id l b):=by show FromR (cutB (readV s)) k id l b;rw[HT.out];exact hfr
   have HB3:Hid (Below w.heap.size w w3):=bel_on' (bel_on' H1.out H2.out) hb3
   have hlt:w.heap.size<w3.heap.size:=by
    have h1:=hb3.size
    have h2:=cell_lt (zeros_of K1.out).1
    simp at h1;omega
   have k3:w3.heap[w.heap.size]?=some (.cells #[.string ⟨#[]⟩,.int .i64 0,.slice none 0 0] 104 (0,0)):=by
    rw[hb3.block w.heap.size (by have h2:=cell_lt (zeros_of K1.out).1;simp;omega),H2.out.block w.heap.size (cell_lt (zeros_of K1.out).1)];exact K1.out
   have HLL:Hid (l.length≤1000∧l.length≤cv):=hll
   clear hin hfr hb3 hll HC HV HT HR;have HW1:Hid (w.heap.size<w1.heap.size):=cell_lt (zeros_of K1.out).1
   have HLT:Hid (w.heap.size<w3.heap.size):=hlt
   obtain⟨d0,d1,d2,f0,f1,f2⟩:=zeros_of k3;have K3:Hid _:=k3
   clear k3;cases b
   ·have HP:Hid (ParseR s ⟨#[]⟩ 0 [] 2):=parse_no (by have:=H80.out;omega) HRB.out HFR.out
    go_wp2
    obtain⟨W,hW⟩:∃W,W=((w3.setCell ⟨w.heap.size,0,none⟩ (.string ⟨#[]⟩)).setCell ⟨w.heap.size,1,none⟩ (.int .i64 0)).setCell ⟨w.heap.size,2,none⟩ (.slice none 0 0):=⟨_,rfl⟩
    rw[←hW];obtain⟨z0,z1,z2,hbW⟩:=set3 w3 w.heap.size _ _ _ _ _ _ K3.out W hW;have hbA:Below w.heap.size w (W.alloc (.cells #[.string k,.int .i64 id,.slice av l.length cv] 104)):=(HB3.out.trans hbW).alloc (HB3.out.trans hbW).size _
    have hWl:w.heap.size<W.heap.size:=zJ HLT.out hbW.size
    refine bodyPost_ret (v:= .tuple #[.agg #[.string ⟨#[]⟩,.int .i64 0,.slice none 0 0],.int .i64 2]) ?_ rfl ?_
    ·rw[results_cell_tmp Tryz.results186];simp[go_sem,z0,z1,z2,hWl]
    ·exact⟨⟨#[]⟩,0,[],none,0,2,rfl,.inl rfl,by simp,HP.out,hbA⟩
   ·have HP:Hid (ParseR s k id l 0):=parse_yes (by have:=H80.out;omega) HRB.out HFR.out
    go_wp2
    obtain⟨W,hW⟩:∃W,W=((w3.setCell ⟨w.heap.size,0,none⟩ (.string k)).setCell ⟨w.heap.size,1,none⟩ (.int .i64 id)).setCell ⟨w.heap.size,2,none⟩ (.slice av l.length cv):=⟨_,rfl⟩
    rw[←hW];obtain⟨z0,z1,z2,hbW⟩:=set3 w3 w.heap.size _ _ _ _ _ _ K3.out W hW;have hbA:Below w.heap.size w (W.alloc (.cells #[.string k,.int .i64 id,.slice av l.length cv] 104)):=(HB3.out.trans hbW).alloc (HB3.out.trans hbW).size _
    have hWl:w.heap.size<W.heap.size:=zJ HLT.out hbW.size
    refine bodyPost_ret (v:= .tuple #[.agg #[.string k,.int .i64 id,.slice av l.length cv],.int .i64 0]) ?_ rfl ?_
    ·rw[results_cell_tmp Tryz.results186];simp[go_sem,z0,z1,z2,hWl]
    ·exact⟨k,id,l,av,cv,0,rfl,by
      have hI:IntsF (w1.heap.size+1+2) W av l:=HIn.out.moveF (fun kk hkk _=>by subst hW;have:=HW1.out;rw[zN _ _ _ _ (by simp;omega),zN _ _ _ _ (by simp;omega),zN _ _ _ _ (by simp;omega)])
      exact(hI.lower (by have:=HW1.out;omega)).below ((zF _ _).alloc (zD _) _),HLL.out,HP.out,hbA⟩
def Jr(B:Nat)(w:World)(p:Nat)(v:Value)(room:Int)(L:List ByteArray)(sure:Nat)(down:Bool):Prop:=
 w.heap[p]?=some (.cells #[.int .i64 room,v,.int .i64 sure,.bool down] 159 (0,0))∧B≤p∧
 w.ownsRow B 9 1 v L.length (L.map Value.string)∧
 (1≤room∧room≤4096)∧L.length≤4096∧∀x∈L,1≤x.size∧x.size≤63
def Off(p:Nat)(v v':Value)(w w':World):Prop:=
 (w'.os=w.os∧w'.tape=w.tape∧w'.output=w.output∧w.heap.size≤w'.heap.size)∧
 ∀k,k<w.heap.size→k≠p→v.ownBlock≠some k→w'.heap[k]?=w.heap[k]?∧v'.ownBlock≠some k
theorem Off.refl(p:Nat)(v:Value)(w:World):Off p v v w w:=⟨⟨rfl,rfl,rfl,zD _⟩,fun _ _ _ h=>⟨rfl,h⟩⟩
theorem Off.trans{p:Nat}{v v' v'':Value}{w w' w'':World}(h:Off p v v' w w')(h':Off p v' v'' w' w''):Off p v v'' w w'':=by
 obtain⟨⟨a1,a2,a3,a4⟩,a5⟩:=h
 obtain⟨⟨b1,b2,b3,b4⟩,b5⟩:=h'
 refine⟨⟨b1.trans a1,b2.trans a2,b3.trans a3,zK a4 b4⟩,fun k hk hp hv=>?_⟩
 obtain⟨c1,c2⟩:=a5 k hk hp hv
 obtain⟨d1,d2⟩:=b5 k (by omega) hp c2
 exact⟨d1.trans c1,d2⟩
theorem Off.of_below{p:Nat}{v:Value}{w w':World}(h:Below w.heap.size w w'):Off p v v w w':=
 ⟨⟨h.os,h.tape,h.output,h.size⟩,fun k hk _ hv=>⟨h.block k hk,hv⟩⟩
theorem Off.size{p:Nat}{v v':Value}{w w':World}(h:Off p v v' w w'):w.heap.size≤w'.heap.size:=h.1.2.2.2
theorem Off.heap{p:Nat}{v v':Value}{w w':World}(h:Off p v v' w w'){k:Nat}(hk:k<w.heap.size)(hp:k≠p)(hv:v.ownBlock≠some k):w'.heap[k]?=w.heap[k]?:=(h.2 k hk hp hv).1
theorem Jr.lt{B:Nat}{w:World}{p:Nat}{v:Value}{room:Int}{L:List ByteArray}{sure:Nat}{down:Bool}(h:Jr B w p v room L sure down):p<w.heap.size:=by
 by_cases hlt:p<w.heap.size
 ·exact hlt
 ·have:=h.1;rw[Array.getElem?_eq_none (by omega)]at this;cases this
theorem Jr.low{B:Nat}{w:World}{p:Nat}{v:Value}{room:Int}{L:List ByteArray}{sure:Nat}{down:Bool}(h:Jr B w p v room L sure down):B≤w.heap.size:=by
 have:=h.lt;have:=h.2.1;omega
theorem typ_ne:9≠159:=by decide
theorem Jr.apart{B:Nat}{w:World}{p:Nat}{v:Value}{room:Int}{L:List ByteArray}{sure:Nat}{down:Bool}(h:Jr B w p v room L sure down):v.ownBlock≠some p:=by
 intro e
 obtain⟨h1,_,⟨_,h3⟩,_⟩:=h
 rcases h3 with⟨rfl,_⟩|⟨g,cap,cur,rfl,_,hg,_⟩
 ·simp[Value.ownBlock]at e
 ·simp[Value.ownBlock]at e;subst e;rw[h1]at hg;simp only[Option.some.injEq,Obj.cells.injEq]at hg;exact typ_ne hg.2.1.symm
theorem Jr.on{B:Nat}{w w':World}{p:Nat}{v:Value}{room:Int}{L:List ByteArray}{sure:Nat}{down:Bool}(h:Jr B w p v room L sure down)(hb:Below w.heap.size w w'):Jr B w' p v room L sure down:=
 ⟨(hb.block p h.lt).trans h.1,h.2.1,owned_on h.2.2.1 hb,h.2.2.2⟩
theorem Jr.cells{B:Nat}{w:World}{p:Nat}{v:Value}{room:Int}{L:List ByteArray}{sure:Nat}{down:Bool}(h:Jr B w p v room L sure down):
 (w.cell? ⟨p,0,none⟩=some (.int .i64 room)∧w.cell? ⟨p,1,none⟩=some v∧w.cell? ⟨p,2,none⟩=some (.int .i64 sure)∧w.cell? ⟨p,3,none⟩=some (.bool down))∧
 w.frozen? ⟨p,1,none⟩=false∧w.frozen? ⟨p,2,none⟩=false∧w.frozen? ⟨p,3,none⟩=false:=by
 obtain⟨h1,_⟩:=h
 refine⟨⟨?_,?_,?_,?_⟩,frozen_of_row _ _ _ _ _ h1,frozen_of_row _ _ _ _ _ h1,frozen_of_row _ _ _ _ _ h1⟩
 all_goals(rw[cell_of h1];rfl)
theorem Jr.row{B:Nat}{w:World}{p:Nat}{v:Value}{room:Int}{L:List ByteArray}{sure:Nat}{down:Bool}(h:Jr B w p v room L sure down):∃a c,v= .slice a L.length c∧L.length≤c∧Strs w a L:=by
 obtain⟨a,c,h1,_,h3,h4⟩:=owned_strs h.2.2.1
 exact⟨a,c,h1,h3,h4⟩
theorem Jr.new(w:World)(B:Nat)(hB:B≤w.heap.size)(room:Int)(h1:1≤room)(h2:room≤4096):
 Jr B (w.alloc (.cells #[.int .i64 room,.slice none 0 0,.int .i64 0,.bool false] 159)) w.heap.size (.slice none 0 0) room [] 0 false:=by
 refine⟨?_,hB,⟨rfl,.inl ⟨rfl,rfl⟩⟩,⟨h1,h2⟩,Nat.zero_le _,(fun x hx=>by cases hx)⟩
 show(w.heap.push _)[w.heap.size]?=_
 simp
theorem Off.setCell{p:Nat}{v v':Value}{w w':World}(h:Off p v v' w w')(i:Nat)(u:Value):Off p v v' w (w'.setCell ⟨p,i,none⟩ u):=by
 obtain⟨⟨a1,a2,a3,a4⟩,a5⟩:=h
 refine⟨⟨a1,a2,a3,by simpa using a4⟩,fun k hk hp hv=>?_⟩
 obtain⟨c1,c2⟩:=a5 k hk hp hv
 refine⟨?_,c2⟩
 rw[zN _ _ _ _ (show k≠(⟨p,i,none⟩:Addr).block from hp)]
 exact c1
theorem owned_set'{w:World}{base:Nat}{e:TypeId}{v:Value}{n:Nat}{xs:List Value}(h:w.ownsRow base e 1 v n xs)(a:Addr)(u:Value)(ha:v.ownBlock≠some a.block):(w.setCell a u).ownsRow base e 1 v n xs:=by
 obtain⟨hlen,h⟩:=h
 refine⟨hlen,?_⟩
 rcases h with h|⟨g,cap,cur,rfl,hg,hc,h1,h2,h3,h4⟩
 ·exact .inl h
 ·exact .inr ⟨g,cap,cur,rfl,hg,by rw[zN _ _ _ _ (fun e=>ha (by simp[Value.ownBlock,e]))];exact hc,h1,h2,h3,h4⟩
theorem Jr.setSure{B:Nat}{w:World}{p:Nat}{v:Value}{room:Int}{L:List ByteArray}{sure:Nat}{down:Bool}(h:Jr B w p v room L sure down)(s:Nat):Jr B (w.setCell ⟨p,2,none⟩ (.int .i64 s)) p v room L s down:=by
 have ha:=h.apart
 obtain⟨h1,h2,h3,h4,h5,h7⟩:=h
 exact⟨by rw[heap_setCell_same _ _ _ _ _ _ h1];simp,h2,owned_set' h3 _ _ ha,h4,h5,h7⟩
theorem Jr.setDown{B:Nat}{w:World}{p:Nat}{v:Value}{room:Int}{L:List ByteArray}{sure:Nat}{down:Bool}(h:Jr B w p v room L sure down)(d:Bool):Jr B (w.setCell ⟨p,3,none⟩ (.bool d)) p v room L sure d:=by
 have ha:=h.apart
 obtain⟨h1,h2,h3,h4,h5,h7⟩:=h
 exact⟨by rw[heap_setCell_same _ _ _ _ _ _ h1];simp,h2,owned_set' h3 _ _ ha,h4,h5,h7⟩
theorem Jr.setRow{B:Nat}{w w':World}{p:Nat}{v v':Value}{room:Int}{L L':List ByteArray}{sure:Nat}{down:Bool}(h:Jr B w p v room L sure down)(hp:w'.heap[p]?=w.heap[p]?)(o:w'.ownsRow B 9 1 v' L'.length (L'.map Value.string))
 (hl:L'.length≤4096) (hx:∀x∈L',1≤x.size∧x.size≤63):Jr B (w'.setCell ⟨p,1,none⟩ v') p v' room L' sure down:=by
 obtain⟨h1,h2,h3,h4,h5,h7⟩:=h
 rw[←hp]at h1
 have ha:v'.ownBlock≠some p:=by
  intro e;rcases o.2 with⟨rfl,_⟩|⟨g,cap,cur,rfl,_,hg,_⟩
  ·simp[Value.ownBlock]at e
  ·simp[Value.ownBlock]at e;subst e;rw[h1]at hg;simp only[Option.some.injEq,Obj.cells.injEq]at hg;exact typ_ne hg.2.1.symm
 exact⟨by rw[heap_setCell_same _ _ _ _ _ _ h1];simp,h2,owned_set' o _ _ ha,h4,hl,hx⟩
theorem Off.grown{p:Nat}{v v':Value}{w w':World}(g:w.grownBy w' v.ownBlock)(hat:v'.ownBlock=v.ownBlock∨v'.ownBlock=some w.heap.size):Off p v v' w w':=
 ⟨⟨g.os,g.tape,g.output,g.size⟩,fun k hk _ hv=>⟨g.block k hk (fun e=>hv e.symm),fun e=>by
   rcases hat with h|h
   ·exact hv (h.symm.trans e)
   ·rw[h]at e;simp at e;omega⟩⟩
def roomV(room:Int):Int:=min (max room 1) 4096
theorem roomV_in(room:Int):1≤roomV room∧roomV room≤4096:=by unfold roomV;omega
theorem new_any(room:Int)(w:World):
 Calls Tryz.prog 50 #[.int .i64 room] w fun e w'=>e= .returned (.pointer (some ⟨w.heap.size,0,none⟩))∧w'=w.alloc (.cells #[.int .i64 (roomV room),.slice none 0 0,.int .i64 0,.bool false] 159):=by
 unfold roomV
 go_enter Tryz.func50,Tryz.ntmps50
 go_wp2
 go_ret
 exact⟨rfl,rfl⟩
theorem down_any{B:Nat}{w:World}{p:Nat}{v:Value}{room:Int}{L:List ByteArray}{sure:Nat}{down:Bool}(h:Jr B w p v room L sure down):
 Calls Tryz.prog 111 #[.pointer (some ⟨p,0,none⟩)] w fun e w'=>e= .returned (.bool down)∧Below w.heap.size w w':=by
 obtain⟨⟨c0,c1,c2,c3⟩,-⟩:=h.cells
 go_enter Tryz.func111,Tryz.ntmps111
 go_wp2
 go_ret
 exact⟨rfl,zF _ _⟩
theorem sync_up{B:Nat}{w:World}{p:Nat}{v:Value}{room:Int}{L:List ByteArray}{sure:Nat}(h:Jr B w p v room L sure false):
 Calls Tryz.prog 134 #[.pointer (some ⟨p,0,none⟩)] w fun e w'=>e= .returned (.int .i64 0)∧Jr B w' p v room L L.length false∧Off p v v w w':=by
 obtain⟨⟨c0,c1,c2,c3⟩,f1,f2,f3⟩:=h.cells
 obtain⟨a,c,rfl,hc,-⟩:=h.row
 have HJ:Hid _:=h.setSure L.length
 have HO:Hid _:=(Off.refl p (.slice a L.length c) w).setCell 2 (.int .i64 L.length)
 clear h hc
 go_enter Tryz.func134,Tryz.ntmps134
 go_wp2
 go_ret
 exact⟨rfl,HJ.out,HO.out⟩
theorem clone_strs{w:World}{a:Option Addr}{c:Nat}{L:List ByteArray}(h:Strs w a L)(hn:a=none→L= [])(hl:L.length≤4096):
 Calls Tryz.prog 187 #[.slice a L.length c] w fun e w'=>∃u,e= .returned u∧w'.ownsRow w.heap.size 9 1 u L.length (L.map Value.string)∧Below w.heap.size w w':=by
 cases a with
 |none=>
  have:=hn rfl
  subst this;refine(Tryz.slices_Clone_string_nil _ _ w).mono ?_;rintro e w' ⟨rfl,rfl⟩;exact⟨_,rfl,⟨rfl,.inl ⟨rfl,rfl⟩⟩,zF _ _⟩
 |some ad=>
  by_cases h0:L= []
  ·subst h0;refine(Tryz.slices_Clone_string_zero ad _ w).mono ?_;rintro e w' ⟨u,rfl,h1,_,h2⟩;exact⟨u,rfl,h1,h2⟩
  ·rcases h with h|⟨b,off,e,hc⟩
   ·exact absurd h h0
   ·cases e;refine(Tryz.slices_Clone_string b off L.length c L w (zD _) (by omega) hc).mono ?_;rintro e w' ⟨u,rfl,h1,_,h2⟩;rw[List.take_length]at h1;exact⟨u,rfl,h1,h2⟩
theorem Jr.nilrow{B:Nat}{w:World}{p:Nat}{a:Option Addr}{n c:Nat}{room:Int}{L:List ByteArray}{sure:Nat}{down:Bool}(h:Jr B w p (.slice a n c) room L sure down):a=none→L= []:=by
 intro e
 subst e
 obtain⟨_,_,⟨h3,h4⟩,_⟩:=h
 rcases h4 with⟨e,h5⟩|⟨g,cap,cur,e,_⟩
 ·exact zL h5
 ·cases e
theorem lines_any{B:Nat}{w:World}{p:Nat}{v:Value}{room:Int}{L:List ByteArray}{sure:Nat}{down:Bool}(h:Jr B w p v room L sure down):
 Calls Tryz.prog 150 #[.pointer (some ⟨p,0,none⟩)] w fun e w'=>∃a c,e= .returned (.slice a L.length c)∧w'.ownsRow w.heap.size 9 1 (.slice a L.length c) L.length (L.map Value.string)∧Below w.heap.size w w':=by
 obtain⟨⟨c0,c1,c2,c3⟩,f1,f2,f3⟩:=h.cells
 obtain⟨a,c,rfl,hc,hst⟩:=h.row
 have HC:=clone_strs (c:=c) hst h.nilrow h.2.2.2.2.1
 clear h hc hst
 go_enter Tryz.func150,Tryz.ntmps150
 go_wp2_with fail
 refine HC.mono ?_
 rintro e w1 ⟨u,rfl,ho,hb⟩
 obtain⟨a1,c1',rfl,-,-,-⟩:=owned_strs ho
 have HO:Hid _:=ho
 clear ho
 go_wp2
 go_ret
 exact⟨a1,c1',rfl,HO.out,hb⟩
theorem append_strs_at{w:World}{ops:Array Oper}{rest:List Oper}{o:Oper}{a:Act}{Q:Exit→Act→World→Prop}(hgd:o.guard=none)(s x:Operand)
 (ho:o.op= .call {callee:= .builtin .append,args:=#[s,x],argTypes:=#[50,50]})
 (base:Nat) (v:Value) (n:Nat) (L:List ByteArray) (hs:a.eval s=v) (hown:w.ownsRow base 9 1 v n (L.map Value.string))
 (ad:Addr) (m c:Nat) (l:List ByteArray) (hm:l.length=m) (hx:a.eval x= .slice (some ad) m c) (hl:Strs w (some ad) l) (hb:n+m≤8796093022208) (hbase:base≤w.heap.size)
 (h:∀v' w',w'.ownsRow base 9 1 v' (n+m) ((L++l).map Value.string)→w.grownBy w' v.ownBlock→(v'.ownBlock=v.ownBlock∨v'.ownBlock=some w.heap.size)→wpList Tryz.prog ops Q rest (a.put o.dst v') w'):wpList Tryz.prog ops Q (o::rest) a w:=by
 obtain⟨i0,hi,hz0,hz1,hz2⟩:=info_parts Tryz.infoStr
 refine wpList_append_own_at _ hgd s x 50 ho base 9 i0 (.string ByteArray.empty) 1 16 Tryz.underlying50 hi hz0 hz1 hz2 rfl (by decide) v n _ hs hown ad m c (l.map Value.string) hx (by simp[hm]) ?_ ?_ (by unfold maxLen;omega) (by omega) hbase ?_
 ·intro j u hu;rw[List.getElem?_map]at hu;rcases hl with rfl|⟨b,off,hab,hc⟩
  ·simp at hu
  ·cases hab;have hj:j<l.length:=by
    rcases Nat.lt_or_ge j l.length with h|h
    ·exact h
    ·rw[List.getElem?_eq_none h]at hu;simp at hu
   rw[st_add',hc j hj];simp[hj]at hu;simp[List.getD,hj,hu]
 ·intro u hu;obtain⟨z,_,rfl⟩:=List.mem_map.1 hu;rfl
 ·intro v' w' h1 h2 _ h4;rw[←List.map_append]at h1;exact h v' w' h1 h2 h4
def addE(room:Int)(L:List ByteArray)(down:Bool)(k:ByteArray)(id:Int)(l:List Int):Int:=
 if down=true then 10 else if mayB k id l=true then(if room≤(L.length:Int)then 5 else 0)else 1
def addL(room:Int)(L:List ByteArray)(down:Bool)(k:ByteArray)(id:Int)(l:List Int):List ByteArray:=
 if addE room L down k id l=0 then L++ [lineV k id l]else L
theorem line_small{k:ByteArray}{id:Int}{l:List Int}(h:mayB k id l=true):1≤(lineV k id l).size ∧(lineV k id l).size ≤63:=by
 unfold lineV
 rw[if_pos h,sign_size]
 have:=txt_size h
 omega
theorem Jr.appended{B:Nat}{u:World}{p:Nat}{v:Value}{room:Int}{L:List ByteArray}{sure:Nat}{down:Bool}(h:Jr B u p v room L sure down){X:ByteArray}(hX:1≤X.size∧X.size≤63)(hL:L.length<4096)
 {v6:Value} {w6:World} (o6:w6.ownsRow B 9 1 v6 (L.length+1) ((L++ [X]).map Value.string)) (g6:u.grownBy w6 v.ownBlock) (at6:v6.ownBlock=v.ownBlock∨v6.ownBlock=some u.heap.size):
 ∃a6 c6,v6= .slice a6 (L.length+1) c6∧Jr B (w6.setCell ⟨p,1,none⟩ (.slice a6 (L.length+1) c6)) p (.slice a6 (L.length+1) c6) room (L++ [X]) sure down∧Off p v (.slice a6 (L.length+1) c6) u (w6.setCell ⟨p,1,none⟩ (.slice a6 (L.length+1) c6))∧
  w6.cell? ⟨p,1,none⟩=some v∧w6.frozen? ⟨p,1,none⟩=false:=by
 obtain⟨a6,c6,rfl,-,-,-⟩:=owned_strs o6
 have hp6:w6.heap[p]?=u.heap[p]?:=g6.block p h.lt (fun e=>h.apart e.symm)
 refine⟨a6,c6,rfl,?_,(Off.grown g6 at6).setCell 1 _,?_,frozen_of_row _ _ _ _ _ (hp6.trans h.1)⟩
 ·refine h.setRow (L':=L++ [X]) hp6 (by simpa using o6) (by simp;omega) (fun x hx=>?_);rcases List.mem_append.1 hx with hx|hx
  ·exact h.2.2.2.2.2 x hx
  ·simp at hx;subst hx;exact hX
 ·rw[cell_of (hp6.trans h.1)];rfl
set_option maxRecDepth 100000 in
set_option maxHeartbeats 2000000 in
theorem add_any{B:Nat}{w:World}{p:Nat}{v:Value}{room:Int}{L:List ByteArray}{sure:Nat}{down:Bool}(h:Jr B w p v room L sure down)
 (k:ByteArray) (id:Int) (a:Option Addr) (l:List Int) (c:Nat) (hk:k.size≤maxLen) (ha:Ints w a l) (hl:l.length≤9223372036854775807) (hg:Gl w):
 Calls Tryz.prog 177 #[.pointer (some ⟨p,0,none⟩),.agg #[.string k,.int .i64 id,.slice a l.length c]] w fun e w'=>
  ∃v',e= .returned (.int .i64 (addE room L down k id l))∧Jr B w' p v' room (addL room L down k id l) sure down∧Off p v v' w w':=by
 obtain⟨W,hW⟩:∃W,W=w.alloc (.cells #[.string k,.int .i64 id,.slice a l.length c] 104):=⟨_,rfl⟩
 have hB:Below w.heap.size w W:=by rw[hW];exact(zF _ _).alloc (zD _) _
 have HB:Hid (Below w.heap.size w W):=hB
 have HJ:Hid (Jr B W p v room L sure down):=h.on hB
 have hpl:=h.lt
 have HT:=line_any k id a l c W hk (ha.below hB) hl (hg.on hB)
 have HWW:Hid (W=w.alloc (.cells #[.string k,.int .i64 id,.slice a l.length c] 104)):=hW
 obtain⟨⟨c0,c1,c2,c3⟩,f1,f2,f3⟩:=h.cells
 clear hB hW hg ha
 unfold addL addE
 cases down
 ·rw[HWW.out]at HT;cases hm:mayB k id l
  ·have q0:lineE k id l=1:=by unfold lineE;rw[hm];rfl
   rw[q0]at HT;generalize lineV k id l=X at HT;rw[if_neg (by decide),if_neg (by decide),if_neg (by decide)];clear q0 hm h;go_enter Tryz.func177,Tryz.ntmps177
   go_wp2_with fail
   refine HT.mono ?_;rintro e u1 ⟨rfl,hb1⟩;have HB1:Hid (Below W.heap.size W u1):=by show Below W.heap.size W u1;rw[HWW.out];exact hb1
   clear hb1 HT
   go_wp2
   go_ret
   exact⟨v,rfl,HJ.out.on HB1.out,Off.of_below (bel_on' HB.out HB1.out)⟩
  ·have q0:lineE k id l=0:=by unfold lineE;rw[hm];rfl
   have HXS:Hid (1≤(lineV k id l).size ∧(lineV k id l).size ≤63):=line_small hm
   rw[q0]at HT;rw[if_neg (by decide),if_pos rfl];generalize lineV k id l=X at HT HXS ⊢;clear q0 hm;by_cases hr:room≤(L.length:Int)
   ·rw[if_pos hr,if_neg (by decide)];clear h;go_enter Tryz.func177,Tryz.ntmps177
    go_wp2_with fail
    refine HT.mono ?_;rintro e u1 ⟨rfl,hb1⟩;have HB1:Hid (Below W.heap.size W u1):=by show Below W.heap.size W u1;rw[HWW.out];exact hb1
    have HJ1:Hid (Jr B u1 p v room L sure false):=HJ.out.on HB1.out
    clear hb1 HT c0 c1 c2 c3 f1 f2 f3;obtain⟨⟨c0,c1,c2,c3⟩,f1,f2,f3⟩:=HJ1.out.cells;obtain⟨av,cv,rfl,-,-⟩:=HJ1.out.row;have hr':(L.length:Int)≥room:=hr
    go_wp2_with fail
    go_quiet (fail)
    have HBD:Hid (Below u1.heap.size u1 (u1.drewN nq)):=belowN (zF _ _) nq
    generalize u1.drewN nq=u2 at HBD ⊢
    go_wp2
    go_ret
    exact⟨_,rfl,HJ1.out.on HBD.out,Off.of_below (bel_on' (bel_on' HB.out HB1.out) HBD.out)⟩
   ·rw[if_neg hr,if_pos rfl];have hL:L.length<4096:=by have:=h.2.2.2.1.2;omega
    clear h;go_enter Tryz.func177,Tryz.ntmps177
    go_wp2_with fail
    refine HT.mono ?_;rintro e u1 ⟨rfl,hb1⟩;have HB1:Hid (Below W.heap.size W u1):=by show Below W.heap.size W u1;rw[HWW.out];exact hb1
    have HJ1:Hid (Jr B u1 p v room L sure false):=HJ.out.on HB1.out
    clear hb1 HT c0 c1 c2 c3 f1 f2 f3;obtain⟨⟨c0,c1,c2,c3⟩,f1,f2,f3⟩:=HJ1.out.cells;obtain⟨av,cv,rfl,-,-⟩:=HJ1.out.row;have hr':¬(L.length:Int)≥room:=by omega
    go_wp2_with fail
    go_quiet (fail)
    have HBD:Hid (Below u1.heap.size u1 (u1.drewN nq)):=belowN (zF _ _) nq
    generalize u1.drewN nq=u2 at HBD ⊢;have HB2:Hid (Below w.heap.size w u2):=bel_on' (bel_on' HB.out HB1.out) HBD.out
    have HJ2:Hid (Jr B u2 p (.slice av L.length cv) room L sure false):=HJ1.out.on HBD.out
    clear c0 c1 c2 c3 f1 f2 f3 HBD HJ1 HB1 HJ;obtain⟨⟨c0,c1,c2,c3⟩,f1,f2,f3⟩:=HJ2.out.cells;have HJ3:Hid (Jr B (u2.alloc (.cells #[.string X] 9)) p (.slice av L.length cv) room L sure false):=HJ2.out.on ((zF _ _).alloc (zD _) _)
    have HB3:Hid (Below w.heap.size w (u2.alloc (.cells #[.string X] 9))):=HB2.out.alloc HB2.out.size _
    go_wp2_with(first
     |(at_builtin;refine append_strs_at rfl (.tmp 35) (.tmp 37) rfl B (.slice av L.length cv) L.length L rfl HJ3.out.2.2.1 ⟨u2.heap.size,0,none⟩ 1 1 [X] rfl rfl (strs_one u2 X) ?hnn ?hba ?_;(case hnn=>omega);(case hba=>exact HJ3.out.low);intro v6 w6 o6 g6 at6;obtain⟨a6,c6,rfl,hj6,ho6,d1,e1⟩:=HJ3.out.appended HXS.out hL o6 g6 at6;have HJ6:Hid _:=hj6;have HO6:Hid _:=(Off.of_below HB3.out).trans ho6;clear o6 g6 at6 hj6 ho6))
    go_ret
    exact⟨_,rfl,HJ6.out,HO6.out⟩
 ·have HO:Hid (Off p v v w W):=Off.of_below HB.out
  rw[if_pos rfl,if_neg (by decide)];rw[HWW.out]at HO HJ;clear HT h;go_enter Tryz.func177,Tryz.ntmps177
  go_wp2
  go_ret
  exact⟨v,rfl,HJ.out,HO.out⟩
def tearN(s:ByteArray)(n:Int):Nat:=(min (max n 0) ((s.size:Int)-1)).toNat
set_option maxRecDepth 100000 in
theorem tear_any(s:ByteArray)(n:Int)(w:World)(hs:1≤s.size∧s.size≤63):
 Calls Tryz.prog 147 #[.string s,.int .i64 n] w fun e w'=>e= .returned (.string (s.extract 0 (tearN s n)))∧Below w.heap.size w w':=by
 obtain⟨m,hm⟩:∃m:Nat,min (max n 0) ((s.size:Int)-1)=m:=⟨tearN s n,by unfold tearN;omega⟩
 have hml:m≤s.size-1:=by omega
 have HT:Hid (tearN s n=m):=by show tearN s n=m;unfold tearN;rw[hm];rfl
 go_enter Tryz.func147,Tryz.ntmps147
 go_wp2_with(first
  |(go_at_call 183;refine(clone_any _ _ ?_).mono ?_;(·simp;omega);rintro e w1 ⟨rfl,hb1⟩))
 go_ret
 rw[HT.out]
 exact⟨rfl,hb1⟩
theorem heap_setCells(g:Nat)(t:TypeId):∀(vs:List Value)(o:Nat)(w:World)(cs:Array Value),w.heap[g]?=some (.cells cs t (0,0))→o+vs.length≤cs.size→
 ∃cs',(w.setCells g o vs).heap[g]?=some (.cells cs' t (0,0))∧cs'.size=cs.size∧∀j,cs'[j]?=if o≤j∧j<o+vs.length then vs[j-o]?else cs[j]?
 | [],o,w,cs,h,_=>⟨cs,h,rfl,fun j=>by rw[if_neg (by simp)]⟩
 |v::r,o,w,cs,h,hl=>by
  obtain⟨cs',h1,h2,h3⟩:=heap_setCells g t r (o+1) (w.setCell ⟨g,o,none⟩ v) (cs.setIfInBounds o v) (heap_setCell_same _ _ _ _ _ _ h) (by simp at hl ⊢;omega);refine⟨cs',h1,by simpa using h2,fun j=>?_⟩;rw[h3 j];by_cases hj:j=o
  ·subst hj;rw[if_neg (by omega),if_pos (by simp)];simp at hl;simp[show j<cs.size by omega]
  ·by_cases hin:o+1≤j∧j<o+1+r.length
   ·rw[if_pos hin,if_pos (by simp;omega)];rw[show j-o=(j-(o+1))+1 by omega];simp
   ·rw[if_neg hin,if_neg (by simp;omega)];rw[Array.getElem?_setIfInBounds_ne (by omega)]
theorem setCells_rest(g:Nat):∀(vs:List Value)(o:Nat)(w:World),((w.setCells g o vs).os =w.os∧(w.setCells g o vs).tape =w.tape∧(w.setCells g o vs).output =w.output∧(w.setCells g o vs).heap.size =w.heap.size)∧∀k,k≠g→(w.setCells g o vs).heap[k]?=w.heap[k]?
 | [],_,_=>⟨⟨rfl,rfl,rfl,rfl⟩,fun _ _=>rfl⟩
 |v::r,o,w=>by
  obtain⟨⟨h1,h2,h3,h4⟩,h5⟩:=setCells_rest g r (o+1) (w.setCell ⟨g,o,none⟩ v);exact⟨⟨h1,h2,h3,h4.trans (by simp)⟩,fun k hk=>(h5 k hk).trans (zN _ _ _ _ (show k≠(⟨g,o,none⟩:Addr).block from hk))⟩
theorem delete_row{w:World}{B:Nat}{v:Value}{L:List ByteArray}(h:w.ownsRow B 9 1 v L.length (L.map Value.string))(hl:L.length≤4096)(n:Nat)(hn:n≤L.length):
 Calls Tryz.prog 184 #[v,.int .i64 n,.int .i64 L.length] w fun e w'=>∃a c,e= .returned (.slice a n c)∧w'.ownsRow B 9 1 (.slice a n c) (L.take n).length ((L.take n).map Value.string)∧w.grownBy w' v.ownBlock∧(Value.slice a n c).ownBlock =v.ownBlock:=by
 rcases h with⟨hlen,⟨rfl,h0⟩|⟨g,cap,cur,rfl,hB,hg,hnc,hcm,hsz,htk⟩⟩
 ·have hL:L= []:=zL h0
  subst hL;obtain rfl:n=0:=by simpa using hn
  refine(Tryz.slices_Delete_string_empty none 0 w).mono ?_;rintro e w' ⟨rfl,rfl⟩;exact⟨none,0,rfl,⟨rfl,.inl ⟨rfl,rfl⟩⟩,⟨rfl,rfl,rfl,zD _,fun _ _ _=>rfl⟩,rfl⟩
 ·rw[Nat.mul_one]at hsz htk;have hcur:∀i,i<L.length→cur[i]?=some (.string (L.getD i ByteArray.empty)):=fun i hi=>by
   have h1:(cur.toList.take L.length)[i]?=some (.string (L.getD i ByteArray.empty)):=by rw[htk];simp[List.getD,hi]
   rw[List.getElem?_take_of_lt hi,Array.getElem?_toList]at h1;exact h1
  have hcell:∀i,i<L.length→w.cell? ⟨g,0+i,none⟩=some (.string (L.getD i ByteArray.empty)):=fun i hi=>by rw[cell_of hg,Nat.zero_add];exact hcur i hi
  refine(Tryz.slices_Delete_string_cells g 0 L.length cap n L.length (fun i=>L.getD i ByteArray.empty) w hnc (by unfold maxLen at hcm;omega) hn (zD _) hcell (fun j _=>frozen_of_row _ _ _ _ _ hg)).mono ?_;rintro e w' ⟨rfl,q,rfl⟩;obtain⟨vs,hvs⟩:∃vs:List Value,((Lib.strsOf (fun i=>L.getD i ByteArray.empty) L.length).take n++(Lib.strsOf (fun i=>L.getD i ByteArray.empty) L.length).drop L.length++List.replicate (L.length-n) []).map encStr=vs:=⟨_,rfl⟩
  rw[hvs];have hvl:vs.length=L.length:=by rw[←hvs];simp[Lib.strsOf];omega
  have hvg:∀i,i<n→vs[i]?=some (.string (L.getD i ByteArray.empty)):=fun i hi=>by
   rw[←hvs,List.getElem?_map,List.getElem?_append_left (by simp[Lib.strsOf];omega),List.getElem?_append_left (by simp[Lib.strsOf];omega),List.getElem?_take_of_lt hi];simp[Lib.strsOf,show i<L.length by omega]
  obtain⟨cs',h1,h2,h3⟩:=heap_setCells g 9 vs 0 (w.drewN q) cur (by simpa using hg) (by rw[hvl];omega);refine⟨some ⟨g,0,none⟩,cap,by rw[show L.length-(L.length-n)=n by omega],⟨by simp,.inr ⟨g,cap,cs',by simp[hn],hB,h1,by simp;omega,hcm,by rw[h2,hsz];simp,?_⟩⟩,?_,rfl⟩
  ·rw[Nat.mul_one];apply List.ext_getElem?;intro i;simp only[List.length_take,Nat.min_eq_left hn];by_cases hi:i<n
   ·rw[List.getElem?_take_of_lt hi,Array.getElem?_toList,h3 i,if_pos (by omega),Nat.sub_zero,hvg i hi,List.getElem?_map,List.getElem?_take_of_lt hi];simp[List.getD,show i<L.length by omega]
   ·rw[List.getElem?_eq_none (by simp;omega),List.getElem?_eq_none (by simp;omega)]
  ·obtain⟨⟨s1,s2,s3,s4⟩,s5⟩:=setCells_rest g vs 0 (w.drewN q);exact⟨s1,s2,s3,by rw[s4];simp,fun k hk hne=>(s5 k (fun e=>hne (by simp[Value.ownBlock,e]))).trans (by simp)⟩
theorem Jr.deleted{B:Nat}{u:World}{p:Nat}{v:Value}{room:Int}{L:List ByteArray}{sure:Nat}{down:Bool}(h:Jr B u p v room L sure down){n:Nat}{a1:Option Addr}{c1:Nat}{w1:World}
 (ho:w1.ownsRow B 9 1 (.slice a1 n c1) (L.take n).length ((L.take n).map Value.string)) (hg:u.grownBy w1 v.ownBlock) (hat:(Value.slice a1 n c1).ownBlock =v.ownBlock):
 Jr B (w1.setCell ⟨p,1,none⟩ (.slice a1 n c1)) p (.slice a1 n c1) room (L.take n) sure down∧Off p v (.slice a1 n c1) u (w1.setCell ⟨p,1,none⟩ (.slice a1 n c1))∧w1.cell? ⟨p,1,none⟩=some v∧w1.frozen? ⟨p,1,none⟩=false:=by
 have hp1:w1.heap[p]?=u.heap[p]?:=hg.block p h.lt (fun e=>h.apart e.symm)
 refine⟨h.setRow (L':=L.take n) hp1 ho (by have:=h.2.2.2.2.1;simp;omega) (fun x hx=>h.2.2.2.2.2 x (List.mem_of_mem_take hx)),(Off.grown hg (.inl hat)).setCell 1 _,?_,frozen_of_row _ _ _ _ _ (hp1.trans h.1)⟩
 rw[cell_of (hp1.trans h.1)];rfl
theorem cut_any{B:Nat}{w:World}{p:Nat}{v:Value}{room:Int}{L:List ByteArray}{sure:Nat}{down:Bool}(h:Jr B w p v room L sure down)(n:Nat)(hn:n≤L.length):
 Calls Tryz.prog 148 #[.pointer (some ⟨p,0,none⟩),.int .i64 n] w fun e w'=>(∃x,e= .returned x)∧∃v',Jr B w' p v' room (L.take n) sure down∧Off p v v' w w':=by
 obtain⟨⟨c0,c1,c2,c3⟩,f1,f2,f3⟩:=h.cells
 obtain⟨a,c,rfl,hc,-⟩:=h.row
 have HD:=delete_row (w:=w.drew) (owned_on h.2.2.1 ((zF _ _).drew)) h.2.2.2.2.1 n hn
 have HJ:Hid (Jr B w.drew p (.slice a L.length c) room L sure down):=h.on ((zF _ _).drew)
 have HN:Hid (n≤L.length):=hn
 clear h hc hn
 go_enter Tryz.func148,Tryz.ntmps148
 go_wp2_with fail
 go_region_with(first
  |(go_at_call 184;refine HD.mono ?_;rintro e w1 ⟨a1,c1',rfl,ho,hg,hat⟩;obtain⟨hj1,ho1,d1,e1⟩:=HJ.out.deleted ho hg hat;have HJ1:Hid _:=hj1;have HO1:Hid _:=(Off.of_below (zF w.heap.size w).drew).trans ho1;clear hj1 ho1 ho hg hat))
 all_goals(go_end0;exact⟨⟨_,rfl⟩,_,HJ1.out,HO1.out⟩)
def keptN(L:List ByteArray)(sure:Nat)(stay:Int):Nat:=sure+min stay.toNat (L.length-sure)
def crashL(L:List ByteArray)(sure:Nat)(stay torn:Int):List ByteArray:=
 if keptN L sure stay=L.length then L else
  L.take (keptN L sure stay)++(if tearN (L.getD (keptN L sure stay) ByteArray.empty) torn=0 then[]else[(L.getD (keptN L sure stay) ByteArray.empty).extract 0 (tearN (L.getD (keptN L sure stay) ByteArray.empty) torn)])
set_option maxRecDepth 100000 in
set_option maxHeartbeats 2000000 in
theorem crash_up{B:Nat}{w:World}{p:Nat}{v:Value}{room:Int}{L:List ByteArray}{sure:Nat}(h:Jr B w p v room L sure false)(hsu:sure≤L.length)(stay torn:Int):
 Calls Tryz.prog 85 #[.pointer (some ⟨p,0,none⟩),.int .i64 stay,.int .i64 torn] w fun e w'=>(∃x,e= .returned x)∧∃v',Jr B w' p v' room (crashL L sure stay torn) sure true∧Off p v v' w w':=by
 obtain⟨⟨c0,c1,c2,c3⟩,f1,f2,f3⟩:=h.cells
 obtain⟨a,c,rfl,hc,hst⟩:=h.row
 obtain⟨K,hK⟩:∃K,keptN L sure stay=K:=⟨_,rfl⟩
 have hKl:K≤L.length:=by rw[←hK];unfold keptN;omega
 have hKi:(sure:Int)+min (max stay 0) ((L.length:Int)-(sure:Int))=(K:Int):=by rw[←hK];unfold keptN;omega
 have HJ1:Hid (Jr B (w.setCell ⟨p,3,none⟩ (.bool true)) p (.slice a L.length c) room L sure true):=h.setDown true
 have HO1:Hid (Off p (.slice a L.length c) (.slice a L.length c) w (w.setCell ⟨p,3,none⟩ (.bool true))):=(Off.refl p (.slice a L.length c) w).setCell 3 (.bool true)
 have hL4:L.length≤4096:=h.2.2.2.2.1
 obtain⟨M,hM⟩:∃M,crashL L sure stay torn=M:=⟨_,rfl⟩
 rw[hM]
 unfold crashL at hM
 rw[hK]at hM
 have HM:Hid _:=hM
 clear hK hM
 go_enter Tryz.func85,Tryz.ntmps85
 go_wp2_with fail
 obtain⟨u1,hu1⟩:∃u1,u1=w.setCell ⟨p,3,none⟩ (.bool true):=⟨_,rfl⟩
 rw[←hu1]at HJ1 HO1 ⊢
 clear c0 c1 c2 c3 f1 f2 f3 hu1
 obtain⟨⟨c0,c1,c2,c3⟩,f1,f2,f3⟩:=HJ1.out.cells
 go_quiet (fail)
 have HBD:Hid (Below u1.heap.size u1 (u1.drewN nq)):=belowN (zF _ _) nq
 generalize u1.drewN nq=u2 at HBD ⊢
 have HJ2:Hid (Jr B u2 p (.slice a L.length c) room L sure true):=HJ1.out.on HBD.out
 have HO2:Hid (Off p (.slice a L.length c) (.slice a L.length c) w u2):=HO1.out.trans (Off.of_below HBD.out)
 clear c0 c1 c2 c3 f1 f2 f3 HBD HJ1 HO1
 obtain⟨⟨c0,c1,c2,c3⟩,f1,f2,f3⟩:=HJ2.out.cells
 by_cases hKe:K=L.length
 ·have q1:((K:Int)==(L.length:Int))=true:=by simp;omega
  have HML:Hid (M=L):=by show M=L;rw[←HM.out,if_pos hKe]
  go_wp2
  refine bodyPost_ret (results_none rfl _ _ _) rfl ?_;exact⟨⟨_,rfl⟩,_,by rw[HML.out];exact HJ2.out,HO2.out⟩
 ·have q1:((K:Int)==(L.length:Int))=false:=by simp;omega
  have hlt:K<L.length:=by omega
  obtain⟨X,hX⟩:∃X,L.getD K ByteArray.empty=X:=⟨_,rfl⟩
  have HML:Hid (M=L.take K++(if tearN X torn=0 then[]else[X.extract 0 (tearN X torn)])):=by show M=_;rw[←HM.out,if_neg hKe,hX]
  have HXS:Hid (1≤X.size∧X.size≤63):=h.2.2.2.2.2 X (by rw[←hX];simp[List.getD,hlt])
  obtain⟨b,off,rfl,hcc⟩:∃b off,a=some ⟨b,off,none⟩∧u2.cell? ⟨b,off+K,none⟩=some (.string X):=by
   rcases owned_strs HJ2.out.2.2.1 with⟨a',c',e',-,-,hst'⟩;cases e';rcases hst' with hn|⟨b,off,rfl,hcl⟩
   ·subst hn;simp at hlt
   ·exact⟨b,off,rfl,by rw[hcl K hlt,hX]⟩
  go_wp2_with fail
  refine(tear_any X torn u2 HXS.out).mono ?_;rintro e u3 ⟨rfl,hb3⟩;have HJ3:Hid (Jr B u3 p (.slice (some ⟨b,off,none⟩) L.length c) room L sure true):=HJ2.out.on hb3
  have HO3:Hid (Off p (.slice (some ⟨b,off,none⟩) L.length c) (.slice (some ⟨b,off,none⟩) L.length c) w u3):=HO2.out.trans (Off.of_below hb3)
  have htn:tearN X torn≤X.size-1:=by unfold tearN;omega
  obtain⟨Y,hY⟩:∃Y,X.extract 0 (tearN X torn)=Y:=⟨_,rfl⟩
  have hYs:Y.size=tearN X torn:=by rw[←hY];simp;omega
  have HMY:Hid (M=L.take K++(if Y.size=0 then[]else[Y])):=by show M=_;rw[HML.out,hY,hYs]
  have HYS:Hid (Y.size≤63):=by show _≤_;have:=HXS.out;omega
  rw[hY];clear hb3 hY hYs htn HML HM hcc c0 c1 c2 c3 f1 f2 f3 HJ2 HO2 h
  go_wp2_with fail
  refine(cut_any HJ3.out K hKl).mono ?_;rintro e u4 ⟨⟨x4,rfl⟩,v4,hj4,ho4⟩;have HJ4:Hid (Jr B u4 p v4 room (L.take K) sure true):=hj4
  have HO4:Hid (Off p (.slice (some ⟨b,off,none⟩) L.length c) v4 w u4):=HO3.out.trans ho4
  clear hj4 ho4 HJ3 HO3;obtain⟨⟨c0,c1,c2,c3⟩,f1,f2,f3⟩:=HJ4.out.cells;obtain⟨a4,c4,rfl,-,-⟩:=HJ4.out.row;by_cases hy0:Y.size=0
  ·have qy:(Y.toList== [])=true:=by
    rw[ByteArray.toList_eq];have h1:Y.data.toList.length=Y.size:=Array.length_toList
    rw[zL (h1.trans hy0)];rfl
   have qn:(Y.toList != [])=false:=by unfold bne;rw[qy];rfl
   have HML:Hid (M=L.take K):=by show M=_;rw[HMY.out,if_pos hy0,List.append_nil]
   go_wp2
   go_end0
   exact⟨⟨_,rfl⟩,_,by rw[HML.out];exact HJ4.out,HO4.out⟩
  ·have qy:(Y.toList== [])=false:=by
    rw[ByteArray.toList_eq];have h1:Y.data.toList.length=Y.size:=Array.length_toList
    cases hc':Y.data.toList with
    |nil=>rw[hc']at h1;simp at h1;omega
    |cons=>rfl
   have qn:(Y.toList != [])=true:=by unfold bne;rw[qy];rfl
   have HML:Hid (M=L.take K++ [Y]):=by show M=_;rw[HMY.out,if_neg hy0]
   have HY1:Hid (1≤Y.size∧Y.size≤63):=⟨by omega,HYS.out⟩
   have hTK:(L.take K).length <4096:=by simp;omega
   generalize L.take K=T at HJ4 HO4 HML hTK c1 ⊢;have HJ5:Hid (Jr B (u4.alloc (.cells #[.string Y] 9)) p (.slice a4 T.length c4) room T sure true):=HJ4.out.on ((zF _ _).alloc (zD _) _)
   have HO5:Hid (Off p (.slice (some ⟨b,off,none⟩) L.length c) (.slice a4 T.length c4) w (u4.alloc (.cells #[.string Y] 9))):=HO4.out.trans (Off.of_below ((zF _ _).alloc (zD _) _))
   go_wp2_with(first
    |(at_builtin;refine append_strs_at rfl (.tmp 62) (.tmp 64) rfl B (.slice a4 T.length c4) T.length T rfl HJ5.out.2.2.1 ⟨u4.heap.size,0,none⟩ 1 1 [Y] rfl rfl (strs_one u4 Y) ?hnn ?hba ?_;(case hnn=>omega);(case hba=>exact HJ5.out.low);intro v6 w6 o6 g6 at6;obtain⟨a6,c6,rfl,hj6,ho6,d1,e1⟩:=HJ5.out.appended HY1.out hTK o6 g6 at6;have HJ6:Hid _:=hj6;have HO6:Hid _:=HO5.out.trans ho6;clear o6 g6 at6 hj6 ho6))
   go_end0
   exact⟨⟨_,rfl⟩,_,by rw[HML.out];exact HJ6.out,HO6.out⟩
theorem parse_line{k:ByteArray}{id:Int}{l:List Int}(h:mayB k id l=true):ParseR (sign (txt k id l)) k id l 0:=by
 have hs:=txt_size h
 obtain⟨h1,h2⟩:=read_sign (txt k id l)
 exact .inl ⟨rfl,h,by rw[sign_size];omega,h1,h2⟩
end Go.Proofs.YthfgmpooehkhgaaGreatDoor
namespace Go.Proofs.YthfgmpooehkhgaaGreatDoor
open Go
theorem join_mem(b:UInt8):∀(ws:List (List UInt8)),b∈Lib.join ws [32]→b=32∨∃x∈ws,b∈x
 | [],h=>by simp[Lib.join_nil]at h
 | [x],h=>by rw[Lib.join_one]at h;exact .inr ⟨x,by simp,h⟩
 |x::y::r,h=>by
  have e:Lib.join (x::y::r) [32]=x++32::Lib.join (y::r) [32]:=by
   rw[Lib.join_cons,Lib.join_cons];simp[Lib.joinTail]
  rw[e]at h;rcases List.mem_append.1 h with h|h
  ·exact .inr ⟨x,by simp,h⟩
  ·rcases List.mem_cons.1 h with h|h
   ·exact .inl h
   ·rcases join_mem b (y::r) h with h|⟨z,hz,hb⟩
    ·exact .inl h
    ·exact .inr ⟨z,by simp[hz],hb⟩
theorem nobar{k:ByteArray}{id:Int}{l:List Int}(h:mayB k id l=true):(124:UInt8)∉(txt k id l).data.toList :=by
 intro hb
 obtain⟨_,_,hk,_⟩:=may_parts h
 rcases join_mem 124 (wordsL k id l) hb with h1|⟨x,hx,hb⟩
 ·simp at h1
 ·have num:∀n:Int,(124:UInt8)∉Lib.itoa n:=fun n hn=>by
   rcases itoa_chars n 124 hn with h|⟨_,h⟩<;>simp at h
  rcases List.mem_cons.1 hx with rfl|hx
  ·have:=(hk 124 hb).2
   simp at this
  ·rcases List.mem_cons.1 hx with rfl|hx
   ·exact num _ hb
   ·obtain⟨n,_,rfl⟩:=List.mem_map.1 hx;exact num _ hb
theorem read_bar{s:ByteArray}(h:readB s=true):3≤s.size∧s.data.toList=(head s).data.toList ++124::(lets (head s)).data.toList ∧(head s).data.toList =s.data.toList.take (s.size-3):=by
 unfold readB at h
 rw[Bool.and_eq_true,decide_eq_true_eq,beq_iff_eq,sign_list,ByteArray.toList_eq]at h
 exact⟨h.1,h.2.symm,head_list s⟩
theorem torn_none{k:ByteArray}{id:Int}{l:List Int}(h:mayB k id l=true)(n:Nat)(hn:n<(sign (txt k id l)).size):readB ((sign (txt k id l)).extract 0 n)=false:=by
 cases hr:readB ((sign (txt k id l)).extract 0 n)with
 |false=>rfl
 |true=>
  exfalso;obtain⟨h3,he,hh⟩:=read_bar hr;have hX:(sign (txt k id l)).data.toList =(txt k id l).data.toList ++124::(lets (txt k id l)).data.toList :=by rw[←ByteArray.toList_eq,sign_list]
  have hd:((sign (txt k id l)).extract 0 n).data.toList =(sign (txt k id l)).data.toList.take n:=Lib.extract_from_zero _ _
  have hsz:((sign (txt k id l)).extract 0 n).size =n:=by simp;omega
  rw[sign_size]at hn;rw[hsz]at h3 hh;have hl:(txt k id l).data.toList.length =(txt k id l).size :=Array.length_toList
  have hlen:(head ((sign (txt k id l)).extract 0 n)).data.toList.length =n-3:=by
   rw[hh,hd,List.length_take,List.length_take,hX];simp;omega
  have g:((sign (txt k id l)).extract 0 n).data.toList[n-3]?=some 124:=by
   rw[he,←hlen];simp
  rw[hd,List.getElem?_take,if_pos (by omega),hX,List.getElem?_append_left (by omega)]at g;exact nobar h (List.mem_of_getElem? g)
end Go.Proofs.YthfgmpooehkhgaaGreatDoor
