import Derived.Test.YthfgmpooehkhgaaGreatDoorSmmkapjj
import Derived.Laws.AppendOwnNone
import Derived.Maps.AppendAt
namespace Go.Proofs.YthfgmpooehkhgaaGreatDoor
open Go.ChangeShapes Go.WideShapes Go.ChangeAt Go.RowKit
open List renaming eq_nil_of_length_eq_zero→zL
theorem st_add(g i:Nat):(⟨g,0,none⟩:Addr).add i=⟨g,0+i,none⟩:=by cases i<;>simp[Addr.add]
theorem st_add'(g o i:Nat):(⟨g,o,none⟩:Addr).add i=⟨g,o+i,none⟩:=by cases i<;>simp[Addr.add]
def Strs(w:World)(a:Option Addr)(l:List ByteArray):Prop:=
 l= []∨∃b off,a=some ⟨b,off,none⟩∧∀i,i<l.length→w.cell? ⟨b,off+i,none⟩=some (.string (l.getD i ByteArray.empty))
theorem Strs.below{w w':World}{a:Option Addr}{l:List ByteArray}(h:Strs w a l)(hb:Below w.heap.size w w'):Strs w' a l:=by
 rcases h with h|⟨b,off,ha,hc⟩
 ·exact .inl h
 ·refine .inr ⟨b,off,ha,fun i hi=>?_⟩;have:=hc i hi
  rw[hb.cell (p:=⟨b,off+i,none⟩) (World.block_lt_of_cell? _ _ this)];exact this
theorem Tryz.infoStr:(Tryz.prog.info? 9).map (fun i=>(i.zero,i.size,i.bytes))=some (some (.string ByteArray.empty),1,16):=by kernel_rfl
theorem Tryz.infoNum:(Tryz.prog.info? 3).map (fun i=>(i.zero,i.size,i.bytes))=some (some (.int .i64 0),1,8):=by kernel_rfl
theorem owned_strs{w:World}{base:Nat}{v:Value}{n:Nat}{l:List ByteArray}(h:w.ownsRow base 9 1 v n (l.map Value.string)):∃a c,v= .slice a n c∧l.length=n∧n≤c∧Strs w a l:=by
 have hc:=fun g hg=>h.cells (g:=g) hg
 obtain⟨hlen,h⟩:=id h
 rw[List.length_map,Nat.mul_one]at hlen
 rcases h with⟨rfl,he⟩|⟨g,cap,cur,rfl,_,_,hnc,_⟩
 ·subst he;exact⟨none,0,rfl,hlen,Nat.le_refl _,.inl (zL hlen)⟩
 ·refine⟨_,cap,rfl,hlen,hnc,.inr ⟨g,0,rfl,fun i hi=>?_⟩⟩;have:=hc g rfl i (.string (l.getD i ByteArray.empty)) (by simp[List.getD,hi])
  rw[←st_add];exact this
theorem owned_nums{w:World}{base:Nat}{v:Value}{n:Nat}{l:List Int}(h:w.ownsRow base 3 1 v n (l.map (Value.int .i64))):∃a c,v= .slice a n c∧l.length=n∧Ints w a l:=by
 have hc:=fun g hg=>h.cells (g:=g) hg
 obtain⟨hlen,h⟩:=id h
 rw[List.length_map,Nat.mul_one]at hlen
 rcases h with⟨rfl,he⟩|⟨g,cap,cur,rfl,_⟩
 ·subst he;exact⟨none,0,rfl,hlen,.inl (zL hlen)⟩
 ·refine⟨_,cap,rfl,hlen,.inr ⟨g,0,rfl,fun i hi=>?_⟩⟩;have:=hc g rfl i (.int .i64 (l.getD i 0)) (by simp[List.getD,hi])
  rw[←st_add];exact this
theorem owned_built(w:World)(base:Nat)(hb:base≤w.heap.size)(l:List ByteArray)(hl:l.length≤1000):
 (w.alloc (.cells (l.map Value.string).toArray 9)).ownsRow base 9 1 (.slice (some ⟨w.heap.size,0,none⟩) l.length l.length) l.length (l.map Value.string):=
 ⟨by simp,.inr ⟨w.heap.size,l.length,(l.map Value.string).toArray,rfl,hb,by show(w.heap.push _)[w.heap.size]?=_;simp,Nat.le_refl _,by unfold maxLen;omega,by simp,by rw[Nat.mul_one];exact List.take_of_length_le (by simp)⟩⟩
theorem append_strs{w:World}{ops:Array Oper}{rest:List Oper}{o:Oper}{a:Act}{Q:Exit→Act→World→Prop}(hgd:o.guard=none)(s x:Operand)
 (ho:o.op= .call {callee:= .builtin .append,args:=#[s,x],argTypes:=#[50,50]})
 (base:Nat) (v:Value) (n:Nat) (L:List ByteArray) (hs:a.eval s=v) (hown:w.ownsRow base 9 1 v n (L.map Value.string))
 (ad:Addr) (m c:Nat) (l:List ByteArray) (hm:l.length=m) (hx:a.eval x= .slice (some ad) m c) (hl:Strs w (some ad) l) (hb:n+m≤8796093022208) (hbase:base≤w.heap.size)
 (h:∀v' w',w'.ownsRow base 9 1 v' (n+m) ((L++l).map Value.string)→w.grownBy w' v.ownBlock→wpList Tryz.prog ops Q rest (a.put o.dst v') w'):wpList Tryz.prog ops Q (o::rest) a w:=by
 obtain⟨i0,hi,hz0,hz1,hz2⟩:=info_parts Tryz.infoStr
 refine wpList_append_own _ hgd s x 50 ho base 9 i0 (.string ByteArray.empty) 1 16 Tryz.underlying50 hi hz0 hz1 hz2 rfl (by decide) v n _ hs hown ad m c (l.map Value.string) hx (by simp[hm]) ?_ ?_ (by unfold maxLen;omega) (by omega) hbase ?_
 ·intro j u hu;rw[List.getElem?_map]at hu;rcases hl with rfl|⟨b,off,hab,hc⟩
  ·simp at hu
  ·cases hab;have hj:j<l.length:=by
    rcases Nat.lt_or_ge j l.length with h|h
    ·exact h
    ·rw[List.getElem?_eq_none h]at hu;simp at hu
   rw[st_add',hc j hj];simp[hj]at hu;simp[List.getD,hj,hu]
 ·intro u hu;obtain⟨z,_,rfl⟩:=List.mem_map.1 hu;rfl
 ·intro v' w' h1 h2 _;rw[←List.map_append]at h1;exact h v' w' h1 h2
theorem append_nums{w:World}{ops:Array Oper}{rest:List Oper}{o:Oper}{a:Act}{Q:Exit→Act→World→Prop}(hgd:o.guard=none)(s x:Operand)
 (ho:o.op= .call {callee:= .builtin .append,args:=#[s,x],argTypes:=#[60,60]})
 (base:Nat) (v:Value) (n:Nat) (L:List Int) (hs:a.eval s=v) (hown:w.ownsRow base 3 1 v n (L.map (Value.int .i64)))
 (ad:Addr) (m c:Nat) (l:List Int) (hm:l.length=m) (hx:a.eval x= .slice (some ad) m c) (hl:Ints w (some ad) l) (hb:n+m≤17592186044416) (hbase:base≤w.heap.size)
 (h:∀v' w',w'.ownsRow base 3 1 v' (n+m) ((L++l).map (Value.int .i64))→w.grownBy w' v.ownBlock→wpList Tryz.prog ops Q rest (a.put o.dst v') w'):wpList Tryz.prog ops Q (o::rest) a w:=by
 obtain⟨i0,hi,hz0,hz1,hz2⟩:=info_parts Tryz.infoNum
 refine wpList_append_own _ hgd s x 60 ho base 3 i0 (.int .i64 0) 1 8 Tryz.underlying60 hi hz0 hz1 hz2 rfl (by decide) v n _ hs hown ad m c (l.map (Value.int .i64)) hx (by simp[hm]) ?_ ?_ (by unfold maxLen;omega) (by omega) hbase ?_
 ·intro j u hu;rw[List.getElem?_map]at hu;rcases hl with rfl|⟨b,off,hab,hc⟩
  ·simp at hu
  ·cases hab;have hj:j<l.length:=by
    rcases Nat.lt_or_ge j l.length with h|h
    ·exact h
    ·rw[List.getElem?_eq_none h]at hu;simp at hu
   rw[st_add',hc j hj];simp[hj]at hu;simp[List.getD,hj,hu]
 ·intro u hu;obtain⟨z,_,rfl⟩:=List.mem_map.1 hu;rfl
 ·intro v' w' h1 h2 _;rw[←List.map_append]at h1;exact h v' w' h1 h2
theorem strs_one(w:World)(z:ByteArray):Strs (w.alloc (.cells #[.string z] 9)) (some ⟨w.heap.size,0,none⟩) [z]:=
 .inr ⟨w.heap.size,0,rfl,fun i hi=>by
  have h0:i=0:=by
   have: [z].length =1:=rfl
   omega
  subst h0;simp⟩
theorem ints_one(w:World)(z:Int):Ints (w.alloc (.cells #[.int .i64 z] 3)) (some ⟨w.heap.size,0,none⟩) [z]:=
 .inr ⟨w.heap.size,0,rfl,fun i hi=>by
  have h0:i=0:=by
   have: [z].length =1:=rfl
   omega
  subst h0;simp⟩
theorem owned_on{w w':World}{base:Nat}{e:TypeId}{v:Value}{n:Nat}{xs:List Value}(h:w.ownsRow base e 1 v n xs)(hb:Below w.heap.size w w'):w'.ownsRow base e 1 v n xs:=by
 obtain⟨hlen,h⟩:=h
 refine⟨hlen,?_⟩
 rcases h with h|⟨g,cap,cur,hv,hg,hc,h1,h2,h3,h4⟩
 ·exact .inl h
 ·refine .inr ⟨g,cap,cur,hv,hg,?_,h1,h2,h3,h4⟩;rw[hb.block g (by
   by_cases hlt:g<w.heap.size
   ·exact hlt
   ·rw[Array.getElem?_eq_none (by omega)]at hc;cases hc)]
  exact hc
theorem row_stays{W W':World}{base:Nat}{e:TypeId}{s:Nat}{v:Value}{n:Nat}{xs:List Value}(h:W.ownsRow base e s v n xs)(hk:∀(k:Nat)(cs:Array Value),base≤k→W.heap[k]?=some (.cells cs e (0,0))→W'.heap[k]?=W.heap[k]?):W'.ownsRow base e s v n xs:=by
 obtain⟨h1,h2⟩:=h
 refine⟨h1,?_⟩
 rcases h2 with h2|⟨g,cap,cur,hv,hg,hc,rest⟩
 ·exact .inl h2
 ·exact .inr ⟨g,cap,cur,hv,hg,(hk g cur hg hc).trans hc,rest⟩
theorem row_slice{W:World}{base:Nat}{e:TypeId}{s:Nat}{v:Value}{n:Nat}{xs:List Value}(h:W.ownsRow base e s v n xs):∃a c,v= .slice a n c∧n≤c:=by
 rcases h.2 with⟨rfl,rfl⟩|⟨g,cap,cur,rfl,_,_,hn,_⟩
 ·exact⟨none,0,rfl,Nat.le_refl _⟩
 ·exact⟨_,cap,rfl,hn⟩
end Go.Proofs.YthfgmpooehkhgaaGreatDoor
