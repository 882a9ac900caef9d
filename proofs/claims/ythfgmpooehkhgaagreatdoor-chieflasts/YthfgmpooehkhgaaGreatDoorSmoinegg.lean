import Derived.Test.YthfgmpooehkhgaaGreatDoorSmccmfff
import Derived.Test.YthfgmpooehkhgaaGreatDoorSmikfnbn
import Derived.Test.YthfgmpooehkhgaaGreatDoorSmpdjkmo
import Derived.Maps.OwnIn
namespace Go.Proofs.YthfgmpooehkhgaaGreatDoor.Bl
open Go.ChangeShapes Go.WideShapes Go.ChangeAt Go.RowKit Go.Shelf Go.Maps Go.Sort
theorem sortsA(m:Nat):AnyZI.SortsIn Tryz.prog Tryz.sortedA_ren Fence.wide m:=
 ⟨fun blk off cap ss W hH hblk hsz=>callsIn_wide.2 (AnyM.slices_Sort_int Tryz.sortA blk off cap ss W hH hblk hsz),
  fun p cap W=>callsIn_wide.2 (AnyM.slices_Sort_int_none Tryz.sortA p cap W)⟩
theorem keyscall(mb:Option Nat)(W:World):CallsIn Fence.wide 5 Tryz.prog 173 #[.map mb] W fun e w'=>e= .returned (.func (.func 204) #[] #[.pointer (some ⟨W.heap.size,0,none⟩)])∧w'=W.alloc (.cells #[.map mb] 160):=
 AnyZI.keys_in Tryz.keysA Fence.wide 5 trivial rfl mb W
theorem sortedcall{b n:Nat}{D:DataW Unit}{w:World}(hown:w.ownsMap Tryz.prog 3 (plainElem Tryz.prog 3) b n D)(hn:n≤1000000):
 CallsIn Fence.wide 5 Tryz.prog 163 #[.func (.func 204) #[] #[.pointer (some ⟨w.heap.size,0,none⟩)]] (w.alloc (.cells #[.map (some b)] 160)) fun e w'=>∃(v:Value)(ss:List Int),e= .returned v∧ss.Perm (intKeys D)∧
  w'.ownsRow (w.alloc (.cells #[.map (some b)] 160)).heap.size 3 1 v ss.length ((ss.mergeSort (fun x y=>decide (x≤y))).map encZ)∧(v= .slice none 0 0↔ss= [])∧Below (w.alloc (.cells #[.map (some b)] 160)).heap.size (w.alloc (.cells #[.map (some b)] 160)) w':=by
 have hsz:=hown.size_le
 have hseq:SeqGives Fence.wide 2 Tryz.prog 204 #[.pointer (some ⟨w.heap.size,0,none⟩)] encZ (fun ss=>ss.Perm (intKeys D)) (Maps.size D) (w.alloc (.cells #[.map (some b)] 160)):=
  AnyZI.keys_gives (ρ:=Tryz.keysA_ren) {Tryz.keysA with} Fence.wide _ trivial rfl (by omega) w.heap.size b n D _ (by simp) (by simp) (hown.alloc _)
 exact AnyZI.sorted_in Tryz.sortedA Fence.wide 5 trivial trivial trivial trivial rfl (by omega) (sortsA _) (enters_of Tryz.func199 (by kernel_rfl) rfl) 204 #[.pointer (some ⟨w.heap.size,0,none⟩)] trivial (enters_of Tryz.func204 (by kernel_rfl) rfl) _ _ (by unfold maxLen;omega) (by omega) _ hseq
theorem sortednil(w:World):
 CallsIn Fence.wide 5 Tryz.prog 163 #[.func (.func 204) #[] #[.pointer (some ⟨w.heap.size,0,none⟩)]] (w.alloc (.cells #[.map none] 160)) fun e w'=>∃(v:Value)(ss:List Int),e= .returned v∧ss= []∧
  w'.ownsRow (w.alloc (.cells #[.map none] 160)).heap.size 3 1 v ss.length ((ss.mergeSort (fun x y=>decide (x≤y))).map encZ)∧(v= .slice none 0 0↔ss= [])∧Below (w.alloc (.cells #[.map none] 160)).heap.size (w.alloc (.cells #[.map none] 160)) w':=by
 have hseq:SeqGives Fence.wide 2 Tryz.prog 204 #[.pointer (some ⟨w.heap.size,0,none⟩)] encZ (fun ss:List Int=>ss= []) 0 (w.alloc (.cells #[.map none] 160)):=
  AnyZI.keys_gives_nil (ρ:=Tryz.keysA_ren) {Tryz.keysA with} Fence.wide _ trivial rfl w.heap.size _ (by simp) (by simp)
 exact AnyZI.sorted_in Tryz.sortedA Fence.wide 5 trivial trivial trivial trivial rfl (by omega) (sortsA _) (enters_of Tryz.func199 (by kernel_rfl) rfl) 204 #[.pointer (some ⟨w.heap.size,0,none⟩)] trivial (enters_of Tryz.func204 (by kernel_rfl) rfl) _ _ (by unfold maxLen;omega) (by omega) _ hseq
theorem keys_bells{b n:Nat}{D:DataW Unit}{w:World}{h:Int→Int}(hown:w.ownsMap Tryz.prog 3 (plainElem Tryz.prog 3) b n D)(f:FitB D h)(hat:∀x,h x≠0→1≤x∧x≤999){ss:List Int}(hp:ss.Perm (intKeys D)):
 ss.mergeSort (fun x y=>decide (x≤y))=idsL h∧ss.length=(idsL h).length :=by
 have hr2:(idsL h).Pairwise (· < ·):=idsTo_rise h 1000
 have hC:CollectedI D (fun _=>false) (idsL h):=⟨hr2.imp (fun h=>by omega),fun x=>by rw[mem_idsL hat,(f.2 x).2];simp⟩
 have hq:ss.Perm (idsL h):=hp.trans (hC.perm hown lawI Tryz.underlying3 (fun _=>rfl)).symm
 refine⟨?_,hq.length_eq⟩
 refine(mergeSort_of_perm_i hq).trans (List.mergeSort_of_pairwise ?_)
 exact hr2.imp (fun h=>by simp;omega)
theorem sortedids{E:Nat→Prop}{w:World}{p:Nat}{t:Int}{h:Int→Int}{n:Nat}{mv:Value}(k:BtV E w p t h n mv)(g:GoodT t h)(hn:n≤1000000):
 ∃mb,mv= .map mb∧CallsIn Fence.wide 5 Tryz.prog 163 #[.func (.func 204) #[] #[.pointer (some ⟨w.heap.size,0,none⟩)]] (w.alloc (.cells #[.map mb] 160)) fun e w'=>∃v:Value,e= .returned v∧
  w'.ownsRow (w.alloc (.cells #[.map mb] 160)).heap.size 3 1 v (idsL h).length ((idsL h).map (Value.int .i64))∧Below (w.alloc (.cells #[.map mb] 160)).heap.size (w.alloc (.cells #[.map mb] 160)) w':=by
 rcases k.2 with⟨rfl,rfl⟩|⟨b,rfl,_,D,hown,hf⟩
 ·refine⟨none,rfl,(sortednil w).mono ?_⟩;rintro e w' ⟨v,ss,rfl,rfl,hrow,-,hb⟩;rw[idsL_zero];exact⟨v,rfl,by simpa using hrow,hb⟩
 ·refine⟨some b,rfl,(sortedcall hown hn).mono ?_⟩;rintro e w' ⟨v,ss,rfl,hp,hrow,-,hb⟩;obtain⟨e1,e2⟩:=keys_bells hown hf g.at_ hp;rw[e1,e2]at hrow;exact⟨v,rfl,hrow,hb⟩
theorem beach_any(a:Option Addr)(l c:Nat)(w:World):
 Calls Tryz.prog 172 #[.slice a l c] w fun e w'=>e= .returned (.func (.func 202) #[] #[.pointer (some ⟨w.heap.size,0,none⟩)])∧w'=w.alloc (.cells #[.slice a l c] 60):=by
 go_enter Tryz.func172,Tryz.ntmps172
 go_wp2
 go_ret
 exact⟨rfl,rfl⟩
theorem vals_any(a:Option Addr)(l c:Nat)(w:World):
 Calls Tryz.prog 203 #[.slice a l c] w fun e w'=>e= .returned (.func (.func 228) #[] #[.pointer (some ⟨w.heap.size,0,none⟩)])∧w'=w.alloc (.cells #[.slice a l c] 60):=by
 go_enter Tryz.func203,Tryz.ntmps203
 go_wp2
 go_ret
 exact⟨rfl,rfl⟩
def ItV(w:World)(Bi:Nat)(L:List Int)(v:Value):Prop:=
 w.heap[Bi]?=some (.cells #[v] 60 (0,0))∧∃B,w.ownsRow B 3 1 v L.length (L.map (Value.int .i64))
def SeqV(w:World)(L:List Int)(e:Ending)(w':World):Prop:=
 ∃Bi v,e= .returned (.func (.func 202) #[] #[.pointer (some ⟨Bi,0,none⟩)])∧Below w.heap.size w w'∧ItV w' Bi L v∧(w.heap.size≤Bi∧Bi<w'.heap.size)∧∀k,v.ownBlock=some k→w.heap.size≤k∧k<w'.heap.size
set_option maxHeartbeats 1000000 in
theorem bids_any{B:Nat}{E:Nat→Prop}{w:World}{p:Nat}{t:Int}{h:Int→Int}{n:Nat}(k:Bt B E w p t h n)(hn:n≤1000000):
 Calls Tryz.prog 129 #[.pointer (some ⟨p,0,none⟩)] w (SeqV w (idsL h)):=by
 obtain⟨-,-,hg,mv,hv⟩:=k
 have c1:=hv.cellM
 obtain⟨mb,rfl,cS⟩:=sortedids hv hg hn
 refine(callsIn_wide (n:=6)).1 ?_
 have hfK:Fence.wide.fn 173:=trivial
 have hfS:Fence.wide.fn 163:=trivial
 have hfE:Fence.wide.fn 172:=trivial
 have cE:∀(a:Option Addr)(l c:Nat)(W:World),CallsIn Fence.wide 5 Tryz.prog 172 #[.slice a l c] W _:=fun a l c W=>callsIn_wide.2 (beach_any a l c W)
 refine callsIn_of_wp Tryz.func129 rfl trivial ?_ rfl
 simp only[Tryz.ntmps129,List.size_toArray,List.length_cons,List.length_nil,Nat.reduceAdd,Nat.reduceSub,Array.replicate_succ,Array.replicate_zero,List.push_toArray,List.append_toArray,List.nil_append,List.cons_append]
 gi_wp2_with (first
  |(gi_at_call 173;refine(keyscall _ _).mono ?_;rintro e w' ⟨rfl,rfl⟩)
  |(gi_at_call 163;refine cS.mono ?_;rintro e w1 ⟨v,rfl,hrow,hb⟩;obtain⟨a1,n1,rfl,-⟩:=row_slice hrow;clear cS)
  |(gi_at_call 172;refine(cE _ _ _ _).mono ?_;rintro e w2 ⟨rfl,rfl⟩))
 go_ret
 have hsz:w.heap.size≤w1.heap.size:=by have:=hb.size;simp at this;omega
 have hr2:=hrow.alloc (.cells #[.slice a1 (idsL h).length n1] 60)
 exact⟨_,_,rfl,((Below.refl _ w).alloc (Nat.le_refl _) _).trans ((hb.mono (by simp)).alloc hsz _),⟨World.alloc_heap_new _ _,_,hr2⟩,⟨hsz,by simp⟩,fun k e=>⟨by have:=(hr2.lt k e).1;simp at this;omega,(hr2.lt k e).2⟩⟩
end Go.Proofs.YthfgmpooehkhgaaGreatDoor.Bl
namespace Go.Proofs.YthfgmpooehkhgaaGreatDoor.Bl
open Go.ChangeShapes Go.WideShapes Go.ChangeAt Go.RowKit Go.Shelf Go.Maps
attribute [local go_sem] Oper.semAt_some
def encI(x:Int):Value:= .int .i64 x
theorem take_pre{L:List Int}{j:Nat}(h:j<L.length):L.take j++ [L.getD j 0]=L.take (j+1):=by
 rw[List.take_succ_eq_append_getElem h]
 simp[List.getD,h]
def NoE(E:Nat→Obj→Prop)(Bi:Nat)(v:Value):Prop:=(∀cs f,¬E Bi (.cells cs 60 f))∧∀k,v.ownBlock=some k→∀o,¬E k o
theorem ItV.kept{w w':World}{Bi:Nat}{L:List Int}{v:Value}{E:Nat→Obj→Prop}(h:ItV w Bi L v)(hk:Rg.Kept E w w')(hE:NoE E Bi v):ItV w' Bi L v:=by
 obtain⟨h2,B,h3⟩:=h
 refine⟨hk.block _ _ h2 (hE.1 _ _),B,⟨h3.1,?_⟩⟩
 rcases h3.2 with h5|⟨g,cap,cur,rfl,hg,hc,rest⟩
 ·exact .inl h5
 ·exact .inr ⟨g,cap,cur,rfl,hg,hk.block _ _ hc (hE.2 g rfl _),rest⟩
theorem ItV.on{w w':World}{Bi:Nat}{L:List Int}{v:Value}(h:ItV w Bi L v)(hb:Below w.heap.size w w'):ItV w' Bi L v:=h.kept (E:=fun _ _=>False) (Rg.Kept.of_below hb) ⟨fun _ _ h=>h,fun _ _ _ h=>h⟩
theorem ItV.row{w:World}{Bi:Nat}{L:List Int}{v:Value}(h:ItV w Bi L v):∃a c,v= .slice a L.length c∧w.cell? ⟨Bi,0,none⟩=some (.slice a L.length c)∧Ints w a L:=by
 obtain⟨h2,B,h3⟩:=h
 obtain⟨a,c,rfl,-,h4⟩:=owned_nums h3
 exact⟨a,c,rfl,by rw[cell_of h2];rfl,h4⟩
theorem ItV.lt{w:World}{Bi:Nat}{L:List Int}{v:Value}(h:ItV w Bi L v):Bi<w.heap.size∧∀k,v.ownBlock=some k→k<w.heap.size:=by
 obtain⟨h2,B,h3⟩:=h
 exact⟨(Array.getElem?_eq_some_iff.1 h2).1,fun k e=>(h3.lt k e).2⟩
theorem NoE.more{E:Nat→Obj→Prop}{Bi l:Nat}{v:Value}(h:NoE E Bi v)(h1:Bi≠l)(h2:∀k,v.ownBlock=some k→k≠l):NoE (fun k o=>E k o∨k=l) Bi v:=
 ⟨fun cs f e=>e.elim (h.1 cs f) h1,fun k hk o e=>e.elim (h.2 k hk o) (h2 k hk)⟩
set_option maxRecDepth 100000 in
set_option maxHeartbeats 2000000 in
theorem vals_seq{E:Nat→Obj→Prop}{Bi:Nat}{L:List Int}{v:Value}(hL:L.length≤1000000){w:World}(h:ItV w Bi L v)(hE:NoE E Bi v):
 Rg.SeqA Tryz.prog E 228 #[.pointer (some ⟨Bi,0,none⟩)] encI L w:=by
 intro l J Jx W hW hwl hlW hJ hJx hY h0
 have hv:=h.on hW
 obtain⟨a,c,rfl,hc0,hi0⟩:=hv.row
 have HEA:=hide hv
 have HKE:=hide (hE.more (l:=l) (by have:=h.lt.1;omega) (fun k e=>by have:=h.lt.2 k e;omega))
 refine callsIn_wide.2 ((callsIn_wide (n:=5)).1 ?_)
 have HY:Hid (∀pre x W1,J pre W1→pre++ [x]<+:L→YieldAt Fence.wide 4 Tryz.prog l #[encI x] W1 fun e W'=>Rg.Kept (fun k o=>E k o∨k=l) W1 W'∧((e= .returned (.bool true)∧J (pre++ [x]) W')∨(e= .returned (.bool false)∧Jx (pre++ [x]) W'))):=fun pre x W1 h1 h2=>Rg.yield_any0 (hY pre x W1 h1 h2)
 have HJ0:=hide h0
 clear hY hJ hJx h0 h hE hW hi0 hv
 refine callsIn_of_wp Tryz.func228 rfl trivial ?_ rfl
 simp only[Tryz.ntmps228,List.size_toArray,List.length_cons,List.length_nil,Nat.reduceAdd,Nat.reduceSub,Array.replicate_succ,Array.replicate_zero,List.push_toArray,List.append_toArray,List.nil_append,List.cons_append]
 gi_wp2
 gi_loopw [7] (fun i wr=>∃j:Nat,i= .int .i64 j∧j≤L.length∧Hid (J (L.take j) wr)∧Hid (ItV wr Bi L (.slice a L.length c))) (fun i _=>L.length-(intOf i).toNat)
 case atStart=>exact⟨0,rfl,Nat.zero_le _,HJ0,HEA⟩
 case round=>
  obtain⟨j,rfl,hj,HJ,HV⟩:=hrel;by_cases hlt:j<L.length
  ·obtain⟨a',c',ev,-,hi⟩:=HV.out.row;cases ev;rcases hi with hi|⟨ba,oa,rfl,hca⟩
   ·exfalso;rw[hi]at hlt;simp at hlt
   have h1:=hca j hlt
   obtain⟨x,hx⟩:∃x,x=L.getD j 0:=⟨_,rfl⟩
   rw[←hx]at h1;have hpre:L.take j++ [x]=L.take (j+1):=by rw[hx];exact take_pre hlt
   obtain⟨fn,tmps,assign,body,hy,hR⟩:=HY.out (L.take j) x wr HJ.out (by rw[hpre];exact List.take_prefix _ _);rw[hpre]at hR;have HPE:=hide hpre
   clear hpre hx hca;dsimp only[encI]at hy;have q1:(j:Int)<(L.length:Int):=by omega
   gi_wp2
   refine hR.mono ?_;rintro e W3 ⟨hk3,(⟨rfl,hJ3⟩|⟨rfl,hJ3⟩)⟩
   ·have HJ3:=hide hJ3
    have HV3:=hide (HV.out.kept hk3 HKE.out)
    clear hJ3 hk3 hR h1
    gi_wp2
    go_roundw
    case rel=>exact⟨j+1,by go_num,by omega,HJ3,HV3⟩
    case measure=>simp[intOf];omega
   ·have HJ3:=hide hJ3
    clear hJ3 hk3 hR h1
    gi_wp2
    refine bodyPost_ret (results_none rfl _ _ _) rfl ?_;exact⟨⟨_,rfl⟩,.inr ⟨_,by rw[←HPE.out];simp,List.take_prefix _ _,HJ3.out⟩⟩
  ·have q1:¬(j:Int)<(L.length:Int):=by omega
   have HJ3:Hid (J L wr):=by
    have:=HJ.out
    rwa [List.take_of_length_le (by omega)]at this
   gi_wp2
   go_end0
   exact⟨⟨_,rfl⟩,.inl HJ3.out⟩
set_option maxRecDepth 100000 in
set_option maxHeartbeats 4000000 in
theorem bell_seq{E:Nat→Obj→Prop}{Bi:Nat}{L:List Int}{v:Value}(hL:L.length≤1000000){w:World}(h:ItV w Bi L v)(hE:NoE E Bi v)(hN:∀k o,w.heap.size≤k→E k o→∃cs f,o= .cells cs 3 f):
 Rg.SeqA Tryz.prog E 202 #[.pointer (some ⟨Bi,0,none⟩)] encI L w:=by
 intro l J Jx W hW hwl hlW hJ hJx hY h0
 have hv:=h.on hW
 obtain⟨a,c,rfl,hc0,-⟩:=hv.row
 refine callsIn_wide.2 ((callsIn_wide (n:=5)).1 ?_)
 have hnf:∀u:World,(binOp BinOp.eql 101 (.func (.yield l) #[] #[]) .nilFunc).run Tryz.prog u= .ok (.bool false) u:=fun _=>by kernel_rfl
 have cV:∀(a:Option Addr)(n c:Nat)(W:World),CallsIn Fence.wide 4 Tryz.prog 203 #[.slice a n c] W _:=fun a l c W=>callsIn_wide.2 (vals_any a l c W)
 have hfV:Fence.wide.fn 203:=trivial
 obtain⟨W0,hW0⟩:∃W0,W0=W.alloc (.cells #[.func (.yield l) #[] #[]] 101):=⟨_,rfl⟩
 obtain⟨W1,hW1⟩:∃W1,W1=W0.alloc (.cells #[.slice a L.length c] 60):=⟨_,rfl⟩
 have hb0:Below W.heap.size W W0:=by rw[hW0];exact(Below.refl _ _).alloc (Nat.le_refl _) _
 have hb1:Below W.heap.size W W1:=by rw[hW1];exact bel_al hb0 _
 have hz0:W0.heap.size=W.heap.size+1:=by rw[hW0];simp
 have hz1:W1.heap.size=W.heap.size+2:=by rw[hW1];simp[hz0]
 have hby:W1.heap[W.heap.size]?=some (.cells #[.func (.yield l) #[] #[]] 101 (0,0)):=by
  rw[hW1];refine(Below.heap_alloc _ _ _ (by omega)).trans ?_;rw[hW0];exact World.alloc_heap_new W _
 have hi1:ItV W1 (W.heap.size+1) L (.slice a L.length c):=by
  obtain⟨-,B,h3⟩:=hv.on hb1;refine⟨?_,B,h3⟩;rw[hW1,←hz0];exact World.alloc_heap_new _ _
 have hcp:(W.alloc (.cells #[.func (.yield l) #[] #[]] 101)).cell? ⟨Bi,0,none⟩=some (.slice a L.length c):=by rw[←hW0];exact cellL hc0 hb0
 have hlw:=h.lt
 have hws:=hW.size
 have hNE:NoE (fun k o=>E k o∨k=l) (W.heap.size+1) (.slice a L.length c):=by
  refine⟨fun cs f e=>?_,fun k hk o e=>e.elim (hE.2 k hk o) (fun e=>by have:=hlw.2 k hk;omega)⟩;rcases e with e|e
  ·obtain⟨cs',f',e2⟩:=hN _ _ (by omega) e;simp only[Obj.cells.injEq]at e2;exact absurd e2.2.1 (by decide)
  ·omega
 have HSQ:=hide (vals_seq hL hi1 hNE)
 have HNC:Hid (∀k o,W1.heap.size≤k→o.isCells=false→¬(E k o∨k=l)):=fun k o h1 h2 h3=>by
  rcases h3 with h3|h3
  ·obtain⟨cs',f',e2⟩:=hN _ _ (by omega) h3;rw[e2]at h2;cases h2
  ·omega
 have HNY:Hid (¬(E W.heap.size (.cells #[.func (.yield l) #[] #[]] 101 (0,0))∨W.heap.size=l)):=fun e=>by
  rcases e with e|e
  ·obtain⟨cs',f',e2⟩:=hN _ _ (by omega) e;simp only[Obj.cells.injEq]at e2;exact absurd e2.2.1 (by decide)
  ·omega
 have HY:=hide hY
 have HJ:=hide hJ
 have HJX:=hide hJx
 have HJ1:=hide (Rg.own_grows hJ h0 hb1)
 have HBY:=hide hby
 have HZ1:=hide hz1
 have HW1:Hid (W1=(W.alloc (.cells #[.func (.yield l) #[] #[]] 101)).alloc (.cells #[.slice a L.length c] 60)):=by show W1=_;rw[hW1,hW0]
 clear hY hJ hJx h0 h hE hN hW hv hb0 hb1 hz0 hz1 hby hi1 hlw hws hNE hW0 hW1 hc0
 refine callsIn_of_wp_marks Tryz.func202 rfl trivial ?_ rfl
 simp only[Tryz.ntmps202,List.size_toArray,List.length_cons,List.length_nil,Nat.reduceAdd,Nat.reduceSub,Array.replicate_succ,Array.replicate_zero,List.push_toArray,List.append_toArray,List.nil_append,List.cons_append]
 gi_wp2_with (gi_at_call 203;refine(cV _ _ _ _).mono ?_;rintro e w2 ⟨rfl,rfl⟩)
 rw[←HW1.out]
 refine Rg.range_acts (E:=fun k o=>E k o∨k=l) (enc:=encI) (L:=L) (I:=fun q W2=>J q W2∧Rg.Kept (fun k o=>E k o∨k=l) W1 W2) (Ix:=fun c q W2=>(c= .ret ∧Jx q W2)∧Rg.Kept (fun k o=>E k o∨k=l) W1 W2)
  (Ax:=fun x a' _=>a'= {tmps:=#[.func (.yield l) #[] #[],.pointer (some ⟨Bi,0,none⟩),.pointer (some ⟨W.heap.size,0,none⟩),.int .i64 x,.func (.yield l) #[] #[],.bool false,.slice a L.length c,.func (.func 228) #[] #[.pointer (some ⟨W.heap.size+1,0,none⟩)],.int .i64 x,undef,undef,undef,undef],defers:=[]})
  (gf:=228) (lb:=#[.pointer (some ⟨W.heap.size+1,0,none⟩)]) rfl (enters_of Tryz.func228 (by kernel_rfl) rfl) HSQ.out HNC.out rfl ?oi (fun c=>?ox) (fun x a'=>?oa) ?start ?assign ?body ?done ?stop
 case oi=>exact OwnFrom.and (fun s A A' row hs hg hr=>Rg.own_mono HJ.out (B':=W1.heap.size) (by have:=HZ1.out;omega) _ A A' row hs hg hr) (Rg.Kept.own (Nat.le_refl _))
 case ox=>exact OwnFrom.and (fun s A A' row hs hg hr=>⟨hs.1,Rg.own_mono HJX.out (B':=W1.heap.size) (by have:=HZ1.out;omega) _ A A' row hs.2 hg hr⟩) (Rg.Kept.own (Nat.le_refl _))
 case oa=>
  intro _ A A' row hs hg hr;exact hs
 case start=>exact⟨HJ1.out,Rg.Kept.refl _ _⟩
 case assign=>
  intro l' pre x W2 K hI hK;have HK2:=hK {tmps:=#[.func (.yield l) #[] #[],.pointer (some ⟨Bi,0,none⟩),.pointer (some ⟨W.heap.size,0,none⟩),.int .i64 x,.func (.yield l) #[] #[],.bool false,.slice a L.length c,.func (.func 228) #[] #[.pointer (some ⟨W.heap.size+1,0,none⟩)],.int .i64 x,undef,undef,undef,undef],defers:=[]} _ (Rg.Kept.refl _ _) hI rfl
  clear hK;unfold encI at HK2 ⊢
  gi_wp2
  exact HK2
 case body=>
  rintro l' q x a' W2 ⟨hJ2,hk2⟩ rfl hpq;have ey:W2.cell? ⟨W.heap.size,0,none⟩=some (.func (.yield l) #[] #[]):=by
   rw[cell_of (hk2.block _ _ HBY.out HNY.out)];rfl
  obtain⟨fn,tmps,assign,body,hy,hR⟩:=Rg.yield_any (l':=l') (m':=0) (HY.out q x W2 hJ2 hpq);have HK2:=hide hk2
  clear hJ2 hk2 hcp;dsimp only[encI]at hy ⊢
  gi_wp2
  refine⟨rfl,hR.mono ?_⟩;rintro e W3 ⟨hk3,(⟨rfl,hJ3⟩|⟨rfl,hJ3⟩)⟩
  ·have HJ3:=hide hJ3
   have HK3:=hide hk3
   clear hJ3 hk3 hR
   gi_wp2
   exact⟨HK3.out,HJ3.out,HK2.out.trans HK3.out⟩
  ·have HJ3:=hide hJ3
   have HK3:=hide hk3
   clear hJ3 hk3 hR
   gi_wp2
   exact⟨HK3.out,⟨rfl,HJ3.out⟩,HK2.out.trans HK3.out⟩
 case done=>
  intro D W2 hD hI hdf
  gi_wp2
  refine Rg.leaves_marks (B:=W.heap.size) (J:=fun W'=>J L W') rfl (fun s=>HJ.out L) (fun v W' h=>⟨⟨_,rfl⟩,.inl h⟩) [D] W2 hI.1 (by simp) (fun D' hD'=>?_);have e:D'=D:=by simpa using hD'
  subst e;exact⟨by have:=HZ1.out;omega,hdf⟩
 case stop=>
  rintro D c' pre W2 hD hne hpr ⟨⟨rfl,hJ2⟩,hk2⟩ hdf
  gi_wp2
  refine Rg.leaves_marks (B:=W.heap.size) (J:=fun W'=>Jx pre W') rfl (fun s=>HJX.out pre) (fun v W' h=>⟨⟨_,rfl⟩,.inr ⟨pre,hne,hpr,h⟩⟩) [D] W2 hJ2 (by simp) (fun D' hD'=>?_);have e:D'=D:=by simpa using hD'
  subst e;exact⟨by have:=HZ1.out;omega,hdf⟩
end Go.Proofs.YthfgmpooehkhgaaGreatDoor.Bl
namespace Go.Proofs.YthfgmpooehkhgaaGreatDoor.Ci
open Go.ChangeShapes Go.WideShapes Go.ChangeAt Go.RowKit Go.Shelf Go.Maps Go.Sort Bl
theorem each_any(a:Option Addr)(l c:Nat)(w:World):
 Calls Tryz.prog 162 #[.slice a l c] w fun e w'=>e= .returned (.func (.func 197) #[] #[.pointer (some ⟨w.heap.size,0,none⟩)])∧w'=w.alloc (.cells #[.slice a l c] 60):=by
 go_enter Tryz.func162,Tryz.ntmps162
 go_wp2
 go_ret
 exact⟨rfl,rfl⟩
def EachV(B N:Nat)(w:World)(Bi:Nat)(L:List Int)(v:Value):Prop:=
 (B≤Bi∧Bi<N)∧w.heap[Bi]?=some (.cells #[v] 60 (0,0))∧w.ownsRow B 3 1 v L.length (L.map (Value.int .i64))∧∀k,v.ownBlock=some k→k<N
def EachAt(B N:Nat)(w:World)(Bi:Nat)(L:List Int):Prop:=∃v,EachV B N w Bi L v
end Go.Proofs.YthfgmpooehkhgaaGreatDoor.Ci
namespace Go.Proofs.YthfgmpooehkhgaaGreatDoor.Ci
open Go.ChangeShapes Go.WideShapes Go.ChangeAt Go.RowKit Go.Shelf Go.Maps Bl
theorem take_pre{L:List Int}{j:Nat}(h:j<L.length):L.take j++ [L.getD j 0]=L.take (j+1):=by
 rw[List.take_succ_eq_append_getElem h]
 simp[List.getD,h]
theorem EachV.row{B N:Nat}{w:World}{Bi:Nat}{L:List Int}{v:Value}(h:EachV B N w Bi L v):∃a c,v= .slice a L.length c∧w.cell? ⟨Bi,0,none⟩=some (.slice a L.length c)∧Ints w a L:=by
 obtain⟨h1,h2,h3,-⟩:=h
 obtain⟨a,c,rfl,-,h4⟩:=owned_nums h3
 exact⟨a,c,rfl,by rw[cell_of h2];rfl,h4⟩
attribute [local go_sem] Oper.semAt_some
end Go.Proofs.YthfgmpooehkhgaaGreatDoor.Ci
