import Derived.Test.YthfgmpooehkhgaaGreatDoorSmdebelg
import Derived.RangeFuncNested
import Derived.RangeFuncBound
namespace Go.Proofs.YthfgmpooehkhgaaGreatDoor
open Go.ChangeShapes Go.WideShapes Go.ChangeAt Go.RowKit Go.Shelf
open Nat renaming le_refl→zD,le_trans→zK
open Below renaming refl→zF,heap_setCell→zN
open Go.World renaming putObj_heap_other→zM
open List renaming length_cons→zQ
open Classical renaming propDecidable→zR
attribute [local go_sem] Oper.semAt_some
def Ok(s:ByteArray):Prop:=∃k id l,ParseR s k id l 0
def wholeD(d:∀s,Decidable (Ok s)):List ByteArray→Nat
 | []=>0
 |s::r=>@ite Nat (Ok s) (d s) (wholeD d r+1) 0
theorem whole_le:∀L:List ByteArray,(wholeD fun s=>zR (Ok s)) L≤L.length
 | []=>zD _
 |s::r=>by
  unfold wholeD;have:=whole_le r
  split<;>simp<;>omega
theorem whole_ge:∀(L:List ByteArray)(n:Nat),n≤L.length→(∀i,i<n→Ok (L.getD i ByteArray.empty))→n≤(wholeD fun s=>zR (Ok s)) L
 | [],n,h,_=>by simp at h;omega
 |s::r,0,_,_=>Nat.zero_le _
 |s::r,n+1,h,ho=>by
  have h0:=ho 0 (by omega)
  simp at h0;unfold wholeD;rw[if_pos h0];have:=whole_ge r n (by simpa using h) (fun i hi=>by have:=ho (i+1) (by omega);simpa using this)
  omega
theorem whole_stop:∀(L:List ByteArray)(n:Nat),n<L.length→¬Ok (L.getD n ByteArray.empty)→(wholeD fun s=>zR (Ok s)) L≤n
 | [],n,h,_=>by simp at h
 |s::r,0,_,hn=>by
  simp at hn;unfold wholeD;rw[if_neg hn];omega
 |s::r,n+1,h,hn=>by
  unfold wholeD;have:=whole_stop r n (by simpa using h) (by simpa using hn)
  split<;>omega
structure Ev where
 k:ByteArray
 id:Int
 l:List Int
 av:Option Addr
 cv:Nat
def Ev.enc(x:Ev):Value:= .agg #[.string x.k,.int .i64 x.id,.slice x.av x.l.length x.cv]
def Good(B:Nat)(x:Ev)(W:World):Prop:=IntsF B W x.av x.l∧x.l.length≤1000∧x.l.length≤x.cv
def Rd(xs:List Ev)(L:List ByteArray):Prop:=∀i x,xs[i]?=some x→ParseR (L.getD i ByteArray.empty) x.k x.id x.l 0
theorem Rd.nil(L:List ByteArray):Rd [] L:=fun i x h=>by simp at h
theorem Rd.snoc{xs:List Ev}{L:List ByteArray}(h:Rd xs L){x:Ev}(hx:ParseR (L.getD xs.length ByteArray.empty) x.k x.id x.l 0):Rd (xs++ [x]) L:=by
 intro i y hy
 by_cases hi:i<xs.length
 ·rw[List.getElem?_append_left hi]at hy;exact h i y hy
 ·rw[List.getElem?_append_right (by omega)]at hy;have:i-xs.length=0:=by
   by_cases h0:i-xs.length=0
   ·exact h0
   ·rw[List.getElem?_eq_none (by simp;omega)]at hy;cases hy
  rw[this]at hy;simp at hy;subst hy;rw[show i=xs.length by omega];exact hx
theorem Rd.ok{xs:List Ev}{L:List ByteArray}(h:Rd xs L):∀i,i<xs.length→Ok (L.getD i ByteArray.empty):=fun i hi=>⟨_,_,_,h i xs[i] (by simp[hi])⟩
def LinesAt(n₀ n₁:Nat)(W:World)(a:Option Addr)(L:List ByteArray):Prop:=
 L= []∨∃b off,a=some ⟨b,off,none⟩∧(n₀≤b∧b<n₁)∧∀i,i<L.length→W.cell? ⟨b,off+i,none⟩=some (.string (L.getD i ByteArray.empty))
def Keep(B n₀ n₁:Nat)(W W':World):Prop:=Below B W W'∧∀k,n₀≤k→k<n₁→W'.heap[k]?=W.heap[k]?
theorem Keep.refl(B n₀ n₁:Nat)(W:World):Keep B n₀ n₁ W W:=⟨zF _ _,fun _ _ _=>rfl⟩
theorem Keep.trans{B n₀ n₁:Nat}{X Y Z:World}(h:Keep B n₀ n₁ X Y)(k:Keep B n₀ n₁ Y Z):Keep B n₀ n₁ X Z:=⟨h.1.trans k.1,fun i h0 h1=>(k.2 i h0 h1).trans (h.2 i h0 h1)⟩
theorem Keep.of_below{B n₀ n₁:Nat}{W W':World}(h:Below W.heap.size W W')(hB:B≤W.heap.size)(h1:n₁≤W.heap.size):Keep B n₀ n₁ W W':=⟨h.mono hB,fun k _ hk=>h.block k (by omega)⟩
theorem LinesAt.keep{B n₀ n₁:Nat}{W W':World}{a:Option Addr}{L:List ByteArray}(h:LinesAt n₀ n₁ W a L)(hk:Keep B n₀ n₁ W W'):LinesAt n₀ n₁ W' a L:=by
 rcases h with h|⟨b,off,ha,hb,hc⟩
 ·exact .inl h
 ·refine .inr ⟨b,off,ha,hb,fun i hi=>?_⟩;rw[World.cell?_of_block (hk.2 b hb.1 hb.2)];exact hc i hi
theorem ok_parse{s k:ByteArray}{id:Int}{l:List Int}{er:Int}(h:ParseR s k id l er)(he:er≠0):¬Ok s:=by
 rintro⟨k',id',l',h'⟩
 obtain⟨_,_,_,e⟩:=h.uniq h'
 exact he e
set_option maxRecDepth 100000 in
set_option maxHeartbeats 2000000 in
theorem entries1_in(n:Nat)(hn:1≤n)(l Bs n₀ n₁:Nat)(w0:World)(hg0:Gl w0)(a:Option Addr)(c:Nat)(L:List ByteArray)(hl:L.length≤4096)(hx:∀x∈L,x.size≤63)(J Jx:List Ev→World→Prop)
 (hJa:∀s W W',J s W→Below W.heap.size W W'→J s W')
 (hY:∀pre x W1,J pre W1→pre.length<L.length→(Good n₁ x W1∧ParseR (L.getD pre.length ByteArray.empty) x.k x.id x.l 0)→YieldAt Fence.wide (n-1) Tryz.prog l #[x.enc] W1 fun e W'=>
   (e= .returned (.bool true)∧J (pre++ [x]) W'∧Keep w0.heap.size n₀ n₁ W1 W')∨(e= .returned (.bool false)∧Jx (pre++ [x]) W'))
 (W:World) (hBs:W.cell? ⟨Bs,0,none⟩=some (.slice a L.length c)) (hS:LinesAt n₀ n₁ W a L) (hW:Below w0.heap.size w0 W) (h1:n₁≤W.heap.size) (h0:J [] W):
 CallsIn Fence.wide n Tryz.prog 185 #[.func (.yield l) #[] #[],.pointer (some ⟨Bs,0,none⟩)] W fun e W'=>(∃v,e= .returned v)∧
  ((∃ys,(ys.length=(wholeD fun s=>zR (Ok s)) L∧Rd ys L)∧J ys W')∨(∃pre,(1≤pre.length∧pre.length≤(wholeD fun s=>zR (Ok s)) L∧Rd pre L)∧Jx pre W')):=by
 refine callsIn_of_wp Tryz.func185 rfl trivial ?_ rfl
 simp only[Tryz.ntmps185,List.size_toArray,zQ,List.length_nil,Nat.reduceAdd,Nat.reduceSub,Array.replicate_succ,Array.replicate_zero,List.push_toArray,List.append_toArray,List.nil_append,List.cons_append]
 have HJa:Hid (∀s W W',J s W→Below W.heap.size W W'→J s W'):=hJa
 have HY:Hid _:=hY
 have HG:Hid (Gl w0):=hg0
 have HX:Hid (∀x∈L,x.size≤63):=hx
 have HS:Hid (LinesAt n₀ n₁ W a L):=hS
 have HW:Hid (Below w0.heap.size w0 W):=hW
 have HJ0:Hid (J [] W):=h0
 clear hJa hY hg0 hx hS hW h0
 have hnf:∀u:World,(binOp BinOp.eql 199 (.func (.yield l) #[] #[]) .nilFunc).run Tryz.prog u= .ok (.bool false) u:=fun _=>by kernel_rfl
 gi_wp2
 gi_loopw [11] (fun i wr=>∃pre:List Ev,i= .int .i64 pre.length∧pre.length≤L.length∧Hid (J pre wr)∧Hid (Rd pre L)∧Hid (Below w0.heap.size w0 wr)∧Hid (LinesAt n₀ n₁ wr a L)∧n₁≤wr.heap.size) (fun i _=>L.length-(intOf i).toNat)
 case atStart=>exact⟨[],rfl,Nat.zero_le _,HJ0,Rd.nil L,HW,HS,h1⟩
 case round=>
  obtain⟨pre,rfl,hp,HJ,HR,HB,HLA,hn1⟩:=hrel;by_cases hlt:pre.length<L.length
  ·obtain⟨s,hs⟩:∃s,L.getD pre.length ByteArray.empty=s:=⟨_,rfl⟩
   obtain⟨b,off,rfl,hcx⟩:∃b off,a=some ⟨b,off,none⟩∧wr.cell? ⟨b,off+pre.length,none⟩=some (.string s):=by
    rcases HLA.out with h|⟨b,off,h2,_,h3⟩
    ·subst h;simp at hlt
    ·exact⟨b,off,h2,by rw[←hs];exact h3 _ hlt⟩
   have HSS:Hid (s.size≤140737488355328):=by
    show s.size≤_
    have:=HX.out s (by rw[←hs];simp[List.getD,hlt])
    omega
   have HSE:Hid (L.getD pre.length ByteArray.empty=s):=hs
   clear hs
   gi_wp2_with fail
   refine⟨trivial,(callsIn_wide.2 (parse_anyF s wr HSS.out (HG.out.on HB.out))).mono ?_⟩;rintro e w4 ⟨k,id,l',av,cv,er,rfl,hin,hll,hpr,hb4⟩;obtain⟨V,hV⟩:∃V,V=w4.alloc (.cells #[.string k,.int .i64 id,.slice av l'.length cv] 104):=⟨_,rfl⟩
   have hbV:Below wr.heap.size wr V:=by rw[hV];exact hb4.alloc hb4.size _
   have hJV:J pre V:=HJa.out _ _ _ HJ.out hbV
   have HBV:Hid (Below w0.heap.size w0 V):=bel_on' HB.out hbV
   have HKV:Hid (Keep w0.heap.size n₀ n₁ wr V):=Keep.of_below hbV HB.out.size hn1
   have hn1V:n₁≤V.heap.size:=zK hn1 hbV.size
   by_cases her:er=0
   ·subst her;have hgx:Good n₁ ⟨k,id,l',av,cv⟩ V:=⟨by rw[hV];exact(hin.lower hn1).below ((zF _ _).alloc (zD _) _),hll⟩
    have HRX:Hid (Rd (pre++ [⟨k,id,l',av,cv⟩]) L):=HR.out.snoc (by rw[HSE.out];exact hpr)
    obtain⟨fn,tmps,assign,body,hy,hR⟩:=HY.out pre ⟨k,id,l',av,cv⟩ V hJV hlt ⟨hgx,by rw[HSE.out];exact hpr⟩;dsimp only[Ev.enc]at hy;rw[hV]at hy hR;clear hgx hin hll hpr hb4
    gi_wp2
    refine hR.mono ?_;rintro e W3 (⟨rfl,hJ3,hk3⟩|⟨rfl,hJx3⟩)
    ·rw[←hV]at hk3;have HK3:Hid (Keep w0.heap.size n₀ n₁ wr W3):=HKV.out.trans hk3
     have HB3:Hid (Below w0.heap.size w0 W3):=HB.out.trans HK3.out.1
     have hn3:n₁≤W3.heap.size:=zK hn1V hk3.1.size
     have HJ3:Hid _:=hJ3
     clear hJ3 hk3 hR
     gi_wp2
     go_roundw
     case rel=>exact⟨pre++ [⟨k,id,l',av,cv⟩],by simp,by simp;omega,HJ3,HRX,HB3,HLA.out.keep HK3.out,hn3⟩
     case measure=>simp[intOf];omega
    ·gi_wp2
     refine bodyPost_ret (results_none rfl _ _ _) rfl ?_;exact⟨⟨_,rfl⟩,.inr ⟨pre++ [⟨k,id,l',av,cv⟩],⟨by simp,whole_ge L _ (by simp;omega) HRX.out.ok,HRX.out⟩,hJx3⟩⟩
   ·have q0:(er != 0)=true:=by simpa using her
    have HWH:Hid (pre.length=(wholeD fun s=>zR (Ok s)) L):=by
     show pre.length=(wholeD fun s=>zR (Ok s)) L
     have h1:=whole_ge L pre.length hp HR.out.ok
     have h2:=whole_stop L pre.length hlt (by rw[HSE.out];exact ok_parse hpr her)
     omega
    have HJV:Hid (J pre V):=hJV
    rw[hV]at HJV;clear hin hll hpr hb4 hJV
    gi_wp2
    refine⟨fun _ h=>(by cases h),?_⟩
    gi_wp2
    refine bodyPost_ret (results_none rfl _ _ _) rfl ?_;exact⟨⟨_,rfl⟩,.inl ⟨pre,⟨HWH.out,HR.out⟩,HJV.out⟩⟩
  ·have en:pre.length=L.length:=by omega
   have HWH:Hid (pre.length=(wholeD fun s=>zR (Ok s)) L):=by
    show pre.length=(wholeD fun s=>zR (Ok s)) L
    have h1:=whole_ge L pre.length hp HR.out.ok
    have h2:=whole_le L
    omega
   gi_wp2
   go_end0
   exact⟨⟨_,rfl⟩,.inl ⟨pre,⟨HWH.out,HR.out⟩,HJ.out⟩⟩
attribute [local go_sem] Oper.semAt_some
theorem entries_in(n:Nat)(a:Option Addr)(m c:Nat)(w:World):
 CallsIn Fence.wide n Tryz.prog 149 #[.slice a m c] w fun e w'=>e= .returned (.func (.func 185) #[] #[.pointer (some ⟨w.heap.size,0,none⟩)])∧w'=w.alloc (.cells #[.slice a m c] 50):=by
 refine callsIn_of_wp Tryz.func149 rfl trivial ?_ rfl
 simp only[Tryz.ntmps149,List.size_toArray,zQ,List.length_nil,Nat.reduceAdd,Nat.reduceSub,Array.replicate_succ,Array.replicate_zero,List.push_toArray,List.append_toArray,List.nil_append,List.cons_append]
 gi_wp2
 go_ret
 exact⟨rfl,rfl⟩
theorem linesAt_of{w w1:World}{a:Option Addr}{c:Nat}{L:List ByteArray}(h:w1.ownsRow w.heap.size 9 1 (.slice a L.length c) L.length (L.map Value.string)):LinesAt w.heap.size w1.heap.size w1 a L:=by
 obtain⟨a',c',e,h1,h2,h3⟩:=owned_strs h
 cases e
 rcases h3 with h3|⟨b,off,rfl,hc⟩
 ·exact .inl h3
 ·have:=h.lt b (by simp[Value.ownBlock])
  exact .inr ⟨b,off,rfl,this,hc⟩
def AllR(w:World)(L:List ByteArray)(e:Ending)(w':World):Prop:=
 ∃a c Bs,e= .returned (.func (.func 185) #[] #[.pointer (some ⟨Bs,0,none⟩)])∧w'.cell? ⟨Bs,0,none⟩=some (.slice a L.length c)∧LinesAt w.heap.size w'.heap.size w' a L∧(w.heap.size≤Bs∧Bs<w'.heap.size)∧Below w.heap.size w w'
theorem allR_of{w w1:World}{a:Option Addr}{c:Nat}{L:List ByteArray}(h:LinesAt w.heap.size w1.heap.size w1 a L)(hb:Below w.heap.size w w1):
 AllR w L (.returned (.func (.func 185) #[] #[.pointer (some ⟨w1.heap.size,0,none⟩)])) (w1.alloc (.cells #[.slice a L.length c] 50)):=by
 refine⟨a,c,w1.heap.size,rfl,by simp,?_,⟨hb.size,by simp⟩,hb.alloc hb.size _⟩
 have hk:Keep 0 w.heap.size w1.heap.size w1 (w1.alloc (.cells #[.slice a L.length c] 50)):=Keep.of_below ((zF _ _).alloc (zD _) _) (Nat.zero_le _) (zD _)
 rcases h.keep hk with h|⟨b,off,ha,hb',hc⟩
 ·exact .inl h
 ·exact .inr ⟨b,off,ha,⟨hb'.1,by simp;omega⟩,hc⟩
theorem all_in(n:Nat)(hn:1≤n){B:Nat}{w:World}{p:Nat}{v:Value}{room:Int}{L:List ByteArray}{sure:Nat}{down:Bool}(h:Jr B w p v room L sure down):
 CallsIn Fence.wide n Tryz.prog 88 #[.pointer (some ⟨p,0,none⟩)] w (AllR w L):=by
 have HL:=lines_any h
 refine callsIn_of_wp Tryz.func88 rfl trivial ?_ rfl
 simp only[Tryz.ntmps88,List.size_toArray,zQ,List.length_nil,Nat.reduceAdd,Nat.reduceSub,Array.replicate_succ,Array.replicate_zero,List.push_toArray,List.append_toArray,List.nil_append,List.cons_append]
 gi_wp2_with fail
 refine⟨trivial,(callsIn_wide.2 HL).mono ?_⟩
 rintro e w1 ⟨a,c,rfl,ho,hb⟩
 have HLA:Hid _:=linesAt_of ho
 have HB:Hid (Below w.heap.size w w1):=hb
 clear ho hb HL
 gi_wp2_with fail
 refine⟨trivial,(entries_in (n-1) a L.length c w1).mono ?_⟩
 rintro e w2 ⟨rfl,rfl⟩
 gi_wp2
 go_ret
 exact allR_of HLA.out HB.out
theorem abides{J:List Ev→World→Prop}{X:Nat}(h:AbidesFrom X J):∀s W W',J s W→Below W.heap.size W W'→J s W':=
 fun s W W' hs hb=>h s W W' none hs ⟨hb.os,hb.tape,hb.output,hb.size,fun k hk _=>hb.block k hk⟩ (fun r e=>by cases e)
theorem entries_stops(n:Nat)(hn:1≤n)(Bs n₀ n₁:Nat)(w0:World)(hg0:Gl w0)(a:Option Addr)(c:Nat)(L:List ByteArray)(hl:L.length≤4096)(hx:∀x∈L,x.size≤63)(w:World)
 (hBs:w.cell? ⟨Bs,0,none⟩=some (.slice a L.length c)) (hS:LinesAt n₀ n₁ w a L) (hW:Below w0.heap.size w0 w) (h1:n₁≤w.heap.size):
 SeqStopsK Fence.wide n Tryz.prog 185 #[.pointer (some ⟨Bs,0,none⟩)] (fun x:Ev=>#[x.enc]) (Keep w0.heap.size n₀ n₁) (fun ys=>ys.length=(wholeD fun s=>zR (Ok s)) L∧Rd ys L) (fun pre=>1≤pre.length∧pre.length≤(wholeD fun s=>zR (Ok s)) L∧Rd pre L) L.length w:=
 fun l J Jx W hWw hJ _ hY h0=>entries1_in n hn l Bs n₀ n₁ w0 hg0 a c L hl hx J Jx (abides hJ) (fun pre x W1 hj hlt _=>hY pre x W1 hj hlt) W
  ((hWw.cell (p:=⟨Bs,0,none⟩) (World.block_lt_of_cell? _ _ hBs)).trans hBs) (hS.keep (Keep.of_below hWw hW.size h1)) (bel_on' hW hWw) (zK h1 hWw.size) h0
attribute [local go_sem] Oper.semAt_some
theorem Jr.putObj{B:Nat}{w:World}{p:Nat}{v:Value}{room:Int}{L:List ByteArray}{sure:Nat}{down:Bool}(h:Jr B w p v room L sure down){D:Nat}{o:Obj}(ho:w.heap[D]?=some o)(hc:o.isCells=false)(o':Obj):Jr B (w.putObj D o') p v room L sure down:=by
 obtain⟨h1,h2,h3,h4⟩:=h
 refine⟨?_,h2,ownsRow_putObj h3 _ ho hc,h4⟩
 rw[zM (fun e=>by subst e;rw[h1]at ho;cases ho;cases hc)]
 exact h1
theorem Off.putObj{p:Nat}{v v':Value}{w W:World}(h:Off p v v' w W){D:Nat}(hD:w.heap.size≤D)(o':Obj):Off p v v' w (W.putObj D o'):=
 ⟨⟨h.1.1,h.1.2.1,h.1.2.2.1,by simpa using h.size⟩,fun k hk hp hv=>⟨(zM (by omega)).trans (h.2 k hk hp hv).1,(h.2 k hk hp hv).2⟩⟩
theorem keep_putObj{B n₀ n₁ X:Nat}{W:World}{l:Nat}{o o':Obj}(hB:B≤X)(hX:X≤n₁)(hl:n₁≤l)(_ho:W.heap[l]?=some o)(_hc:o.isCells=false)(_hw:o.isWalk=false):Keep B n₀ n₁ W (W.putObj l o'):=
 ⟨⟨rfl,rfl,rfl,by simp,fun k hk=>zM (by omega)⟩,fun k _ hk=>zM (by omega)⟩
theorem keep_setCell{B X n₀ n₁:Nat}{W:World}(hB:B≤X)(h0:n₀=X+1)(v:Value):Keep B n₀ n₁ W (W.setCell ⟨X,0,none⟩ v):=
 ⟨(zF B W).setCell (p:=⟨X,0,none⟩) hB _,fun k hk _=>zN _ _ _ _ (show k≠(⟨X,0,none⟩:Addr).block from by show k≠X;omega)⟩
set_option maxRecDepth 100000 in
set_option maxHeartbeats 2000000 in
theorem recover_down{w0:World}(hg0:Gl w0){w:World}(hw:Below w0.heap.size w0 w){p:Nat}{v:Value}{room:Int}{L:List ByteArray}{sure:Nat}(h:Jr w0.heap.size w p v room L sure true):
 Calls Tryz.prog 87 #[.pointer (some ⟨p,0,none⟩)] w fun e w'=>e= .returned (.int .i64 ((L.length:Int)-((wholeD fun s=>zR (Ok s)) L:Int)))∧∃v',Jr w0.heap.size w' p v' room (L.take ((wholeD fun s=>zR (Ok s)) L)) ((wholeD fun s=>zR (Ok s)) L) false∧Off p v v' w w':=by
 refine(callsIn_wide (n:=5)).1 ?_
 obtain⟨⟨c0,c1,c2,c3⟩,f1,f2,f3⟩:=h.cells
 have HJ:Hid (Jr w0.heap.size w p v room L sure true):=h
 have HG:Hid (Gl w0):=hg0
 have HW:Hid (Below w0.heap.size w0 w):=hw
 obtain⟨U,hU⟩:∃U,U=w.alloc (.cells #[.int .i64 0] 3):=⟨_,rfl⟩
 have hbU:Below w.heap.size w U:=by rw[hU];exact(zF _ _).alloc (zD _) _
 have HJU:Hid (Jr w0.heap.size U p v room L sure true):=h.on hbU
 have HBU:Hid (Below w.heap.size w U):=hbU
 have HA:=all_in 4 (by omega) HJU.out
 have HUW:Hid (U=w.alloc (.cells #[.int .i64 0] 3)):=hU
 rw[hU]at HA
 clear h hg0 hw hU hbU
 refine callsIn_of_wp_marks Tryz.func87 rfl trivial ?_ rfl
 simp only[Tryz.ntmps87,List.size_toArray,zQ,List.length_nil,Nat.reduceAdd,Nat.reduceSub,Array.replicate_succ,Array.replicate_zero,List.push_toArray,List.append_toArray,List.nil_append,List.cons_append]
 gi_wp2_with fail
 refine⟨trivial,HA.mono ?_⟩
 rintro e w1 ⟨a,c,Bs,rfl,hcb,hla,hbs,hb⟩
 rw[←HUW.out]at hla hbs hb
 have hsz:U.heap.size=w.heap.size+1:=by rw[HUW.out];simp
 have hB1:Below w.heap.size w w1:=bel_on' HBU.out hb
 have hbx1:Boxed w1 w.heap.size 3 (.int .i64 (([]:List Ev).length :Int)):=by
  show w1.heap[w.heap.size]?=_
  rw[hb.block _ (by omega),HUW.out];exact World.alloc_heap_new w _
 have hL4:=HJ.out.2.2.2.2.1
 have hX:=fun x hx=>(HJ.out.2.2.2.2.2 x hx).2
 have hBs0:w0.heap.size≤w.heap.size:=HW.out.size
 clear HA
 gi_wp2_with fail
 refine wpIn_rangeFunc_ownG rfl (by omega) (gf:=185) (lb:=#[.pointer (some ⟨Bs,0,none⟩)]) rfl trivial (enters_of Tryz.func185 (by kernel_rfl) rfl)
  (entries_stops 4 (by omega) Bs U.heap.size w1.heap.size w0 HG.out a c L hL4 hX w1 hcb hla (bel_on' HW.out hB1) (zD _))
  (fun h k=>h.trans k) (fun W l o o' hl ho hc hw=>keep_putObj hBs0 hB1.size hl ho hc hw) (zF _ _) (fun _=>rfl)
  (fun pre W=>Boxed W w.heap.size 3 (.int .i64 (pre.length:Int))∧Below w.heap.size w W)
  (fun _ _ _=>False)
  (OwnFrom.and (Own.from (boxed_own w.heap.size 3 (fun pre:List Ev=> .int .i64 (pre.length:Int))) _) (ownFrom_below (zD _) hB1.size))
  (fun _ _ _ _ _ hs _ _=>hs)
  ⟨hbx1,hB1⟩
  (fun x=>{tmps:=#[.pointer (some ⟨p,0,none⟩),undef,.int .i64 0,.pointer (some ⟨w.heap.size,0,none⟩),undef,.pointer (some ⟨p,0,none⟩),.bool false,.bool false,.pointer (some ⟨p,0,none⟩),.pointer (some ⟨p,0,none⟩),.pointer (some ⟨p,3,none⟩),.bool true,.bool false,.bool false,.pointer (some ⟨p,0,none⟩),.func (.func 185) #[] #[.pointer (some ⟨Bs,0,none⟩)],x.enc,undef,undef,undef,undef,undef,undef,undef,undef,undef,undef,undef,undef,undef,undef,undef,undef,undef,undef,undef,undef],defers:=[]}) ?assign ?body ?done ?stop
 case assign=>
  intro l x W K hK
  gi_wp2
  exact hK
 case body=>
  rintro l pre x W ⟨hbx,hB⟩ hlt;have hcx:=hbx.cell
  have hfx:=hbx.frozen
  gi_wp2
  exact⟨(KeepsOthers.setCell _ _ _).from _,keep_setCell hBs0 hsz _,by have:=hbx.set (.int .i64 ((pre.length:Int)+1));simpa using this,hB.setCell (p:=⟨w.heap.size,0,none⟩) (zD _) _⟩
 case stop=>
  rintro D c pre W _ _ h _;exact h.elim
 case done=>
  rintro D ys W hD ⟨hlen,hrd⟩ ⟨hbx,hB⟩ hK;have HJW:Hid (Jr w0.heap.size W p v room L sure true):=HJ.out.on hB
  have HOW:Hid (Off p v v w W):=Off.of_below hB
  have hDw:w.heap.size+1≤D:=by have:=hb.size;omega
  rw[hlen]at hbx;have hwl:=whole_le L
  obtain⟨m,hm⟩:∃m,(wholeD fun s=>zR (Ok s)) L=m:=⟨_,rfl⟩
  rw[hm]at hbx hwl;have HM:Hid ((wholeD fun s=>zR (Ok s)) L=m):=hm
  clear hm;have hDl:D<W.heap.size:=(Array.getElem?_eq_some_iff.1 hK).1
  clear c0 c1 c2 c3 f1 f2 f3 hlen hrd hbx1 hcb hla hX hB;obtain⟨⟨c0,c1,c2,c3⟩,f1,f2,f3⟩:=HJW.out.cells;obtain⟨av,cv,rfl,-,-⟩:=HJW.out.row;have cb:=hbx.cell
  gi_wp2_with fail
  refine wpIn_wide.2 ?_;go_quiet (fail)
  have HBD:Hid (Below W.heap.size W (W.drewN nq)):=belowN (zF _ _) nq
  generalize W.drewN nq=W2 at HBD ⊢;have HJ2:Hid (Jr w0.heap.size W2 p (.slice av L.length cv) room L sure true):=HJW.out.on HBD.out
  have HO2:Hid (Off p (.slice av L.length cv) (.slice av L.length cv) w W2):=HOW.out.trans (Off.of_below HBD.out)
  have hK2:W2.heap[D]?=some (.deferred (some [])):=(HBD.out.block D hDl).trans hK
  have hbx2:Boxed W2 w.heap.size 3 (.int .i64 (m:Int)):=(HBD.out.block _ hbx.lt).trans hbx
  have hpw:=HJ.out.lt
  have hvw:∀k,w.heap.size≤k→(Value.slice av L.length cv).ownBlock ≠some k:=fun k hk e=>by have:=(HJ.out.2.2.1.lt k e).2;omega
  clear c0 c1 c2 c3 f1 f2 f3 cb hbx hK;have cb:=hbx2.cell
  gi_wp2_with fail
  refine⟨trivial,(callsIn_wide.2 (cut_any HJ2.out m hwl)).mono ?_⟩;rintro e u4 ⟨⟨x4,rfl⟩,v4,hj4,ho4⟩;have hK4:u4.heap[D]?=some (.deferred (some [])):=(ho4.heap (Array.getElem?_eq_some_iff.1 hK2).1 (by omega) (hvw D (by omega))).trans hK2
  have hbx4:Boxed u4 w.heap.size 3 (.int .i64 (m:Int)):=(ho4.heap hbx2.lt (by omega) (hvw _ (zD _))).trans hbx2
  have HJ4:Hid (Jr w0.heap.size u4 p v4 room (L.take m) sure true):=hj4
  have HO4:Hid (Off p (.slice av L.length cv) v4 w u4):=HO2.out.trans ho4
  clear hj4 ho4 hbx2 hK2 cb;have cb:=hbx4.cell
  obtain⟨⟨c0,c1,c2,c3⟩,f1,f2,f3⟩:=HJ4.out.cells
  gi_wp2_with fail
  have HJ5:Jr w0.heap.size ((u4.setCell ⟨p,2,none⟩ (.int .i64 (m:Int))).setCell ⟨p,3,none⟩ (.bool false)) p v4 room (L.take m) m false:=(HJ4.out.setSure m).setDown false
  have HO5:Off p (.slice av L.length cv) v4 w ((u4.setCell ⟨p,2,none⟩ (.int .i64 (m:Int))).setCell ⟨p,3,none⟩ (.bool false)):=(HO4.out.setCell 2 _).setCell 3 _
  have hK5:((u4.setCell ⟨p,2,none⟩ (.int .i64 (m:Int))).setCell ⟨p,3,none⟩ (.bool false)).heap[D]?=some (.deferred (some [])):=by
   rw[zN _ _ _ _ (show D≠(⟨p,3,none⟩:Addr).block from by show D≠p;omega),zN _ _ _ _ (show D≠(⟨p,2,none⟩:Addr).block from by show D≠p;omega)];exact hK4
  refine⟨by simp,.inl ⟨_,_,rfl,run_takeDeferred hK5,?_⟩⟩;exact⟨_,results_tmp rfl _ _ _,by rw[HM.out];rfl,v4,by rw[HM.out];exact HJ5.putObj hK5 rfl _,HO5.putObj (by omega) _⟩
end Go.Proofs.YthfgmpooehkhgaaGreatDoor
namespace Go.Proofs.YthfgmpooehkhgaaGreatDoor
open Go.ChangeShapes Go.WideShapes Go.ChangeAt Go.RowKit
open Classical renaming propDecidable→zR
theorem ok_line{k:ByteArray}{id:Int}{l:List Int}(h:mayB k id l=true):Ok (lineV k id l):=by
 unfold lineV
 rw[if_pos h]
 exact⟨k,id,l,parse_line h⟩
theorem ok_is{s:ByteArray}(h:Ok s):∃k id l,mayB k id l=true∧s=sign (txt k id l):=by
 obtain⟨k,id,l,hp⟩:=h
 rcases hp with⟨_,h2,_,h4,h5⟩|⟨h1,_⟩
 ·refine⟨k,id,l,h2,?_⟩;have:=sign_read s h4
  rw[h5,beq_iff_eq,ByteArray.toList_eq,ByteArray.toList_eq]at this;exact(bytes_ext this).symm
 ·exact absurd rfl h1
theorem not_ok_of{s:ByteArray}(h:readB s=false):¬Ok s:=by
 rintro⟨k,id,l,⟨_,_,_,h4,_⟩|⟨h1,_⟩⟩
 ·rw[h]at h4;cases h4
 ·exact h1 rfl
theorem torn_not{s:ByteArray}(h:Ok s)(n:Nat)(hn:n<s.size):¬Ok (s.extract 0 n):=by
 obtain⟨k,id,l,hm,rfl⟩:=ok_is h
 exact not_ok_of (torn_none hm n hn)
theorem whole_all:∀(L:List ByteArray),(∀x∈L,Ok x)→(wholeD fun s=>zR (Ok s)) L=L.length
 | [],_=>rfl
 |s::r,h=>by
  unfold wholeD;rw[if_pos (h s (List.mem_cons_self ..)),whole_all r (fun x hx=>h x (List.mem_cons_of_mem _ hx))];rfl
open Classical in
theorem whole_cons(s:ByteArray)(r:List ByteArray)(h:Ok s):(wholeD fun s=>zR (Ok s)) (s::r)=(wholeD fun s=>zR (Ok s)) r+1:=by
 show(if Ok s then(wholeD fun s=>zR (Ok s)) r+1 else 0)=_
 rw[if_pos h]
open Classical in
theorem whole_cons_not(s:ByteArray)(r:List ByteArray)(h:¬Ok s):(wholeD fun s=>zR (Ok s)) (s::r)=0:=by
 show(if Ok s then(wholeD fun s=>zR (Ok s)) r+1 else 0)=_
 rw[if_neg h]
theorem whole_app:∀(L R:List ByteArray),(∀x∈L,Ok x)→(wholeD fun s=>zR (Ok s)) (L++R)=L.length+(wholeD fun s=>zR (Ok s)) R
 | [],R,_=>by simp
 |s::r,R,h=>by
  show(wholeD fun s=>zR (Ok s)) (s::(r++R))=_
  rw[whole_cons _ _ (h s (List.mem_cons_self ..)),whole_app r R (fun x hx=>h x (List.mem_cons_of_mem _ hx))];show r.length+(wholeD fun s=>zR (Ok s)) R+1=r.length+1+(wholeD fun s=>zR (Ok s)) R
  omega
theorem keptN_le{L:List ByteArray}{sure:Nat}(hs:sure≤L.length)(stay:Int):keptN L sure stay≤L.length∧sure≤keptN L sure stay:=by unfold keptN;omega
theorem whole_crash{L:List ByteArray}(hL:∀x∈L,Ok x){sure:Nat}(hs:sure≤L.length)(hz:∀x∈L,1≤x.size)(stay torn:Int):
 (wholeD fun s=>zR (Ok s)) (crashL L sure stay torn)=keptN L sure stay∧(crashL L sure stay torn).take (keptN L sure stay)=L.take (keptN L sure stay):=by
 obtain⟨h1,h2⟩:=keptN_le hs stay
 unfold crashL
 generalize keptN L sure stay=K at h1 h2 ⊢
 by_cases hK:K=L.length
 ·rw[if_pos hK,hK];exact⟨whole_all L hL,rfl⟩
 ·rw[if_neg hK];have hlt:K<L.length:=by omega
  have hT:∀x∈L.take K,Ok x:=fun x hx=>hL x (List.mem_of_mem_take hx)
  have hm:L.getD K ByteArray.empty∈L:=by simp[List.getD,hlt]
  have hlen:(L.take K).length =K:=by simp;omega
  generalize L.getD K ByteArray.empty=X at hm ⊢;constructor
  ·rw[whole_app _ _ hT,hlen];by_cases h0:tearN X torn=0
   ·rw[if_pos h0];rfl
   ·rw[if_neg h0];rw[whole_cons_not _ _ (torn_not (hL X hm) _ (by have:=hz X hm;unfold tearN;omega))];rfl
  ·rw[List.take_append_of_le_length (by omega),List.take_of_length_le (by omega)]
end Go.Proofs.YthfgmpooehkhgaaGreatDoor
namespace Go.Proofs.YthfgmpooehkhgaaGreatDoor.Rp
open Go Go.RowKit
open Nat renaming le_refl→zD
open Go.World renaming putObj_heap_other→zM
def At(l D:Nat)(r:Loop)(W:World):Prop:=W.heap[l]?=some (.loop r)∧W.heap[D]?=some (.deferred (some []))
theorem At.turn{l D:Nat}{r:Loop}{W:World}(h:At l D r W)(hne:D≠l)(r':Loop):At l D r' (W.putObj l (.loop r')):=
 ⟨World.putObj_heap_same (Array.getElem?_eq_some_iff.1 h.1).1,(zM hne).trans h.2⟩
theorem At.keeps{l D B:Nat}{r:Loop}{W W':World}(h:At l D r W)(hk:KeepsFrom B W W')(hl:B≤l)(hD:B≤D):At l D r W':=⟨hk.same _ _ hl h.1 rfl,hk.same _ _ hD h.2 rfl⟩
def SeqTells{α:Type}(F:Fence)(n:Nat)(P:Program)(g:Nat)(lb:Array Value)(encs:α→Array Value)(Gd:List α→α→World→Prop)(Kp:World→World→Prop)(S Sp:List α→Prop)(N:Nat)(w:World):Prop:=
 ∀(l:Nat)(J Jx:List α→World→Prop)(W:World),Below w.heap.size w W→(∀s A B,J s A→Below A.heap.size A B→J s B)→
  (∀pre x W1,J pre W1→pre.length<N→Gd pre x W1→YieldAt F (n-1) P l (encs x) W1 fun e W'=>(e= .returned (.bool true)∧J (pre++ [x]) W'∧Kp W1 W')∨(e= .returned (.bool false)∧Jx (pre++ [x]) W'))→
  J [] W→CallsIn F n P g (#[.func (.yield l) #[] #[]]++lb) W fun e W'=>(∃v,e= .returned v)∧((∃xs,S xs∧J xs W')∨(∃pre,Sp pre∧Jx pre W'))
section
variable {F:Fence}{n:Nat}{P:Program}{α:Type}{B:Nat}{ps:Array Tmp}{assign body:Code}{tmps:Array Value}{fn:FuncId}{encs:α→Array Value}
 {Gd:List α→α→World→Prop} {Kp:World→World→Prop} {I:List α→World→Prop} {Ix:Code→List α→World→Prop} {Ax:α→Act→World→Prop}
def BodyDoes(F:Fence)(n:Nat)(P:Program)(B:Nat)(body:Code)(Gd:List α→α→World→Prop)(Kp:World→World→Prop)(I:List α→World→Prop)(Ix:Code→List α→World→Prop)(Ax:α→Act→World→Prop)(N:Nat):Prop:=
 ∀(l:Nat)(pre:List α)(x:α)(a':Act)(W:World),I pre W→Ax x a' W→Gd pre x W→pre.length<N→body.wpIn (F.inRound l) n P (ownPostG B Kp I Ix (pre++ [x]) W) a' W
def AssignDoes(F:Fence)(n:Nat)(P:Program)(B:Nat)(assign:Code)(ps:Array Tmp)(tmps:Array Value)(encs:α→Array Value)(Gd:List α→α→World→Prop)(Kp:World→World→Prop)(I:List α→World→Prop)(Ax:α→Act→World→Prop):Prop:=
 ∀(l:Nat)(pre:List α)(x:α)(W:World)(K:Act→World→Prop),I pre W→Gd pre x W→(∀a' W',KeepsFrom B W W'→Kp W W'→I pre W'→Gd pre x W'→Ax x a' W'→K a' W')→
  assign.wpIn (F.inRound l) n P (Exit.then K (fun _ _ _=>False)) {tmps:=(ps.zip (encs x)).foldl (fun t (p,v)=>t.setIfInBounds p v) tmps,defers:=[]} W
theorem round_tells{l D N:Nat}(hlD:D≠l)(hBl:B≤l)(hBD:B≤D)(hfn:F.fn fn)(hps:∀x,(encs x).size =ps.size)
 (hKt:∀ {X Y Z:World},Kp X Y→Kp Y Z→Kp X Z) (hKp:∀(W:World)(r r':Loop),W.heap[l]?=some (.loop r)→Kp W (W.putObj l (.loop r')))
 (hI:∀s W (r r':Loop),I s W→W.heap[l]?=some (.loop r)→I s (W.putObj l (.loop r'))) (hIx:∀c s W (r r':Loop),Ix c s W→W.heap[l]?=some (.loop r)→Ix c s (W.putObj l (.loop r')))
 (hA:∀x a' W (r r':Loop),Ax x a' W→W.heap[l]?=some (.loop r)→Ax x a' (W.putObj l (.loop r'))) (hG:∀pre x W (r r':Loop),Gd pre x W→W.heap[l]?=some (.loop r)→Gd pre x (W.putObj l (.loop r')))
 (has:AssignDoes F n P B assign ps tmps encs Gd Kp I Ax) (hbd:BodyDoes F n P B body Gd Kp I Ix Ax N)
 {rec:LoopState→Option Code→Loop} (hrec:rec=fun st pe=>{state:=st,pending:=pe,fn,tmps,params:=ps,assign,body,defers:=D})
 {pre:List α} {x:α} {W:World} (hi:I pre W) (hat:At l D (rec .ready none) W) (hlen:pre.length<N) (hg:Gd pre x W):
 YieldAt F n P l (encs x) W fun e W'=>(e= .returned (.bool true)∧(I (pre++ [x]) W'∧At l D (rec .ready none) W')∧Kp W W')∨(e= .returned (.bool false)∧∃c,Ix c (pre++ [x]) W'∧At l D (rec .done (some c)) W'):=by
 have hy:=run_yield (P:=P) (args:=encs x) hat.1 (by rw[hrec];exact hps x)
 rw[hrec]at hy
 refine⟨fn,_,assign,body,hy,roundIn_of_wpIn hfn (has l pre x W _ hi hg ?_)⟩
 intro a' Wa ka kp hia hga hax
 have hata:=hat.keeps ka hBl hBD
 refine⟨_,run_beginRound hata.1 (by rw[hrec]),?_⟩
 have hatb:=hata.turn hlD {rec .ready none with state:= .busy}
 have kpb:=hKp Wa _ {rec .ready none with state:= .busy} hata.1
 refine wpIn_mono (hbd l pre x a' _ (hI _ _ _ _ hia hata.1) (hA _ _ _ _ _ hax hata.1) (hG _ _ _ _ _ hga hata.1) hlen) ?_
 have fin:∀(jump:Option Code)(W3:World),KeepsFrom B (Wa.putObj l (.loop {rec .ready none with state:= .busy})) W3→
  ∃r' r,r= {rec .ready none with state:= .busy}∧r'=rec (if jump.isNone then .ready else .done) jump∧W3.heap[l]?=some (.loop r)∧(Instr.endRound l jump).run P W3= .ok (.bool jump.isNone) (W3.putObj l (.loop r'))∧At l D r' (W3.putObj l (.loop r')):=fun jump W3 hk3=>by
  have h3:=hatb.keeps hk3 hBl hBD
  have he:=run_endRound (P:=P) jump h3.1
  refine⟨_,_,rfl,rfl,h3.1,?_,h3.turn hlD _⟩;rw[hrec]at he ⊢;exact he
 rintro e a3 W3 hp
 cases e with
 |normal=>
  obtain⟨k3,kp3,i3⟩:=hp;obtain⟨r',r,hr,hr',hl3,he,hat3⟩:=fin none W3 k3;subst hr';exact⟨_,_,he,.inl ⟨rfl,⟨hI _ _ _ _ i3 hl3,hat3⟩,hKt kp (hKt (hKt kpb kp3) (hKp _ _ _ hl3))⟩⟩
 |ret=>
  obtain⟨r',r,hr,hr',hl3,he,hat3⟩:=fin (some .ret) W3 hp.1;subst hr';exact⟨_,_,he,.inr ⟨rfl,.ret,hIx _ _ _ _ _ hp.2 hl3,hat3⟩⟩
 |exit id=>
  obtain⟨r',r,hr,hr',hl3,he,hat3⟩:=fin (some (.exit id)) W3 hp.1;subst hr';exact⟨_,_,he,.inr ⟨rfl,.exit id,hIx _ _ _ _ _ hp.2 hl3,hat3⟩⟩
 |goto t=>
  obtain⟨r',r,hr,hr',hl3,he,hat3⟩:=fin (some (.goto t)) W3 hp.1;subst hr';exact⟨_,_,he,.inr ⟨rfl,.goto t,hIx _ _ _ _ _ hp.2 hl3,hat3⟩⟩
 |panic ch=>exact hp.elim
 |outgrown=>exact hp.elim
theorem At.below{l D:Nat}{r:Loop}{W W':World}(h:At l D r W)(hb:Below W.heap.size W W'):At l D r W':=
 ⟨(hb.block l (Array.getElem?_eq_some_iff.1 h.1).1).trans h.1,(hb.block D (Array.getElem?_eq_some_iff.1 h.2).1).trans h.2⟩
theorem ownFrom_grows{β:Type}{X:Nat}{J:β→World→Prop}(h:OwnFrom X J){s:β}{W W':World}(hs:J s W)(hb:Below W.heap.size W W'):J s W':=
 h s W W' none hs ⟨hb.os,hb.tape,hb.output,hb.size,fun k hk _=>hb.block k hk⟩ (fun r e=>by cases e)
theorem range_tells{N:Nat}{S Sp:List α→Prop}{g:Operand}{Q:Exit→Act→World→Prop}{a:Act}{w:World}(hro:F.round=none)(h1:1≤n){gf:Nat}{lb:Array Value}(hg:a.eval g= .func (.func gf) #[] lb)(hFg:F.fn gf)
 (eg:∀args w,(callFunc gf args).run P w= .ok (.enter gf args) w) (hseq:SeqTells F (n-1) P gf lb encs Gd Kp S Sp N w) (hKt:∀ {X Y Z:World},Kp X Y→Kp Y Z→Kp X Z)
 (hKb:∀(W:World)(l:Nat)(o o':Obj),w.heap.size≤l→W.heap[l]?=some o→o.isCells=false→Kp W (W.putObj l o')) (hps:∀x,(encs x).size =ps.size)
 (hI:OwnFrom w.heap.size I) (hIx:∀c,OwnFrom w.heap.size (Ix c)) (hAx:∀x a',OwnFrom w.heap.size (fun(_:Unit) W=>Ax x a' W)) (hGd:∀pre x,OwnFrom w.heap.size (fun(_:Unit) W=>Gd pre x W))
 (h0:I [] w) (has:AssignDoes F (n-1-1) P w.heap.size assign ps a.tmps encs Gd Kp I Ax) (hbd:BodyDoes F (n-1-1) P w.heap.size body Gd Kp I Ix Ax N)
 (hdone:∀(D:Nat)(xs:List α)(W:World),w.heap.size≤D→S xs→I xs W→W.heap[D]?=some (.deferred (some []))→Q .normal {a with defers:={target:= .collected D,args:=#[]}::a.defers} W)
 (hstop:∀(D:Nat)(c:Code)(pre:List α)(W:World),w.heap.size≤D→Sp pre→Ix c pre W→W.heap[D]?=some (.deferred (some []))→c.wpIn F n P Q {a with defers:={target:= .collected D,args:=#[]}::a.defers} W):
 (Code.rangeFunc g ps assign body).wpIn F n P Q a w:=by
 refine wpIn_rangeFunc fun fn hfn=>?_
 rw[hro]
 obtain⟨rec,hrec⟩:∃rec:LoopState→Option Code→Loop,rec=fun st pe=>{state:=st,pending:=pe,fn,tmps:=a.tmps,params:=ps,assign,body,defers:=w.heap.size}:=⟨_,rfl⟩
 obtain⟨W1,hW1⟩:∃W1,W1=(w.alloc (.deferred (some []))).alloc (.loop (rec .ready none)):=⟨_,rfl⟩
 have hb1:Below w.heap.size w W1:=by rw[hW1];exact((Below.refl _ w).alloc (zD _) _).alloc (by simp) _
 have hat1:At (w.heap.size+1) w.heap.size (rec .ready none) W1:=by
  have h2:=World.alloc_heap_new (w.alloc (.deferred (some []))) (.loop (rec .ready none))
  rw[World.size_alloc]at h2;rw[hW1];exact⟨h2,(Below.heap_alloc _ _ _ (by simp)).trans (World.alloc_heap_new w _)⟩
 have tI:∀ {J:List α→World→Prop},OwnFrom w.heap.size J→∀s W (r r':Loop),J s W→W.heap[w.heap.size+1]?=some (.loop r)→J s (W.putObj (w.heap.size+1) (.loop r')):=fun h s W r r' hs hl=>h.putObj _ hs (by omega) hl rfl
 refine⟨w.heap.size+1,[{target:= .collected w.heap.size,args:=#[]}],W1,{target:= .fn (.func gf) lb,args:=#[.func (.yield (w.heap.size+1)) #[] #[]]},W1,gf,#[.func (.yield (w.heap.size+1)) #[] #[]]++lb,W1,?_,?_,?_,?_,fun _=>h1,?_⟩
 ·rw[hW1,hrec];exact run_enterLoop_outer _ _ _ _ _
 ·simp only[resolve,hg];simp[go_sem]
 ·intro f' hf';simp[Target.leads]at hf';subst hf';exact hFg
 ·simp[invoke,go_sem,eg]
 refine(hseq (w.heap.size+1) (fun pre W=>I pre W∧At (w.heap.size+1) w.heap.size (rec .ready none) W) (fun pre W=>∃c,Ix c pre W∧At (w.heap.size+1) w.heap.size (rec .done (some c)) W) W1 hb1
  (fun s A B hs hb=>⟨ownFrom_grows hI hs.1 hb,hs.2.below hb⟩) ?_ ⟨ownFrom_grows hI h0 hb1,hat1⟩).mono ?_
 ·rintro pre x W ⟨hi,hat⟩ hlen hgx;exact round_tells (Kp:=Kp) (B:=w.heap.size) (by omega) (by omega) (zD _) hfn hps (fun h k=>hKt h k) (fun W r r' hl=>hKb W _ _ _ (by omega) hl rfl) (tI hI) (fun c=>tI (hIx c))
   (fun x a' W r r' hs hl=>(hAx x a').putObj (s:=()) _ hs (by omega) hl rfl) (fun pre x W r r' hs hl=>(hGd pre x).putObj (s:=()) _ hs (by omega) hl rfl) has hbd hrec hi hat hlen hgx
 ·rintro e W2 ⟨⟨v,rfl⟩,(⟨xs,hS,hi,hat⟩|⟨pre,hSp,c,hi,hat⟩)⟩
  ·have he:=run_endLoop (P:=P) hat.1 (by rw[hrec];simp)
   exact⟨none,_,by rw[hrec]at he;exact he,hdone _ xs _ (zD _) hS (tI hI _ _ _ _ hi hat.1) ((zM (by omega)).trans hat.2)⟩
  ·have he:=run_endLoop (P:=P) hat.1 (by rw[hrec];simp)
   exact⟨some c,_,by rw[hrec]at he;exact he,hstop _ c pre _ (zD _) hSp (tI (hIx c) _ _ _ _ hi hat.1) ((zM (by omega)).trans hat.2)⟩
end
theorem entries_tells(n:Nat)(hn:1≤n)(Bs n₀ n₁:Nat)(w0:World)(hg0:Gl w0)(a:Option Addr)(c:Nat)(L:List ByteArray)(hl:L.length≤4096)(hx:∀x∈L,x.size≤63)(w:World)
 (hBs:w.cell? ⟨Bs,0,none⟩=some (.slice a L.length c)) (hS:LinesAt n₀ n₁ w a L) (hW:Below w0.heap.size w0 w) (h1:n₁≤w.heap.size):
 SeqTells Fence.wide n Tryz.prog 185 #[.pointer (some ⟨Bs,0,none⟩)] (fun x:Ev=>#[x.enc]) (fun pre x W=>Good n₁ x W∧ParseR (L.getD pre.length ByteArray.empty) x.k x.id x.l 0) (Keep w0.heap.size n₀ n₁) (fun ys=>ys.length=(wholeD fun s=>Classical.propDecidable (Ok s)) L∧Rd ys L) (fun pre=>1≤pre.length∧pre.length≤(wholeD fun s=>Classical.propDecidable (Ok s)) L∧Rd pre L) L.length w:=
 fun l J Jx W hWw hJ hY h0=>entries1_in n hn l Bs n₀ n₁ w0 hg0 a c L hl hx J Jx hJ hY W
  ((hWw.cell (p:=⟨Bs,0,none⟩) (World.block_lt_of_cell? _ _ hBs)).trans hBs) (hS.keep (Keep.of_below hWw hW.size h1)) (bel_on' hW hWw) (Nat.le_trans h1 hWw.size) h0
end Go.Proofs.YthfgmpooehkhgaaGreatDoor.Rp
namespace Go.Proofs.YthfgmpooehkhgaaGreatDoor.Rl
open Go Go.RowKit Rp
open Nat renaming le_refl→zD,le_trans→zK
open Classical renaming propDecidable→zR
structure KeepsLp (W W':World):Prop where
 size:W.heap.size≤W'.heap.size
 same:∀(k:Nat)(o:Obj),W.heap[k]?=some o→o.isCells=false→(∀es c,o≠ .map es c)→W'.heap[k]?=some o
theorem keepsLp_below{W W':World}(h:Below W.heap.size W W'):KeepsLp W W':=⟨h.size,fun k _ hk _ _=>(h.block k (Array.getElem?_eq_some_iff.1 hk).1).trans hk⟩
theorem at_keeps{l D:Nat}{r:Loop}{W W':World}(h:At l D r W)(hk:KeepsLp W W'):At l D r W':=⟨hk.same _ _ h.1 rfl (fun _ _ e=>by cases e),hk.same _ _ h.2 rfl (fun _ _ e=>by cases e)⟩
def Ex{α:Type}(I:Nat→List α→World→Prop)(xs:List α)(W:World):Prop:=∃M,M≤W.heap.size∧I M xs W
def ownPostL{α:Type}(Kp:World→World→Prop)(I:List α→World→Prop)(Ix:Code→List α→World→Prop)(xs:List α)(W:World):Exit→Act→World→Prop
 | .normal,_,W'=>KeepsLp W W'∧Kp W W'∧I xs W'
 | .ret,_,W'=>KeepsLp W W'∧Ix .ret xs W'
 | .exit id,_,W'=>KeepsLp W W'∧Ix (.exit id) xs W'
 | .goto t,_,W'=>KeepsLp W W'∧Ix (.goto t) xs W'
 | .panic _,_,_=>False
 | .outgrown,_,_=>False
def SeqTells{α:Type}(F:Fence)(n:Nat)(P:Program)(g:Nat)(lb:Array Value)(encs:α→Array Value)(Gd:Nat→List α→α→World→Prop)(Kp:World→World→Prop)(S Sp:List α→Prop)(N:Nat)(w:World):Prop:=
 ∀(l:Nat)(J:Nat→List α→World→Prop)(Jx:List α→World→Prop)(W:World),Below w.heap.size w W→(∀M s A B,J M s A→Below A.heap.size A B→J M s B)→
  (∀M pre x W1,J M pre W1→pre.length<N→Gd M pre x W1→YieldAt F (n-1) P l (encs x) W1 fun e W'=>(e= .returned (.bool true)∧Ex J (pre++ [x]) W'∧Kp W1 W')∨(e= .returned (.bool false)∧Jx (pre++ [x]) W'))→
  Ex J [] W→CallsIn F n P g (#[.func (.yield l) #[] #[]]++lb) W fun e W'=>(∃v,e= .returned v)∧((∃xs,S xs∧Ex J xs W')∨(∃pre,Sp pre∧Jx pre W'))
section
variable {F:Fence}{n:Nat}{P:Program}{α:Type}{ps:Array Tmp}{assign body:Code}{tmps:Array Value}{fn:FuncId}{encs:α→Array Value}
 {Gd:Nat→List α→α→World→Prop} {Kp:World→World→Prop} {I:Nat→List α→World→Prop} {Ix:Code→List α→World→Prop} {Ax:α→Act→World→Prop}
def BodyDoes(F:Fence)(n:Nat)(P:Program)(body:Code)(Gd:Nat→List α→α→World→Prop)(Kp:World→World→Prop)(I:Nat→List α→World→Prop)(Ix:Code→List α→World→Prop)(Ax:α→Act→World→Prop)(N:Nat):Prop:=
 ∀(l M:Nat)(pre:List α)(x:α)(a':Act)(W:World),I M pre W→Ax x a' W→Gd M pre x W→pre.length<N→body.wpIn (F.inRound l) n P (ownPostL Kp (Ex I) Ix (pre++ [x]) W) a' W
def AssignDoes(F:Fence)(n:Nat)(P:Program)(assign:Code)(ps:Array Tmp)(tmps:Array Value)(encs:α→Array Value)(Gd:Nat→List α→α→World→Prop)(Kp:World→World→Prop)(I:Nat→List α→World→Prop)(Ax:α→Act→World→Prop):Prop:=
 ∀(l M:Nat)(pre:List α)(x:α)(W:World)(K:Act→World→Prop),I M pre W→Gd M pre x W→(∀a' W',KeepsLp W W'→Kp W W'→I M pre W'→Gd M pre x W'→Ax x a' W'→K a' W')→
  assign.wpIn (F.inRound l) n P (Exit.then K (fun _ _ _=>False)) {tmps:=(ps.zip (encs x)).foldl (fun t (p,v)=>t.setIfInBounds p v) tmps,defers:=[]} W
theorem round_tells{l D N:Nat}(hlD:D≠l)(hfn:F.fn fn)(hps:∀x,(encs x).size =ps.size)
 (hKt:∀ {X Y Z:World},Kp X Y→Kp Y Z→Kp X Z) (hKp:∀(W:World)(r r':Loop),W.heap[l]?=some (.loop r)→Kp W (W.putObj l (.loop r')))
 (hI:∀M s W (r r':Loop),I M s W→W.heap[l]?=some (.loop r)→I M s (W.putObj l (.loop r'))) (hIx:∀c s W (r r':Loop),Ix c s W→W.heap[l]?=some (.loop r)→Ix c s (W.putObj l (.loop r')))
 (hA:∀x a' W (r r':Loop),Ax x a' W→W.heap[l]?=some (.loop r)→Ax x a' (W.putObj l (.loop r'))) (hG:∀M pre x W (r r':Loop),Gd M pre x W→W.heap[l]?=some (.loop r)→Gd M pre x (W.putObj l (.loop r')))
 (has:AssignDoes F n P assign ps tmps encs Gd Kp I Ax) (hbd:BodyDoes F n P body Gd Kp I Ix Ax N)
 {rec:LoopState→Option Code→Loop} (hrec:rec=fun st pe=>{state:=st,pending:=pe,fn,tmps,params:=ps,assign,body,defers:=D})
 {M:Nat} {pre:List α} {x:α} {W:World} (hi:I M pre W) (hat:At l D (rec .ready none) W) (hlen:pre.length<N) (hg:Gd M pre x W):
 YieldAt F n P l (encs x) W fun e W'=>(e= .returned (.bool true)∧(Ex I (pre++ [x]) W'∧At l D (rec .ready none) W')∧Kp W W')∨(e= .returned (.bool false)∧∃c,Ix c (pre++ [x]) W'∧At l D (rec .done (some c)) W'):=by
 have hy:=run_yield (P:=P) (args:=encs x) hat.1 (by rw[hrec];exact hps x)
 rw[hrec]at hy
 refine⟨fn,_,assign,body,hy,roundIn_of_wpIn hfn (has l M pre x W _ hi hg ?_)⟩
 intro a' Wa ka kp hia hga hax
 have hata:=at_keeps hat ka
 refine⟨_,run_beginRound hata.1 (by rw[hrec]),?_⟩
 have hatb:=hata.turn hlD {rec .ready none with state:= .busy}
 have kpb:=hKp Wa _ {rec .ready none with state:= .busy} hata.1
 refine wpIn_mono (hbd l M pre x a' _ (hI _ _ _ _ _ hia hata.1) (hA _ _ _ _ _ hax hata.1) (hG _ _ _ _ _ _ hga hata.1) hlen) ?_
 have fin:∀(jump:Option Code)(W3:World),KeepsLp (Wa.putObj l (.loop {rec .ready none with state:= .busy})) W3→
  ∃r' r,r= {rec .ready none with state:= .busy}∧r'=rec (if jump.isNone then .ready else .done) jump∧W3.heap[l]?=some (.loop r)∧(Instr.endRound l jump).run P W3= .ok (.bool jump.isNone) (W3.putObj l (.loop r'))∧At l D r' (W3.putObj l (.loop r')):=fun jump W3 hk3=>by
  have h3:=at_keeps hatb hk3
  have he:=run_endRound (P:=P) jump h3.1
  refine⟨_,_,rfl,rfl,h3.1,?_,h3.turn hlD _⟩;rw[hrec]at he ⊢;exact he
 rintro e a3 W3 hp
 cases e with
 |normal=>
  obtain⟨k3,kp3,M3,m3,i3⟩:=hp;obtain⟨r',r,hr,hr',hl3,he,hat3⟩:=fin none W3 k3;subst hr';exact⟨_,_,he,.inl ⟨rfl,⟨⟨M3,by simpa using m3,hI _ _ _ _ _ i3 hl3⟩,hat3⟩,hKt kp (hKt (hKt kpb kp3) (hKp _ _ _ hl3))⟩⟩
 |ret=>
  obtain⟨r',r,hr,hr',hl3,he,hat3⟩:=fin (some .ret) W3 hp.1;subst hr';exact⟨_,_,he,.inr ⟨rfl,.ret,hIx _ _ _ _ _ hp.2 hl3,hat3⟩⟩
 |exit id=>
  obtain⟨r',r,hr,hr',hl3,he,hat3⟩:=fin (some (.exit id)) W3 hp.1;subst hr';exact⟨_,_,he,.inr ⟨rfl,.exit id,hIx _ _ _ _ _ hp.2 hl3,hat3⟩⟩
 |goto t=>
  obtain⟨r',r,hr,hr',hl3,he,hat3⟩:=fin (some (.goto t)) W3 hp.1;subst hr';exact⟨_,_,he,.inr ⟨rfl,.goto t,hIx _ _ _ _ _ hp.2 hl3,hat3⟩⟩
 |panic ch=>exact hp.elim
 |outgrown=>exact hp.elim
theorem range_tells{N:Nat}{S Sp:List α→Prop}{g:Operand}{Q:Exit→Act→World→Prop}{a:Act}{w:World}(hro:F.round=none)(h1:1≤n){gf:Nat}{lb:Array Value}(hg:a.eval g= .func (.func gf) #[] lb)(hFg:F.fn gf)
 (eg:∀args w,(callFunc gf args).run P w= .ok (.enter gf args) w) (hseq:SeqTells F (n-1) P gf lb encs Gd Kp S Sp N w) (hKt:∀ {X Y Z:World},Kp X Y→Kp Y Z→Kp X Z)
 (hKb:∀(W:World)(l:Nat)(o o':Obj),w.heap.size≤l→W.heap[l]?=some o→o.isCells=false→Kp W (W.putObj l o')) (hps:∀x,(encs x).size =ps.size)
 (hIp:∀M s W (l:Nat)(r r':Loop),I M s W→w.heap.size≤l→W.heap[l]?=some (.loop r)→I M s (W.putObj l (.loop r'))) (hIg:∀M s A B,I M s A→Below A.heap.size A B→I M s B) (hIx:∀c,OwnFrom w.heap.size (Ix c)) (hAx:∀x a',OwnFrom w.heap.size (fun(_:Unit) W=>Ax x a' W)) (hGd:∀M pre x,OwnFrom w.heap.size (fun(_:Unit) W=>Gd M pre x W))
 (h0:Ex I [] w) (has:AssignDoes F (n-1-1) P assign ps a.tmps encs Gd Kp I Ax) (hbd:BodyDoes F (n-1-1) P body Gd Kp I Ix Ax N)
 (hdone:∀(D:Nat)(xs:List α)(W:World),w.heap.size≤D→S xs→Ex I xs W→W.heap[D]?=some (.deferred (some []))→Q .normal {a with defers:={target:= .collected D,args:=#[]}::a.defers} W)
 (hstop:∀(D:Nat)(c:Code)(pre:List α)(W:World),w.heap.size≤D→Sp pre→Ix c pre W→W.heap[D]?=some (.deferred (some []))→c.wpIn F n P Q {a with defers:={target:= .collected D,args:=#[]}::a.defers} W):
 (Code.rangeFunc g ps assign body).wpIn F n P Q a w:=by
 refine wpIn_rangeFunc fun fn hfn=>?_
 rw[hro]
 obtain⟨rec,hrec⟩:∃rec:LoopState→Option Code→Loop,rec=fun st pe=>{state:=st,pending:=pe,fn,tmps:=a.tmps,params:=ps,assign,body,defers:=w.heap.size}:=⟨_,rfl⟩
 obtain⟨W1,hW1⟩:∃W1,W1=(w.alloc (.deferred (some []))).alloc (.loop (rec .ready none)):=⟨_,rfl⟩
 have hb1:Below w.heap.size w W1:=by rw[hW1];exact((Below.refl _ w).alloc (zD _) _).alloc (by simp) _
 have hat1:At (w.heap.size+1) w.heap.size (rec .ready none) W1:=by
  have h2:=World.alloc_heap_new (w.alloc (.deferred (some []))) (.loop (rec .ready none))
  rw[World.size_alloc]at h2;rw[hW1];exact⟨h2,(Below.heap_alloc _ _ _ (by simp)).trans (World.alloc_heap_new w _)⟩
 have tI:∀ {J:List α→World→Prop},OwnFrom w.heap.size J→∀s W (r r':Loop),J s W→W.heap[w.heap.size+1]?=some (.loop r)→J s (W.putObj (w.heap.size+1) (.loop r')):=fun h s W r r' hs hl=>h.putObj _ hs (by omega) hl rfl
 refine⟨w.heap.size+1,[{target:= .collected w.heap.size,args:=#[]}],W1,{target:= .fn (.func gf) lb,args:=#[.func (.yield (w.heap.size+1)) #[] #[]]},W1,gf,#[.func (.yield (w.heap.size+1)) #[] #[]]++lb,W1,?_,?_,?_,?_,fun _=>h1,?_⟩
 ·rw[hW1,hrec];exact run_enterLoop_outer _ _ _ _ _
 ·simp only[resolve,hg];simp[go_sem]
 ·intro f' hf';simp[Target.leads]at hf';subst hf';exact hFg
 ·simp[invoke,go_sem,eg]
 refine(hseq (w.heap.size+1) (fun M pre W=>I M pre W∧At (w.heap.size+1) w.heap.size (rec .ready none) W) (fun pre W=>∃c,Ix c pre W∧At (w.heap.size+1) w.heap.size (rec .done (some c)) W) W1 hb1
  (fun M s A B hs hb=>⟨hIg _ _ _ _ hs.1 hb,hs.2.below hb⟩) ?_ (h0.elim (fun M h=>⟨M,zK h.1 hb1.size,hIg _ _ _ _ h.2 hb1,hat1⟩))).mono ?_
 ·rintro M pre x W ⟨hi,hat⟩ hlen hgx;refine YieldAt.mono (round_tells (Kp:=Kp) (by omega) hfn hps (fun h k=>hKt h k) (fun W r r' hl=>hKb W _ _ _ (by omega) hl rfl) (fun M s W r r' hs hl=>hIp M s W _ r r' hs (by omega) hl) (fun c=>tI (hIx c))
   (fun x a' W r r' hs hl=>(hAx x a').putObj (s:=()) _ hs (by omega) hl rfl) (fun M pre x W r r' hs hl=>(hGd M pre x).putObj (s:=()) _ hs (by omega) hl rfl) has hbd hrec hi hat hlen hgx) (fun e W' h=>h.imp (fun⟨h1,⟨⟨M',h2,h3⟩,h4⟩,h5⟩=>⟨h1,⟨M',h2,h3,h4⟩,h5⟩) (fun h=>h))
 ·rintro e W2 ⟨⟨v,rfl⟩,(⟨xs,hS,M,hM,hi,hat⟩|⟨pre,hSp,c,hi,hat⟩)⟩
  ·have he:=run_endLoop (P:=P) hat.1 (by rw[hrec];simp)
   exact⟨none,_,by rw[hrec]at he;exact he,hdone _ xs _ (zD _) hS ⟨M,by simpa using hM,hIp _ _ _ _ _ _ hi (by omega) hat.1⟩ ((World.putObj_heap_other (by omega)).trans hat.2)⟩
  ·have he:=run_endLoop (P:=P) hat.1 (by rw[hrec];simp)
   exact⟨some c,_,by rw[hrec]at he;exact he,hstop _ c pre _ (zD _) hSp (tI (hIx c) _ _ _ _ hi hat.1) ((World.putObj_heap_other (by omega)).trans hat.2)⟩
end
set_option maxRecDepth 100000 in
set_option maxHeartbeats 2000000 in
theorem entries2_in(n:Nat)(hn:1≤n)(l Bs n₀ n₁:Nat)(w0:World)(hg0:Gl w0)(a:Option Addr)(c:Nat)(L:List ByteArray)(hl:L.length≤4096)(hx:∀x∈L,x.size≤63)(J:Nat→List Ev→World→Prop)(Jx:List Ev→World→Prop)
 (hJa:∀M s W W',J M s W→Below W.heap.size W W'→J M s W')
 (hY:∀M pre x W1,J M pre W1→pre.length<L.length→(Good M x W1∧Good n₁ x W1∧ParseR (L.getD pre.length ByteArray.empty) x.k x.id x.l 0)→YieldAt Fence.wide (n-1) Tryz.prog l #[x.enc] W1 fun e W'=>
   (e= .returned (.bool true)∧Ex J (pre++ [x]) W'∧Keep w0.heap.size n₀ n₁ W1 W')∨(e= .returned (.bool false)∧Jx (pre++ [x]) W'))
 (W:World) (hBs:W.cell? ⟨Bs,0,none⟩=some (.slice a L.length c)) (hS:LinesAt n₀ n₁ W a L) (hW:Below w0.heap.size w0 W) (h1:n₁≤W.heap.size) (h0:Ex J [] W):
 CallsIn Fence.wide n Tryz.prog 185 #[.func (.yield l) #[] #[],.pointer (some ⟨Bs,0,none⟩)] W fun e W'=>(∃v,e= .returned v)∧
  ((∃ys,(ys.length=(wholeD fun s=>zR (Ok s)) L∧Rd ys L)∧Ex J ys W')∨(∃pre,(1≤pre.length∧pre.length≤(wholeD fun s=>zR (Ok s)) L∧Rd pre L)∧Jx pre W')):=by
 refine callsIn_of_wp Tryz.func185 rfl trivial ?_ rfl
 simp only[Tryz.ntmps185,List.size_toArray,List.length_cons,List.length_nil,Nat.reduceAdd,Nat.reduceSub,Array.replicate_succ,Array.replicate_zero,List.push_toArray,List.append_toArray,List.nil_append,List.cons_append]
 have HJa:Hid (∀M s W W',J M s W→Below W.heap.size W W'→J M s W'):=hJa
 have HY:Hid _:=hY
 have HG:Hid (Gl w0):=hg0
 have HX:Hid (∀x∈L,x.size≤63):=hx
 have HS:Hid (LinesAt n₀ n₁ W a L):=hS
 have HW:Hid (Below w0.heap.size w0 W):=hW
 have HJ0:Hid (Ex J [] W):=h0
 clear hJa hY hg0 hx hS hW h0
 have hnf:∀u:World,(binOp BinOp.eql 199 (.func (.yield l) #[] #[]) .nilFunc).run Tryz.prog u= .ok (.bool false) u:=fun _=>by kernel_rfl
 gi_wp2
 gi_loopw [11] (fun i wr=>∃pre:List Ev,i= .int .i64 pre.length∧pre.length≤L.length∧Hid (Ex J pre wr)∧Hid (Rd pre L)∧Hid (Below w0.heap.size w0 wr)∧Hid (LinesAt n₀ n₁ wr a L)∧n₁≤wr.heap.size) (fun i _=>L.length-(Go.RowKit.intOf i).toNat)
 case atStart=>exact⟨[],rfl,Nat.zero_le _,HJ0,Rd.nil L,HW,HS,h1⟩
 case round=>
  obtain⟨pre,rfl,hp,HJ,HR,HB,HLA,hn1⟩:=hrel;by_cases hlt:pre.length<L.length
  ·obtain⟨s,hs⟩:∃s,L.getD pre.length ByteArray.empty=s:=⟨_,rfl⟩
   obtain⟨b,off,rfl,hcx⟩:∃b off,a=some ⟨b,off,none⟩∧wr.cell? ⟨b,off+pre.length,none⟩=some (.string s):=by
    rcases HLA.out with h|⟨b,off,h2,_,h3⟩
    ·subst h;simp at hlt
    ·exact⟨b,off,h2,by rw[←hs];exact h3 _ hlt⟩
   have HSS:Hid (s.size≤140737488355328):=by
    show s.size≤_
    have:=HX.out s (by rw[←hs];simp[List.getD,hlt])
    omega
   have HSE:Hid (L.getD pre.length ByteArray.empty=s):=hs
   clear hs
   gi_wp2_with fail
   refine⟨trivial,(callsIn_wide.2 (parse_anyF s wr HSS.out (HG.out.on HB.out))).mono ?_⟩;rintro e w4 ⟨k,id,l',av,cv,er,rfl,hin,hll,hpr,hb4⟩;obtain⟨V,hV⟩:∃V,V=w4.alloc (.cells #[.string k,.int .i64 id,.slice av l'.length cv] 104):=⟨_,rfl⟩
   have hbV:Below wr.heap.size wr V:=by rw[hV];exact hb4.alloc hb4.size _
   obtain⟨M,hM,hJM⟩:=HJ.out;have hJV:J M pre V:=HJa.out _ _ _ _ hJM hbV
   have HBV:Hid (Below w0.heap.size w0 V):=bel_on' HB.out hbV
   have HKV:Hid (Keep w0.heap.size n₀ n₁ wr V):=Keep.of_below hbV HB.out.size hn1
   have hn1V:n₁≤V.heap.size:=zK hn1 hbV.size
   by_cases her:er=0
   ·subst her;have hgm:Good M ⟨k,id,l',av,cv⟩ V:=⟨by rw[hV];exact(hin.lower hM).below ((Below.refl _ _).alloc (zD _) _),hll⟩
    have hgx:Good n₁ ⟨k,id,l',av,cv⟩ V:=⟨by rw[hV];exact(hin.lower hn1).below ((Below.refl _ _).alloc (zD _) _),hll⟩
    have HRX:Hid (Rd (pre++ [⟨k,id,l',av,cv⟩]) L):=HR.out.snoc (by rw[HSE.out];exact hpr)
    obtain⟨fn,tmps,assign,body,hy,hR⟩:=HY.out M pre ⟨k,id,l',av,cv⟩ V hJV hlt ⟨hgm,hgx,by rw[HSE.out];exact hpr⟩;dsimp only[Ev.enc]at hy;rw[hV]at hy hR;clear hgx hgm hin hll hpr hb4
    gi_wp2
    refine hR.mono ?_;rintro e W3 (⟨rfl,hJ3,hk3⟩|⟨rfl,hJx3⟩)
    ·rw[←hV]at hk3;have HK3:Hid (Keep w0.heap.size n₀ n₁ wr W3):=HKV.out.trans hk3
     have HB3:Hid (Below w0.heap.size w0 W3):=HB.out.trans HK3.out.1
     have hn3:n₁≤W3.heap.size:=zK hn1V hk3.1.size
     have HJ3:Hid (Ex J (pre++ [⟨k,id,l',av,cv⟩]) W3):=hJ3
     clear hJ3 hk3 hR
     gi_wp2
     go_roundw
     case rel=>exact⟨pre++ [⟨k,id,l',av,cv⟩],by simp,by simp;omega,HJ3,HRX,HB3,HLA.out.keep HK3.out,hn3⟩
     case measure=>simp[Go.RowKit.intOf];omega
    ·gi_wp2
     refine bodyPost_ret (results_none rfl _ _ _) rfl ?_;exact⟨⟨_,rfl⟩,.inr ⟨pre++ [⟨k,id,l',av,cv⟩],⟨by simp,whole_ge L _ (by simp;omega) HRX.out.ok,HRX.out⟩,hJx3⟩⟩
   ·have q0:(er != 0)=true:=by simpa using her
    have HWH:Hid (pre.length=(wholeD fun s=>zR (Ok s)) L):=by
     show pre.length=(wholeD fun s=>zR (Ok s)) L
     have h1:=whole_ge L pre.length hp HR.out.ok
     have h2:=whole_stop L pre.length hlt (by rw[HSE.out];exact ok_parse hpr her)
     omega
    have HJV:Hid (Ex J pre V):=⟨M,zK hM hbV.size,hJV⟩
    rw[hV]at HJV;clear hin hll hpr hb4 hJV
    gi_wp2
    refine⟨fun _ h=>(by cases h),?_⟩
    gi_wp2
    refine bodyPost_ret (results_none rfl _ _ _) rfl ?_;exact⟨⟨_,rfl⟩,.inl ⟨pre,⟨HWH.out,HR.out⟩,HJV.out⟩⟩
  ·have en:pre.length=L.length:=by omega
   have HWH:Hid (pre.length=(wholeD fun s=>zR (Ok s)) L):=by
    show pre.length=(wholeD fun s=>zR (Ok s)) L
    have h1:=whole_ge L pre.length hp HR.out.ok
    have h2:=whole_le L
    omega
   gi_wp2
   go_end0
   exact⟨⟨_,rfl⟩,.inl ⟨pre,⟨HWH.out,HR.out⟩,HJ.out⟩⟩
theorem entries_tells(n:Nat)(hn:1≤n)(Bs n₀ n₁:Nat)(w0:World)(hg0:Gl w0)(a:Option Addr)(c:Nat)(L:List ByteArray)(hl:L.length≤4096)(hx:∀x∈L,x.size≤63)(w:World)
 (hBs:w.cell? ⟨Bs,0,none⟩=some (.slice a L.length c)) (hS:LinesAt n₀ n₁ w a L) (hW:Below w0.heap.size w0 w) (h1:n₁≤w.heap.size):
 SeqTells Fence.wide n Tryz.prog 185 #[.pointer (some ⟨Bs,0,none⟩)] (fun x:Ev=>#[x.enc]) (fun M pre x W=>Good M x W∧Good n₁ x W∧ParseR (L.getD pre.length ByteArray.empty) x.k x.id x.l 0) (Keep w0.heap.size n₀ n₁) (fun ys=>ys.length=(wholeD fun s=>zR (Ok s)) L∧Rd ys L) (fun pre=>1≤pre.length∧pre.length≤(wholeD fun s=>zR (Ok s)) L∧Rd pre L) L.length w:=
 fun l J Jx W hWw hJ hY h0=>entries2_in n hn l Bs n₀ n₁ w0 hg0 a c L hl hx J Jx hJ hY W
  ((hWw.cell (p:=⟨Bs,0,none⟩) (World.block_lt_of_cell? _ _ hBs)).trans hBs) (hS.keep (Keep.of_below hWw hW.size h1)) (bel_on' hW hWw) (zK h1 hWw.size) h0
end Go.Proofs.YthfgmpooehkhgaaGreatDoor.Rl
