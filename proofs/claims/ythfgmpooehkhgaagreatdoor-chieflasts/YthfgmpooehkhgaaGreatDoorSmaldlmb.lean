import Derived.Test.YthfgmpooehkhgaaGreatDoorSmigddag
import Derived.ProofKit
import Derived.OpenShut
import Derived.WalkLawsBesides
namespace Go.Proofs.YthfgmpooehkhgaaGreatDoor
open Go.ChangeShapes Go.WideShapes Go.ChangeAt Go.RowKit
open List renaming setIfInBounds_toArray→zA
def tcs(N:Nat)(a:Int)(y:Nat→Bool)(c:Int)(f d:Bool):List Value:= .int .i64 a::((List.range N).map (fun k:Nat=> .bool (y k))++ [.int .i64 c,.bool f,.bool d])
theorem tcs_len(N:Nat)(a:Int)(y:Nat→Bool)(c:Int)(f d:Bool):(tcs N a y c f d).length =N+4:=by simp[tcs]
theorem tcs_get(N:Nat)(a:Int)(y:Nat→Bool)(c:Int)(f d:Bool)(k:Nat):(tcs N a y c f d)[k]?=if k=0 then some (.int .i64 a)else if k≤N then some (.bool (y (k-1)))else if k=N+1 then some (.int .i64 c)else if k=N+2 then some (.bool f)else if k=N+3 then some (.bool d)else none:=by
 unfold tcs
 cases k with
 |zero=>rfl
 |succ k=>
  rw[List.getElem?_cons_succ,if_neg (by omega)];by_cases h:k<N
  ·rw[if_pos (by omega),List.getElem?_append_left (by simp;omega)];simp[h]
  ·rw[if_neg (by omega),List.getElem?_append_right (by simp;omega)];simp only[List.length_map,List.length_range];by_cases h1:k=N
   ·subst h1;simp
   ·by_cases h2:k=N+1
    ·subst h2;simp
    ·by_cases h3:k=N+2
     ·subst h3;simp
     ·rw[if_neg (by omega),if_neg (by omega),if_neg (by omega)];rw[List.getElem?_eq_none (by simp;omega)]
theorem tcs_put{N:Nat}(a:Int)(y:Nat→Bool)(c:Int)(f d:Bool){i:Nat}(hi:i<N):(tcs N a y c f d).set (1+i) (.bool true)=tcs N a (yesB y i) c f d:=by
 apply List.ext_getElem?
 intro k
 rw[List.getElem?_set,tcs_len,tcs_get,tcs_get]
 unfold yesB
 by_cases e:1+i=k
 ·subst e;rw[if_pos rfl,if_pos (by omega),if_neg (by omega),if_pos (by omega),if_pos (by omega)]
 ·rw[if_neg e];by_cases h0:k=0
  ·rw[if_pos h0,if_pos h0]
  ·rw[if_neg h0,if_neg h0,if_neg (show¬k-1=i by omega)]
theorem tcs_c(N:Nat)(a:Int)(y:Nat→Bool)(c c':Int)(f d:Bool):(tcs N a y c f d).set (N+1) (.int .i64 c')=tcs N a y c' f d:=by
 apply List.ext_getElem?
 intro k
 rw[List.getElem?_set,tcs_len,tcs_get,tcs_get]
 by_cases e:N+1=k
 ·subst e;rw[if_pos rfl,if_pos (by omega),if_neg (by omega),if_neg (by omega),if_pos rfl]
 ·rw[if_neg e,if_neg (show¬k=N+1 from fun h=>e h.symm),if_neg (show¬k=N+1 from fun h=>e h.symm)]
theorem tcs_f(N:Nat)(a:Int)(y:Nat→Bool)(c:Int)(f f' d:Bool):(tcs N a y c f d).set (N+2) (.bool f')=tcs N a y c f' d:=by
 apply List.ext_getElem?
 intro k
 rw[List.getElem?_set,tcs_len,tcs_get,tcs_get]
 by_cases e:N+2=k
 ·subst e;rw[if_pos rfl,if_pos (by omega),if_neg (by omega),if_neg (by omega),if_neg (by omega),if_pos rfl]
 ·rw[if_neg e,if_neg (show¬k=N+2 from fun h=>e h.symm),if_neg (show¬k=N+2 from fun h=>e h.symm)]
theorem tcs_d(N:Nat)(a:Int)(y:Nat→Bool)(c:Int)(f d d':Bool):(tcs N a y c f d).set (N+3) (.bool d')=tcs N a y c f d':=by
 apply List.ext_getElem?
 intro k
 rw[List.getElem?_set,tcs_len,tcs_get,tcs_get]
 by_cases e:N+3=k
 ·subst e;rw[if_pos rfl,if_pos (by omega),if_neg (by omega),if_neg (by omega),if_neg (by omega),if_neg (by omega),if_pos rfl]
 ·rw[if_neg e,if_neg (show¬k=N+3 from fun h=>e h.symm),if_neg (show¬k=N+3 from fun h=>e h.symm)]
theorem tcs_a(N:Nat)(a a':Int)(y:Nat→Bool)(c:Int)(f d:Bool):(tcs N a y c f d).set 0 (.int .i64 a')=tcs N a' y c f d:=rfl
theorem zeroT(w:World):(zeroValue 226).run Tryz.prog w= .ok (.agg (tcs 64 0 (fun _=>false) 0 false false).toArray) w:=by kernel_rfl
theorem build_tally(c:Int)(w:World):(Instr.build 226 #[(0,.int .i64 c)]).run Tryz.prog w= .ok (.agg (tcs 64 c (fun _=>false) 0 false false).toArray) w:=by
 have e:(tcs 64 c (fun _=>false) 0 false false).toArray =(tcs 64 0 (fun _=>false) 0 false false).toArray.setIfInBounds 0 (.int .i64 c):=by
  rw[zA,tcs_a]
 have hs:(tcs 64 0 (fun _=>false) 0 false false).toArray.size =68:=by rw[List.size_toArray,tcs_len]
 rw[e]
 have hz:=zeroT w
 generalize (tcs 64 0 (fun _=>false) 0 false false).toArray =Z at hz hs ⊢
 clear e
 simp[Instr.build,hz,run_underlying Tryz.underlying226,Tryz.sizeOf3,Tryz.sizeOf4,Tryz.sizeOf224,Instr.fill,hs,Value.cells,Result.andThen]
def Tk0(B:Nat)(w:World)(p:Nat)(a:Int)(y:Nat→Bool)(c:Int)(f d:Bool):Prop:=
 w.heap[p]?=some (.cells (tcs 64 a y c f d).toArray 226 (0,0))∧B≤p
def Tk(B:Nat)(w:World)(p:Nat)(t:Ta):Prop:=Tk0 B w p t.n t.y (cnt t.y t.n) t.f t.d∧t.good
theorem Tk0.lt{B:Nat}{w:World}{p:Nat}{a:Int}{y:Nat→Bool}{c:Int}{f d:Bool}(k:Tk0 B w p a y c f d):p<w.heap.size:=(Array.getElem?_eq_some_iff.1 k.1).1
theorem Tk0.cells{B:Nat}{w:World}{p:Nat}{a:Int}{y:Nat→Bool}{c:Int}{f d:Bool}(k:Tk0 B w p a y c f d):
 w.cell? ⟨p,0,none⟩=some (.int .i64 a)∧w.cell? ⟨p,65,none⟩=some (.int .i64 c)∧w.cell? ⟨p,66,none⟩=some (.bool f)∧w.cell? ⟨p,67,none⟩=some (.bool d):=by
 refine⟨?_,?_,?_,?_⟩<;>(rw[cell_of k.1,List.getElem?_toArray,tcs_get];simp)
theorem Tk0.cellI{B:Nat}{w:World}{p:Nat}{a:Int}{y:Nat→Bool}{c:Int}{f d:Bool}(k:Tk0 B w p a y c f d){i:Nat}(hi:i<64):w.cell? ⟨p,1+i,none⟩=some (.bool (y i)):=by
 rw[cell_of k.1,List.getElem?_toArray,tcs_get,if_neg (by omega),if_pos (by omega),Nat.add_sub_cancel_left]
theorem Tk0.frozen{B:Nat}{w:World}{p:Nat}{a:Int}{y:Nat→Bool}{c:Int}{f d:Bool}(k:Tk0 B w p a y c f d)(i:Nat):w.frozen? ⟨p,i,none⟩=false:=frozen_of_row _ _ _ _ _ k.1
theorem Tk0.setI{B:Nat}{w:World}{p:Nat}{a:Int}{y:Nat→Bool}{c:Int}{f d:Bool}(k:Tk0 B w p a y c f d){i:Nat}(hi:i<64):Tk0 B (w.setCell ⟨p,1+i,none⟩ (.bool true)) p a (yesB y i) c f d:=by
 refine⟨?_,k.2⟩
 rw[heap_setCell_same _ _ _ _ _ _ k.1,←tcs_put a y c f d hi,zA]
theorem Tk0.setC{B:Nat}{w:World}{p:Nat}{a:Int}{y:Nat→Bool}{c:Int}{f d:Bool}(k:Tk0 B w p a y c f d)(c':Int):Tk0 B (w.setCell ⟨p,65,none⟩ (.int .i64 c')) p a y c' f d:=by
 refine⟨?_,k.2⟩
 rw[heap_setCell_same _ _ _ _ _ _ k.1,←tcs_c 64 a y c c' f d,zA]
theorem Tk0.setF{B:Nat}{w:World}{p:Nat}{a:Int}{y:Nat→Bool}{c:Int}{f d:Bool}(k:Tk0 B w p a y c f d)(f':Bool):Tk0 B (w.setCell ⟨p,66,none⟩ (.bool f')) p a y c f' d:=by
 refine⟨?_,k.2⟩
 rw[heap_setCell_same _ _ _ _ _ _ k.1,←tcs_f 64 a y c f f' d,zA]
theorem Tk0.setD{B:Nat}{w:World}{p:Nat}{a:Int}{y:Nat→Bool}{c:Int}{f d:Bool}(k:Tk0 B w p a y c f d)(d':Bool):Tk0 B (w.setCell ⟨p,67,none⟩ (.bool d')) p a y c f d':=by
 refine⟨?_,k.2⟩
 rw[heap_setCell_same _ _ _ _ _ _ k.1,←tcs_d 64 a y c f d d',zA]
theorem Tk0.kept{B:Nat}{w w':World}{p:Nat}{a:Int}{y:Nat→Bool}{c:Int}{f d:Bool}{E:Nat→Obj→Prop}(k:Tk0 B w p a y c f d)(hk:Rg.Kept E w w')(hp:∀o,¬E p o):Tk0 B w' p a y c f d:=⟨hk.block _ _ k.1 (hp _),k.2⟩
def Own1(p:Nat)(k:Nat)(_:Obj):Prop:=k=p
theorem own1_set{p i:Nat}(w:World)(v:Value):Rg.Kept (Own1 p) w (w.setCell ⟨p,i,none⟩ v):=Rg.Kept.setCell _ (fun _=>rfl)
theorem Tk.kept{B:Nat}{w w':World}{p:Nat}{t:Ta}{E:Nat→Obj→Prop}(k:Tk B w p t)(hk:Rg.Kept E w w')(hp:∀o,¬E p o):Tk B w' p t:=⟨k.1.kept hk hp,k.2⟩
theorem Tk.on{B:Nat}{w w':World}{p:Nat}{t:Ta}(k:Tk B w p t)(hb:Below w.heap.size w w'):Tk B w' p t:=k.kept (E:=fun _ _=>False) (Rg.Kept.of_below hb) (fun _ h=>h)
theorem box_tally(cs:Array Value)(w:World):(Instr.box 226 (.agg cs)).run Tryz.prog w= .ok (.pointer (some ⟨w.heap.size,0,none⟩)) (w.alloc (.cells cs 226)):=by
 simp[Instr.box,newVar,newRow,Value.cells,Result.andThen]
theorem wpList_build_tally{w:World}{ops:Array Oper}{rest:List Oper}{o:Oper}{a:Act}{Q:Exit→Act→World→Prop}(hg:o.guard=none)(x:Operand)(hop:o.op=Op.build 226 #[(0,x)])(c:Int)(hx:a.eval x= .int .i64 c)
 (hK:wpList Tryz.prog ops Q rest (a.put o.dst (.agg (tcs 64 c (fun _=>false) 0 false false).toArray)) w):wpList Tryz.prog ops Q (o::rest) a w:=by
 refine wpList_plain hg fun K' hK'=>?_
 have hrun:=build_tally c w
 generalize (tcs 64 c (fun _=>false) 0 false false).toArray =cs at hrun hK
 unfold Oper.wp
 simp only[execOp,hop]
 simp[hx,hrun,Result.andThen]
 exact hK' _ _ hK
theorem tnew_any(n:Int)(w:World):Calls Tryz.prog 188 #[.int .i64 n] w fun e w'=>∃p,e= .returned (.pointer (some ⟨p,0,none⟩))∧Tk w.heap.size w' p (newT (cutN n))∧Below w.heap.size w w':=by
 have key:∀c:Int,c=cutN n→Tk w.heap.size (w.alloc (.cells (tcs 64 c (fun _=>false) 0 false false).toArray 226)) w.heap.size (newT (cutN n))∧Below w.heap.size w (w.alloc (.cells (tcs 64 c (fun _=>false) 0 false false).toArray 226)):=fun c e=>by
  subst e;refine⟨⟨⟨?_,Nat.le_refl _⟩,newT_good (cutN_bd n)⟩,(Below.refl _ _).alloc (Nat.le_refl _) _⟩;rw[newT_f (cutN_bd n).1];unfold newT;dsimp only;rw[cnt_none];exact World.alloc_heap_new _ _
 obtain⟨t,ht⟩:∃t,newT (cutN n)=t:=⟨_,rfl⟩
 rw[ht]at key ⊢
 have KEY:Hid (∀c:Int,(if n<1 then(1:Int)else if 64<n then 64 else n)=c→Tk w.heap.size (w.alloc (.cells (tcs 64 c (fun _=>false) 0 false false).toArray 226)) w.heap.size t∧Below w.heap.size w (w.alloc (.cells (tcs 64 c (fun _=>false) 0 false false).toArray 226))):=fun c e=>key c (by rw[←e];unfold cutN;split<;>(try split)<;>omega)
 clear key ht
 have hx:=box_tally
 by_cases a:n<1
 ·have KK:=hide (KEY.out 1 (if_pos a))
  clear KEY;go_enter Tryz.func188,Tryz.ntmps188
  go_wp2_with(refine wpList_build_tally rfl _ rfl 1 rfl ?_;generalize (tcs 64 1 (fun _=>false) 0 false false).toArray =cs at KK ⊢)
  go_ret
  exact⟨_,rfl,KK.out⟩
 ·by_cases b:64<n
  ·have KK:=hide (KEY.out 64 (by rw[if_neg a,if_pos b]))
   clear KEY;go_enter Tryz.func188,Tryz.ntmps188
   go_wp2_with(refine wpList_build_tally rfl _ rfl 64 rfl ?_;generalize (tcs 64 64 (fun _=>false) 0 false false).toArray =cs at KK ⊢)
   go_ret
   exact⟨_,rfl,KK.out⟩
  ·have KK:=hide (KEY.out n (by rw[if_neg a,if_neg b]))
   clear KEY;go_enter Tryz.func188,Tryz.ntmps188
   go_wp2_with(refine wpList_build_tally rfl _ rfl n rfl ?_;generalize (tcs 64 n (fun _=>false) 0 false false).toArray =cs at KK ⊢)
   go_ret
   exact⟨_,rfl,KK.out⟩
theorem tclose_any{B:Nat}{w:World}{p:Nat}{t:Ta}(k:Tk B w p t):
 Calls Tryz.prog 243 #[.pointer (some ⟨p,0,none⟩)] w fun e w'=>e= .returned (.tuple #[])∧Tk B w' p t.close∧Rg.Kept (Own1 p) w w':=by
 obtain⟨-,-,-,c67⟩:=k.1.cells
 have f67:=k.1.frozen 67
 have KK:Hid (Tk B (w.setCell ⟨p,67,none⟩ (.bool true)) p t.close∧Rg.Kept (Own1 p) w (w.setCell ⟨p,67,none⟩ (.bool true))):=⟨⟨k.1.setD true,k.2.close⟩,own1_set _ _⟩
 obtain⟨d,hd⟩:∃d,t.d=d:=⟨_,rfl⟩
 rw[hd]at c67
 clear k hd
 go_enter Tryz.func243,Tryz.ntmps243
 go_wp2
 go_end0
 exact⟨rfl,KK.out⟩
theorem said_yes{t:Ta}{i:Nat}(hd:t.d=false)(hi:i<t.n)(hy:t.y i=false):t.said (i:Int) true=⟨t.n,yesB t.y i,decide (cnt t.y t.n+1=t.n)⟩:=by
 unfold Ta.said
 rw[if_pos ⟨⟨hd,by omega,by omega⟩,by simpa using hy⟩,if_pos rfl]
 rw[Int.toNat_natCast,cnt_up _ _ hy,if_pos hi]
theorem said_f{t:Ta}{i:Nat}(hi:i<t.n)(hy:t.y i=false):(⟨t.n,yesB t.y i,decide (cnt t.y t.n+1=t.n)⟩:Ta).f =decide (cnt t.y t.n+1=t.n):=by
 unfold Ta.f
 dsimp only
 rw[cnt_up _ _ hy,if_pos hi]
set_option maxHeartbeats 1000000 in
theorem tadd_any{B:Nat}{w:World}{p:Nat}{t:Ta}(k:Tk B w p t){i:Nat}(hd:t.d=false)(hi:i<t.n)(hy:t.y i=false):
 Calls Tryz.prog 242 #[.pointer (some ⟨p,0,none⟩),.int .i64 (i:Int)] w fun e w'=>e= .returned (.tuple #[])∧Tk B w' p (t.said (i:Int) true)∧Rg.Kept (Own1 p) w w':=by
 have g:=k.2
 have h64:=g.n64
 have hi64:i<64:=by omega
 have hio:(i:Int)<64:=by omega
 obtain⟨c0,c65,c66,c67⟩:=k.1.cells
 have ci:=k.1.cellI hi64
 have hcn:=g.open_ hd
 have FZ:∀j,w.frozen? ⟨p,j,none⟩=false:=k.1.frozen
 have f1:=FZ (1+i)
 have f65:=FZ 65
 have f66:=FZ 66
 have f67:=FZ 67
 rw[said_yes hd hi hy]
 have KEY1:Hid (cnt t.y t.n+1≠t.n→Tk B ((w.setCell ⟨p,1+i,none⟩ (.bool true)).setCell ⟨p,65,none⟩ (.int .i64 ((cnt t.y t.n:Nat)+1))) p ⟨t.n,yesB t.y i,decide (cnt t.y t.n+1=t.n)⟩∧Rg.Kept (Own1 p) w ((w.setCell ⟨p,1+i,none⟩ (.bool true)).setCell ⟨p,65,none⟩ (.int .i64 ((cnt t.y t.n:Nat)+1)))):=fun hne=>by
  refine⟨⟨?_,?_⟩,(own1_set _ _).trans (own1_set _ _)⟩
  ·have h:=(k.1.setI hi64).setC ((cnt t.y t.n:Nat)+1)
   rw[said_f hi hy];dsimp only;rw[cnt_up _ _ hy,if_pos hi,decide_eq_false hne];have ef:=g.open_f hd
   rw[ef,hd]at h;exact h
  ·exact⟨g.n1,g.n64,fun e=>by rw[said_f hi hy]at e;exact e⟩
 have KEY2:Hid (cnt t.y t.n+1=t.n→Tk B ((((w.setCell ⟨p,1+i,none⟩ (.bool true)).setCell ⟨p,65,none⟩ (.int .i64 ((cnt t.y t.n:Nat)+1))).setCell ⟨p,66,none⟩ (.bool true)).setCell ⟨p,67,none⟩ (.bool true)) p ⟨t.n,yesB t.y i,decide (cnt t.y t.n+1=t.n)⟩∧Rg.Kept (Own1 p) w ((((w.setCell ⟨p,1+i,none⟩ (.bool true)).setCell ⟨p,65,none⟩ (.int .i64 ((cnt t.y t.n:Nat)+1))).setCell ⟨p,66,none⟩ (.bool true)).setCell ⟨p,67,none⟩ (.bool true))):=fun hne=>by
  refine⟨⟨?_,?_⟩,(((own1_set _ _).trans (own1_set _ _)).trans (own1_set _ _)).trans (own1_set _ _)⟩
  ·have h:=(((k.1.setI hi64).setC ((cnt t.y t.n:Nat)+1)).setF true).setD true
   rw[said_f hi hy];dsimp only;rw[cnt_up _ _ hy,if_pos hi,decide_eq_true hne];exact h
  ·exact⟨g.n1,g.n64,fun e=>by rw[said_f hi hy]at e;exact e⟩
 obtain⟨T,hT⟩:∃T,(⟨t.n,yesB t.y i,decide (cnt t.y t.n+1=t.n)⟩:Ta)=T:=⟨_,rfl⟩
 rw[hT]at KEY1 KEY2 ⊢
 have hc64:cnt t.y t.n<64:=by omega
 obtain⟨c,hc⟩:∃c,cnt t.y t.n=c:=⟨_,rfl⟩
 rw[hc]at KEY1 KEY2 c65 hc64
 obtain⟨n,hn⟩:∃n,t.n=n:=⟨_,rfl⟩
 rw[hn]at KEY1 KEY2 c0 h64
 obtain⟨z,hz⟩:∃z,t.y i=z:=⟨_,rfl⟩
 rw[hz]at ci
 obtain⟨d,hd'⟩:∃d,t.d=d:=⟨_,rfl⟩
 rw[hd']at c67
 obtain⟨f,hf'⟩:∃f,t.f=f:=⟨_,rfl⟩
 rw[hf']at c66
 clear k hz hd' hf' hd hy hi hcn g hc hn hT FZ
 by_cases e:c+1=n
 ·have q:((c:Int)+1==(n:Int))=true:=by simp;omega
  have KK:=hide (KEY2.out e)
  clear KEY1 KEY2 e;go_enter Tryz.func242,Tryz.ntmps242
  go_wp2
  go_region
  go_wp2
  go_end0
  exact⟨rfl,KK.out.1,⟨KK.out.2.os,KK.out.2.tape,KK.out.2.output,KK.out.2.size,KK.out.2.block⟩⟩
 ·have q:((c:Int)+1==(n:Int))=false:=by simp;omega
  have KK:=hide (KEY1.out e)
  clear KEY1 KEY2 e;go_enter Tryz.func242,Tryz.ntmps242
  go_wp2
  go_region
  go_wp2
  go_end0
  exact⟨rfl,KK.out.1,⟨KK.out.2.os,KK.out.2.tape,KK.out.2.output,KK.out.2.size,KK.out.2.block⟩⟩
theorem said_none{t:Ta}{i:Int}{b:Bool}(h:¬(t.fits i∧t.y i.toNat=false)):t.said i b=t:=if_neg h
set_option maxHeartbeats 1000000 in
theorem tsay_any{B:Nat}{w:World}{p:Nat}{t:Ta}(k:Tk B w p t)(i:Int)(b:Bool):
 Calls Tryz.prog 220 #[.pointer (some ⟨p,0,none⟩),.int .i64 i,.bool b] w fun e w'=>e= .returned (.bool (t.sayB i b))∧Tk B w' p (t.said i b)∧Rg.Kept (Own1 p) w w':=by
 obtain⟨c0,-,-,c67⟩:=k.1.cells
 have no:¬t.fits i→t.sayB i b=false∧t.said i b=t:=fun h=>⟨if_neg h,said_none (fun e=>h e.1)⟩
 cases hd:t.d
 ·rw[hd]at c67;by_cases h0:i<0
  ·obtain⟨e1,e2⟩:=no (fun h=>by have:=h.2.1;omega);rw[e1,e2];have HK:=hide k
   clear k no e1 e2 hd;go_enter Tryz.func220,Tryz.ntmps220
   go_wp2
   go_ret
   exact⟨rfl,HK.out,Rg.Kept.refl _ _⟩
  ·by_cases h1:i≥t.n
   ·obtain⟨e1,e2⟩:=no (fun h=>by have:=h.2.2;omega);rw[e1,e2];have HK:=hide k
    clear k no e1 e2 hd;go_enter Tryz.func220,Tryz.ntmps220
    go_wp2
    go_ret
    exact⟨rfl,HK.out,Rg.Kept.refl _ _⟩
   ·obtain⟨j,rfl⟩:∃j:Nat,i=j:=⟨i.toNat,by omega⟩
    have hj:j<t.n:=by omega
    have hf:t.fits (j:Int):=⟨hd,by omega,by omega⟩
    have h64:=k.2.n64
    have hj64:j<64:=by omega
    have hjo:(j:Int)<64:=by omega
    have ci:=k.1.cellI hj64
    cases hy:t.y j
    ·rw[hy]at ci;have e1:t.sayB (j:Int) b=true:=by unfold Ta.sayB;rw[if_pos hf,Int.toNat_natCast,hy];rfl
     rw[e1];cases b
     ·have e2:t.said (j:Int) false=t.close:=by unfold Ta.said;rw[if_pos ⟨hf,by simpa using hy⟩];rfl
      rw[e2];have C:=tclose_any k
      clear k no e1 e2 hd hf h64;go_enter Tryz.func220,Tryz.ntmps220
      go_wp2_with(go_at_call 243;refine C.mono ?_;rintro e u ⟨rfl,k1,k2⟩;have HK1:=hide k1;have HK2:=hide k2;clear k1 k2)
      go_ret
      exact⟨rfl,HK1.out,HK2.out⟩
     ·have C:=tadd_any k hd hj hy
      clear k no e1 hd hf h64;go_enter Tryz.func220,Tryz.ntmps220
      go_wp2_with(go_at_call 242;refine C.mono ?_;rintro e u ⟨rfl,k1,k2⟩;have HK1:=hide k1;have HK2:=hide k2;clear k1 k2)
      go_ret
      exact⟨rfl,HK1.out,HK2.out⟩
    ·rw[hy]at ci;have e1:t.sayB (j:Int) b=b:=by unfold Ta.sayB;rw[if_pos hf,Int.toNat_natCast,hy];rfl
     have e2:t.said (j:Int) b=t:=said_none (fun e=>by have:=e.2;rw[Int.toNat_natCast,hy]at this;cases this)
     rw[e1,e2];have HK:=hide k
     clear k no e1 e2 hd hf h64;go_enter Tryz.func220,Tryz.ntmps220
     go_wp2
     go_ret
     exact⟨rfl,HK.out,Rg.Kept.refl _ _⟩
 ·rw[hd]at c67;obtain⟨e1,e2⟩:=no (fun h=>by have:=h.1;rw[hd]at this;cases this);rw[e1,e2];have HK:=hide k
  clear k no e1 e2 hd;go_enter Tryz.func220,Tryz.ntmps220
  go_wp2
  go_ret
  exact⟨rfl,HK.out,Rg.Kept.refl _ _⟩
theorem tout_any{B:Nat}{w:World}{p:Nat}{t:Ta}(k:Tk B w p t):
 Calls Tryz.prog 194 #[.pointer (some ⟨p,0,none⟩)] w fun e w'=>e= .returned (.tuple #[.bool t.f,.bool t.d])∧Below w.heap.size w w':=by
 obtain⟨-,-,c66,c67⟩:=k.1.cells
 clear k
 go_enter Tryz.func194,Tryz.ntmps194
 go_wp2
 go_region
 go_wp2
 go_ret2
 exact⟨rfl,(Below.refl _ _).drew⟩
end Go.Proofs.YthfgmpooehkhgaaGreatDoor
