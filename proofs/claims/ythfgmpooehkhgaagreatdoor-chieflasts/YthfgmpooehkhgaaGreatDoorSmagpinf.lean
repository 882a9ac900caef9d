import Derived.Test.YthfgmpooehkhgaaGreatDoorSmbdbnjf
namespace Go.Proofs.YthfgmpooehkhgaaGreatDoor
open Go.ChangeShapes Go.WideShapes Go.ChangeAt Go.RowKit Go.Maps Sg Bl
open Nat renaming le_refl→zD,lt_of_lt_of_le→zJ,le_trans→zK
open Rg.Kept renaming of_below→zE
open Below renaming refl→zF
open Go.World renaming alloc_heap_new→zI
theorem cback_any(m:Mg)(kind:Int)(w:World):Calls Tryz.prog 154 #[.agg #[.int .i64 m.k,.int .i64 m.fr,.int .i64 m.to,.int .i64 m.id,.int .i64 m.st,.int .i64 m.a,.int .i64 m.b],.int .i64 kind] w (OwnM w [⟨kind,0,m.fr,m.id,0,0,0⟩]):=by
 obtain⟨W,hW⟩:∃W,W=w.alloc (.cells #[.int .i64 m.k,.int .i64 m.fr,.int .i64 m.to,.int .i64 m.id,.int .i64 m.st,.int .i64 m.a,.int .i64 m.b] 34):=⟨_,rfl⟩
 have hb0:Below w.heap.size w W:=by rw[hW];exact(zF _ _).alloc (zD _) _
 have FX:Hid (OwnM w [⟨kind,0,m.fr,m.id,0,0,0⟩] (.returned (.slice (some ⟨w.heap.size+1,0,none⟩) 1 1)) (W.alloc (.cells #[.int .i64 kind,.int .i64 0,.int .i64 m.fr,.int .i64 m.id,.int .i64 0,.int .i64 0,.int .i64 0] 34))):=by
  have hs:W.heap.size=w.heap.size+1:=by rw[hW];simp
  have:=mrow_new W w.heap.size hb0.size [⟨kind,0,m.fr,m.id,0,0,0⟩] #[.int .i64 kind,.int .i64 0,.int .i64 m.fr,.int .i64 m.id,.int .i64 0,.int .i64 0,.int .i64 0] rfl (by simp)
  rw[hs]at this;exact⟨_,1,rfl,zD _,(fun e=>by cases e),this,hb0.alloc hb0.size _⟩
 rw[hW]at FX
 obtain⟨m0,m1,m2,m3,m4,m5,m6⟩:=m
 simp only at *
 clear hW hb0
 go_enter Tryz.func154,Tryz.ntmps154
 go_wp2
 go_ret
 exact FX.out
section
variable {B:Nat}{O:Pt→Nat→Prop}{w:World}{p:Nat}{v:Ch}{q:Nat}{r:Value}{b bt:Nat}{loc:Int→Option Nat}
theorem Up.told(h:Up B O w p v q r b bt loc){u:World}(hu:Below w.heap.size w u){xs:List Mg}{e:Ending}{w':World}(ho:OwnM u xs e w'):SendR B O w p v q b bt loc xs e w':=by
 obtain⟨a,c,h1,h2,h3,h4,h5⟩:=ho
 have hb:=bel_on' hu h5
 refine⟨a,c,O,r,loc,h1,own_low h4 hu.size,fun ad e ⟨y,e2⟩=>?_,h.on hb,fun _ e=> .inl e,zE hb,fun _ _ e=>e⟩
 have:=(h4.lt ad.block (by rw[e];rfl)).1
 have:=(h.k.bd y _ e2).2
 have:=hu.size
 omega
set_option maxRecDepth 100000 in
theorem canswer_any(h:Up B O w p v q r b bt loc)(m:Mg){id:Int}:
 Calls Tryz.prog 96 #[ptV (loc id),.agg #[.int .i64 m.k,.int .i64 m.fr,.int .i64 m.to,.int .i64 m.id,.int .i64 m.st,.int .i64 m.a,.int .i64 m.b]] w (SendR B O w p v q b bt loc (ansA (v.L id) m)):=by
 obtain⟨W,hW⟩:∃W,W=w.alloc (.cells #[.int .i64 m.k,.int .i64 m.fr,.int .i64 m.to,.int .i64 m.id,.int .i64 m.st,.int .i64 m.a,.int .i64 m.b] 34):=⟨_,rfl⟩
 have hb0:Below w.heap.size w W:=by rw[hW];exact(zF _ _).alloc (zD _) _
 have BK:∀kind:Int,Calls Tryz.prog 154 #[.agg #[.int .i64 m.k,.int .i64 m.fr,.int .i64 m.to,.int .i64 m.id,.int .i64 m.st,.int .i64 m.a,.int .i64 m.b],.int .i64 kind] W (SendR B O w p v q b bt loc [⟨kind,0,m.fr,m.id,0,0,0⟩]):=fun kind=>(cback_any m kind W).mono (fun e w' ho=>h.told hb0 ho)
 have NO:Hid (SendR B O w p v q b bt loc [] (.returned (.slice none 0 0)) W):=(h.stay hb0).quiet
 have B14:=BK 14
 have B13:=BK 13
 rw[hW]at B14 B13 NO
 have hbx:W.heap[w.heap.size]?=some (.cells #[.int .i64 m.k,.int .i64 m.fr,.int .i64 m.to,.int .i64 m.id,.int .i64 m.st,.int .i64 m.a,.int .i64 m.b] 34 (0,0)):=by rw[hW];exact zI w _
 obtain⟨a0,a1,a2,a3,a4,a5,a6⟩:=seven_of hbx
 rw[hW]at a0 a1 a2 a3 a4 a5 a6
 cases hl:v.L id with
 |none=>
  rw[h.k.no id hl];have e:ansA none m= [⟨14,0,m.fr,m.id,0,0,0⟩]:=rfl
  rw[e];obtain⟨m0,m1,m2,m3,m4,m5,m6⟩:=m;simp only at *;clear BK hW hb0 hbx h hl e;show Calls Tryz.prog 96 #[.pointer none,_] w _
  go_enter Tryz.func96,Tryz.ntmps96
  go_wp2_with(go_at_call 154;refine B14.mono ?_;clear B14;rintro e u3 h7;have HX:=hide h7;obtain⟨ra,rc,O9,r9,loc9,rfl,-⟩:=h7)
  go_ret
  exact HX.out
 |some l=>
  obtain⟨a,ha,sa,sc,da,dc,ua,uc,tp,kl⟩:=h.k.ld id l hl;have hlt:=kl.lt
  obtain⟨-,-,-,-,c9,c10,-⟩:=(kl.on hb0).cells;rw[hW]at c9 c10;rw[ha];show Calls Tryz.prog 96 #[.pointer (some ⟨a,0,none⟩),_] w _
  unfold ansA;dsimp only;generalize l.f.turned=t at *;generalize l.f.yes=y at *;obtain⟨m0,m1,m2,m3,m4,m5,m6⟩:=m;simp only at *;clear BK hW hb0 hbx h hl kl ha;cases t<;>cases y
  all_goals simp only[if_true,Bool.false_eq_true,if_false]
  all_goals go_enter Tryz.func96,Tryz.ntmps96
  ·go_wp2
   go_ret
   exact NO.out
  ·go_wp2_with(go_at_call 154;refine B13.mono ?_;clear B13;rintro e u3 h7;have HX:=hide h7;obtain⟨ra,rc,O9,r9,loc9,rfl,-⟩:=h7)
   go_ret
   exact HX.out
  ·go_wp2_with(go_at_call 154;refine B14.mono ?_;clear B14;rintro e u3 h7;have HX:=hide h7;obtain⟨ra,rc,O9,r9,loc9,rfl,-⟩:=h7)
   go_ret
   exact HX.out
  ·go_wp2_with(go_at_call 154;refine B14.mono ?_;clear B14;rintro e u3 h7;have HX:=hide h7;obtain⟨ra,rc,O9,r9,loc9,rfl,-⟩:=h7)
   go_ret
   exact HX.out
end
section
variable {B:Nat}{S:Nat→Prop}{w:World}{a:Nat}{l:Lk}{sa:Option Addr}{sc:Nat}{da:Option Addr}{dc:Nat}{ua:Option Addr}{uc:Nat}{tp:Option Nat}
set_option maxRecDepth 100000 in
set_option maxHeartbeats 2000000 in
theorem lserves_any(k:LdV B S w a l sa sc da dc ua uc tp)(m:Mg):Calls Tryz.prog 99 #[.pointer (some ⟨a,0,none⟩),.agg #[.int .i64 m.k,.int .i64 m.fr,.int .i64 m.to,.int .i64 m.id,.int .i64 m.st,.int .i64 m.a,.int .i64 m.b]] w fun e w'=>e= .returned (.bool (srvB l m))∧Below w.heap.size w w':=by
 obtain⟨W,hW⟩:∃W,W=w.alloc (.cells #[.int .i64 m.k,.int .i64 m.fr,.int .i64 m.to,.int .i64 m.id,.int .i64 m.st,.int .i64 m.a,.int .i64 m.b] 34):=⟨_,rfl⟩
 have hb0:Below w.heap.size w W:=by rw[hW];exact(zF _ _).alloc (zD _) _
 have hbx:W.heap[w.heap.size]?=some (.cells #[.int .i64 m.k,.int .i64 m.fr,.int .i64 m.to,.int .i64 m.id,.int .i64 m.st,.int .i64 m.a,.int .i64 m.b] 34 (0,0)):=by rw[hW];exact zI w _
 have kW:=k.on hb0
 obtain⟨a0,a1,a2,a3,a4,a5,a6⟩:=seven_of hbx
 obtain⟨⟨-,-,-,-,-,c5⟩,-⟩:=kW.cells
 have HB:=hide hb0
 have HW:=hide hW
 have ST:=hide kW.sts.1
 unfold srvB
 obtain⟨m0,m1,m2,m3,m4,m5,m6⟩:=m
 simp only at *
 have z1:=Later.cell a1
 have z4:=Later.cell a4
 have z5:=Later.cell c5
 have hne:Nonempty (Later W):=⟨Later.now W⟩
 clear k kW hb0 hbx a0 a2 a3 a5 a6 hW a1 a4 c5
 by_cases h1:0≤m4
 ·obtain⟨n,rfl⟩:∃n:Nat,m4=n:=⟨m4.toNat,by omega⟩
  by_cases h2:(n:Int)<(l.o.steps.length:Int)
  ·obtain⟨b,off,rfl,s1,-⟩:=ST.out.at (i:=n) (by omega);have zs:=Later.cell s1
   clear s1;rw[Int.toNat_natCast];have e0:(decide ((0:Int)≤(n:Int))&&decide ((n:Int)<(l.o.steps.length:Int))&&((stAt l.o.steps n).1 ==m1))=((stAt l.o.steps n).1 ==m1):=by simp[h2]
   rw[e0];clear e0 ST;generalize (stAt l.o.steps n).1 =sv at *;generalize l.o.steps.length=N at *;obtain⟨b0,hb0⟩:∃b0,(sv==m1)=b0:=⟨_,rfl⟩
   rw[hb0];go_enter Tryz.func99,Tryz.ntmps99
   go_wp2_with fail
   rw[←HW.out];refine region_later (by kernel_rfl) (by kernel_rfl) ?_;repeat(first|go_big_quiet_step (fail)|quiet_step (fail))
   refine wpQuiet_nil ?_;intro u
   go_wp2
   go_ret
   exact⟨by rw[←hb0];rfl,bel_on' HB.out u.below⟩
  ·have e0:(decide ((0:Int)≤(n:Int))&&decide ((n:Int)<(l.o.steps.length:Int))&&((stAt l.o.steps (n:Int).toNat).1 ==m1))=false:=by simp[h2]
   rw[e0];clear e0 ST;generalize l.o.steps.length=N at *;have h3:decide (n<N)=false:=by simp;omega
   go_enter Tryz.func99,Tryz.ntmps99
   go_wp2_with fail
   rw[←HW.out];refine region_later (by kernel_rfl) (by kernel_rfl) ?_;repeat(first|go_big_quiet_step (fail)|quiet_step (fail))
   refine wpQuiet_nil ?_;intro u
   go_wp2
   go_ret
   exact⟨rfl,bel_on' HB.out u.below⟩
 ·have e0:(decide ((0:Int)≤m4)&&decide (m4<(l.o.steps.length:Int))&&((stAt l.o.steps m4.toNat).1 ==m1))=false:=by simp[h1]
  rw[e0];clear e0 ST;generalize l.o.steps.length=N at *;have h3:decide (0≤m4)=false:=by simp;omega
  go_enter Tryz.func99,Tryz.ntmps99
  go_wp2_with fail
  rw[←HW.out];refine region_later (by kernel_rfl) (by kernel_rfl) ?_;repeat(first|go_big_quiet_step (fail)|quiet_step (fail))
  refine wpQuiet_nil ?_;intro u
  go_wp2
  go_ret
  exact⟨rfl,bel_on' HB.out u.below⟩
end
def TellO(w:World)(xs:List Int)(e:Ending)(w':World):Prop:=
 ∃a c,e= .returned (.slice a xs.length c)∧w'.ownsRow w.heap.size 3 1 (.slice a xs.length c) xs.length (xs.map (Value.int .i64))∧Below w.heap.size w w'
set_option maxRecDepth 100000 in
set_option maxHeartbeats 1000000 in
theorem twaitsO_any{B:Nat}{w:World}{p:Nat}{t:Ta}(k:Tk B w p t):
 Calls Tryz.prog 218 #[.pointer (some ⟨p,0,none⟩)] w (TellO w t.waits):=by
 obtain⟨c0,-,-,c67⟩:=k.1.cells
 cases hd:t.d
 ·rw[hd]at c67;have e:t.waits=silent t.y t.n:=by unfold Ta.waits;rw[hd];rfl
  rw[e];have h64:=k.2.n64
  have CI:Hid (∀(wr:World),Below w.heap.size w wr→∀j,j<64→wr.cell? ⟨p,1+j,none⟩=some (.bool (t.y j))):=fun wr hb j hj=>(k.on hb).1.cellI hj
  clear k e hd;obtain⟨n,hn⟩:∃n,t.n=n:=⟨_,rfl⟩
  rw[hn]at c0 h64 ⊢;obtain⟨y,hy⟩:∃y,t.y=y:=⟨_,rfl⟩
  rw[hy]at CI ⊢;clear hn hy;have hn64:(n:Int)≤64:=by omega
  go_enter Tryz.func218,Tryz.ntmps218
  go_wp2
  go_region
  go_wp2
  go_loopw [3,23] (fun v i wr=>∃(j:Nat)(av:Option Addr)(cv:Nat),i= .int .i64 j∧v= .slice av (silent y j).length cv∧j≤n∧Hid (wr.ownsRow w.heap.size 3 1 (.slice av (silent y j).length cv) (silent y j).length ((silent y j).map (Value.int .i64)))∧Hid (Below w.heap.size w wr)) (fun _ i _=>n-(Go.RowKit.intOf i).toNat)
  case atStart=>exact⟨0,none,0,rfl,rfl,Nat.zero_le _,World.ownsRow_nil _ _ _ _,(zF _ _).drew⟩
  case round=>
   obtain⟨j,av,cv,rfl,rfl,hj,HR,HB⟩:=hrel;by_cases hlt:j<n
   ·have hx:=CI.out wr HB.out j (by omega)
    have ql:(j:Int)<(n:Int):=by omega
    cases hy:y j
    ·have HE:Hid (silent y (j+1)=silent y j++ [(j:Int)]):=by show silent y j++_=_;rw[hy];rfl
     have hlen:=silent_bd y j
     rw[hy]at hx;have hbb:=HB.out.size
     clear hy CI
     go_wp2_with(at_builtin;refine append_nums rfl (.tmp 30) (.tmp 32) rfl w.heap.size (.slice av (silent y j).length cv) (silent y j).length (silent y j) rfl (HR.out.alloc _) ⟨wr.heap.size,0,none⟩ 1 1 [(j:Int)] rfl rfl (ints_one _ _) (by omega) (by simp;omega) ?_;intro v' w4 hown' hgrow;obtain⟨a4,c4,rfl,-⟩:=row_slice hown';have HR4:=hide hown';have HB4:Hid (Below w.heap.size w w4):=(HB.out.alloc HB.out.size _).grown hgrow (by simp;omega) (fun i e=>(HR.out.lt i e).1);clear hown' hgrow)
     go_roundw
     case rel=>exact⟨j+1,a4,c4,by go_num,by rw[HE.out];simp,by omega,by rw[HE.out,List.length_append];exact HR4,HB4⟩
     case measure=>simp[Go.RowKit.intOf];omega
    ·have HE:Hid (silent y (j+1)=silent y j):=by show silent y j++_=_;rw[hy];simp
     rw[hy]at hx;clear hy CI
     go_wp2
     go_roundw
     case rel=>exact⟨j+1,av,cv,by go_num,by rw[HE.out],by omega,by rw[HE.out];exact HR,HB⟩
     case measure=>simp[Go.RowKit.intOf];omega
   ·have ql:¬(j:Int)<(n:Int):=by omega
    go_wp2
    go_ret
    have e:j=n:=by omega
    subst e;exact⟨_,_,rfl,HR.out,HB.out⟩
 ·rw[hd]at c67;have e:t.waits= []:=by unfold Ta.waits;rw[hd];rfl
  rw[e];clear k e hd;go_enter Tryz.func218,Tryz.ntmps218
  go_wp2
  go_ret
  exact⟨none,0,rfl,World.ownsRow_nil _ _ _ _,zF _ _⟩
theorem iindex_any(l:List Int)(a:Option Addr)(c:Nat)(b:Int)(w:World)(ha:Ints w a l)(hl:l.length≤9223372036854775807):
 Calls Tryz.prog 241 #[.slice a l.length c,.int .i64 b] w fun e w'=>(∃r:Int,e= .returned (.int .i64 r)∧decide (r≥0)=decide (b∈l))∧w=w':=by
 have HI:=hide ha
 clear ha
 go_enter Tryz.func241,Tryz.ntmps241
 go_wp2
 go_loopw [8] (fun i wr=>∃j:Nat,i= .int .i64 j∧j≤l.length∧wr=w∧Hid (b∉l.take j)) (fun i _=>l.length-(Go.RowKit.intOf i).toNat)
 case atStart=>exact⟨0,rfl,Nat.zero_le _,rfl,by show¬_;simp⟩
 case round=>
  obtain⟨j,rfl,hj,rfl,HN⟩:=hrel;by_cases hlt:j<l.length
  ·obtain⟨bb,off,rfl,hc⟩:∃bb off,a=some ⟨bb,off,none⟩∧wr.cell? ⟨bb,off+j,none⟩=some (.int .i64 l[j]):=by
    rcases HI.out with h|⟨bb,off,h1,h2⟩
    ·subst h;simp at hlt
    ·exact⟨bb,off,h1,by rw[h2 j hlt];simp[hlt]⟩
   have HX:Hid (l[j]?=some l[j]):=List.getElem?_eq_getElem hlt
   generalize l[j]=x at hc HX;cases hs:(b==x)
   ·have HS:Hid (b∉l.take (j+1)):=by
     show¬_
     rw[List.take_add_one,HX.out,List.mem_append];rintro(h|h)
     ·exact HN.out h
     ·simp at h;subst h;simp at hs
    go_wp2
    go_roundw
    case rel=>exact⟨j+1,by go_num,by omega,by trivial,HS⟩
    case measure=>simp[Go.RowKit.intOf];omega
   ·have HF:Hid (decide ((j:Int)≥0)=decide (b∈l)):=by
     show _=_
     have:b∈l:=by simp at hs;subst hs;exact List.mem_of_getElem? HX.out
     simp[this]
    go_wp2
    go_ret
    exact⟨⟨_,rfl,HF.out⟩,rfl⟩
  ·have HF:Hid (decide ((-1:Int)≥0)=decide (b∈l)):=by
    have:=HN.out
    rw[List.take_of_length_le (by omega)]at this;show _=_
    simp[this]
   go_wp2
   go_ret
   exact⟨⟨_,rfl,HF.out⟩,rfl⟩
theorem icontains_any(l:List Int)(a:Option Addr)(c:Nat)(b:Int)(w:World)(ha:Ints w a l)(hl:l.length≤9223372036854775807){y:Bool}(hy:decide (b∈l)=y):
 Calls Tryz.prog 219 #[.slice a l.length c,.int .i64 b] w fun e w'=>e= .returned (.bool y)∧w=w':=by
 have IX:=iindex_any l a c b w ha hl
 rw[hy]at IX
 clear ha hy
 go_enter Tryz.func219,Tryz.ntmps219
 go_wp2_with(go_at_call 241;refine IX.mono ?_;rintro e w1 ⟨⟨r,rfl,hr⟩,rfl⟩;have HR:=hide hr;clear hr)
 go_ret
 exact⟨ret_bool (by rw[←HR.out]),rfl⟩
def tailB(a:Option Addr)(cap k:Nat):Option Addr:=if cap=k then a else a.map (·.add k)
theorem tailB_run(W:World)(a:Option Addr)(n cap k:Nat)(hk:k≤n):(Instr.sliceAt 66 (.slice a n cap) (some (.int .i64 (k:Int))) none none).run Tryz.prog W= .ok (.slice (tailB a cap k) (n-k) (cap-k)) W:=by
 have hu:Tryz.prog.underlying 66=some (.slice (Tryz.prog.elem 66)):=by kernel_rfl
 have hz:(sizeOf (Tryz.prog.elem 66)).run Tryz.prog W= .ok 1 W:=by kernel_rfl
 rw[run_sliceAt_slice _ _ _ _ _ _ hu,run_slice_l _ _ _ _ _ hu _ _ (by omega) (by omega),hz]
 show Result.ok (sliced a (k:Int).toNat n cap 1) W=_
 unfold sliced tailB
 simp
theorem bls_tail{w:World}{a:Option Addr}{l:List Bool}(h:Bls w a l)(cap k:Nat)(hc:l.length≤cap):Bls w (tailB a cap k) (l.drop k):=by
 by_cases hk:l.length≤k
 ·exact .inl (List.drop_eq_nil_of_le hk)
 rcases h with rfl|⟨b,off,rfl,hcell⟩
 ·exact .inl (by simp)
 ·unfold tailB;rw[if_neg (by omega),Option.map_some,hc_add];exact Bls.drop (.inr ⟨b,off,rfl,hcell⟩) k
section
variable {B:Nat}{S:Nat→Prop}{w:World}{a:Nat}{l:Lk}{sa:Option Addr}{sc:Nat}{da:Option Addr}{dc:Nat}{ua:Option Addr}{uc:Nat}{tp:Option Nat}
set_option maxRecDepth 100000 in
set_option maxHeartbeats 1000000 in
theorem lundo_any(k:LdV B S w a l sa sc da dc ua uc tp)(hl:l.f.un.length≤3){n:Nat}(hn:n<l.f.un.length):Calls Tryz.prog 160 #[.pointer (some ⟨a,0,none⟩),.int .i64 (n:Int)] w fun e w'=>e= .returned (.bool (unxB l n))∧w=w':=by
 obtain⟨-,-,c7,-,-,c10,-⟩:=k.cells
 obtain⟨b,off,x,rfl,hx,cx⟩:=Bls.get k.fin.un hn
 have CN:=contains_any (l.f.un.drop (n+1)) (tailB (some ⟨b,off,none⟩) uc (n+1)) (uc-(n+1)) false w (bls_tail k.fin.un uc (n+1) k.fin.ul) (by rw[List.length_drop];omega)
 rw[List.length_drop]at CN
 have SL:=tailB_run w (some ⟨b,off,none⟩) l.f.un.length uc (n+1) (by omega)
 have e0:l.f.un.getD n false=x:=by rw[List.getD_eq_getElem?_getD,hx];rfl
 unfold unxB
 rw[Int.toNat_natCast,e0]
 generalize Sg.hasB (l.f.un.drop (n+1)) false=z at *
 generalize l.f.turned=t at *
 generalize tailB (some ⟨b,off,none⟩) uc (n+1)=ta at *
 have h1:(n:Int)<(l.f.un.length:Int):=by omega
 generalize l.f.un.length=N at *
 have h2:(n:Int)+1≤9223372036854775807:=by omega
 rw[show(((n+1:Nat)):Int)=(n:Int)+1 by omega]at SL
 clear k hx e0
 cases t<;>cases x
 all_goals go_enter Tryz.func160,Tryz.ntmps160
 all_goals go_wp2_with(go_at_call 167;refine CN.mono ?_;clear CN;rintro e w' ⟨rfl,rfl⟩)
 all_goals go_ret
 all_goals exact⟨by simp,rfl⟩
end
theorem ta_eq{n:Nat}{y z:Nat→Bool}{d e:Bool}(h:∀k,y k=z k)(hd:d=e):(⟨n,y,d⟩:Ta)=⟨n,z,e⟩:=by rw[show y=z from funext h,hd]
theorem taY_say0:(taY (false,false)).said 0 true=taY (true,false):=by
 refine ta_eq (fun k=>?_) rfl
 show yesB _ 0 k=_
 unfold yesB taY
 by_cases h0:k=0
 ·simp[h0]
 ·simp[h0]
theorem taY_new2:newT (cutN 2)=taY (false,false):=by
 refine ta_eq (fun k=>?_) rfl
 by_cases h0:k=0
 ·simp[h0]
 ·by_cases h1:k=1<;>simp[h0,h1]
theorem taY_say1(c:Bool):(taY (c,false)).said 1 true=taY (c,true):=by
 have e:(taY (c,false)).said 1 true=⟨2,yesB (taY (c,false)).y 1,decide (cnt (yesB (taY (c,false)).y 1) 2=2)⟩:=by cases c<;>rfl
 rw[e]
 refine ta_eq (fun k=>?_) (by cases c<;>rfl)
 show yesB _ 1 k=_
 unfold yesB taY
 by_cases h0:k=0
 ·simp[h0]
 ·by_cases h1:k=1
  ·simp[h1]
  ·simp[h0,h1]
def wtsL(y:Option (Bool×Bool)):List Int:=match y with
 |none=>[]
 |some y=>(taY y).waits
theorem wts_0(y:Option (Bool×Bool)):decide ((0:Int)∈wtsL y)= !(y.getD (true,true)).1 :=by
 rcases y with _|⟨a,b⟩
 ·rfl
 ·cases a<;>cases b<;>decide
theorem wts_1(y:Option (Bool×Bool)):decide ((1:Int)∈wtsL y)= !(y.getD (true,true)).2 :=by
 rcases y with _|⟨a,b⟩
 ·rfl
 ·cases a<;>cases b<;>decide
theorem wts_len(y:Option (Bool×Bool)):(wtsL y).length ≤2:=by
 rcases y with _|⟨a,b⟩
 ·decide
 ·cases a<;>cases b<;>decide
structure WtI (w:World) (t N:Nat) (ra:Option Addr) (rc:Nat) (xs:List Int) (y:Bool×Bool) (u:World):Prop where
 tk:Tk w.heap.size u t (taY y)
 row:u.ownsRow N 3 1 (.slice ra xs.length rc) xs.length (xs.map (Value.int .i64))
 lt:t<N
 bel:Below w.heap.size w u
theorem WtI.ints{w:World}{t N:Nat}{ra:Option Addr}{rc:Nat}{xs:List Int}{y:Bool×Bool}{u:World}(h:WtI w t N ra rc xs y u):Ints u ra xs:=by
 obtain⟨a',c',e,-,hi⟩:=owned_nums h.row
 cases e
 exact hi
theorem WtI.say{w:World}{t N:Nat}{ra:Option Addr}{rc:Nat}{xs:List Int}{y y':Bool×Bool}{u u':World}(h:WtI w t N ra rc xs y u)(ht:Tk w.heap.size u' t (taY y'))(hk:Rg.Kept (Own1 t) u u'):WtI w t N ra rc xs y' u':=by
 refine⟨ht,own_keptR h.row hk (fun i o e e2=>?_),h.lt,h.bel.trans (hk.bel h.bel.size (fun i o e=>?_))⟩
 ·have:=(h.row.lt i e).1
  have:=h.lt
  have e3:i=t:=e2
  omega
 ·have e3:i=t:=e
  have:=h.tk.1.2
  omega
section
variable {B:Nat}{S:Nat→Prop}{w:World}{a:Nat}{l:Lk}{sa:Option Addr}{sc:Nat}{da:Option Addr}{dc:Nat}{ua:Option Addr}{uc:Nat}{tp:Option Nat}
theorem LdV.wts(k:LdV B S w a l sa sc da dc ua uc tp):Calls Tryz.prog 218 #[ptV tp] w (TellO w (wtsL l.y)):=by
 rcases k.tl with⟨rfl,e⟩|⟨t,y,rfl,e,h⟩
 ·rw[e];exact(twaitsnil_any w).mono (fun e w' ⟨h1,h2⟩=>by subst h2;exact⟨none,0,h1,World.ownsRow_nil _ _ _ _,zF _ _⟩)
 ·rw[e];exact twaitsO_any h
set_option maxRecDepth 100000 in
set_option maxHeartbeats 2000000 in
theorem lwith_0(k:LdV B S w a l sa sc da dc ua uc tp):Calls Tryz.prog 193 #[.pointer (some ⟨a,0,none⟩),.int .i64 0] w fun e w'=>∃t,e= .returned (.pointer (some ⟨t,0,none⟩))∧Tk w.heap.size w' t (taY (sayY (l.y.getD (true,true)) 0))∧Below w.heap.size w w':=by
 have c17:w.cell? ⟨a,17,none⟩=some (ptV tp):=by obtain⟨-,-,-,-,-,-,-,-,-,-,-,-,h⟩:=k.cells;exact h
 have NW:Hid (∀u,Below w.heap.size w u→Calls Tryz.prog 188 #[.int .i64 2] u fun e w'=>∃p,e= .returned (.pointer (some ⟨p,0,none⟩))∧Tk w.heap.size w' p (taY (false,false))∧p<w'.heap.size∧Below w.heap.size w w'∧w'.cell? ⟨a,17,none⟩=some (ptV tp)):=fun u hu=>by
  refine(tnew_any 2 u).mono ?_;rintro e w' ⟨p,h1,h2,h3⟩;rw[taY_new2]at h2;have hs:=hu.size
  exact⟨p,h1,⟨⟨h2.1.1,by have:=h2.1.2;omega⟩,h2.2⟩,h2.1.lt,bel_on' hu h3,cellL c17 (bel_on' hu h3)⟩
 have WX:Hid (∀u,Below w.heap.size w u→Calls Tryz.prog 218 #[ptV tp] u (TellO u (wtsL l.y))):=fun u hu=>(k.on hu).wts
 have WI:Hid (∀(t2:Nat)(u1 u1' u2:World)(ra:Option Addr)(rc:Nat),Tk w.heap.size u1 t2 (taY (false,false))→t2<u1.heap.size→Below w.heap.size w u1→Below u1.heap.size u1 u1'→u2.ownsRow u1'.heap.size 3 1 (.slice ra (wtsL l.y).length rc) (wtsL l.y).length ((wtsL l.y).map (Value.int .i64))→Below u1'.heap.size u1' u2→WtI w t2 u1'.heap.size ra rc (wtsL l.y) (false,false) u2∧u2.cell? ⟨a,17,none⟩=some (ptV tp)):=fun t2 u1 u1' u2 ra rc h1 h2 h3 h0 h4 h5=>
  have h6:=bel_on' (w:=u1) h0 h5
  ⟨⟨⟨⟨(h6.block _ h2).trans h1.1.1,h1.1.2⟩,h1.2⟩,h4,zJ h2 h0.size,bel_on' h3 h6⟩,cellL c17 (bel_on' h3 h6)⟩
 have w0:=wts_0 l.y
 have w1:=wts_1 l.y
 have wl:=wts_len l.y
 generalize l.y.getD (true,true)=yv at *
 generalize wtsL l.y=xs at *
 have HY:Hid (sayY yv 0=(true,yv.2)):=rfl
 rw[HY.out]
 clear k HY
 generalize ptV tp=tv at *
 go_enter Tryz.func193,Tryz.ntmps193
 go_wp2_with fail
 go_region_held3(fun w'=>w'.cell? ⟨a,17,none⟩=some tv) (go_keep) (first
  |(go_at_call 188;refine(NW.out _ (by first|exact zF _ _|exact(zF _ _).drew)).mono ?_;clear NW;rintro e u1 ⟨t2,rfl,h1,h2,h3,h4⟩;clear c17;have c17:=h4;have HT:=hide h1;have HL:=hide h2;have HB:=hide h3;clear h1 h2 h3 h4)
  |(go_at_call 218;refine(WX.out _ (by first|exact HB.out|exact bel_on' HB.out (zF _ _).drew)).mono ?_;clear WX;rintro e u2 ⟨ra,rc,rfl,h1,h2⟩;clear c17;obtain⟨h3,c17⟩:=WI.out t2 u1 _ u2 ra rc HT.out HL.out HB.out (by first|exact zF _ _|exact(zF _ _).drew) h1 h2;have HI0:=hide h3;clear h1 h2 h3))
 clear c17 WI
 generalize u1.heap.size=N at HI0
 go_wp2_with fail
 go_loopw [14] (fun i wr=>∃j:Nat,i= .int .i64 j∧j≤2∧Hid (WtI w t2 N ra rc xs (if j=0 then(false,false)else if j=1 then(true,false)else(true,yv.2)) wr)) (fun i _=>2-(Go.RowKit.intOf i).toNat)
 case atStart=>exact⟨0,rfl,by omega,HI0⟩
 case round=>
  obtain⟨j,rfl,hj,HI⟩:=hrel;clear HI0 HT HL HB;obtain rfl|rfl|rfl:j=0∨j=1∨j=2:=by omega
  ·have HI:Hid (WtI w t2 N ra rc xs (false,false) wr):=HI
   have SY:=tsay_any HI.out.tk 0 true
   rw[taY_say0]at SY;have SX:Hid (∀u,Tk w.heap.size u t2 (taY (true,false))→Rg.Kept (Own1 t2) wr u→WtI w t2 N ra rc xs (true,false) u):=fun u h1 h2=>HI.out.say h1 h2
   go_wp2_with(go_at_call 220;refine SY.mono ?_;clear SY;rintro e u ⟨rfl,h1,h2⟩;have HN:=hide (SX.out u h1 h2);clear h1 h2 SX)
   go_roundw
   case rel=>exact⟨1,by go_num,by omega,HN⟩
   case measure=>simp[Go.RowKit.intOf]
  ·have HI:Hid (WtI w t2 N ra rc xs (true,false) wr):=HI
   cases hy:yv.2
   ·have CN:=icontains_any xs ra rc 1 wr HI.out.ints (by omega) (y:=true) (by rw[w1,hy];rfl)
    have HN:Hid (WtI w t2 N ra rc xs (true,false) wr):=HI
    go_wp2_with(go_at_call 219;refine CN.mono ?_;clear CN;rintro e u ⟨rfl,rfl⟩)
    go_roundw
    case rel=>exact⟨2,by go_num,by omega,HN⟩
    case measure=>simp[Go.RowKit.intOf]
   ·have CN:=icontains_any xs ra rc 1 wr HI.out.ints (by omega) (y:=false) (by rw[w1,hy];rfl)
    have SY:=tsay_any HI.out.tk 1 true
    rw[taY_say1 true]at SY;have SX:Hid (∀u,Tk w.heap.size u t2 (taY (true,true))→Rg.Kept (Own1 t2) wr u→WtI w t2 N ra rc xs (true,true) u):=fun u h1 h2=>HI.out.say h1 h2
    go_wp2_with(first
     |(go_at_call 219;refine CN.mono ?_;clear CN;rintro e u ⟨rfl,rfl⟩)
     |(go_at_call 220;refine SY.mono ?_;clear SY;rintro e u ⟨rfl,h1,h2⟩;have HN:=hide (SX.out u h1 h2);clear h1 h2 SX))
    go_roundw
    case rel=>exact⟨2,by go_num,by omega,HN⟩
    case measure=>simp[Go.RowKit.intOf]
  ·have HI:Hid (WtI w t2 N ra rc xs (true,yv.2) wr):=HI
   have HF:=hide (And.intro HI.out.tk HI.out.bel)
   go_wp2
   go_ret
   exact⟨t2,rfl,HF.out.1,HF.out.2⟩
set_option maxRecDepth 100000 in
set_option maxHeartbeats 2000000 in
theorem lwith_1(k:LdV B S w a l sa sc da dc ua uc tp):Calls Tryz.prog 193 #[.pointer (some ⟨a,0,none⟩),.int .i64 1] w fun e w'=>∃t,e= .returned (.pointer (some ⟨t,0,none⟩))∧Tk w.heap.size w' t (taY (sayY (l.y.getD (true,true)) 1))∧Below w.heap.size w w':=by
 have c17:w.cell? ⟨a,17,none⟩=some (ptV tp):=by obtain⟨-,-,-,-,-,-,-,-,-,-,-,-,h⟩:=k.cells;exact h
 have NW:Hid (∀u,Below w.heap.size w u→Calls Tryz.prog 188 #[.int .i64 2] u fun e w'=>∃p,e= .returned (.pointer (some ⟨p,0,none⟩))∧Tk w.heap.size w' p (taY (false,false))∧p<w'.heap.size∧Below w.heap.size w w'∧w'.cell? ⟨a,17,none⟩=some (ptV tp)):=fun u hu=>by
  refine(tnew_any 2 u).mono ?_;rintro e w' ⟨p,h1,h2,h3⟩;rw[taY_new2]at h2;have hs:=hu.size
  exact⟨p,h1,⟨⟨h2.1.1,by have:=h2.1.2;omega⟩,h2.2⟩,h2.1.lt,bel_on' hu h3,cellL c17 (bel_on' hu h3)⟩
 have WX:Hid (∀u,Below w.heap.size w u→Calls Tryz.prog 218 #[ptV tp] u (TellO u (wtsL l.y))):=fun u hu=>(k.on hu).wts
 have WI:Hid (∀(t2:Nat)(u1 u1' u2:World)(ra:Option Addr)(rc:Nat),Tk w.heap.size u1 t2 (taY (false,false))→t2<u1.heap.size→Below w.heap.size w u1→Below u1.heap.size u1 u1'→u2.ownsRow u1'.heap.size 3 1 (.slice ra (wtsL l.y).length rc) (wtsL l.y).length ((wtsL l.y).map (Value.int .i64))→Below u1'.heap.size u1' u2→WtI w t2 u1'.heap.size ra rc (wtsL l.y) (false,false) u2∧u2.cell? ⟨a,17,none⟩=some (ptV tp)):=fun t2 u1 u1' u2 ra rc h1 h2 h3 h0 h4 h5=>
  have h6:=bel_on' (w:=u1) h0 h5
  ⟨⟨⟨⟨(h6.block _ h2).trans h1.1.1,h1.1.2⟩,h1.2⟩,h4,zJ h2 h0.size,bel_on' h3 h6⟩,cellL c17 (bel_on' h3 h6)⟩
 have w0:=wts_0 l.y
 have w1:=wts_1 l.y
 have wl:=wts_len l.y
 generalize l.y.getD (true,true)=yv at *
 generalize wtsL l.y=xs at *
 have HY:Hid (sayY yv 1=(yv.1,true)):=rfl
 rw[HY.out]
 clear k HY
 generalize ptV tp=tv at *
 go_enter Tryz.func193,Tryz.ntmps193
 go_wp2_with fail
 go_region_held3(fun w'=>w'.cell? ⟨a,17,none⟩=some tv) (go_keep) (first
  |(go_at_call 188;refine(NW.out _ (by first|exact zF _ _|exact(zF _ _).drew)).mono ?_;clear NW;rintro e u1 ⟨t2,rfl,h1,h2,h3,h4⟩;clear c17;have c17:=h4;have HT:=hide h1;have HL:=hide h2;have HB:=hide h3;clear h1 h2 h3 h4)
  |(go_at_call 218;refine(WX.out _ (by first|exact HB.out|exact bel_on' HB.out (zF _ _).drew)).mono ?_;clear WX;rintro e u2 ⟨ra,rc,rfl,h1,h2⟩;clear c17;obtain⟨h3,c17⟩:=WI.out t2 u1 _ u2 ra rc HT.out HL.out HB.out (by first|exact zF _ _|exact(zF _ _).drew) h1 h2;have HI0:=hide h3;clear h1 h2 h3))
 clear c17 WI
 generalize u1.heap.size=N at HI0
 go_wp2_with fail
 go_loopw [14] (fun i wr=>∃j:Nat,i= .int .i64 j∧j≤2∧Hid (WtI w t2 N ra rc xs (if j=0 then(false,false)else if j=1 then(yv.1,false)else(yv.1,true)) wr)) (fun i _=>2-(Go.RowKit.intOf i).toNat)
 case atStart=>exact⟨0,rfl,by omega,HI0⟩
 case round=>
  obtain⟨j,rfl,hj,HI⟩:=hrel;clear HI0 HT HL HB;obtain rfl|rfl|rfl:j=0∨j=1∨j=2:=by omega
  ·have HI:Hid (WtI w t2 N ra rc xs (false,false) wr):=HI
   cases hy:yv.1
   ·have CN:=icontains_any xs ra rc 0 wr HI.out.ints (by omega) (y:=true) (by rw[w0,hy];rfl)
    have HN:Hid (WtI w t2 N ra rc xs (false,false) wr):=HI
    go_wp2_with(go_at_call 219;refine CN.mono ?_;clear CN;rintro e u ⟨rfl,rfl⟩)
    go_roundw
    case rel=>exact⟨1,by go_num,by omega,HN⟩
    case measure=>simp[Go.RowKit.intOf]
   ·have CN:=icontains_any xs ra rc 0 wr HI.out.ints (by omega) (y:=false) (by rw[w0,hy];rfl)
    have SY:=tsay_any HI.out.tk 0 true
    rw[taY_say0]at SY;have SX:Hid (∀u,Tk w.heap.size u t2 (taY (true,false))→Rg.Kept (Own1 t2) wr u→WtI w t2 N ra rc xs (true,false) u):=fun u h1 h2=>HI.out.say h1 h2
    go_wp2_with(first
     |(go_at_call 219;refine CN.mono ?_;clear CN;rintro e u ⟨rfl,rfl⟩)
     |(go_at_call 220;refine SY.mono ?_;clear SY;rintro e u ⟨rfl,h1,h2⟩;have HN:=hide (SX.out u h1 h2);clear h1 h2 SX))
    go_roundw
    case rel=>exact⟨1,by go_num,by omega,HN⟩
    case measure=>simp[Go.RowKit.intOf]
  ·have HI:Hid (WtI w t2 N ra rc xs (yv.1,false) wr):=HI
   have SY:=tsay_any HI.out.tk 1 true
   rw[taY_say1 yv.1]at SY;have SX:Hid (∀u,Tk w.heap.size u t2 (taY (yv.1,true))→Rg.Kept (Own1 t2) wr u→WtI w t2 N ra rc xs (yv.1,true) u):=fun u h1 h2=>HI.out.say h1 h2
   go_wp2_with(go_at_call 220;refine SY.mono ?_;clear SY;rintro e u ⟨rfl,h1,h2⟩;have HN:=hide (SX.out u h1 h2);clear h1 h2 SX)
   go_roundw
   case rel=>exact⟨2,by go_num,by omega,HN⟩
   case measure=>simp[Go.RowKit.intOf]
  ·have HI:Hid (WtI w t2 N ra rc xs (yv.1,true) wr):=HI
   have HF:=hide (And.intro HI.out.tk HI.out.bel)
   go_wp2
   go_ret
   exact⟨t2,rfl,HF.out.1,HF.out.2⟩
end
section
variable {B:Nat}{O:Pt→Nat→Prop}{w:World}{p:Nat}{v:Ch}{q:Nat}{r:Value}{b bt:Nat}{loc:Int→Option Nat}
theorem Up.ngo(h:Up B O w p v q r b bt loc)(hg:∀u,Rg.Kept (fun i _=>Eo O i) w u→Gl u){id:Int}{l:Lk}{a:Nat}(hl:v.L id=some l)(ha:loc id=some a){kk:Nat}{n:List Int}(hk:kk≤10)(h0:kk≠0)(hnn:numsB n=true)(f:FitL l kk n)(nc:Nat){W:World}(hW:Below w.heap.size w W){na:Option Addr}(hn:Ints W na n)(hnE:∀ad,na=some ad→w.heap.size≤ad.block∧ad.block<W.heap.size):
 Calls Tryz.prog 72 #[.pointer (some ⟨a,0,none⟩),.string (kC kk),.slice na n.length nc] W fun e u=>e= .returned (.agg #[.string (kC kk),.int .i64 l.o.id,.slice na n.length nc])∧Calls Tryz.prog 157 #[.pointer (some ⟨p,0,none⟩),.pointer (some ⟨a,0,none⟩),.agg #[.string (kC kk),.int .i64 l.o.id,.slice na n.length nc]] u (SendR B O w p (ngS v l kk n) q b bt loc (ngA v l kk n)):=by
 obtain⟨sa,sc,da,dc,ua,uc,tp,kl⟩:=(h.on hW).led hl ha
 refine(cabout_any kl (kC kk) na n.length nc).mono ?_
 rintro e u ⟨h1,h2⟩
 have hb:=bel_on' hW h2
 refine⟨h1,(cngo_any (h.on hb) (fun u' hk=>hg u' ((zE hb).trans hk)) hl ha hk h0 hnn f (hn.below h2) (fun ad e=>⟨fun⟨y,e2⟩=>?_,zJ (hnE ad e).2 h2.size⟩)).mono ?_⟩
 ·have:=(h.k.bd y _ e2).2
  have:=(hnE ad e).1
  omega
 ·rintro e w' h5;exact SendR.two (fun i e=> .inl e) (zE hb) (fun _ _ e=>e) h5
set_option maxRecDepth 100000 in
set_option maxHeartbeats 1000000 in
theorem cship_any(h:Up B O w p v q r b bt loc)(hg:∀u,Rg.Kept (fun i _=>Eo O i) w u→Gl u){id:Int}{l:Lk}{a:Nat}(hl:v.L id=some l)(ha:loc id=some a)(m:Mg):
 Calls Tryz.prog 98 #[.pointer (some ⟨p,0,none⟩),.pointer (some ⟨a,0,none⟩),.agg #[.int .i64 m.k,.int .i64 m.fr,.int .i64 m.to,.int .i64 m.id,.int .i64 m.st,.int .i64 m.a,.int .i64 m.b]] w (SendR B O w p (shipSA v l m).1 q b bt loc (shipSA v l m).2):=by
 obtain⟨W,hW⟩:∃W,W=w.alloc (.cells #[.int .i64 m.k,.int .i64 m.fr,.int .i64 m.to,.int .i64 m.id,.int .i64 m.st,.int .i64 m.a,.int .i64 m.b] 34):=⟨_,rfl⟩
 have hb0:Below w.heap.size w W:=by rw[hW];exact(zF _ _).alloc (zD _) _
 obtain⟨sa,sc,da,dc,ua,uc,tp,kl⟩:=(h.on hb0).led hl ha
 have hlt:=((h.led hl ha).choose_spec.choose_spec.choose_spec.choose_spec.choose_spec.choose_spec.choose_spec).lt
 obtain⟨-,-,-,-,c9,-,-,-,c13,-⟩:=kl.cells
 have NO:Hid (SendR B O w p v q b bt loc [] (.returned (.slice none 0 0)) W):=(h.stay hb0).quiet
 have AB:=h.ngo hg hl ha (kk:=9) (n:=[]) (by decide) (by decide) rfl (fit_none (.inr (.inr (.inr (.inl rfl))))) 0 hb0 (na:=none) (.inl rfl) (fun ad e=>by cases e)
 have hbx:W.heap[w.heap.size]?=some (.cells #[.int .i64 m.k,.int .i64 m.fr,.int .i64 m.to,.int .i64 m.id,.int .i64 m.st,.int .i64 m.a,.int .i64 m.b] 34 (0,0)):=by rw[hW];exact zI w _
 obtain⟨a0,-,-,-,-,-,-⟩:=seven_of hbx
 rw[hW]at NO AB a0 c9 c13
 unfold shipSA
 generalize ngS v l 9 []=v1 at *
 generalize ngA v l 9 []=xs at *
 generalize l.f.yes=y at *
 generalize l.f.ship=s at *
 generalize l.o.id=oi at *
 obtain⟨m0,m1,m2,m3,m4,m5,m6⟩:=m
 simp only at *
 clear hb0 hbx h hg hl ha kl hW
 by_cases hk:m0=16
 ·subst hk;cases y<;>cases s
  all_goals simp only[Bool.and_true,Bool.and_false,Bool.not_true,Bool.not_false,Bool.false_eq_true,and_false,and_true,if_true,if_false]
  all_goals go_enter Tryz.func98,Tryz.ntmps98
  ·go_wp2
   go_ret
   exact NO.out
  ·go_wp2
   go_ret
   exact NO.out
  ·go_wp2_with(first
    |(go_at_call 72;refine AB.mono ?_;clear AB;rintro e u ⟨rfl,h5⟩;have N2:=h5;clear h5)
    |(go_at_call 157;refine N2.mono ?_;clear N2;rintro e u3 h7;have HX:=hide h7;obtain⟨ra,rc,O9,r9,loc9,rfl,-⟩:=h7))
   go_ret
   exact HX.out
  ·go_wp2
   go_ret
   exact NO.out
 ·rw[if_neg (fun e=>hk e.1)];go_enter Tryz.func98,Tryz.ntmps98
  go_wp2
  go_ret
  exact NO.out
theorem fit_done{id:Int}{l:Lk}(g:GoodL id l){n:Nat}(hn:n<l.o.steps.length):FitL l 2 [(n:Int)]∧FitL l 6 [(n:Int)]∧numsB [(n:Int)]=true:=
 ⟨⟨fun e=>by omega,fun _=>⟨n,rfl,by rw[g.dl];exact hn⟩,fun e=>by omega,fun e=>by omega,fun e=>by omega⟩,⟨fun e=>by omega,fun e=>by omega,fun _=>⟨n,rfl,by rw[g.ul];exact hn⟩,fun e=>by omega,fun e=>by omega⟩,by
   have:=g.st
   unfold numsB;simp[numB];omega⟩
theorem ints_new(W:World)(x:Int):Ints (W.alloc (.cells #[.int .i64 x] 3)) (some ⟨W.heap.size,0,none⟩) [x]:= .inr ⟨W.heap.size,0,rfl,fun i hi=>by
 have e:(W.alloc (.cells #[.int .i64 x] 3)).heap[W.heap.size]?=some (.cells #[.int .i64 x] 3 (0,0)):=zI W _
 rw[cell_of e]
 have:i=0:=by simpa using hi
 subst this
 rfl⟩
set_option maxRecDepth 100000 in
set_option maxHeartbeats 2000000 in
theorem cserv_any(h:Up B O w p v q r b bt loc)(hg:∀u,Rg.Kept (fun i _=>Eo O i) w u→Gl u){id:Int}{l:Lk}{a:Nat}(hl:v.L id=some l)(ha:loc id=some a)(m:Mg)(hs:srvB l m=true):
 Calls Tryz.prog 100 #[.pointer (some ⟨p,0,none⟩),.pointer (some ⟨a,0,none⟩),.agg #[.int .i64 m.k,.int .i64 m.fr,.int .i64 m.to,.int .i64 m.id,.int .i64 m.st,.int .i64 m.a,.int .i64 m.b]] w (SendR B O w p (servSA v l m).1 q b bt loc (servSA v l m).2):=by
 obtain⟨n,hst,hn⟩:∃n:Nat,m.st=n∧n<l.o.steps.length:=by
  unfold srvB at hs;simp only[Bool.and_eq_true,decide_eq_true_eq]at hs;exact⟨m.st.toNat,by omega,by omega⟩
 have gl:=h.g.gm id l hl
 obtain⟨f2,f6,hnn⟩:=fit_done gl hn
 obtain⟨W,hW⟩:∃W,W=w.alloc (.cells #[.int .i64 m.k,.int .i64 m.fr,.int .i64 m.to,.int .i64 m.id,.int .i64 m.st,.int .i64 m.a,.int .i64 m.b] 34):=⟨_,rfl⟩
 have hb0:Below w.heap.size w W:=by rw[hW];exact(zF _ _).alloc (zD _) _
 obtain⟨sa,sc,da,dc,ua,uc,tp,kl⟩:=(h.on hb0).led hl ha
 have NO:Hid (SendR B O w p v q b bt loc [] (.returned (.slice none 0 0)) W):=(h.stay hb0).quiet
 have DN:=ldoes_any kl (by rw[gl.dl];exact gl.st) (n:Int)
 have UN:=lundo_any kl (by rw[gl.ul];exact gl.st) (n:=n) (by rw[gl.ul];exact hn)
 have DE:=ldec_any kl
 have TU:Calls Tryz.prog 79 #[.pointer (some ⟨p,0,none⟩),.pointer (some ⟨a,0,none⟩)] W (SendR B O w p (sgS v l 5 []) q b bt loc (sgA v l 5 [])):=(cturns_any (h.on hb0) (fun u' hk=>hg u' ((zE hb0).trans hk)) hl ha).mono (fun e w' h5=>SendR.two (fun i e=> .inl e) (zE hb0) (fun _ _ e=>e) h5)
 have hbX:Below w.heap.size w (W.alloc (.cells #[.int .i64 (n:Int)] 3)):=hb0.alloc hb0.size _
 have A2:=h.ngo hg hl ha (kk:=2) (n:=[(n:Int)]) (by decide) (by decide) hnn f2 1 hbX (ints_new W n) (fun ad e=>by cases e;exact⟨hb0.size,by simp⟩)
 have A6:=h.ngo hg hl ha (kk:=6) (n:=[(n:Int)]) (by decide) (by decide) hnn f6 1 hbX (ints_new W n) (fun ad e=>by cases e;exact⟨hb0.size,by simp⟩)
 have hws:W.heap.size=w.heap.size+1:=by rw[hW];simp
 have hbx:W.heap[w.heap.size]?=some (.cells #[.int .i64 m.k,.int .i64 m.fr,.int .i64 m.to,.int .i64 m.id,.int .i64 m.st,.int .i64 m.a,.int .i64 m.b] 34 (0,0)):=by rw[hW];exact zI w _
 obtain⟨a0,-,-,-,a4,-,-⟩:=seven_of hbx
 rw[hws]at A2 A6
 rw[hW]at NO A2 A6 a0 a4 DN UN DE TU
 unfold servSA
 rw[hst]at a4 ⊢
 generalize ngS v l 2 [(n:Int)]=v2 at *
 generalize ngA v l 2 [(n:Int)]=x2 at *
 generalize ngS v l 6 [(n:Int)]=v6 at *
 generalize ngA v l 6 [(n:Int)]=x6 at *
 generalize sgS v l 5 []=v5 at *
 generalize sgA v l 5 []=x5 at *
 generalize dnxB l n=dn at *
 generalize unxB l n=un at *
 generalize l.dec=de at *
 generalize l.o.id=oi at *
 obtain⟨m0,m1,m2,m3,m4,m5,m6⟩:=m
 simp only at *
 clear hb0 hbx h hg hl ha kl hW hs hn gl f2 f6 hnn hbX hws
 subst hst
 by_cases h2:m0=2
 ·subst h2;cases dn
  ·rw[if_neg (by simp),if_neg (by simp),if_neg (by simp)];go_enter Tryz.func100,Tryz.ntmps100
   go_wp2_with(go_at_call 159;refine DN.mono ?_;clear DN;rintro e w' ⟨rfl,rfl⟩)
   go_ret
   exact NO.out
  ·rw[if_pos ⟨rfl,rfl⟩];go_enter Tryz.func100,Tryz.ntmps100
   go_wp2_with(first
    |(go_at_call 159;refine DN.mono ?_;clear DN;rintro e w' ⟨rfl,rfl⟩)
    |(go_at_call 72;refine A2.mono ?_;clear A2;rintro e u ⟨rfl,h5⟩;have N2:=h5;clear h5)
    |(go_at_call 157;refine N2.mono ?_;clear N2;rintro e u3 h7;have HX:=hide h7;obtain⟨ra,rc,O9,r9,loc9,rfl,-⟩:=h7))
   go_ret
   exact HX.out
 ·rw[if_neg (fun e=>h2 e.1)];by_cases h3:m0=3
  ·subst h3;cases de
   ·rw[if_pos ⟨rfl,rfl⟩];go_enter Tryz.func100,Tryz.ntmps100
    go_wp2_with(first
     |(go_at_call 67;refine DE.mono ?_;clear DE;rintro e w' ⟨rfl,rfl⟩)
     |(go_at_call 79;refine TU.mono ?_;clear TU;rintro e u3 h7;have HX:=hide h7;obtain⟨ra,rc,O9,r9,loc9,rfl,-⟩:=h7))
    go_ret
    exact HX.out
   ·rw[if_neg (by simp),if_neg (by simp)];go_enter Tryz.func100,Tryz.ntmps100
    go_wp2_with(go_at_call 67;refine DE.mono ?_;clear DE;rintro e w' ⟨rfl,rfl⟩)
    go_ret
    exact NO.out
  ·rw[if_neg (fun e=>h3 e.1)];by_cases h5:m0=5
   ·subst h5;cases un
    ·rw[if_neg (by simp)];go_enter Tryz.func100,Tryz.ntmps100
     go_wp2_with(go_at_call 160;refine UN.mono ?_;clear UN;rintro e w' ⟨rfl,rfl⟩)
     go_ret
     exact NO.out
    ·rw[if_pos ⟨rfl,rfl⟩];go_enter Tryz.func100,Tryz.ntmps100
     go_wp2_with(first
      |(go_at_call 160;refine UN.mono ?_;clear UN;rintro e w' ⟨rfl,rfl⟩)
      |(go_at_call 72;refine A6.mono ?_;clear A6;rintro e u ⟨rfl,h5⟩;have N2:=h5;clear h5)
      |(go_at_call 157;refine N2.mono ?_;clear N2;rintro e u3 h7;have HX:=hide h7;obtain⟨ra,rc,O9,r9,loc9,rfl,-⟩:=h7))
     go_ret
     exact HX.out
   ·rw[if_neg (fun e=>h5 e.1)];go_enter Tryz.func100,Tryz.ntmps100
    go_wp2
    go_ret
    exact NO.out
end
theorem taY_f(y:Bool×Bool):(taY y).f =(y.1&&y.2):=by
 obtain⟨a,b⟩:=y
 cases a<;>cases b<;>rfl
theorem say_both(y:Bool×Bool)(who:Int):((sayY y who).1 &&(sayY y who).2)=decide (sayY y who=(true,true)):=by
 generalize sayY y who=z
 obtain⟨a,b⟩:=z
 cases a<;>cases b<;>rfl
theorem setL_good{v:Ch}(g:GoodCh v)(hd:v.down=false){id:Int}{l:Lk}(hl:v.L id=some l)(y:Bool×Bool):GoodCh (setL v id ⟨l.o,l.f,some y⟩):=by
 have gl:=g.gm id l hl
 refine⟨g.m1,g.m2,g.r1,g.r2,g.len,g.su,g.ok,fun e=>?_,fun _=>?_,fun id' l' h'=>?_,fun x hx=>?_⟩
 ·rw[show(setL v id ⟨l.o,l.f,some y⟩).down =v.down from rfl,hd]at e;cases e
 ·show core (Gd.updO v.L id (some ⟨l.o,l.f,some y⟩))=core (runT v.T)
  rw[←g.up hd];funext x
  unfold core;by_cases hx:x=id
  ·subst hx;rw[Gd.updO_same,hl];rfl
  ·rw[Gd.updO_other _ _ hx]
 ·unfold setL at h';dsimp only at h';by_cases hx:id'=id
  ·subst hx;rw[Gd.updO_same]at h';cases h';exact⟨gl.i1,gl.i2,gl.oid,gl.dl,gl.ul,gl.st,fun _=>⟨_,rfl⟩⟩
  ·rw[Gd.updO_other _ _ hx]at h';exact g.gm id' l' h'
 ·obtain⟨l2,h2⟩:=g.bl x hx;unfold setL;dsimp only;by_cases h3:x=id
  ·subst h3;exact⟨_,Gd.updO_same _ _ _⟩
  ·rw[Gd.updO_other _ _ h3];exact⟨l2,h2⟩
section
variable {B:Nat}{O:Pt→Nat→Prop}{w:World}{p:Nat}{v:Ch}{q:Nat}{r:Value}{b bt:Nat}{loc:Int→Option Nat}
theorem Up.sgo(h:Up B O w p v q r b bt loc)(hg:∀u,Rg.Kept (fun i _=>Eo O i) w u→Gl u){id:Int}{l:Lk}{a:Nat}(hl:v.L id=some l)(ha:loc id=some a){kk:Nat}{n:List Int}(hk:kk≤10)(h0:kk≠0)(hnn:numsB n=true)(f:FitL l kk n)(nc:Nat){W:World}(hW:Below w.heap.size w W){na:Option Addr}(hn:Ints W na n)(hnE:∀ad,na=some ad→w.heap.size≤ad.block∧ad.block<W.heap.size):
 Calls Tryz.prog 72 #[.pointer (some ⟨a,0,none⟩),.string (kC kk),.slice na n.length nc] W fun e u=>e= .returned (.agg #[.string (kC kk),.int .i64 l.o.id,.slice na n.length nc])∧Below W.heap.size W u∧∀X,X=u.alloc (.cells #[.string (kC kk),.int .i64 l.o.id,.slice na n.length nc] 104)→Calls Tryz.prog 57 #[.pointer (some ⟨p,0,none⟩),.slice (some ⟨u.heap.size,0,none⟩) 1 1] X fun x u2=>x= .returned (.int .i64 (noE v 1))∧(roomC v 1=true→Rg.Kept (fun i _=>Eo O i) w u2∧Calls Tryz.prog 60 #[.pointer (some ⟨p,0,none⟩),.pointer (some ⟨a,0,none⟩)] u2 (SendR B O w p (sgS v l kk n) q b bt loc (sgA v l kk n)))∧(roomC v 1=false→SendR B O w p v q b bt loc [] (.returned (.slice none 0 0)) u2):=by
 obtain⟨sa,sc,da,dc,ua,uc,tp,kl⟩:=(h.on hW).led hl ha
 refine(cabout_any kl (kC kk) na n.length nc).mono ?_
 rintro e u ⟨h1,h2⟩
 have hb:=bel_on' hW h2
 refine⟨h1,h2,fun X hX=>?_⟩
 obtain⟨h3,h4⟩:=h.row1 hb (kC kk) (e:=⟨kk,l.o.id,n⟩) rfl hX (hn.below h2) (fun ad e=>⟨fun⟨y,e2⟩=>by have:=(h.k.bd y _ e2).2;have:=(hnE ad e).1;omega,zJ (hnE ad e).2 h2.size⟩)
 refine((h.on h3).sure1 (fun u' hk=>hg u' ((zE h3).trans hk)) (fit_led h.g hl hk h0 hnn f) h4).mono ?_
 rintro x u2 ⟨h5,h6⟩
 have h7:=h6.from h3
 unfold sureS at h7
 rw[show([⟨kk,l.o.id,n⟩]:List Et).length =1 from rfl]at h7
 refine⟨h5,fun hr=>?_,fun hr=>?_⟩
 ·rw[hr,if_pos rfl]at h7;unfold sgS sgA;rw[hr,if_pos rfl,if_pos rfl];refine⟨?_,goon_then hg (add_led h.g hl h0 n).2 ha h7⟩;obtain⟨O2,r2,loc2,k2,g2,K2,l2⟩:=h7;exact K2
 ·rw[hr,if_neg (by decide)]at h7;exact h7.quiet
theorem Up.tally(h:Up B O w p v q r b bt loc){id:Int}{l:Lk}{a:Nat}(hl:v.L id=some l)(ha:loc id=some a){u:World}(hu:Below w.heap.size w u){t:Nat}{y:Bool×Bool}(ht:Tk w.heap.size u t (taY y)):
 u.cell? ⟨a,17,none⟩≠none∧u.frozen? ⟨a,17,none⟩=false∧UStp B O w p (setL v id ⟨l.o,l.f,some y⟩) q b bt loc (u.setCell ⟨a,17,none⟩ (.pointer (some ⟨t,0,none⟩))):=by
 obtain⟨sa,sc,da,dc,ua,uc,tp,kl⟩:=h.led hl ha
 have ku:=kl.on hu
 have htl:=ht.1.lt
 have k2:=(ku.wide (S':=growE (O (.ld id)) w u) (fun _ e=> .inl e)).tal (some t) (some y) (.inr ⟨t,y,rfl,rfl,⟨⟨ht.1.1,by have:=ht.1.2;have:=kl.low;have:=kl.lt;omega⟩,ht.2⟩⟩) (fun t' e=>by cases e;exact .inr ⟨ht.1.2,htl⟩)
 have hk:Rg.Kept (fun i _=>O (.ld id) i) w (u.setCell ⟨a,17,none⟩ (.pointer (some ⟨t,0,none⟩))):=(zE hu).trans (Rg.Kept.setCell _ (fun _=>kl.ia))
 have k3:=h.k.lstep hl ha (w':=u.setCell ⟨a,17,none⟩ (.pointer (some ⟨t,0,none⟩))) ⟨_,_,_,_,_,_,_,k2.wide (fun i e=>e.imp (fun e=>e) (fun e=>⟨e.1,by simpa using e.2⟩))⟩ hk
 refine⟨?_,ku.frozen 17,_,r,loc,⟨k3,setL_good h.g h.d hl y,h.d⟩,fun i e=>gr_eo e,hk.mono (fun i _ e=>⟨_,e⟩),fun _ _ e=>e⟩
 obtain⟨-,-,-,-,-,-,-,-,-,-,-,-,c17⟩:=ku.cells
 rw[c17]
 exact fun e=>by cases e
set_option maxRecDepth 100000 in
set_option maxHeartbeats 2000000 in
theorem cyes_any(h:Up B O w p v q r b bt loc)(hg:∀u,Rg.Kept (fun i _=>Eo O i) w u→Gl u){id:Int}{l:Lk}{a:Nat}(hl:v.L id=some l)(ha:loc id=some a){who:Int}(hwho:who=0∨who=1):
 Calls Tryz.prog 155 #[.pointer (some ⟨p,0,none⟩),.pointer (some ⟨a,0,none⟩),.int .i64 who] w (SendR B O w p (yesS v l who) q b bt loc (yesA v l who)):=by
 obtain⟨sa,sc,da,dc,ua,uc,tp,kl⟩:=h.led hl ha
 have gl:=h.g.gm id l hl
 have WT:Calls Tryz.prog 193 #[.pointer (some ⟨a,0,none⟩),.int .i64 who] w fun e w'=>∃t,e= .returned (.pointer (some ⟨t,0,none⟩))∧Tk w.heap.size w' t (taY (sayY (l.y.getD (true,true)) who))∧Below w.heap.size w w':=by
  rcases hwho with rfl|rfl
  ·exact lwith_0 kl
  ·exact lwith_1 kl
 unfold yesS yesA
 have hz:=say_both (l.y.getD (true,true)) who
 generalize sayY (l.y.getD (true,true)) who=z at *
 have OU:Hid (∀(u:World)(t:Nat),Tk w.heap.size u t (taY z)→Below w.heap.size w u→Calls Tryz.prog 194 #[.pointer (some ⟨t,0,none⟩)] u fun e u'=>e= .returned (.tuple #[.bool (decide (z=(true,true))),.bool (taY z).d])∧Tk w.heap.size u' t (taY z)∧Below w.heap.size w u'):=fun u t ht hb=>by
  refine(tout_any ht).mono ?_;rintro e u' ⟨h1,h2⟩;rw[taY_f,hz]at h1;exact⟨h1,tk_kept ht (zE (E:=fun _ _=>False) h2) (fun _ e=>e),bel_on' hb h2⟩
 have SG:Hid (∀u,Below w.heap.size w u→Calls Tryz.prog 72 #[.pointer (some ⟨a,0,none⟩),.string ⟨#[121,101,115]⟩,.slice none 0 0] u fun e u1=>e= .returned (.agg #[.string ⟨#[121,101,115]⟩,.int .i64 l.o.id,.slice none 0 0])∧Below u.heap.size u u1∧∀X,X=u1.alloc (.cells #[.string ⟨#[121,101,115]⟩,.int .i64 l.o.id,.slice none 0 0] 104)→Calls Tryz.prog 57 #[.pointer (some ⟨p,0,none⟩),.slice (some ⟨u1.heap.size,0,none⟩) 1 1] X fun x u2=>x= .returned (.int .i64 (noE v 1))∧(roomC v 1=true→Rg.Kept (fun i _=>Eo O i) w u2∧Calls Tryz.prog 60 #[.pointer (some ⟨p,0,none⟩),.pointer (some ⟨a,0,none⟩)] u2 (SendR B O w p (sgS v l 4 []) q b bt loc (sgA v l 4 [])))∧(roomC v 1=false→SendR B O w p v q b bt loc [] (.returned (.slice none 0 0)) u2)):=fun u hu=>h.sgo hg hl ha (kk:=4) (n:=[]) (by decide) (by decide) rfl (fit_none (.inr (.inl rfl))) 0 hu (na:=none) (.inl rfl) (fun ad e=>by cases e)
 have TL:Hid (∀(u:World)(t:Nat),Tk w.heap.size u t (taY z)→Below w.heap.size w u→(∃x,u.cell? ⟨a,17,none⟩=some x)∧u.frozen? ⟨a,17,none⟩=false∧SendR B O w p (setL v l.o.id ⟨l.o,l.f,some z⟩) q b bt loc [] (.returned (.slice none 0 0)) (u.setCell ⟨a,17,none⟩ (.pointer (some ⟨t,0,none⟩)))):=fun u t ht hb=>by
  obtain⟨h1,h2,h3⟩:=h.tally hl ha hb ht;rw[←gl.oid]at h3;refine⟨?_,h2,h3.quiet⟩;cases e:u.cell? ⟨a,17,none⟩with
  |none=>exact absurd e h1
  |some x=>exact⟨x,rfl⟩
 have rm:=noE_two v 1
 have sn:roomC v 1=false→sgS v l 4 []=v∧sgA v l 4 []= []:=fun hr=>by unfold sgS sgA;rw[hr];exact⟨rfl,rfl⟩
 by_cases hzz:z=(true,true)
 ·rw[if_pos hzz,if_pos hzz];have hd:decide (z=(true,true))=true:=decide_eq_true hzz
  rw[hd]at OU;generalize sgS v l 4 []=v4 at *;generalize sgA v l 4 []=x4 at *;generalize l.o.id=oi at *;generalize (taY z).d =dz at *;have OU2:Hid (∀(u:World)(t:Nat),Tk w.heap.size u t (taY z)→Below w.heap.size w u→Calls Tryz.prog 194 #[.pointer (some ⟨t,0,none⟩)] u fun e u'=>e= .returned (.tuple #[.bool true,.bool dz])∧Below w.heap.size w u'):=fun u t ht hb=>(OU.out u t ht hb).mono (fun e u' ⟨h1,_,h3⟩=>⟨h1,h3⟩)
  clear kl h hg hl ha gl hz TL OU hd hwho;rcases rm with⟨e1,e2⟩|⟨e1,e2⟩
  ·have SG1:Hid (∀u,Below w.heap.size w u→Calls Tryz.prog 72 #[.pointer (some ⟨a,0,none⟩),.string ⟨#[121,101,115]⟩,.slice none 0 0] u fun e u1=>e= .returned (.agg #[.string ⟨#[121,101,115]⟩,.int .i64 oi,.slice none 0 0])∧∀X,X=u1.alloc (.cells #[.string ⟨#[121,101,115]⟩,.int .i64 oi,.slice none 0 0] 104)→Calls Tryz.prog 57 #[.pointer (some ⟨p,0,none⟩),.slice (some ⟨u1.heap.size,0,none⟩) 1 1] X fun x u2=>x= .returned (.int .i64 0)∧Calls Tryz.prog 60 #[.pointer (some ⟨p,0,none⟩),.pointer (some ⟨a,0,none⟩)] u2 (SendR B O w p v4 q b bt loc x4)):=fun u hu=>(SG.out u hu).mono (fun e u1 ⟨h1,_,h3⟩=>⟨h1,fun X hX=>(h3 X hX).mono (fun x u2 ⟨g1,g2,_⟩=>⟨by rw[e1]at g1;exact g1,(g2 e2).2⟩)⟩)
   clear e1 e2 sn hzz SG;go_enter Tryz.func155,Tryz.ntmps155
   go_wp2_with(first
    |(go_at_call 193;refine WT.mono ?_;clear WT;rintro e u ⟨t,rfl,h1,h2⟩;have O2:=OU2.out u t h1 h2;clear h1 h2 OU2)
    |(go_at_call 194;refine O2.mono ?_;clear O2;rintro e u' ⟨rfl,h2⟩;have A2:=SG1.out u' h2;clear h2 SG1)
    |(go_at_call 72;refine A2.mono ?_;clear A2;rintro e u1 ⟨rfl,h5⟩;have N2:=h5 _ rfl;clear h5)
    |(go_at_call 57;refine N2.mono ?_;clear N2;rintro e u2 ⟨rfl,h6⟩;have G2:=h6;clear h6)
    |(go_at_call 60;refine G2.mono ?_;clear G2;rintro e u3 h7;have HX:=hide h7;obtain⟨ra,rc,O9,r9,loc9,rfl,-⟩:=h7))
   go_ret
   exact HX.out
  ·obtain⟨rfl,rfl⟩:=sn e2;have SG1:Hid (∀u,Below w.heap.size w u→Calls Tryz.prog 72 #[.pointer (some ⟨a,0,none⟩),.string ⟨#[121,101,115]⟩,.slice none 0 0] u fun e u1=>e= .returned (.agg #[.string ⟨#[121,101,115]⟩,.int .i64 oi,.slice none 0 0])∧∀X,X=u1.alloc (.cells #[.string ⟨#[121,101,115]⟩,.int .i64 oi,.slice none 0 0] 104)→Calls Tryz.prog 57 #[.pointer (some ⟨p,0,none⟩),.slice (some ⟨u1.heap.size,0,none⟩) 1 1] X fun x u2=>x= .returned (.int .i64 5)∧SendR B O w p v4 q b bt loc [] (.returned (.slice none 0 0)) u2):=fun u hu=>(SG.out u hu).mono (fun e u1 ⟨h1,_,h3⟩=>⟨h1,fun X hX=>(h3 X hX).mono (fun x u2 ⟨g1,_,g3⟩=>⟨by rw[e1]at g1;exact g1,g3 e2⟩)⟩)
   clear e1 e2 sn hzz SG;go_enter Tryz.func155,Tryz.ntmps155
   go_wp2_with(first
    |(go_at_call 193;refine WT.mono ?_;clear WT;rintro e u ⟨t,rfl,h1,h2⟩;have O2:=OU2.out u t h1 h2;clear h1 h2 OU2)
    |(go_at_call 194;refine O2.mono ?_;clear O2;rintro e u' ⟨rfl,h2⟩;have A2:=SG1.out u' h2;clear h2 SG1)
    |(go_at_call 72;refine A2.mono ?_;clear A2;rintro e u1 ⟨rfl,h5⟩;have N2:=h5 _ rfl;clear h5)
    |(go_at_call 57;refine N2.mono ?_;clear N2;rintro e u2 ⟨rfl,h6⟩;have HX:=hide h6;clear h6))
   go_ret
   exact HX.out
 ·rw[if_neg hzz,if_neg hzz];have hd:decide (z=(true,true))=false:=decide_eq_false hzz
  rw[hd]at OU;generalize setL v l.o.id ⟨l.o,l.f,some z⟩=v3 at *;generalize (taY z).d =dz at *;clear kl h hg hl ha gl hz SG hd hwho hzz sn rm;go_enter Tryz.func155,Tryz.ntmps155
  go_wp2_with(first
   |(go_at_call 193;refine WT.mono ?_;clear WT;rintro e u ⟨t,rfl,h1,h2⟩;have O2:=OU.out u t h1 h2;clear h1 h2 OU)
   |(go_at_call 194;refine O2.mono ?_;clear O2;rintro e u' ⟨rfl,h1,h2⟩;obtain⟨⟨x17,c17⟩,f17,h3⟩:=TL.out u' t h1 h2;have HX:=hide h3;clear h1 h2 h3 TL))
  go_ret
  exact HX.out
end
theorem append_mgB{w:World}{ops:Array Oper}{rest:List Oper}{o:Oper}{a:Act}{Q:Exit→Act→World→Prop}(hgd:o.guard=none)(s x:Operand)
 (ho:o.op= .call {callee:= .builtin .append,args:=#[s,x],argTypes:=#[29,29]})
 (base:Nat) (v:Value) (L:List Mg) (hs:a.eval s=v) (hown:w.ownsRow base 34 7 v L.length (mgCells L)) (ao:Option Addr) (m:List Mg) (c:Nat) (hx:a.eval x= .slice ao m.length c) (hn:ao=none→m= []∧c=0)
 (hm:Mgs w ao m) (hb:L.length+m.length≤1000000) (hbase:base≤w.heap.size)
 (h:∀a' c' w',w'.ownsRow base 34 7 (.slice a' (L.length+m.length) c') (L++m).length (mgCells (L++m))→w.grownBy w' v.ownBlock→((Value.slice a' (L.length+m.length) c').ownBlock =v.ownBlock∨(Value.slice a' (L.length+m.length) c').ownBlock =some w.heap.size)→wpList Tryz.prog ops Q rest (a.put o.dst (.slice a' (L.length+m.length) c')) w'):wpList Tryz.prog ops Q (o::rest) a w:=by
 obtain⟨i0,hi,hz0,hz1,hz2⟩:=info_parts Tryz.infoMsg
 cases ao with
 |none=>
  obtain⟨rfl,rfl⟩:=hn rfl;obtain⟨av,cv,rfl,_⟩:=Sg.row_slice hown;refine wpList_append_own_none hgd s x 29 ho base 34 i0 7 Tryz.underlying29 hi _ _ _ hs hown (by simpa using hx) (h av cv w ?_ ⟨rfl,rfl,rfl,zD _,fun _ _ _=>rfl⟩ (.inl rfl));simpa using hown
 |some ad=>
  refine wpList_append_own_at _ hgd s x 29 ho base 34 i0 _ 7 56 Tryz.underlying29 hi hz0 hz1 hz2 rfl (by decide) v L.length (mgCells L) hs hown ad m.length c (mgCells m) hx (mgCells_len m) (mgs_news hm) (fun u hu=>mgCells_one hu) (by unfold maxLen;omega) (by omega) hbase ?_;intro v' w' h1 h2 _ h4;obtain⟨a',c',rfl,_⟩:=Sg.row_slice h1;refine h a' c' w' ?_ h2 h4;rw[mgCells_append,List.length_append];exact h1
section
variable {B:Nat}{O:Pt→Nat→Prop}{w:World}{p:Nat}{v:Ch}{q:Nat}{r:Value}{b bt:Nat}{loc:Int→Option Nat}
theorem SendR.more{u u' w':World}{v2:Ch}{xs ys:List Mg}{ta:Option Addr}{tc:Nat}(hu:Below w.heap.size w u)(hrow:u.ownsRow w.heap.size 34 7 (.slice ta ys.length tc) ys.length (mgCells ys))(hta:∀ad,ta=some ad→¬Eo O ad.block){ra:Option Addr}{rc:Nat}(h:SendR B O u p v2 q b bt loc xs (.returned (.slice ra xs.length rc)) u'):
 u'.ownsRow w.heap.size 34 7 (.slice ta ys.length tc) ys.length (mgCells ys)∧Mgs u' ra xs∧(ra=none→xs= []∧rc=0)∧
 ∀(a':Option Addr)(c':Nat),w'.ownsRow w.heap.size 34 7 (.slice a' (ys.length+xs.length) c') (ys++xs).length (mgCells (ys++xs))→u'.grownBy w' (Value.slice ta ys.length tc).ownBlock →((Value.slice a' (ys.length+xs.length) c').ownBlock =(Value.slice ta ys.length tc).ownBlock ∨(Value.slice a' (ys.length+xs.length) c').ownBlock =some u'.heap.size)→SendR B O w p v2 q b bt loc (ys++xs) (.returned (.slice a' (ys.length+xs.length) c')) w':=by
 obtain⟨ra',rc',O2,r2,loc2,e1,hr,hE,k2,g2,K2,l2⟩:=h
 cases e1
 have row':=own_keptR hrow K2 (fun i _ e e2=>by obtain⟨x,e3,rfl⟩:=own_some e;exact hta x e3 e2)
 have out:∀x,ta=some x→¬Eo O2 x.block:=fun x e e2=>by
  rcases g2 _ e2 with e3|e3
  ·exact hta x e e3
  ·have:=(hrow.lt x.block (by rw[e];rfl)).2;omega
 refine⟨row',row_mgs hr,fun e=>?_,fun a' c' o g hl=>?_⟩
 ·subst e;have:=Sg.row_none hr
  exact⟨List.eq_nil_of_length_eq_zero this.1,this.2⟩
 ·have hk:Rg.Kept (fun i _=>(Value.slice ta ys.length tc).ownBlock =some i) u' w':=Rg.Kept.grown g (fun i _ e=>e)
  have hk2:CkV B O2 w' p v2 q r2 b bt loc2 (v2.T.map lnC):=k2.k.kept hk (fun y i _ e e2=>by obtain⟨x,e3,rfl⟩:=own_some e2;exact out x e3 ⟨y,e⟩)
  have hlen:(ys++xs).length =ys.length+xs.length:=by simp
  refine⟨a',c',O2,r2,loc2,by rw[hlen],by rw[hlen]at o ⊢;exact o,fun x e e2=>?_,⟨hk2,k2.g,k2.d⟩,fun i e=>?_,?_,l2⟩
  ·subst e;rcases hl with hl|hl
   ·obtain⟨y,e1,e3⟩:=own_some hl.symm;exact out y e1 (e3▸e2)
   ·have e3:x.block=u'.heap.size:=by simpa[Value.ownBlock]using hl
    obtain⟨z,e4⟩:=e2;have:=(k2.k.bd z _ e4).2
    omega
  ·rcases g2 i e with e3|e3
   ·exact .inl e3
   ·exact .inr ⟨by have:=hu.size;omega,zJ e3.2 hk.size⟩
  ·exact kept_more ((zE hu).trans K2) hk (fun i _ e=> .inr (hrow.lt i e).1)
theorem sgA_len(v:Ch)(l:Lk)(kk:Nat)(n:List Int):(sgA v l kk n).length ≤3:=by
 unfold sgA goA sendA
 split
 ·split
  ·simp
  ·split
   ·simp
   ·exact(next_shape _ _).2
 ·simp
theorem fit_node{l:Lk}{kk:Nat}(h:kk=7∨kk=8){n:Int}(hn:n=1∨n=2):FitL l kk [n]∧numsB [n]=true:=
 ⟨⟨fun e=>by omega,fun e=>by omega,fun e=>by omega,fun _=>by rcases hn with rfl|rfl;exact .inl rfl;exact .inr rfl,fun e=>by omega⟩,by rcases hn with rfl|rfl<;>decide⟩
set_option maxRecDepth 100000 in
set_option maxHeartbeats 4000000 in
theorem cdmg_1(h:Up B O w p v q r b bt loc)(hg:∀u,Rg.Kept (fun i _=>Eo O i) w u→Gl u){id:Int}{l:Lk}{a:Nat}(hl:v.L id=some l)(ha:loc id=some a)(m0 m2 m3 m4 m5 m6:Int):
 Calls Tryz.prog 158 #[.pointer (some ⟨p,0,none⟩),.pointer (some ⟨a,0,none⟩),.agg #[.int .i64 m0,.int .i64 1,.int .i64 m2,.int .i64 m3,.int .i64 m4,.int .i64 m5,.int .i64 m6]] w (SendR B O w p (dmgS v l ⟨m0,1,m2,m3,m4,m5,m6⟩) q b bt loc (dmgA v l ⟨m0,1,m2,m3,m4,m5,m6⟩)):=by
 obtain⟨W,hW⟩:∃W,W=w.alloc (.cells #[.int .i64 m0,.int .i64 1,.int .i64 m2,.int .i64 m3,.int .i64 m4,.int .i64 m5,.int .i64 m6] 34):=⟨_,rfl⟩
 have hb0:Below w.heap.size w W:=by rw[hW];exact(zF _ _).alloc (zD _) _
 have hbx:W.heap[w.heap.size]?=some (.cells #[.int .i64 m0,.int .i64 1,.int .i64 m2,.int .i64 m3,.int .i64 m4,.int .i64 m5,.int .i64 m6] 34 (0,0)):=by rw[hW];exact zI w _
 obtain⟨sa,sc,da,dc,ua,uc,tp,kl⟩:=h.led hl ha
 have hlt:=kl.lt
 obtain⟨fn,hnn⟩:=fit_node (l:=l) (kk:=8) (.inr rfl) (n:=1) (.inl rfl)
 have BK:Calls Tryz.prog 154 #[.agg #[.int .i64 m0,.int .i64 1,.int .i64 m2,.int .i64 m3,.int .i64 m4,.int .i64 m5,.int .i64 m6],.int .i64 18] W fun e u1=>∃ta tc,e= .returned (.slice ta 1 tc)∧Below w.heap.size w u1∧(u1.ownsRow w.heap.size 34 7 (.slice ta 1 tc) 1 (mgCells [⟨18,0,1,m3,0,0,0⟩])∧∀ad,ta=some ad→¬Eo O ad.block)∧u1.cell? ⟨w.heap.size,1,none⟩=some (.int .i64 1)∧u1.cell? ⟨a,14,none⟩=some (.bool l.f.d0):=by
  refine(cback_any ⟨m0,1,m2,m3,m4,m5,m6⟩ 18 W).mono ?_;rintro e u1 ⟨ta,tc,h1,h2,h3,h4,h5⟩;have hb1:=bel_on' hb0 h5
  refine⟨ta,tc,h1,hb1,⟨own_low h4 hb0.size,fun ad e ⟨y,e2⟩=>?_⟩,cellL (seven_of hbx).2.1 h5,(kl.on hb1).cells.2.2.2.2.2.2.2.2.2.1⟩;have:=(h4.lt ad.block (by rw[e];rfl)).1
  have:=(h.k.bd y _ e2).2
  have:=hb0.size
  omega
 have TD:Hid (∀(u:World)(ta:Option Addr)(tc:Nat),Below w.heap.size w u→(u.ownsRow w.heap.size 34 7 (.slice ta 1 tc) 1 (mgCells [⟨18,0,1,m3,0,0,0⟩])∧∀ad,ta=some ad→¬Eo O ad.block)→SendR B O w p v q b bt loc [⟨18,0,1,m3,0,0,0⟩] (.returned (.slice ta 1 tc)) u):=fun u ta tc hu hr=>⟨ta,tc,O,r,loc,rfl,hr.1,hr.2,h.on hu,fun _ e=> .inl e,zE hu,fun _ _ e=>e⟩
 have SGa:Hid (∀u2,Below w.heap.size w u2→∀X1,X1=u2.alloc (.cells #[.int .i64 1] 3)→Calls Tryz.prog 72 #[.pointer (some ⟨a,0,none⟩),.string ⟨#[100,97,109,97,103,101]⟩,.slice (some ⟨u2.heap.size,0,none⟩) 1 1] X1 fun e u3=>e= .returned (.agg #[.string ⟨#[100,97,109,97,103,101]⟩,.int .i64 l.o.id,.slice (some ⟨u2.heap.size,0,none⟩) 1 1])∧∀X,X=u3.alloc (.cells #[.string ⟨#[100,97,109,97,103,101]⟩,.int .i64 l.o.id,.slice (some ⟨u2.heap.size,0,none⟩) 1 1] 104)→Calls Tryz.prog 57 #[.pointer (some ⟨p,0,none⟩),.slice (some ⟨u3.heap.size,0,none⟩) 1 1] X fun x u4=>x= .returned (.int .i64 (noE v 1))∧(roomC v 1=true→Calls Tryz.prog 60 #[.pointer (some ⟨p,0,none⟩),.pointer (some ⟨a,0,none⟩)] u4 (SendR B O u2 p (sgS v l 8 [1]) q b bt loc (sgA v l 8 [1])))∧(roomC v 1=false→SendR B O w p v q b bt loc [] (.returned (.slice none 0 0)) u4)):=fun u2 hu2 X1 hX1=>by
  have hb2:Below u2.heap.size u2 X1:=by rw[hX1];exact(zF _ _).alloc (zD _) _
  have hi:Ints X1 (some ⟨u2.heap.size,0,none⟩) [(1:Int)]:=by rw[hX1];exact ints_new u2 1
  refine((h.on hu2).sgo (fun u' hk=>hg u' ((zE hu2).trans hk)) hl ha (kk:=8) (n:=[1]) (by decide) (by decide) hnn fn 1 hb2 hi (fun ad e=>by cases e;exact⟨zD _,by rw[hX1];simp⟩)).mono ?_;rintro e u3 ⟨h1,_,h3⟩;refine⟨h1,fun X hX=>(h3 X hX).mono ?_⟩;rintro x u4 ⟨g1,g2,g3⟩;exact⟨g1,fun hr=>(g2 hr).2,fun hr=>SendR.two (fun i e=> .inl e) (zE hu2) (fun _ _ e=>e) (g3 hr)⟩
 have rm:=noE_two v 1
 have sn:roomC v 1=false→sgS v l 8 [1]=v:=fun hr=>by unfold sgS;rw[hr];rfl
 unfold dmgS dmgA dmgB
 dsimp only
 simp only[if_true]
 rw[hW]at BK
 have hx4:=sgA_len v l 8 [1]
 generalize sgS v l 8 [1]=v4 at *
 generalize sgA v l 8 [1]=x4 at *
 generalize l.o.id=oi at *
 generalize l.f.d0=dd at *
 clear kl hg hl ha fn hnn hb0 hbx hW h
 have P:=fun u=>cplace_any 1 u (by decide) (by decide)
 cases dd
 ·rw[if_neg (by decide),if_neg (by decide)];rcases rm with⟨e1,e2⟩|⟨e1,e2⟩
  ·rw[e2,if_pos rfl];have SG:Hid (∀u2,Below w.heap.size w u2→∀X1,X1=u2.alloc (.cells #[.int .i64 1] 3)→Calls Tryz.prog 72 #[.pointer (some ⟨a,0,none⟩),.string ⟨#[100,97,109,97,103,101]⟩,.slice (some ⟨u2.heap.size,0,none⟩) 1 1] X1 fun e u3=>e= .returned (.agg #[.string ⟨#[100,97,109,97,103,101]⟩,.int .i64 oi,.slice (some ⟨u2.heap.size,0,none⟩) 1 1])∧∀X,X=u3.alloc (.cells #[.string ⟨#[100,97,109,97,103,101]⟩,.int .i64 oi,.slice (some ⟨u2.heap.size,0,none⟩) 1 1] 104)→Calls Tryz.prog 57 #[.pointer (some ⟨p,0,none⟩),.slice (some ⟨u3.heap.size,0,none⟩) 1 1] X fun x u4=>x= .returned (.int .i64 0)∧Calls Tryz.prog 60 #[.pointer (some ⟨p,0,none⟩),.pointer (some ⟨a,0,none⟩)] u4 (SendR B O u2 p v4 q b bt loc x4)):=fun u2 hu2 X1 hX1=>(SGa.out u2 hu2 X1 hX1).mono (fun e u3 ⟨h1,h3⟩=>⟨h1,fun X hX=>(h3 X hX).mono (fun x u4 ⟨g1,g2,_⟩=>⟨by rw[e1]at g1;exact g1,g2 e2⟩)⟩)
   clear SGa e1 e2 sn TD;go_enter Tryz.func158,Tryz.ntmps158
   go_wp2_with(go_at_call 154;refine BK.mono ?_;clear BK;rintro e u1 ⟨ta,tc,rfl,h1,h2,h3,h4⟩;have HB:=hide h1;have HR:=hide h2;have y1:=h3;have y2:=h4;clear h1 h2 h3 h4)
   go_region_held3(fun w'=>w'.cell? ⟨w.heap.size,1,none⟩=some (.int .i64 1)∧w'.cell? ⟨a,14,none⟩=some (.bool false)) (go_keep) (first
    |(go_at_call 156;refine(P _).mono ?_;rintro e w' ⟨rfl,rfl⟩))
   go_wp2_with(first
    |(go_at_call 72;have HBU:=hide (bel_on' HB.out (zF u1.heap.size u1).drew);have HRU:=hide (And.intro (Sg.own_on HR.out.1 (zF u1.heap.size u1).drew) HR.out.2);have hsz:w.heap.size≤u1.drew.heap.size:=HBU.out.size;refine(SG.out u1.drew HBU.out _ rfl).mono ?_;clear SG;rintro e u3 ⟨rfl,h5⟩;have N2:=h5 _ rfl;clear h5)
    |(go_at_call 57;refine N2.mono ?_;clear N2;rintro e u4 ⟨rfl,h6⟩;have G2:=h6;clear h6)
    |(go_at_call 60;refine G2.mono ?_;clear G2;rintro e u5 h7;have h8:=h7;obtain⟨ra,rc,O9,r9,loc9,rfl,-,-,-,-,k9,-⟩:=h8;have MM:=hide (fun w'=>SendR.more (w':=w') (ys:=[⟨18,0,1,m3,0,0,0⟩]) HBU.out HRU.out.1 HRU.out.2 h7);have hs5:w.heap.size≤u5.heap.size:=zK hsz k9.size;clear h7 k9)
    |(at_builtin;refine append_mgB rfl (.tmp 29) (.tmp 32) rfl w.heap.size (.slice ta 1 tc) [⟨18,0,1,m3,0,0,0⟩] rfl (MM.out u5).1 ra x4 rc rfl (MM.out u5).2.2.1 (MM.out u5).2.1 (by simp;omega) hs5 ?_;intro a9 c9 w9 o9 g9 t9;have HX:=hide ((MM.out w9).2.2.2 a9 c9 o9 g9 t9);clear o9 g9 t9))
   go_ret
   have:=HX.out
   simpa using this
  ·rw[e2,if_neg (by decide),sn e2];have SG:Hid (∀u2,Below w.heap.size w u2→∀X1,X1=u2.alloc (.cells #[.int .i64 1] 3)→Calls Tryz.prog 72 #[.pointer (some ⟨a,0,none⟩),.string ⟨#[100,97,109,97,103,101]⟩,.slice (some ⟨u2.heap.size,0,none⟩) 1 1] X1 fun e u3=>e= .returned (.agg #[.string ⟨#[100,97,109,97,103,101]⟩,.int .i64 oi,.slice (some ⟨u2.heap.size,0,none⟩) 1 1])∧∀X,X=u3.alloc (.cells #[.string ⟨#[100,97,109,97,103,101]⟩,.int .i64 oi,.slice (some ⟨u2.heap.size,0,none⟩) 1 1] 104)→Calls Tryz.prog 57 #[.pointer (some ⟨p,0,none⟩),.slice (some ⟨u3.heap.size,0,none⟩) 1 1] X fun x u4=>x= .returned (.int .i64 5)∧SendR B O w p v q b bt loc [] (.returned (.slice none 0 0)) u4):=fun u2 hu2 X1 hX1=>(SGa.out u2 hu2 X1 hX1).mono (fun e u3 ⟨h1,h3⟩=>⟨h1,fun X hX=>(h3 X hX).mono (fun x u4 ⟨g1,_,g3⟩=>⟨by rw[e1]at g1;exact g1,g3 e2⟩)⟩)
   clear SGa e1 e2 sn TD;go_enter Tryz.func158,Tryz.ntmps158
   go_wp2_with(go_at_call 154;refine BK.mono ?_;clear BK;rintro e u1 ⟨ta,tc,rfl,h1,h2,h3,h4⟩;have HB:=hide h1;have HR:=hide h2;have y1:=h3;have y2:=h4;clear h1 h2 h3 h4)
   go_region_held3(fun w'=>w'.cell? ⟨w.heap.size,1,none⟩=some (.int .i64 1)∧w'.cell? ⟨a,14,none⟩=some (.bool false)) (go_keep) (first
    |(go_at_call 156;refine(P _).mono ?_;rintro e w' ⟨rfl,rfl⟩))
   go_wp2_with(first
    |(go_at_call 72;refine(SG.out u1.drew (bel_on' HB.out (zF u1.heap.size u1).drew) _ rfl).mono ?_;clear SG;rintro e u3 ⟨rfl,h5⟩;have N2:=h5 _ rfl;clear h5)
    |(go_at_call 57;refine N2.mono ?_;clear N2;rintro e u4 ⟨rfl,h6⟩;have HX:=hide h6;clear h6))
   go_ret
   exact HX.out
 ·rw[if_pos rfl,if_pos rfl];clear SGa rm sn;go_enter Tryz.func158,Tryz.ntmps158
  go_wp2_with(go_at_call 154;refine BK.mono ?_;clear BK;rintro e u1 ⟨ta,tc,rfl,h1,h2,h3,h4⟩;have HB:=hide h1;have HR:=hide h2;have y1:=h3;have y2:=h4;clear h1 h2 h3 h4)
  go_region_held3(fun w'=>w'.cell? ⟨w.heap.size,1,none⟩=some (.int .i64 1)∧w'.cell? ⟨a,14,none⟩=some (.bool true)) (go_keep) (first
   |(go_at_call 156;refine(P _).mono ?_;rintro e w' ⟨rfl,rfl⟩))
  have HX:=hide (TD.out _ ta tc (bel_on' HB.out (zF _ _).drew) (And.intro (Sg.own_on HR.out.1 (zF _ _).drew) HR.out.2))
  go_wp2
  go_ret
  exact HX.out
set_option maxRecDepth 100000 in
set_option maxHeartbeats 4000000 in
theorem cdmg_2(h:Up B O w p v q r b bt loc)(hg:∀u,Rg.Kept (fun i _=>Eo O i) w u→Gl u){id:Int}{l:Lk}{a:Nat}(hl:v.L id=some l)(ha:loc id=some a)(m0 m2 m3 m4 m5 m6:Int):
 Calls Tryz.prog 158 #[.pointer (some ⟨p,0,none⟩),.pointer (some ⟨a,0,none⟩),.agg #[.int .i64 m0,.int .i64 2,.int .i64 m2,.int .i64 m3,.int .i64 m4,.int .i64 m5,.int .i64 m6]] w (SendR B O w p (dmgS v l ⟨m0,2,m2,m3,m4,m5,m6⟩) q b bt loc (dmgA v l ⟨m0,2,m2,m3,m4,m5,m6⟩)):=by
 obtain⟨W,hW⟩:∃W,W=w.alloc (.cells #[.int .i64 m0,.int .i64 2,.int .i64 m2,.int .i64 m3,.int .i64 m4,.int .i64 m5,.int .i64 m6] 34):=⟨_,rfl⟩
 have hb0:Below w.heap.size w W:=by rw[hW];exact(zF _ _).alloc (zD _) _
 have hbx:W.heap[w.heap.size]?=some (.cells #[.int .i64 m0,.int .i64 2,.int .i64 m2,.int .i64 m3,.int .i64 m4,.int .i64 m5,.int .i64 m6] 34 (0,0)):=by rw[hW];exact zI w _
 obtain⟨sa,sc,da,dc,ua,uc,tp,kl⟩:=h.led hl ha
 have hlt:=kl.lt
 obtain⟨fn,hnn⟩:=fit_node (l:=l) (kk:=8) (.inr rfl) (n:=2) (.inr rfl)
 have BK:Calls Tryz.prog 154 #[.agg #[.int .i64 m0,.int .i64 2,.int .i64 m2,.int .i64 m3,.int .i64 m4,.int .i64 m5,.int .i64 m6],.int .i64 18] W fun e u1=>∃ta tc,e= .returned (.slice ta 1 tc)∧Below w.heap.size w u1∧(u1.ownsRow w.heap.size 34 7 (.slice ta 1 tc) 1 (mgCells [⟨18,0,2,m3,0,0,0⟩])∧∀ad,ta=some ad→¬Eo O ad.block)∧u1.cell? ⟨w.heap.size,1,none⟩=some (.int .i64 2)∧u1.cell? ⟨a,15,none⟩=some (.bool l.f.d1):=by
  refine(cback_any ⟨m0,2,m2,m3,m4,m5,m6⟩ 18 W).mono ?_;rintro e u1 ⟨ta,tc,h1,h2,h3,h4,h5⟩;have hb1:=bel_on' hb0 h5
  refine⟨ta,tc,h1,hb1,⟨own_low h4 hb0.size,fun ad e ⟨y,e2⟩=>?_⟩,cellL (seven_of hbx).2.1 h5,(kl.on hb1).cells.2.2.2.2.2.2.2.2.2.2.1⟩;have:=(h4.lt ad.block (by rw[e];rfl)).1
  have:=(h.k.bd y _ e2).2
  have:=hb0.size
  omega
 have TD:Hid (∀(u:World)(ta:Option Addr)(tc:Nat),Below w.heap.size w u→(u.ownsRow w.heap.size 34 7 (.slice ta 1 tc) 1 (mgCells [⟨18,0,2,m3,0,0,0⟩])∧∀ad,ta=some ad→¬Eo O ad.block)→SendR B O w p v q b bt loc [⟨18,0,2,m3,0,0,0⟩] (.returned (.slice ta 1 tc)) u):=fun u ta tc hu hr=>⟨ta,tc,O,r,loc,rfl,hr.1,hr.2,h.on hu,fun _ e=> .inl e,zE hu,fun _ _ e=>e⟩
 have SGa:Hid (∀u2,Below w.heap.size w u2→∀X1,X1=u2.alloc (.cells #[.int .i64 2] 3)→Calls Tryz.prog 72 #[.pointer (some ⟨a,0,none⟩),.string ⟨#[100,97,109,97,103,101]⟩,.slice (some ⟨u2.heap.size,0,none⟩) 1 1] X1 fun e u3=>e= .returned (.agg #[.string ⟨#[100,97,109,97,103,101]⟩,.int .i64 l.o.id,.slice (some ⟨u2.heap.size,0,none⟩) 1 1])∧∀X,X=u3.alloc (.cells #[.string ⟨#[100,97,109,97,103,101]⟩,.int .i64 l.o.id,.slice (some ⟨u2.heap.size,0,none⟩) 1 1] 104)→Calls Tryz.prog 57 #[.pointer (some ⟨p,0,none⟩),.slice (some ⟨u3.heap.size,0,none⟩) 1 1] X fun x u4=>x= .returned (.int .i64 (noE v 1))∧(roomC v 1=true→Calls Tryz.prog 60 #[.pointer (some ⟨p,0,none⟩),.pointer (some ⟨a,0,none⟩)] u4 (SendR B O u2 p (sgS v l 8 [2]) q b bt loc (sgA v l 8 [2])))∧(roomC v 1=false→SendR B O w p v q b bt loc [] (.returned (.slice none 0 0)) u4)):=fun u2 hu2 X1 hX1=>by
  have hb2:Below u2.heap.size u2 X1:=by rw[hX1];exact(zF _ _).alloc (zD _) _
  have hi:Ints X1 (some ⟨u2.heap.size,0,none⟩) [(2:Int)]:=by rw[hX1];exact ints_new u2 2
  refine((h.on hu2).sgo (fun u' hk=>hg u' ((zE hu2).trans hk)) hl ha (kk:=8) (n:=[2]) (by decide) (by decide) hnn fn 1 hb2 hi (fun ad e=>by cases e;exact⟨zD _,by rw[hX1];simp⟩)).mono ?_;rintro e u3 ⟨h1,_,h3⟩;refine⟨h1,fun X hX=>(h3 X hX).mono ?_⟩;rintro x u4 ⟨g1,g2,g3⟩;exact⟨g1,fun hr=>(g2 hr).2,fun hr=>SendR.two (fun i e=> .inl e) (zE hu2) (fun _ _ e=>e) (g3 hr)⟩
 have rm:=noE_two v 1
 have sn:roomC v 1=false→sgS v l 8 [2]=v:=fun hr=>by unfold sgS;rw[hr];rfl
 unfold dmgS dmgA dmgB
 dsimp only
 simp only[show¬((2:Int)=1) by decide,if_false]
 rw[hW]at BK
 have hx4:=sgA_len v l 8 [2]
 generalize sgS v l 8 [2]=v4 at *
 generalize sgA v l 8 [2]=x4 at *
 generalize l.o.id=oi at *
 generalize l.f.d1=dd at *
 clear kl hg hl ha fn hnn hb0 hbx hW h
 have P:=fun u=>cplace_any 2 u (by decide) (by decide)
 cases dd
 ·rw[if_neg (by decide),if_neg (by decide)];rcases rm with⟨e1,e2⟩|⟨e1,e2⟩
  ·rw[e2,if_pos rfl];have SG:Hid (∀u2,Below w.heap.size w u2→∀X1,X1=u2.alloc (.cells #[.int .i64 2] 3)→Calls Tryz.prog 72 #[.pointer (some ⟨a,0,none⟩),.string ⟨#[100,97,109,97,103,101]⟩,.slice (some ⟨u2.heap.size,0,none⟩) 1 1] X1 fun e u3=>e= .returned (.agg #[.string ⟨#[100,97,109,97,103,101]⟩,.int .i64 oi,.slice (some ⟨u2.heap.size,0,none⟩) 1 1])∧∀X,X=u3.alloc (.cells #[.string ⟨#[100,97,109,97,103,101]⟩,.int .i64 oi,.slice (some ⟨u2.heap.size,0,none⟩) 1 1] 104)→Calls Tryz.prog 57 #[.pointer (some ⟨p,0,none⟩),.slice (some ⟨u3.heap.size,0,none⟩) 1 1] X fun x u4=>x= .returned (.int .i64 0)∧Calls Tryz.prog 60 #[.pointer (some ⟨p,0,none⟩),.pointer (some ⟨a,0,none⟩)] u4 (SendR B O u2 p v4 q b bt loc x4)):=fun u2 hu2 X1 hX1=>(SGa.out u2 hu2 X1 hX1).mono (fun e u3 ⟨h1,h3⟩=>⟨h1,fun X hX=>(h3 X hX).mono (fun x u4 ⟨g1,g2,_⟩=>⟨by rw[e1]at g1;exact g1,g2 e2⟩)⟩)
   clear SGa e1 e2 sn TD;go_enter Tryz.func158,Tryz.ntmps158
   go_wp2_with(go_at_call 154;refine BK.mono ?_;clear BK;rintro e u1 ⟨ta,tc,rfl,h1,h2,h3,h4⟩;have HB:=hide h1;have HR:=hide h2;have y1:=h3;have y2:=h4;clear h1 h2 h3 h4)
   go_region_held3(fun w'=>w'.cell? ⟨w.heap.size,1,none⟩=some (.int .i64 2)∧w'.cell? ⟨a,15,none⟩=some (.bool false)) (go_keep) (first
    |(go_at_call 156;refine(P _).mono ?_;rintro e w' ⟨rfl,rfl⟩))
   go_wp2_with(first
    |(go_at_call 72;have HBU:=hide (bel_on' HB.out (zF u1.heap.size u1).drew);have HRU:=hide (And.intro (Sg.own_on HR.out.1 (zF u1.heap.size u1).drew) HR.out.2);have hsz:w.heap.size≤u1.drew.heap.size:=HBU.out.size;refine(SG.out u1.drew HBU.out _ rfl).mono ?_;clear SG;rintro e u3 ⟨rfl,h5⟩;have N2:=h5 _ rfl;clear h5)
    |(go_at_call 57;refine N2.mono ?_;clear N2;rintro e u4 ⟨rfl,h6⟩;have G2:=h6;clear h6)
    |(go_at_call 60;refine G2.mono ?_;clear G2;rintro e u5 h7;have h8:=h7;obtain⟨ra,rc,O9,r9,loc9,rfl,-,-,-,-,k9,-⟩:=h8;have MM:=hide (fun w'=>SendR.more (w':=w') (ys:=[⟨18,0,2,m3,0,0,0⟩]) HBU.out HRU.out.1 HRU.out.2 h7);have hs5:w.heap.size≤u5.heap.size:=zK hsz k9.size;clear h7 k9)
    |(at_builtin;refine append_mgB rfl (.tmp 29) (.tmp 32) rfl w.heap.size (.slice ta 1 tc) [⟨18,0,2,m3,0,0,0⟩] rfl (MM.out u5).1 ra x4 rc rfl (MM.out u5).2.2.1 (MM.out u5).2.1 (by simp;omega) hs5 ?_;intro a9 c9 w9 o9 g9 t9;have HX:=hide ((MM.out w9).2.2.2 a9 c9 o9 g9 t9);clear o9 g9 t9))
   go_ret
   have:=HX.out
   simpa using this
  ·rw[e2,if_neg (by decide),sn e2];have SG:Hid (∀u2,Below w.heap.size w u2→∀X1,X1=u2.alloc (.cells #[.int .i64 2] 3)→Calls Tryz.prog 72 #[.pointer (some ⟨a,0,none⟩),.string ⟨#[100,97,109,97,103,101]⟩,.slice (some ⟨u2.heap.size,0,none⟩) 1 1] X1 fun e u3=>e= .returned (.agg #[.string ⟨#[100,97,109,97,103,101]⟩,.int .i64 oi,.slice (some ⟨u2.heap.size,0,none⟩) 1 1])∧∀X,X=u3.alloc (.cells #[.string ⟨#[100,97,109,97,103,101]⟩,.int .i64 oi,.slice (some ⟨u2.heap.size,0,none⟩) 1 1] 104)→Calls Tryz.prog 57 #[.pointer (some ⟨p,0,none⟩),.slice (some ⟨u3.heap.size,0,none⟩) 1 1] X fun x u4=>x= .returned (.int .i64 5)∧SendR B O w p v q b bt loc [] (.returned (.slice none 0 0)) u4):=fun u2 hu2 X1 hX1=>(SGa.out u2 hu2 X1 hX1).mono (fun e u3 ⟨h1,h3⟩=>⟨h1,fun X hX=>(h3 X hX).mono (fun x u4 ⟨g1,_,g3⟩=>⟨by rw[e1]at g1;exact g1,g3 e2⟩)⟩)
   clear SGa e1 e2 sn TD;go_enter Tryz.func158,Tryz.ntmps158
   go_wp2_with(go_at_call 154;refine BK.mono ?_;clear BK;rintro e u1 ⟨ta,tc,rfl,h1,h2,h3,h4⟩;have HB:=hide h1;have HR:=hide h2;have y1:=h3;have y2:=h4;clear h1 h2 h3 h4)
   go_region_held3(fun w'=>w'.cell? ⟨w.heap.size,1,none⟩=some (.int .i64 2)∧w'.cell? ⟨a,15,none⟩=some (.bool false)) (go_keep) (first
    |(go_at_call 156;refine(P _).mono ?_;rintro e w' ⟨rfl,rfl⟩))
   go_wp2_with(first
    |(go_at_call 72;refine(SG.out u1.drew (bel_on' HB.out (zF u1.heap.size u1).drew) _ rfl).mono ?_;clear SG;rintro e u3 ⟨rfl,h5⟩;have N2:=h5 _ rfl;clear h5)
    |(go_at_call 57;refine N2.mono ?_;clear N2;rintro e u4 ⟨rfl,h6⟩;have HX:=hide h6;clear h6))
   go_ret
   exact HX.out
 ·rw[if_pos rfl,if_pos rfl];clear SGa rm sn;go_enter Tryz.func158,Tryz.ntmps158
  go_wp2_with(go_at_call 154;refine BK.mono ?_;clear BK;rintro e u1 ⟨ta,tc,rfl,h1,h2,h3,h4⟩;have HB:=hide h1;have HR:=hide h2;have y1:=h3;have y2:=h4;clear h1 h2 h3 h4)
  go_region_held3(fun w'=>w'.cell? ⟨w.heap.size,1,none⟩=some (.int .i64 2)∧w'.cell? ⟨a,15,none⟩=some (.bool true)) (go_keep) (first
   |(go_at_call 156;refine(P _).mono ?_;rintro e w' ⟨rfl,rfl⟩))
  have HX:=hide (TD.out _ ta tc (bel_on' HB.out (zF _ _).drew) (And.intro (Sg.own_on HR.out.1 (zF _ _).drew) HR.out.2))
  go_wp2
  go_ret
  exact HX.out
set_option maxRecDepth 100000 in
set_option maxHeartbeats 1600000 in
theorem chear_1(h:Up B O w p v q r b bt loc)(hg:∀u,Rg.Kept (fun i _=>Eo O i) w u→Gl u){id:Int}{l:Lk}{a:Nat}(hl:v.L id=some l)(ha:loc id=some a)(m0 m2 m3 m4 m5 m6:Int):
 Calls Tryz.prog 97 #[.pointer (some ⟨p,0,none⟩),.pointer (some ⟨a,0,none⟩),.agg #[.int .i64 m0,.int .i64 1,.int .i64 m2,.int .i64 m3,.int .i64 m4,.int .i64 m5,.int .i64 m6]] w (SendR B O w p (keepSA v l ⟨m0,1,m2,m3,m4,m5,m6⟩).1 q b bt loc (keepSA v l ⟨m0,1,m2,m3,m4,m5,m6⟩).2):=by
 obtain⟨W,hW⟩:∃W,W=w.alloc (.cells #[.int .i64 m0,.int .i64 1,.int .i64 m2,.int .i64 m3,.int .i64 m4,.int .i64 m5,.int .i64 m6] 34):=⟨_,rfl⟩
 have hb0:Below w.heap.size w W:=by rw[hW];exact(zF _ _).alloc (zD _) _
 have hbx:W.heap[w.heap.size]?=some (.cells #[.int .i64 m0,.int .i64 1,.int .i64 m2,.int .i64 m3,.int .i64 m4,.int .i64 m5,.int .i64 m6] 34 (0,0)):=by rw[hW];exact zI w _
 have hbn:∀n,Below w.heap.size w (W.drewN n):=fun n=>bel_on' hb0 (bel_drewN W n)
 obtain⟨sa,sc,da,dc,ua,uc,tp,kl⟩:=(h.on hb0).led hl ha
 have hlt:=(kl.on (bel_drewN W 0)).lt
 obtain⟨fn,hnn⟩:=fit_node (l:=l) (kk:=7) (.inl rfl) (n:=1) (.inl rfl)
 have WT:=lwt_any kl
 have DE:∀n,Calls Tryz.prog 67 #[.pointer (some ⟨a,0,none⟩)] (W.drewN n) fun e w'=>e= .returned (.bool l.dec)∧W.drewN n=w':=fun n=>ldec_any (kl.on (bel_drewN W n))
 have DQ:∀n,Calls Tryz.prog 67 #[.pointer (some ⟨a,0,none⟩)] (W.drewN n) fun e w'=>e= .returned (.bool l.dec)∧∃m,w'=W.drewN m:=fun n=>Calls.quiet_of_same ((DE n).mono (fun _ _ ⟨h1,h2⟩=>⟨h1,h2.symm⟩))
 have PQ:∀(V:World) n,Calls Tryz.prog 156 #[.int .i64 1] (V.drewN n) fun e w'=>e= .returned (.int .i64 (1-1))∧∃m,w'=V.drewN m:=fun V n=>Calls.quiet_of_same ((cplace_any 1 (V.drewN n) (by decide) (by decide)).mono (fun _ _ ⟨h1,h2⟩=>⟨h1,h2.symm⟩))
 have y2:=kl.cells.2.2.2.2.2.2.1
 obtain⟨y0,y1,-⟩:=seven_of hbx
 have NO:Hid (SendR B O w p v q b bt loc [] (.returned (.slice none 0 0)) W):=(h.stay hb0).quiet
 have ND:Hid (∀n,SendR B O w p v q b bt loc [] (.returned (.slice none 0 0)) (W.drewN n)):=fun n=>(h.stay (hbn n)).quiet
 have TU:Calls Tryz.prog 79 #[.pointer (some ⟨p,0,none⟩),.pointer (some ⟨a,0,none⟩)] W (SendR B O w p (sgS v l 5 []) q b bt loc (sgA v l 5 [])):=(cturns_any (h.on hb0) (fun u' hk=>hg u' ((zE hb0).trans hk)) hl ha).mono (fun e w' h5=>SendR.two (fun i e=> .inl e) (zE hb0) (fun _ _ e=>e) h5)
 have HY:Calls Tryz.prog 155 #[.pointer (some ⟨p,0,none⟩),.pointer (some ⟨a,0,none⟩),.int .i64 (1-1)] W (SendR B O w p (yesS v l (1-1)) q b bt loc (yesA v l (1-1))):=(cyes_any (h.on hb0) (fun u' hk=>hg u' ((zE hb0).trans hk)) hl ha (by decide)).mono (fun e w' h5=>SendR.two (fun i e=> .inl e) (zE hb0) (fun _ _ e=>e) h5)
 have HD:∀n,Calls Tryz.prog 158 #[.pointer (some ⟨p,0,none⟩),.pointer (some ⟨a,0,none⟩),.agg #[.int .i64 m0,.int .i64 1,.int .i64 m2,.int .i64 m3,.int .i64 m4,.int .i64 m5,.int .i64 m6]] (W.drewN n) (SendR B O w p (dmgS v l ⟨m0,1,m2,m3,m4,m5,m6⟩) q b bt loc (dmgA v l ⟨m0,1,m2,m3,m4,m5,m6⟩)):=fun n=>(cdmg_1 (h.on (hbn n)) (fun u' hk=>hg u' ((zE (hbn n)).trans hk)) hl ha m0 m2 m3 m4 m5 m6).mono (fun e w' h5=>SendR.two (fun i e=> .inl e) (zE (hbn n)) (fun _ _ e=>e) h5)
 have hws:∀n,(W.drewN n).heap.size =w.heap.size+1:=fun n=>by rw[hW];simp[World.drewN]
 have AB:∀n,Calls Tryz.prog 72 #[.pointer (some ⟨a,0,none⟩),.string ⟨#[97,99,107]⟩,.slice (some ⟨w.heap.size+1,0,none⟩) 1 1] ((W.drewN n).alloc (.cells #[.int .i64 1] 3)) fun e u=>e= .returned (.agg #[.string ⟨#[97,99,107]⟩,.int .i64 l.o.id,.slice (some ⟨w.heap.size+1,0,none⟩) 1 1])∧Calls Tryz.prog 157 #[.pointer (some ⟨p,0,none⟩),.pointer (some ⟨a,0,none⟩),.agg #[.string ⟨#[97,99,107]⟩,.int .i64 l.o.id,.slice (some ⟨w.heap.size+1,0,none⟩) 1 1]] u (SendR B O w p (ngS v l 7 [1]) q b bt loc (ngA v l 7 [1])):=fun n=>by
  have e1:=h.ngo hg hl ha (kk:=7) (n:=[1]) (by decide) (by decide) hnn fn 1 ((hbn n).alloc (hbn n).size _) (ints_new (W.drewN n) 1) (fun ad e=>by cases e;exact⟨(hbn n).size,by simp⟩)
  rw[hws n]at e1;exact e1
 unfold keepSA ackB
 dsimp only
 simp only[if_true]
 rw[hW]at NO ND TU HY HD AB WT DE DQ y0 y1 y2
 generalize yesS v l (1-1)=v7 at *
 generalize yesA v l (1-1)=x7 at *
 generalize sgS v l 5 []=v5 at *
 generalize sgA v l 5 []=x5 at *
 generalize ngS v l 7 [1]=v1 at *
 generalize ngA v l 7 [1]=x1 at *
 generalize dmgS v l ⟨m0,1,m2,m3,m4,m5,m6⟩=v8 at *
 generalize dmgA v l ⟨m0,1,m2,m3,m4,m5,m6⟩=x8 at *
 generalize l.o.id=oi at *
 generalize l.f.k0=kk at *
 generalize l.wt=wt at *
 generalize l.dec=de at *
 clear kl hg hl ha fn hnn hb0 hbx hbn hW h hws
 have P:=fun u=>cplace_any 1 u (by decide) (by decide)
 by_cases h7:m0=7
 ·subst h7;cases wt
  ·simp only[Bool.false_eq_true,and_false,if_false,show¬((7:Int)=8) by decide,show¬((7:Int)=11) by decide,show¬((7:Int)=17) by decide,false_and];go_enter Tryz.func97,Tryz.ntmps97
   go_wp2_with(first
    |(go_at_call 152;refine WT.mono ?_;clear WT;rintro e w' ⟨rfl,rfl⟩)
    |fail)
   refine wp_region_quiet_lit (by kernel_rfl) (by kernel_rfl) ?_;repeat(first|go_big_quiet_step (first|exact DQ _|exact PQ _ _)|quiet_step (first|exact DQ _|exact PQ _ _))
   refine wpQuiet_nil ?_;intro _ hw';obtain⟨nq,hw''⟩:=hw';subst hw''
   go_wp2
   go_ret
   exact ND.out _
  ·rw[if_pos ⟨rfl,rfl⟩];go_enter Tryz.func97,Tryz.ntmps97
   go_wp2_with(first
    |(go_at_call 152;refine WT.mono ?_;clear WT;rintro e w' ⟨rfl,rfl⟩)
    |(go_at_call 156;refine(P _).mono ?_;rintro e w' ⟨rfl,rfl⟩)
    |(go_at_call 155;refine HY.mono ?_;rintro e u3 h7;have HX:=hide h7;obtain⟨ra,rc,O9,r9,loc9,rfl,-⟩:=h7)
    |fail)
   go_ret
   exact HX.out
 by_cases h8:m0=8
 ·subst h8;cases wt
  ·simp only[Bool.false_eq_true,and_false,if_false,show¬((8:Int)=7) by decide,show¬((8:Int)=11) by decide,show¬((8:Int)=17) by decide,false_and];go_enter Tryz.func97,Tryz.ntmps97
   go_wp2_with(first
    |(go_at_call 152;refine WT.mono ?_;clear WT;rintro e w' ⟨rfl,rfl⟩)
    |fail)
   refine wp_region_quiet_lit (by kernel_rfl) (by kernel_rfl) ?_;repeat(first|go_big_quiet_step (first|exact DQ _|exact PQ _ _)|quiet_step (first|exact DQ _|exact PQ _ _))
   refine wpQuiet_nil ?_;intro _ hw';obtain⟨nq,hw''⟩:=hw';subst hw''
   go_wp2
   go_ret
   exact ND.out _
  ·rw[if_neg (fun e=>h7 e.1),if_pos ⟨rfl,rfl⟩];go_enter Tryz.func97,Tryz.ntmps97
   go_wp2_with(first
    |(go_at_call 152;refine WT.mono ?_;clear WT;rintro e w' ⟨rfl,rfl⟩)
    |(go_at_call 79;refine TU.mono ?_;rintro e u3 h7;have HX:=hide h7;obtain⟨ra,rc,O9,r9,loc9,rfl,-⟩:=h7)
    |fail)
   go_ret
   exact HX.out
 rw[if_neg (fun e=>h7 e.1),if_neg (fun e=>h8 e.1)]
 by_cases h9:m0=11
 ·subst h9;cases de
  ·simp only[Bool.false_and,Bool.false_eq_true,and_false,if_false];go_enter Tryz.func97,Tryz.ntmps97
   go_wp2_with fail
   refine wp_region_quiet_lit (by kernel_rfl) (by kernel_rfl) ?_;repeat(first|go_big_quiet_step (first|exact DQ _|exact PQ _ _)|quiet_step (first|exact DQ _|exact PQ _ _))
   refine wpQuiet_nil ?_;intro _ hw';obtain⟨nq,hw''⟩:=hw';subst hw''
   go_wp2
   go_ret
   exact ND.out _
  ·cases kk
   ·rw[if_pos ⟨rfl,rfl⟩];go_enter Tryz.func97,Tryz.ntmps97
    go_wp2_with fail
    refine wp_region_quiet_lit (by kernel_rfl) (by kernel_rfl) ?_;repeat(first|go_big_quiet_step (first|exact DQ _|exact PQ _ _)|quiet_step (first|exact DQ _|exact PQ _ _))
    refine wpQuiet_nil ?_;intro _ hw';obtain⟨nq,hw''⟩:=hw';subst hw''
    go_wp2_with(first
     |(go_at_call 72;refine(AB _).mono ?_;clear AB;rintro e u ⟨rfl,h5⟩;have N2:=h5;clear h5)
     |(go_at_call 157;refine N2.mono ?_;rintro e u3 h7;have HX:=hide h7;obtain⟨ra,rc,O9,r9,loc9,rfl,-⟩:=h7)
     |fail)
    go_ret
    exact HX.out
   ·rw[if_neg (by simp),if_neg (by simp)];go_enter Tryz.func97,Tryz.ntmps97
    go_wp2_with fail
    refine wp_region_quiet_lit (by kernel_rfl) (by kernel_rfl) ?_;repeat(first|go_big_quiet_step (first|exact DQ _|exact PQ _ _)|quiet_step (first|exact DQ _|exact PQ _ _))
    refine wpQuiet_nil ?_;intro _ hw';obtain⟨nq,hw''⟩:=hw';subst hw''
    go_wp2
    go_ret
    exact ND.out _
 rw[if_neg (fun e=>h9 e.1)]
 by_cases h1:m0=17
 ·subst h1;cases de
  ·rw[if_neg (by simp)];go_enter Tryz.func97,Tryz.ntmps97
   go_wp2_with fail
   refine wp_region_quiet_lit (by kernel_rfl) (by kernel_rfl) ?_;repeat(first|go_big_quiet_step (first|exact DQ _|exact PQ _ _)|quiet_step (first|exact DQ _|exact PQ _ _))
   refine wpQuiet_nil ?_;intro _ hw';obtain⟨nq,hw''⟩:=hw';subst hw''
   go_wp2_with(first
    |(go_at_call 67;refine(DE _).mono ?_;rintro e w' ⟨rfl,rfl⟩)
    |fail)
   go_ret
   exact ND.out _
  ·rw[if_pos ⟨rfl,rfl⟩];go_enter Tryz.func97,Tryz.ntmps97
   go_wp2_with fail
   refine wp_region_quiet_lit (by kernel_rfl) (by kernel_rfl) ?_;repeat(first|go_big_quiet_step (first|exact DQ _|exact PQ _ _)|quiet_step (first|exact DQ _|exact PQ _ _))
   refine wpQuiet_nil ?_;intro _ hw';obtain⟨nq,hw''⟩:=hw';subst hw''
   go_wp2_with(first
    |(go_at_call 67;refine(DE _).mono ?_;rintro e w' ⟨rfl,rfl⟩)
    |(go_at_call 158;refine(HD _).mono ?_;rintro e u3 h7;have HX:=hide h7;obtain⟨ra,rc,O9,r9,loc9,rfl,-⟩:=h7)
    |fail)
   go_ret
   exact HX.out
 rw[if_neg (fun e=>h1 e.1)]
 go_enter Tryz.func97,Tryz.ntmps97
 go_wp2_with fail
 refine wp_region_quiet_lit (by kernel_rfl) (by kernel_rfl) ?_
 repeat(first|go_big_quiet_step (first|exact DQ _|exact PQ _ _)|quiet_step (first|exact DQ _|exact PQ _ _))
 refine wpQuiet_nil ?_
 intro _ hw'
 obtain⟨nq,hw''⟩:=hw'
 subst hw''
 go_wp2
 go_ret
 exact ND.out _
set_option maxRecDepth 100000 in
set_option maxHeartbeats 1600000 in
theorem chear_2(h:Up B O w p v q r b bt loc)(hg:∀u,Rg.Kept (fun i _=>Eo O i) w u→Gl u){id:Int}{l:Lk}{a:Nat}(hl:v.L id=some l)(ha:loc id=some a)(m0 m2 m3 m4 m5 m6:Int):
 Calls Tryz.prog 97 #[.pointer (some ⟨p,0,none⟩),.pointer (some ⟨a,0,none⟩),.agg #[.int .i64 m0,.int .i64 2,.int .i64 m2,.int .i64 m3,.int .i64 m4,.int .i64 m5,.int .i64 m6]] w (SendR B O w p (keepSA v l ⟨m0,2,m2,m3,m4,m5,m6⟩).1 q b bt loc (keepSA v l ⟨m0,2,m2,m3,m4,m5,m6⟩).2):=by
 obtain⟨W,hW⟩:∃W,W=w.alloc (.cells #[.int .i64 m0,.int .i64 2,.int .i64 m2,.int .i64 m3,.int .i64 m4,.int .i64 m5,.int .i64 m6] 34):=⟨_,rfl⟩
 have hb0:Below w.heap.size w W:=by rw[hW];exact(zF _ _).alloc (zD _) _
 have hbx:W.heap[w.heap.size]?=some (.cells #[.int .i64 m0,.int .i64 2,.int .i64 m2,.int .i64 m3,.int .i64 m4,.int .i64 m5,.int .i64 m6] 34 (0,0)):=by rw[hW];exact zI w _
 have hbn:∀n,Below w.heap.size w (W.drewN n):=fun n=>bel_on' hb0 (bel_drewN W n)
 obtain⟨sa,sc,da,dc,ua,uc,tp,kl⟩:=(h.on hb0).led hl ha
 have hlt:=(kl.on (bel_drewN W 0)).lt
 obtain⟨fn,hnn⟩:=fit_node (l:=l) (kk:=7) (.inl rfl) (n:=2) (.inr rfl)
 have WT:=lwt_any kl
 have DE:∀n,Calls Tryz.prog 67 #[.pointer (some ⟨a,0,none⟩)] (W.drewN n) fun e w'=>e= .returned (.bool l.dec)∧W.drewN n=w':=fun n=>ldec_any (kl.on (bel_drewN W n))
 have DQ:∀n,Calls Tryz.prog 67 #[.pointer (some ⟨a,0,none⟩)] (W.drewN n) fun e w'=>e= .returned (.bool l.dec)∧∃m,w'=W.drewN m:=fun n=>Calls.quiet_of_same ((DE n).mono (fun _ _ ⟨h1,h2⟩=>⟨h1,h2.symm⟩))
 have PQ:∀(V:World) n,Calls Tryz.prog 156 #[.int .i64 2] (V.drewN n) fun e w'=>e= .returned (.int .i64 (2-1))∧∃m,w'=V.drewN m:=fun V n=>Calls.quiet_of_same ((cplace_any 2 (V.drewN n) (by decide) (by decide)).mono (fun _ _ ⟨h1,h2⟩=>⟨h1,h2.symm⟩))
 have y2:=kl.cells.2.2.2.2.2.2.2.1
 obtain⟨y0,y1,-⟩:=seven_of hbx
 have NO:Hid (SendR B O w p v q b bt loc [] (.returned (.slice none 0 0)) W):=(h.stay hb0).quiet
 have ND:Hid (∀n,SendR B O w p v q b bt loc [] (.returned (.slice none 0 0)) (W.drewN n)):=fun n=>(h.stay (hbn n)).quiet
 have TU:Calls Tryz.prog 79 #[.pointer (some ⟨p,0,none⟩),.pointer (some ⟨a,0,none⟩)] W (SendR B O w p (sgS v l 5 []) q b bt loc (sgA v l 5 [])):=(cturns_any (h.on hb0) (fun u' hk=>hg u' ((zE hb0).trans hk)) hl ha).mono (fun e w' h5=>SendR.two (fun i e=> .inl e) (zE hb0) (fun _ _ e=>e) h5)
 have HY:Calls Tryz.prog 155 #[.pointer (some ⟨p,0,none⟩),.pointer (some ⟨a,0,none⟩),.int .i64 (2-1)] W (SendR B O w p (yesS v l (2-1)) q b bt loc (yesA v l (2-1))):=(cyes_any (h.on hb0) (fun u' hk=>hg u' ((zE hb0).trans hk)) hl ha (by decide)).mono (fun e w' h5=>SendR.two (fun i e=> .inl e) (zE hb0) (fun _ _ e=>e) h5)
 have HD:∀n,Calls Tryz.prog 158 #[.pointer (some ⟨p,0,none⟩),.pointer (some ⟨a,0,none⟩),.agg #[.int .i64 m0,.int .i64 2,.int .i64 m2,.int .i64 m3,.int .i64 m4,.int .i64 m5,.int .i64 m6]] (W.drewN n) (SendR B O w p (dmgS v l ⟨m0,2,m2,m3,m4,m5,m6⟩) q b bt loc (dmgA v l ⟨m0,2,m2,m3,m4,m5,m6⟩)):=fun n=>(cdmg_2 (h.on (hbn n)) (fun u' hk=>hg u' ((zE (hbn n)).trans hk)) hl ha m0 m2 m3 m4 m5 m6).mono (fun e w' h5=>SendR.two (fun i e=> .inl e) (zE (hbn n)) (fun _ _ e=>e) h5)
 have hws:∀n,(W.drewN n).heap.size =w.heap.size+1:=fun n=>by rw[hW];simp[World.drewN]
 have AB:∀n,Calls Tryz.prog 72 #[.pointer (some ⟨a,0,none⟩),.string ⟨#[97,99,107]⟩,.slice (some ⟨w.heap.size+1,0,none⟩) 1 1] ((W.drewN n).alloc (.cells #[.int .i64 2] 3)) fun e u=>e= .returned (.agg #[.string ⟨#[97,99,107]⟩,.int .i64 l.o.id,.slice (some ⟨w.heap.size+1,0,none⟩) 1 1])∧Calls Tryz.prog 157 #[.pointer (some ⟨p,0,none⟩),.pointer (some ⟨a,0,none⟩),.agg #[.string ⟨#[97,99,107]⟩,.int .i64 l.o.id,.slice (some ⟨w.heap.size+1,0,none⟩) 1 1]] u (SendR B O w p (ngS v l 7 [2]) q b bt loc (ngA v l 7 [2])):=fun n=>by
  have e1:=h.ngo hg hl ha (kk:=7) (n:=[2]) (by decide) (by decide) hnn fn 1 ((hbn n).alloc (hbn n).size _) (ints_new (W.drewN n) 2) (fun ad e=>by cases e;exact⟨(hbn n).size,by simp⟩)
  rw[hws n]at e1;exact e1
 unfold keepSA ackB
 dsimp only
 simp only[show¬((2:Int)=1) by decide,if_false]
 rw[hW]at NO ND TU HY HD AB WT DE DQ y0 y1 y2
 generalize yesS v l (2-1)=v7 at *
 generalize yesA v l (2-1)=x7 at *
 generalize sgS v l 5 []=v5 at *
 generalize sgA v l 5 []=x5 at *
 generalize ngS v l 7 [2]=v1 at *
 generalize ngA v l 7 [2]=x1 at *
 generalize dmgS v l ⟨m0,2,m2,m3,m4,m5,m6⟩=v8 at *
 generalize dmgA v l ⟨m0,2,m2,m3,m4,m5,m6⟩=x8 at *
 generalize l.o.id=oi at *
 generalize l.f.k1=kk at *
 generalize l.wt=wt at *
 generalize l.dec=de at *
 clear kl hg hl ha fn hnn hb0 hbx hbn hW h hws
 have P:=fun u=>cplace_any 2 u (by decide) (by decide)
 by_cases h7:m0=7
 ·subst h7;cases wt
  ·simp only[Bool.false_eq_true,and_false,if_false,show¬((7:Int)=8) by decide,show¬((7:Int)=11) by decide,show¬((7:Int)=17) by decide,false_and];go_enter Tryz.func97,Tryz.ntmps97
   go_wp2_with(first
    |(go_at_call 152;refine WT.mono ?_;clear WT;rintro e w' ⟨rfl,rfl⟩)
    |fail)
   refine wp_region_quiet_lit (by kernel_rfl) (by kernel_rfl) ?_;repeat(first|go_big_quiet_step (first|exact DQ _|exact PQ _ _)|quiet_step (first|exact DQ _|exact PQ _ _))
   refine wpQuiet_nil ?_;intro _ hw';obtain⟨nq,hw''⟩:=hw';subst hw''
   go_wp2
   go_ret
   exact ND.out _
  ·rw[if_pos ⟨rfl,rfl⟩];go_enter Tryz.func97,Tryz.ntmps97
   go_wp2_with(first
    |(go_at_call 152;refine WT.mono ?_;clear WT;rintro e w' ⟨rfl,rfl⟩)
    |(go_at_call 156;refine(P _).mono ?_;rintro e w' ⟨rfl,rfl⟩)
    |(go_at_call 155;refine HY.mono ?_;rintro e u3 h7;have HX:=hide h7;obtain⟨ra,rc,O9,r9,loc9,rfl,-⟩:=h7)
    |fail)
   go_ret
   exact HX.out
 by_cases h8:m0=8
 ·subst h8;cases wt
  ·simp only[Bool.false_eq_true,and_false,if_false,show¬((8:Int)=7) by decide,show¬((8:Int)=11) by decide,show¬((8:Int)=17) by decide,false_and];go_enter Tryz.func97,Tryz.ntmps97
   go_wp2_with(first
    |(go_at_call 152;refine WT.mono ?_;clear WT;rintro e w' ⟨rfl,rfl⟩)
    |fail)
   refine wp_region_quiet_lit (by kernel_rfl) (by kernel_rfl) ?_;repeat(first|go_big_quiet_step (first|exact DQ _|exact PQ _ _)|quiet_step (first|exact DQ _|exact PQ _ _))
   refine wpQuiet_nil ?_;intro _ hw';obtain⟨nq,hw''⟩:=hw';subst hw''
   go_wp2
   go_ret
   exact ND.out _
  ·rw[if_neg (fun e=>h7 e.1),if_pos ⟨rfl,rfl⟩];go_enter Tryz.func97,Tryz.ntmps97
   go_wp2_with(first
    |(go_at_call 152;refine WT.mono ?_;clear WT;rintro e w' ⟨rfl,rfl⟩)
    |(go_at_call 79;refine TU.mono ?_;rintro e u3 h7;have HX:=hide h7;obtain⟨ra,rc,O9,r9,loc9,rfl,-⟩:=h7)
    |fail)
   go_ret
   exact HX.out
 rw[if_neg (fun e=>h7 e.1),if_neg (fun e=>h8 e.1)]
 by_cases h9:m0=11
 ·subst h9;cases de
  ·simp only[Bool.false_and,Bool.false_eq_true,and_false,if_false];go_enter Tryz.func97,Tryz.ntmps97
   go_wp2_with fail
   refine wp_region_quiet_lit (by kernel_rfl) (by kernel_rfl) ?_;repeat(first|go_big_quiet_step (first|exact DQ _|exact PQ _ _)|quiet_step (first|exact DQ _|exact PQ _ _))
   refine wpQuiet_nil ?_;intro _ hw';obtain⟨nq,hw''⟩:=hw';subst hw''
   go_wp2
   go_ret
   exact ND.out _
  ·cases kk
   ·rw[if_pos ⟨rfl,rfl⟩];go_enter Tryz.func97,Tryz.ntmps97
    go_wp2_with fail
    refine wp_region_quiet_lit (by kernel_rfl) (by kernel_rfl) ?_;repeat(first|go_big_quiet_step (first|exact DQ _|exact PQ _ _)|quiet_step (first|exact DQ _|exact PQ _ _))
    refine wpQuiet_nil ?_;intro _ hw';obtain⟨nq,hw''⟩:=hw';subst hw''
    go_wp2_with(first
     |(go_at_call 72;refine(AB _).mono ?_;clear AB;rintro e u ⟨rfl,h5⟩;have N2:=h5;clear h5)
     |(go_at_call 157;refine N2.mono ?_;rintro e u3 h7;have HX:=hide h7;obtain⟨ra,rc,O9,r9,loc9,rfl,-⟩:=h7)
     |fail)
    go_ret
    exact HX.out
   ·rw[if_neg (by simp),if_neg (by simp)];go_enter Tryz.func97,Tryz.ntmps97
    go_wp2_with fail
    refine wp_region_quiet_lit (by kernel_rfl) (by kernel_rfl) ?_;repeat(first|go_big_quiet_step (first|exact DQ _|exact PQ _ _)|quiet_step (first|exact DQ _|exact PQ _ _))
    refine wpQuiet_nil ?_;intro _ hw';obtain⟨nq,hw''⟩:=hw';subst hw''
    go_wp2
    go_ret
    exact ND.out _
 rw[if_neg (fun e=>h9 e.1)]
 by_cases h1:m0=17
 ·subst h1;cases de
  ·rw[if_neg (by simp)];go_enter Tryz.func97,Tryz.ntmps97
   go_wp2_with fail
   refine wp_region_quiet_lit (by kernel_rfl) (by kernel_rfl) ?_;repeat(first|go_big_quiet_step (first|exact DQ _|exact PQ _ _)|quiet_step (first|exact DQ _|exact PQ _ _))
   refine wpQuiet_nil ?_;intro _ hw';obtain⟨nq,hw''⟩:=hw';subst hw''
   go_wp2_with(first
    |(go_at_call 67;refine(DE _).mono ?_;rintro e w' ⟨rfl,rfl⟩)
    |fail)
   go_ret
   exact ND.out _
  ·rw[if_pos ⟨rfl,rfl⟩];go_enter Tryz.func97,Tryz.ntmps97
   go_wp2_with fail
   refine wp_region_quiet_lit (by kernel_rfl) (by kernel_rfl) ?_;repeat(first|go_big_quiet_step (first|exact DQ _|exact PQ _ _)|quiet_step (first|exact DQ _|exact PQ _ _))
   refine wpQuiet_nil ?_;intro _ hw';obtain⟨nq,hw''⟩:=hw';subst hw''
   go_wp2_with(first
    |(go_at_call 67;refine(DE _).mono ?_;rintro e w' ⟨rfl,rfl⟩)
    |(go_at_call 158;refine(HD _).mono ?_;rintro e u3 h7;have HX:=hide h7;obtain⟨ra,rc,O9,r9,loc9,rfl,-⟩:=h7)
    |fail)
   go_ret
   exact HX.out
 rw[if_neg (fun e=>h1 e.1)]
 go_enter Tryz.func97,Tryz.ntmps97
 go_wp2_with fail
 refine wp_region_quiet_lit (by kernel_rfl) (by kernel_rfl) ?_
 repeat(first|go_big_quiet_step (first|exact DQ _|exact PQ _ _)|quiet_step (first|exact DQ _|exact PQ _ _))
 refine wpQuiet_nil ?_
 intro _ hw'
 obtain⟨nq,hw''⟩:=hw'
 subst hw''
 go_wp2
 go_ret
 exact ND.out _
end
section
variable {B:Nat}{O:Pt→Nat→Prop}{w:World}{p:Nat}{v:Ch}{q:Nat}{r:Value}{b bt:Nat}{loc:Int→Option Nat}{Lq:List ByteArray}
theorem CkV.dn(k:CkV B O w p v q r b bt loc Lq):Calls Tryz.prog 28 #[.pointer (some ⟨p,0,none⟩)] w fun e w'=>e= .returned (.bool v.down)∧Below w.heap.size w w':=by
 have D:=down_any k.jr
 obtain⟨-,-,c2,-,-⟩:=k.cell3
 generalize v.down=dn at *
 clear k
 go_enter Tryz.func28,Tryz.ntmps28
 go_wp2_with(go_at_call 111;refine D.mono ?_;clear D;rintro e w' ⟨rfl,hb⟩;have HB:=hide hb;clear hb)
 go_ret
 exact⟨rfl,HB.out⟩
end
section
variable {B:Nat}{O:Pt→Nat→Prop}{w:World}{p:Nat}{v:Ch}{q:Nat}{r:Value}{b bt:Nat}{loc:Int→Option Nat}
set_option maxRecDepth 100000 in
set_option maxHeartbeats 4000000 in
theorem chandle_any(h:Up B O w p v q r b bt loc)(hg:∀u,Rg.Kept (fun i _=>Eo O i) w u→Gl u)(m:Mg)(hw:(Lit.int .i64 m.id).wf =true):
 Calls Tryz.prog 24 #[.pointer (some ⟨p,0,none⟩),.agg #[.int .i64 m.k,.int .i64 m.fr,.int .i64 m.to,.int .i64 m.id,.int .i64 m.st,.int .i64 m.a,.int .i64 m.b]] w (SendR B O w p (hdSA v m).1 q b bt loc (hdSA v m).2):=by
 obtain⟨m0,m1,m2,m3,m4,m5,m6⟩:=m
 dsimp only at hw
 dsimp only
 obtain⟨W,hW⟩:∃W,W=w.alloc (.cells #[.int .i64 m0,.int .i64 m1,.int .i64 m2,.int .i64 m3,.int .i64 m4,.int .i64 m5,.int .i64 m6] 34):=⟨_,rfl⟩
 have hb0:Below w.heap.size w W:=by rw[hW];exact(zF _ _).alloc (zD _) _
 have hbx:W.heap[w.heap.size]?=some (.cells #[.int .i64 m0,.int .i64 m1,.int .i64 m2,.int .i64 m3,.int .i64 m4,.int .i64 m5,.int .i64 m6] 34 (0,0)):=by rw[hW];exact zI w _
 have DN:=(h.k.on hb0).dn
 rw[h.d,hW]at DN
 have CU:Hid (∀u,Below W.heap.size W u→(u.cell? ⟨w.heap.size,0,none⟩=some (.int .i64 m0)∧u.cell? ⟨w.heap.size,1,none⟩=some (.int .i64 m1)∧u.cell? ⟨w.heap.size,2,none⟩=some (.int .i64 m2)∧u.cell? ⟨w.heap.size,3,none⟩=some (.int .i64 m3)∧u.cell? ⟨w.heap.size,4,none⟩=some (.int .i64 m4)∧u.cell? ⟨w.heap.size,5,none⟩=some (.int .i64 m5)∧u.cell? ⟨w.heap.size,6,none⟩=some (.int .i64 m6))∧u.cell? ⟨p,3,none⟩=some (.map (some b))∧(Instr.lookup 92 (.map (some b)) (.int .i64 m3) false).run Tryz.prog u.drew= .ok (ptV (loc m3)) u.drew):=fun u hu=>by
  have hx:=bel_on' hb0 hu
  have hx1:Below w.heap.size w u.drew:=bel_on' hx (zF u.heap.size u).drew
  exact⟨seven_of ((hu.block _ (Array.getElem?_eq_some_iff.1 hbx).1).trans hbx),(h.k.on hx).cell3.2.2.2.1,(h.k.on hx1).look hw⟩
 have ST:Hid (∀u,Below W.heap.size W u→SendR B O w p v q b bt loc [] (.returned (.slice none 0 0)) u∧SendR B O w p v q b bt loc [] (.returned (.slice none 0 0)) u.drew):=fun u hu=>
  ⟨(h.stay (bel_on' hb0 hu)).quiet,(h.stay (bel_on' (bel_on' hb0 hu) (zF u.heap.size u).drew)).quiet⟩
 unfold hdSA
 rw[h.d]
 dsimp only
 by_cases ht:m2=0
 rotate_left
 ·rw[if_pos (.inr ht)];have CA:=ST
  clear h hg hbx hw hb0 ST;rw[hW]at CU CA;clear hW;go_enter Tryz.func24,Tryz.ntmps24
  go_wp2_with(first
   |(go_at_call 28;refine DN.mono ?_;clear DN;rintro e u ⟨rfl,hb⟩;obtain⟨⟨a0,a1,a2,a3,a4,a5,a6⟩,c3,hL⟩:=CU.out u hb;have HC:=hide (CA.out u hb);clear hb CU CA))
  go_ret
  exact HC.out.1
 subst ht
 rw[if_neg (by simp)]
 by_cases hk:m0=12∧keepB m1=true
 ·rw[if_pos hk];obtain⟨rfl,hk⟩:=hk;have CA:Hid (∀u,Below W.heap.size W u→Calls Tryz.prog 96 #[ptV (loc m3),.agg #[.int .i64 12,.int .i64 m1,.int .i64 0,.int .i64 m3,.int .i64 m4,.int .i64 m5,.int .i64 m6]] u.drew (SendR B O w p v q b bt loc (ansA (v.L m3) ⟨12,m1,0,m3,m4,m5,m6⟩))):=fun u hu=>by
   have hx:Below w.heap.size w u.drew:=bel_on' (bel_on' hb0 hu) (zF u.heap.size u).drew
   exact(canswer_any (h.on hx) ⟨12,m1,0,m3,m4,m5,m6⟩ (id:=m3)).mono (fun e w' h5=>SendR.two (fun i e=> .inl e) (zE hx) (fun _ _ e=>e) h5)
  generalize ansA (v.L m3) _=x1 at *;generalize ptV (loc m3)=pv at *;clear h hg hbx hw hb0 ST;rw[hW]at CU CA;clear hW;go_enter Tryz.func24,Tryz.ntmps24
  go_wp2_with(first
   |(go_at_call 28;refine DN.mono ?_;clear DN;rintro e u ⟨rfl,hb⟩;obtain⟨⟨a0,a1,a2,a3,a4,a5,a6⟩,c3,hL⟩:=CU.out u hb;have HC:=hide (CA.out u hb);clear hb CU CA))
  go_region_held3(fun w'=>w'.cell? ⟨p,3,none⟩=some (.map (some b))∧w'.cell? ⟨w.heap.size,3,none⟩=some (.int .i64 m3)) (go_keep) (fail)
  go_wp2_with(first
   |(go_at_call 95;refine(ckeep_any _ _).mono ?_;rintro e w' ⟨rfl,rfl⟩)
   |(go_at_call 96;refine HC.out.mono ?_;rintro e u3 h7;have HX:=hide h7;obtain⟨ra,rc,O9,r9,loc9,rfl,-⟩:=h7))
  go_ret
  exact HX.out
 rw[if_neg hk]
 cases hl:v.L m3 with
 |none=>
  dsimp only;have hlo:=h.k.no m3 hl
  rw[hlo,show ptV none=Value.pointer none from rfl]at CU;have CA:=ST
  clear h hg hbx hw hb0 ST hl hlo;rw[hW]at CU CA;clear hW;by_cases h0:m0=12
  ·subst h0;have hk2:keepB m1=false:=by simpa using fun e=>hk ⟨rfl,e⟩
   clear hk;go_enter Tryz.func24,Tryz.ntmps24
   go_wp2_with(first
    |(go_at_call 28;refine DN.mono ?_;clear DN;rintro e u ⟨rfl,hb⟩;obtain⟨⟨a0,a1,a2,a3,a4,a5,a6⟩,c3,hL⟩:=CU.out u hb;have HC:=hide (CA.out u hb);clear hb CU CA))
   go_region_held3(fun w'=>w'.cell? ⟨p,3,none⟩=some (.map (some b))∧w'.cell? ⟨w.heap.size,3,none⟩=some (.int .i64 m3)) (go_keep) (fail)
   go_wp2_with(first
    |(go_at_call 95;refine(ckeep_any _ _).mono ?_;rintro e w' ⟨rfl,rfl⟩))
   go_ret
   exact HC.out.2
  ·clear hk;go_enter Tryz.func24,Tryz.ntmps24
   go_wp2_with(first
    |(go_at_call 28;refine DN.mono ?_;clear DN;rintro e u ⟨rfl,hb⟩;obtain⟨⟨a0,a1,a2,a3,a4,a5,a6⟩,c3,hL⟩:=CU.out u hb;have HC:=hide (CA.out u hb);clear hb CU CA))
   go_region_held3(fun w'=>w'.cell? ⟨p,3,none⟩=some (.map (some b))∧w'.cell? ⟨w.heap.size,3,none⟩=some (.int .i64 m3)) (go_keep) (fail)
   go_wp2
   go_ret
   exact HC.out.2
 |some l=>
  dsimp only;obtain⟨a,ha,_⟩:=h.k.ld m3 l hl;rw[ha,show ptV (some a)=Value.pointer (some ⟨a,0,none⟩)from rfl]at CU;cases hkb:keepB m1;rotate_left
  ·rw[if_pos rfl];have h0:¬m0=12:=fun e=>hk ⟨e,hkb⟩
   have CA:Hid (∀u,Below W.heap.size W u→Calls Tryz.prog 97 #[.pointer (some ⟨p,0,none⟩),.pointer (some ⟨a,0,none⟩),.agg #[.int .i64 m0,.int .i64 m1,.int .i64 0,.int .i64 m3,.int .i64 m4,.int .i64 m5,.int .i64 m6]] u.drew (SendR B O w p (keepSA v l ⟨m0,m1,0,m3,m4,m5,m6⟩).1 q b bt loc (keepSA v l ⟨m0,m1,0,m3,m4,m5,m6⟩).2)):=fun u hu=>by
    have hx:Below w.heap.size w u.drew:=bel_on' (bel_on' hb0 hu) (zF u.heap.size u).drew
    have hm1:m1=1∨m1=2:=by unfold keepB at hkb;simpa using hkb
    rcases hm1 with rfl|rfl
    ·exact(chear_1 (h.on hx) (fun u' hk=>hg u' ((zE hx).trans hk)) hl ha m0 0 m3 m4 m5 m6).mono (fun e w' h5=>SendR.two (fun i e=> .inl e) (zE hx) (fun _ _ e=>e) h5)
    ·exact(chear_2 (h.on hx) (fun u' hk=>hg u' ((zE hx).trans hk)) hl ha m0 0 m3 m4 m5 m6).mono (fun e w' h5=>SendR.two (fun i e=> .inl e) (zE hx) (fun _ _ e=>e) h5)
   generalize keepSA v l _=x1 at *;clear h hg hbx hw hb0 ST hl ha hk;rw[hW]at CU CA;clear hW;go_enter Tryz.func24,Tryz.ntmps24
   go_wp2_with(first
    |(go_at_call 28;refine DN.mono ?_;clear DN;rintro e u ⟨rfl,hb⟩;obtain⟨⟨a0,a1,a2,a3,a4,a5,a6⟩,c3,hL⟩:=CU.out u hb;have HC:=hide (CA.out u hb);clear hb CU CA))
   go_region_held3(fun w'=>w'.cell? ⟨p,3,none⟩=some (.map (some b))∧w'.cell? ⟨w.heap.size,3,none⟩=some (.int .i64 m3)) (go_keep) (fail)
   go_wp2_with(first
    |(go_at_call 95;refine(ckeep_any _ _).mono ?_;rintro e w' ⟨rfl,rfl⟩)
    |(go_at_call 97;refine HC.out.mono ?_;rintro e u3 h7;have HX:=hide h7;obtain⟨ra,rc,O9,r9,loc9,rfl,-⟩:=h7))
   go_ret
   exact HX.out
  rw[if_neg (by decide)];by_cases h3:m1=3
  ·subst h3;rw[if_pos rfl];have CA:Hid (∀u,Below W.heap.size W u→Calls Tryz.prog 98 #[.pointer (some ⟨p,0,none⟩),.pointer (some ⟨a,0,none⟩),.agg #[.int .i64 m0,.int .i64 3,.int .i64 0,.int .i64 m3,.int .i64 m4,.int .i64 m5,.int .i64 m6]] u.drew (SendR B O w p (shipSA v l ⟨m0,3,0,m3,m4,m5,m6⟩).1 q b bt loc (shipSA v l ⟨m0,3,0,m3,m4,m5,m6⟩).2)):=fun u hu=>by
    have hx:Below w.heap.size w u.drew:=bel_on' (bel_on' hb0 hu) (zF u.heap.size u).drew
    exact(cship_any (h.on hx) (fun u' hk=>hg u' ((zE hx).trans hk)) hl ha ⟨m0,3,0,m3,m4,m5,m6⟩).mono (fun e w' h5=>SendR.two (fun i e=> .inl e) (zE hx) (fun _ _ e=>e) h5)
   generalize shipSA v l _=x1 at *;clear h hg hbx hw hb0 ST hl ha hk;rw[hW]at CU CA;clear hW;by_cases h0:m0=12
   ·subst h0;go_enter Tryz.func24,Tryz.ntmps24
    go_wp2_with(first
     |(go_at_call 28;refine DN.mono ?_;clear DN;rintro e u ⟨rfl,hb⟩;obtain⟨⟨a0,a1,a2,a3,a4,a5,a6⟩,c3,hL⟩:=CU.out u hb;have HC:=hide (CA.out u hb);clear hb CU CA))
    go_region_held3(fun w'=>w'.cell? ⟨p,3,none⟩=some (.map (some b))∧w'.cell? ⟨w.heap.size,3,none⟩=some (.int .i64 m3)) (go_keep) (fail)
    go_wp2_with(first
     |(go_at_call 95;refine(ckeep_any _ _).mono ?_;rintro e w' ⟨rfl,rfl⟩)
     |(go_at_call 98;refine HC.out.mono ?_;rintro e u3 h7;have HX:=hide h7;obtain⟨ra,rc,O9,r9,loc9,rfl,-⟩:=h7))
    go_ret
    exact HX.out
   ·skip
    go_enter Tryz.func24,Tryz.ntmps24
    go_wp2_with(first
     |(go_at_call 28;refine DN.mono ?_;clear DN;rintro e u ⟨rfl,hb⟩;obtain⟨⟨a0,a1,a2,a3,a4,a5,a6⟩,c3,hL⟩:=CU.out u hb;have HC:=hide (CA.out u hb);clear hb CU CA))
    go_region_held3(fun w'=>w'.cell? ⟨p,3,none⟩=some (.map (some b))∧w'.cell? ⟨w.heap.size,3,none⟩=some (.int .i64 m3)) (go_keep) (fail)
    go_wp2_with(first
     |(go_at_call 95;refine(ckeep_any _ _).mono ?_;rintro e w' ⟨rfl,rfl⟩)
     |(go_at_call 98;refine HC.out.mono ?_;rintro e u3 h7;have HX:=hide h7;obtain⟨ra,rc,O9,r9,loc9,rfl,-⟩:=h7))
    go_ret
    exact HX.out
  rw[if_neg h3];have SE:∀u,Below W.heap.size W u→Calls Tryz.prog 99 #[.pointer (some ⟨a,0,none⟩),.agg #[.int .i64 m0,.int .i64 m1,.int .i64 0,.int .i64 m3,.int .i64 m4,.int .i64 m5,.int .i64 m6]] u.drew fun e w'=>e= .returned (.bool (srvB l ⟨m0,m1,0,m3,m4,m5,m6⟩))∧Below u.drew.heap.size u.drew w':=fun u hu=>by
   have hx:Below w.heap.size w u.drew:=bel_on' (bel_on' hb0 hu) (zF u.heap.size u).drew
   obtain⟨sa,sc,da,dc,ua,uc,tp,kl⟩:=(h.on hx).led hl ha;exact lserves_any kl ⟨m0,m1,0,m3,m4,m5,m6⟩
  have CB:∀u u2,Below W.heap.size W u→Below u.drew.heap.size u.drew u2→(u2.cell? ⟨w.heap.size,0,none⟩=some (.int .i64 m0)∧u2.cell? ⟨w.heap.size,1,none⟩=some (.int .i64 m1)∧u2.cell? ⟨w.heap.size,2,none⟩=some (.int .i64 0)∧u2.cell? ⟨w.heap.size,3,none⟩=some (.int .i64 m3)∧u2.cell? ⟨w.heap.size,4,none⟩=some (.int .i64 m4)∧u2.cell? ⟨w.heap.size,5,none⟩=some (.int .i64 m5)∧u2.cell? ⟨w.heap.size,6,none⟩=some (.int .i64 m6))∧Below w.heap.size w u2:=fun u u2 hu h2=>by
   have e1:Below W.heap.size W u2:=bel_on' (bel_on' hu (zF u.heap.size u).drew) h2
   exact⟨seven_of ((e1.block _ (Array.getElem?_eq_some_iff.1 hbx).1).trans hbx),bel_on' hb0 e1⟩
  cases hs:srvB l ⟨m0,m1,0,m3,m4,m5,m6⟩
  ·rw[if_neg (by decide)];have CA:Hid (∀u,Below W.heap.size W u→Calls Tryz.prog 99 #[.pointer (some ⟨a,0,none⟩),.agg #[.int .i64 m0,.int .i64 m1,.int .i64 0,.int .i64 m3,.int .i64 m4,.int .i64 m5,.int .i64 m6]] u.drew (fun e w'=>e= .returned (.bool false)∧Below u.drew.heap.size u.drew w')∧∀u2,Below u.drew.heap.size u.drew u2→(u2.cell? ⟨w.heap.size,0,none⟩=some (.int .i64 m0)∧u2.cell? ⟨w.heap.size,1,none⟩=some (.int .i64 m1)∧u2.cell? ⟨w.heap.size,2,none⟩=some (.int .i64 0)∧u2.cell? ⟨w.heap.size,3,none⟩=some (.int .i64 m3)∧u2.cell? ⟨w.heap.size,4,none⟩=some (.int .i64 m4)∧u2.cell? ⟨w.heap.size,5,none⟩=some (.int .i64 m5)∧u2.cell? ⟨w.heap.size,6,none⟩=some (.int .i64 m6))∧SendR B O w p v q b bt loc [] (.returned (.slice none 0 0)) u2):=fun u hu=>by
    have:=SE u hu
    rw[hs]at this;exact⟨this,fun u2 h2=>⟨(CB u u2 hu h2).1,(h.stay (CB u u2 hu h2).2).quiet⟩⟩
   clear h hg hbx hw hb0 ST hl ha hk SE CB hs;rw[hW]at CU CA;clear hW;by_cases h0:m0=12
   ·subst h0;go_enter Tryz.func24,Tryz.ntmps24
    go_wp2_with(first
     |(go_at_call 28;refine DN.mono ?_;clear DN;rintro e u ⟨rfl,hb⟩;obtain⟨⟨a0,a1,a2,a3,a4,a5,a6⟩,c3,hL⟩:=CU.out u hb;have HC:=hide (CA.out u hb);clear hb CU CA))
    go_region_held3(fun w'=>w'.cell? ⟨p,3,none⟩=some (.map (some b))∧w'.cell? ⟨w.heap.size,3,none⟩=some (.int .i64 m3)) (go_keep) (fail)
    go_wp2_with(first
     |(go_at_call 95;refine(ckeep_any _ _).mono ?_;rintro e w' ⟨rfl,rfl⟩)
     |(go_at_call 99;refine HC.out.1.mono ?_;rintro e u2 ⟨rfl,hb2⟩;have HD:=hide (HC.out.2 u2 hb2);clear a0 a1 a2 a3 a4 a5 a6 hb2;obtain⟨a0,a1,a2,a3,a4,a5,a6⟩:=HD.out.1))
    go_ret
    exact HD.out.2
   ·skip
    go_enter Tryz.func24,Tryz.ntmps24
    go_wp2_with(first
     |(go_at_call 28;refine DN.mono ?_;clear DN;rintro e u ⟨rfl,hb⟩;obtain⟨⟨a0,a1,a2,a3,a4,a5,a6⟩,c3,hL⟩:=CU.out u hb;have HC:=hide (CA.out u hb);clear hb CU CA))
    go_region_held3(fun w'=>w'.cell? ⟨p,3,none⟩=some (.map (some b))∧w'.cell? ⟨w.heap.size,3,none⟩=some (.int .i64 m3)) (go_keep) (fail)
    go_wp2_with(first
     |(go_at_call 95;refine(ckeep_any _ _).mono ?_;rintro e w' ⟨rfl,rfl⟩)
     |(go_at_call 99;refine HC.out.1.mono ?_;rintro e u2 ⟨rfl,hb2⟩;have HD:=hide (HC.out.2 u2 hb2);clear a0 a1 a2 a3 a4 a5 a6 hb2;obtain⟨a0,a1,a2,a3,a4,a5,a6⟩:=HD.out.1))
    go_ret
    exact HD.out.2
  ·rw[if_pos rfl];have CA:Hid (∀u,Below W.heap.size W u→Calls Tryz.prog 99 #[.pointer (some ⟨a,0,none⟩),.agg #[.int .i64 m0,.int .i64 m1,.int .i64 0,.int .i64 m3,.int .i64 m4,.int .i64 m5,.int .i64 m6]] u.drew (fun e w'=>e= .returned (.bool true)∧Below u.drew.heap.size u.drew w')∧∀u2,Below u.drew.heap.size u.drew u2→(u2.cell? ⟨w.heap.size,0,none⟩=some (.int .i64 m0)∧u2.cell? ⟨w.heap.size,1,none⟩=some (.int .i64 m1)∧u2.cell? ⟨w.heap.size,2,none⟩=some (.int .i64 0)∧u2.cell? ⟨w.heap.size,3,none⟩=some (.int .i64 m3)∧u2.cell? ⟨w.heap.size,4,none⟩=some (.int .i64 m4)∧u2.cell? ⟨w.heap.size,5,none⟩=some (.int .i64 m5)∧u2.cell? ⟨w.heap.size,6,none⟩=some (.int .i64 m6))∧Calls Tryz.prog 100 #[.pointer (some ⟨p,0,none⟩),.pointer (some ⟨a,0,none⟩),.agg #[.int .i64 m0,.int .i64 m1,.int .i64 0,.int .i64 m3,.int .i64 m4,.int .i64 m5,.int .i64 m6]] u2 (SendR B O w p (servSA v l ⟨m0,m1,0,m3,m4,m5,m6⟩).1 q b bt loc (servSA v l ⟨m0,m1,0,m3,m4,m5,m6⟩).2)):=fun u hu=>by
    have e1:=SE u hu
    rw[hs]at e1;refine⟨e1,fun u2 h2=>?_⟩;have hx:=(CB u u2 hu h2).2
    exact⟨(CB u u2 hu h2).1,(cserv_any (h.on hx) (fun u' hk=>hg u' ((zE hx).trans hk)) hl ha ⟨m0,m1,0,m3,m4,m5,m6⟩ hs).mono (fun e w' h5=>SendR.two (fun i e=> .inl e) (zE hx) (fun _ _ e=>e) h5)⟩
   generalize servSA v l _=x1 at *;clear h hg hbx hw hb0 ST hl ha hk SE CB hs;rw[hW]at CU CA;clear hW;by_cases h0:m0=12
   ·subst h0;go_enter Tryz.func24,Tryz.ntmps24
    go_wp2_with(first
     |(go_at_call 28;refine DN.mono ?_;clear DN;rintro e u ⟨rfl,hb⟩;obtain⟨⟨a0,a1,a2,a3,a4,a5,a6⟩,c3,hL⟩:=CU.out u hb;have HC:=hide (CA.out u hb);clear hb CU CA))
    go_region_held3(fun w'=>w'.cell? ⟨p,3,none⟩=some (.map (some b))∧w'.cell? ⟨w.heap.size,3,none⟩=some (.int .i64 m3)) (go_keep) (fail)
    go_wp2_with(first
     |(go_at_call 95;refine(ckeep_any _ _).mono ?_;rintro e w' ⟨rfl,rfl⟩)
     |(go_at_call 99;refine HC.out.1.mono ?_;rintro e u2 ⟨rfl,hb2⟩;have HD:=hide (HC.out.2 u2 hb2);clear a0 a1 a2 a3 a4 a5 a6 hb2;obtain⟨a0,a1,a2,a3,a4,a5,a6⟩:=HD.out.1)
     |(go_at_call 100;refine HD.out.2.mono ?_;rintro e u3 h7;have HX:=hide h7;obtain⟨ra,rc,O9,r9,loc9,rfl,-⟩:=h7))
    go_ret
    exact HX.out
   ·skip
    go_enter Tryz.func24,Tryz.ntmps24
    go_wp2_with(first
     |(go_at_call 28;refine DN.mono ?_;clear DN;rintro e u ⟨rfl,hb⟩;obtain⟨⟨a0,a1,a2,a3,a4,a5,a6⟩,c3,hL⟩:=CU.out u hb;have HC:=hide (CA.out u hb);clear hb CU CA))
    go_region_held3(fun w'=>w'.cell? ⟨p,3,none⟩=some (.map (some b))∧w'.cell? ⟨w.heap.size,3,none⟩=some (.int .i64 m3)) (go_keep) (fail)
    go_wp2_with(first
     |(go_at_call 95;refine(ckeep_any _ _).mono ?_;rintro e w' ⟨rfl,rfl⟩)
     |(go_at_call 99;refine HC.out.1.mono ?_;rintro e u2 ⟨rfl,hb2⟩;have HD:=hide (HC.out.2 u2 hb2);clear a0 a1 a2 a3 a4 a5 a6 hb2;obtain⟨a0,a1,a2,a3,a4,a5,a6⟩:=HD.out.1)
     |(go_at_call 100;refine HD.out.2.mono ?_;rintro e u3 h7;have HX:=hide h7;obtain⟨ra,rc,O9,r9,loc9,rfl,-⟩:=h7))
    go_ret
    exact HX.out
end
end Go.Proofs.YthfgmpooehkhgaaGreatDoor
namespace Go.Proofs.YthfgmpooehkhgaaGreatDoor
open Go.RowKit Sg Bl
def mostC(n:Int):Int:=min (max n 1) 64
def newCh(orders room tries:Int):Ch:=⟨mostC orders,roomV room,clampT tries,[],0,false,noL,fun _=>0⟩
theorem newCh_good(orders room tries:Int):GoodCh (newCh orders room tries):=by
 have h1:=roomV_in room
 refine⟨?_,?_,h1.1,h1.2,?_,Nat.le_refl 0,trivial,?_,fun _=>rfl,noL_good,fun id h=>absurd rfl h⟩
 ·show 1≤min (max orders 1) 64
  omega
 ·show min (max orders 1) 64≤64
  omega
 ·show((0:Nat):Int)≤roomV room
  omega
 ·intro h;cases h
def ids9:List Int:=(List.range 999).map (fun i:Nat=>(i:Int)+1)
def idsC(L:Int→Option Lk):List Int:=ids9.filter (fun id=>(L id).isSome)
def way1(L:Int→Option Lk)(id:Int):Bool:=match L id with
 |some l=> !overF l.o l.f
 |none=>false
def wayN(L:Int→Option Lk):Nat:=((idsC L).filter (way1 L)).length
theorem ids9_mem{x:Int}:x∈ids9↔1≤x∧x≤999:=by
 unfold ids9
 rw[List.mem_map]
 constructor
 ·rintro⟨i,h1,rfl⟩;have:=List.mem_range.1 h1
  omega
 ·intro h;exact⟨(x-1).toNat,List.mem_range.2 (by omega),by omega⟩
theorem idsC_mem{L:Int→Option Lk}(g:GoodM L){x:Int}:x∈idsC L↔(L x).isSome =true:=by
 unfold idsC
 rw[List.mem_filter,ids9_mem]
 constructor
 ·exact fun h=>h.2
 ·intro h;obtain⟨l,hl⟩:=Option.isSome_iff_exists.1 h;exact⟨⟨(g x l hl).i1,(g x l hl).i2⟩,h⟩
theorem idsC_len(L:Int→Option Lk):(idsC L).length ≤999:=by
 unfold idsC
 refine Nat.le_trans (List.length_filter_le _ _) ?_
 simp[ids9]
theorem idsC_nodup(L:Int→Option Lk):(idsC L).Nodup :=by
 unfold idsC ids9
 refine List.Pairwise.filter _ ?_
 rw[List.pairwise_map]
 exact List.nodup_range.imp (fun h e=>h (by omega))
def stE(id:Int):Nat→List (Int×Int)→List Et
 |_,[]=>[]
 |i,s::r=>⟨1,id,[(i:Int),s.1,s.2]⟩::stE id (i+1) r
def begT(o:Od):List Et:=⟨0,o.id,[o.item,o.qty,o.client,o.price]⟩::stE o.id 0 o.steps
def begL(o:Od):Lk:=⟨o,⟨List.replicate o.steps.length false,List.replicate o.steps.length false,false,false,false,false,false,false,false,false,false⟩,none⟩
theorem stE_len(id:Int):∀(l:List (Int×Int))(i:Nat),(stE id i l).length =l.length
 | [],_=>rfl
 |_::r,i=>by show(stE id (i+1) r).length +1=r.length+1;rw[stE_len id r]
theorem begT_len(o:Od):(begT o).length =o.steps.length+1:=by show(stE o.id 0 o.steps).length +1=_;rw[stE_len]
theorem updO_twice{α:Type}(f:Int→Option α)(k:Int)(x y:Option α):Gd.updO (Gd.updO f k x) k y=Gd.updO f k y:=by
 funext z
 by_cases h:z=k
 ·subst h;rw[Gd.updO_same,Gd.updO_same]
 ·rw[Gd.updO_other _ _ h,Gd.updO_other _ _ h,Gd.updO_other _ _ h]
theorem updO_id{α:Type}(f:Int→Option α)(k:Int){x:Option α}(h:f k=x):Gd.updO f k x=f:=by
 funext z
 by_cases e:z=k
 ·subst e;rw[Gd.updO_same,h]
 ·rw[Gd.updO_other _ _ e]
def moreL(l:Lk)(r:List (Int×Int)):Lk:=⟨{l.o with steps:=l.o.steps++r},{l.f with dn:=l.f.dn++List.replicate r.length false,un:=l.f.un++List.replicate r.length false},l.y⟩
theorem moreL_nil(l:Lk):moreL l []=l:=by
 obtain⟨o,f,y⟩:=l
 simp[moreL]
theorem moreL_cons(l:Lk)(s:Int×Int)(r:List (Int×Int)):moreL (moreL l [s]) r=moreL l (s::r):=by
 obtain⟨o,f,y⟩:=l
 simp[moreL,List.replicate_succ]
theorem fol_step{L:Int→Option Lk}{id:Int}{l:Lk}(h:L id=some l)(i:Int)(s:Int×Int):fol L ⟨1,id,[i,s.1,s.2]⟩=Gd.updO L id (some (moreL l [s])):=by
 unfold fol
 rw[if_neg (fun e=>by cases e),h]
 rfl
theorem fol_steps(id:Int):∀(r:List (Int×Int))(i:Nat)(L:Int→Option Lk)(l:Lk),L id=some l→(stE id i r).foldl fol L=Gd.updO L id (some (moreL l r))
 | [],_,L,l,h=>by
   show L=_
   rw[moreL_nil,updO_id _ _ h]
 |s::r,i,L,l,h=>by
  show(stE id (i+1) r).foldl fol (fol L ⟨1,id,[(i:Int),s.1,s.2]⟩)=_
  rw[fol_step h,fol_steps id r (i+1) _ (moreL l [s]) (Gd.updO_same _ _ _),updO_twice,moreL_cons]
theorem fol_begin{L:Int→Option Lk}{o:Od}(h:L o.id=none):(begT o).foldl fol L=Gd.updO L o.id (some (begL o)):=by
 show(stE o.id 0 o.steps).foldl fol (fol L ⟨0,o.id,[o.item,o.qty,o.client,o.price]⟩)=_
 have e:fol L ⟨0,o.id,[o.item,o.qty,o.client,o.price]⟩=Gd.updO L o.id (some (newL o.id [o.item,o.qty,o.client,o.price])):=by unfold fol;rw[if_pos rfl]
 rw[e,fol_steps o.id o.steps 0 _ _ (Gd.updO_same _ _ _),updO_twice]
 have e2:moreL (newL o.id [o.item,o.qty,o.client,o.price]) o.steps=begL o:=by
  obtain⟨a,b,c,d,e,f⟩:=o;simp[moreL,newL,begL,fa00]
 rw[e2]
theorem mayO_of{o:Od}(h:mayO o=true):(1≤o.id∧o.id≤999)∧(0≤o.item∧o.item<8)∧(0≤o.client∧o.client<8)∧(1≤o.qty∧o.qty≤1000000000)∧(1≤o.price∧o.price≤1000000000)∧o.steps.length≤3∧∀i,i<o.steps.length→okAt o.steps i=true:=by
 unfold mayO oidB plcB amtB stepsB okTo at h
 simp only[Bool.and_eq_true,decide_eq_true_eq,List.all_eq_true,List.mem_range]at h
 obtain⟨⟨⟨⟨⟨h1,h2⟩,h3⟩,h4⟩,h5⟩,h6,h7⟩:=h
 exact⟨h1,h2,h3,h4,h5,h6,h7⟩
theorem okAt_of{l:List (Int×Int)}{i:Nat}(h:okAt l i=true):(4≤(stAt l i).1 ∧(stAt l i).1 ≤6)∧1≤(stAt l i).2 ∧(stAt l i).2 ≤1000000000:=by
 unfold okAt svcB amtB at h
 simp only[Bool.and_eq_true,decide_eq_true_eq]at h
 exact⟨h.1.1,h.1.2⟩
theorem fits_steps(id:Int)(h1:1≤id)(h2:id≤999):∀(r:List (Int×Int))(i:Nat)(L:Int→Option Lk)(l:Lk),L id=some l→l.o.steps.length=i→i+r.length≤3→(∀s∈r,(4≤s.1∧s.1≤6)∧1≤s.2∧s.2≤1000000000)→Fits22 L (stE id i r)
 | [],_,_,_,_,_,_,_=>trivial
 |s::r,i,L,l,h,hl,hn,hs=>by
  have hs0:=hs s (by simp)
  have hn':i+(r.length+1)≤3:=hn
  refine⟨⟨⟨h1,h2,(show(1:Nat)≤10 by decide),?_⟩,(fun e=>by cases e),fun _=>⟨l,h,⟨fun _=>⟨by omega,_,_,_,rfl⟩,(fun e=>by cases e),(fun e=>by cases e),(fun e=>by rcases e with e|e<;>cases e),fun e=>by rcases e with e|e|e|e|e<;>cases e⟩⟩⟩,?_⟩
  ·show numsB [(i:Int),s.1,s.2]=true
   unfold numsB;simp[numB];omega
  ·rw[fol_step h];refine fits_steps id h1 h2 r (i+1) _ (moreL l [s]) (Gd.updO_same _ _ _) ?_ (by omega) (fun x hx=>hs x (by simp[hx]));show(l.o.steps++ [s]).length =i+1
   rw[List.length_append,hl];rfl
theorem fits_begin{L:Int→Option Lk}{o:Od}(hm:mayO o=true)(h:L o.id=none):Fits22 L (begT o):=by
 obtain⟨h1,h2,h3,h4,h5,h6,h7⟩:=mayO_of hm
 refine⟨⟨⟨h1.1,h1.2,(show(0:Nat)≤10 by decide),?_⟩,fun _=>⟨h,_,_,_,_,rfl⟩,fun e=>absurd rfl e⟩,?_⟩
 ·show numsB [o.item,o.qty,o.client,o.price]=true
  unfold numsB;simp[numB];omega
 ·have e:fol L ⟨0,o.id,[o.item,o.qty,o.client,o.price]⟩=Gd.updO L o.id (some (newL o.id [o.item,o.qty,o.client,o.price])):=by unfold fol;rw[if_pos rfl]
  show Fits22 (fol L ⟨0,o.id,[o.item,o.qty,o.client,o.price]⟩) (stE o.id 0 o.steps)
  rw[e];refine fits_steps o.id h1.1 h1.2 o.steps 0 _ _ (Gd.updO_same _ _ _) rfl (by omega) (fun s hs=>?_);obtain⟨i,hi,rfl⟩:=List.mem_iff_getElem.1 hs;have:=okAt_of (h7 i hi)
  have e2:stAt o.steps i=o.steps[i]:=by unfold stAt;simp[List.getD,hi]
  rw[e2]at this;exact this
def begE(v:Ch)(o:Od):Int:=if v.down=true then 10 else if mayO o=false then 1 else if(v.L o.id).isSome =true then 8 else if v.most≤(wayN v.L:Int)then 5 else noE v (o.steps.length+1)
def begV(v:Ch)(o:Od):Ch:=setH (sureC v (begT o)) (hangH v.t v.h o.id)
def begS(v:Ch)(o:Od):Ch:=if begE v o=0 then goS (begV v o) (begL o)else v
def begA(v:Ch)(o:Od):List Mg:=if begE v o=0 then goA (begV v o) (begL o)else[]
theorem begE_ok{v:Ch}{o:Od}(h:begE v o=0):v.down=false∧mayO o=true∧v.L o.id=none∧(wayN v.L:Int)<v.most∧roomC v (o.steps.length+1)=true:=by
 unfold begE at h
 split at h
 ·cases h
 rename_i h1
 split at h
 ·cases h
 rename_i h2
 split at h
 ·cases h
 rename_i h3
 split at h
 ·cases h
 rename_i h4
 refine⟨by simpa using h1,by simpa using h2,by simpa using h3,by omega,?_⟩
 unfold noE at h
 cases hr:roomC v (o.steps.length+1)
 ·rw[hr,if_neg (by decide)]at h;cases h
 ·rfl
theorem hang_some{h:Int→Int}{t id x:Int}(hx:hangH t h id x≠0):h x≠0∨x=id:=by
 unfold hangH at hx
 split at hx
 ·by_cases e:x=id
  ·exact .inr e
  ·rw[Bl.upd_other _ _ e]at hx;exact .inl hx
 ·exact .inl hx
theorem begV_good{v:Ch}(g:GoodCh v){o:Od}(h:begE v o=0):GoodCh (begV v o)∧(begV v o).down =false∧(begV v o).L o.id=some (begL o)∧(begV v o).L =Gd.updO v.L o.id (some (begL o)):=by
 obtain⟨h1,h2,h3,h4,h5⟩:=begE_ok h
 have f:=fits_begin h2 h3
 have hl:(begV v o).L =Gd.updO v.L o.id (some (begL o)):=fol_begin h3
 rw[←begT_len]at h5
 have g1:=(addC_good g h1 f h5).2
 refine⟨setH_good g1 (fun e=>?_) (fun id hx=>?_),h1,by rw[hl];exact Gd.updO_same _ _ _,hl⟩
 ·rw[show(sureC v (begT o)).down =v.down from rfl,h1]at e;cases e
 ·have e1:(sureC v (begT o)).L =Gd.updO v.L o.id (some (begL o)):=hl
  rw[e1];rcases hang_some hx with h|h
  ·obtain⟨l,hl⟩:=g.bl id h;by_cases e:id=o.id
   ·subst e;exact⟨_,Gd.updO_same _ _ _⟩
   ·exact⟨l,by rw[Gd.updO_other _ _ e];exact hl⟩
  ·subst h;exact⟨_,Gd.updO_same _ _ _⟩
def canE(v:Ch)(id:Int):Int:=if v.down=true then 10 else match v.L id with
 |none=>6
 |some l=>if l.dec=true then 7 else noE v 1
def canS(v:Ch)(id:Int):Ch:=if v.down=true then v else match v.L id with
 |none=>v
 |some l=>if l.dec=true then v else sgS v l 5 []
def canA(v:Ch)(id:Int):List Mg:=if v.down=true then[]else match v.L id with
 |none=>[]
 |some l=>if l.dec=true then[]else sgA v l 5 []
def accE(v:Ch)(id:Int):Int:=if v.down=true then 10 else match v.L id with
 |none=>6
 |some l=>if stF l.o l.f=7 then noE v 1 else 7
def accV(v:Ch)(l:Lk):Ch:=sureC v [⟨10,l.o.id,[]⟩]
def accS(v:Ch)(id:Int):Ch:=if v.down=true then v else match v.L id with
 |none=>v
 |some l=>if stF l.o l.f=7∧roomC v 1=true then(if overF l.o (folL l 10 []).f =true then setH (accV v l) (cutH v.h id)else accV v l)else v
def rngS(v:Ch)(id:Int):Ch:=if v.h id=0 then v else match v.L id with
 |none=>v
 |some l=>if oftB v.h id=true then(if l.dec=true then sendS (agnC (setH v (ringH v.h id)) id) l else sgS (setH v (ringH v.h id)) l 5 [])else sendS (setH v (ringH v.h id)) l
def rngA(v:Ch)(id:Int):List Mg:=if v.h id=0 then[]else match v.L id with
 |none=>[]
 |some l=>if oftB v.h id=true then(if l.dec=true then sendA (agnC (setH v (ringH v.h id)) id) l else sgA (setH v (ringH v.h id)) l 5 [])else sendA (setH v (ringH v.h id)) l
def stC(v:Ch)(id:Int):Int:=match v.L id with
 |none=>0
 |some l=>stF l.o l.f
end Go.Proofs.YthfgmpooehkhgaaGreatDoor
namespace Go.Proofs.YthfgmpooehkhgaaGreatDoor
open Go.ChangeShapes Go.WideShapes Go.ChangeAt Go.RowKit Go.Maps Sg Bl
open Nat renaming le_refl→zD,lt_of_lt_of_le→zJ
open Rg.Kept renaming of_below→zE
open Below renaming refl→zF
open Go.World renaming alloc_heap_new→zI
theorem lstate_nil(w:World):Calls Tryz.prog 71 #[.pointer none] w fun e w'=>e= .returned (.int .i64 0)∧w=w':=by
 go_enter Tryz.func71,Tryz.ntmps71
 go_wp2
 go_ret
 exact⟨rfl,rfl⟩
section
variable {B:Nat}{O:Pt→Nat→Prop}{w:World}{p:Nat}{v:Ch}{q:Nat}{r:Value}{b bt:Nat}{loc:Int→Option Nat}{Lq:List ByteArray}
theorem CkV.at_(k:CkV B O w p v q r b bt loc Lq)(id:Int):(v.L id=none∧loc id=none)∨∃l a,v.L id=some l∧loc id=some a∧Ld B (O (.ld id)) w a l:=by
 cases hl:v.L id with
 |none=>exact .inl ⟨rfl,k.no id hl⟩
 |some l=>
  obtain⟨a,h1,h2⟩:=k.ld id l hl;exact .inr ⟨l,a,rfl,h1,h2⟩
theorem CkV.state(k:CkV B O w p v q r b bt loc Lq){id:Int}(hw:(Lit.int .i64 id).wf =true):
 Calls Tryz.prog 49 #[.pointer (some ⟨p,0,none⟩),.int .i64 id] w fun e w'=>e= .returned (.int .i64 (stC v id))∧Below w.heap.size w w':=by
 have hL:=k.look hw
 obtain⟨-,-,-,c3,-⟩:=k.cell3
 unfold stC
 rcases k.at_ id with⟨h1,h2⟩|⟨l,a,h1,h2,sa,sc,da,dc,ua,uc,tp,kl⟩
 ·rw[h1];rw[h2,show ptV none=Value.pointer none from rfl]at hL;clear k h1 h2;go_enter Tryz.func49,Tryz.ntmps49
  go_wp2_with(go_at_call 71;refine(lstate_nil _).mono ?_;rintro e w' ⟨rfl,rfl⟩)
  go_ret
  exact⟨rfl,zF _ _⟩
 ·rw[h1];rw[h2,show ptV (some a)=Value.pointer (some ⟨a,0,none⟩)from rfl]at hL;have ST:=lstate_any kl
  dsimp only;generalize stF l.o l.f=s at *;clear k h1 h2 kl;go_enter Tryz.func49,Tryz.ntmps49
  go_wp2_with(go_at_call 71;refine ST.mono ?_;clear ST;rintro e w' ⟨rfl,hb⟩;have HB:=hide hb;clear hb)
  go_ret
  exact⟨rfl,HB.out⟩
end
section
variable {B:Nat}{O:Pt→Nat→Prop}{w:World}{p:Nat}{v:Ch}{q:Nat}{r:Value}{b bt:Nat}{loc:Int→Option Nat}
set_option maxRecDepth 100000 in
theorem cfind_any(h:Up B O w p v q r b bt loc){id:Int}(hw:(Lit.int .i64 id).wf =true):
 Calls Tryz.prog 66 #[.pointer (some ⟨p,0,none⟩),.int .i64 id] w fun e w'=>e= .returned (.tuple #[ptV (loc id),.int .i64 (if(v.L id).isSome =true then 0 else 6)])∧Below w.heap.size w w':=by
 have DN:=h.k.dn
 rw[h.d]at DN
 have CU:Hid (∀u,Below w.heap.size w u→u.cell? ⟨p,3,none⟩=some (.map (some b))∧(Instr.lookup 92 (.map (some b)) (.int .i64 id) false).run Tryz.prog u= .ok (ptV (loc id)) u):=fun u hu=>⟨(h.k.on hu).cell3.2.2.2.1,(h.k.on hu).look hw⟩
 rcases h.k.at_ id with⟨h1,h2⟩|⟨l,a,h1,h2,-⟩
 all_goals rw[h1,h2]
 all_goals rw[h2]at CU
 ·rw[show ptV none=Value.pointer none from rfl]at CU ⊢;clear h h1 h2 hw;go_enter Tryz.func66,Tryz.ntmps66
  go_wp2_with(go_at_call 28;refine DN.mono ?_;clear DN;rintro e u ⟨rfl,hb⟩;obtain⟨c3,hL⟩:=CU.out u hb;have HB:=hide hb;clear hb CU)
  go_ret2
  exact⟨rfl,HB.out⟩
 ·rw[show ptV (some a)=Value.pointer (some ⟨a,0,none⟩)from rfl]at CU ⊢;clear h h1 h2 hw;go_enter Tryz.func66,Tryz.ntmps66
  go_wp2_with(go_at_call 28;refine DN.mono ?_;clear DN;rintro e u ⟨rfl,hb⟩;obtain⟨c3,hL⟩:=CU.out u hb;have HB:=hide hb;clear hb CU)
  go_ret2
  exact⟨rfl,HB.out⟩
set_option maxRecDepth 100000 in
set_option maxHeartbeats 1000000 in
theorem ccan_any(h:Up B O w p v q r b bt loc)(hg:∀u,Rg.Kept (fun i _=>Eo O i) w u→Gl u){id:Int}(hw:(Lit.int .i64 id).wf =true):
 Calls Tryz.prog 13 #[.pointer (some ⟨p,0,none⟩),.int .i64 id] w fun e w'=>∃x,e= .returned (.tuple #[x,.int .i64 (canE v id)])∧SendR B O w p (canS v id) q b bt loc (canA v id) (.returned x) w':=by
 have FI:=cfind_any h hw
 have ST:Hid (∀u,Below w.heap.size w u→SendR B O w p v q b bt loc [] (.returned (.slice none 0 0)) u):=fun u hu=>(h.stay hu).quiet
 unfold canE canS canA
 rw[h.d]
 simp only[Bool.false_eq_true,if_false]
 rcases h.k.at_ id with⟨h1,h2⟩|⟨l,a,h1,h2,-⟩
 all_goals rw[h1]
 all_goals rw[h1,h2]at FI
 all_goals dsimp only
 ·rw[show ptV none=Value.pointer none from rfl]at FI;clear h h1 h2 hw hg;go_enter Tryz.func13,Tryz.ntmps13
  go_wp2_with(go_at_call 66;refine FI.mono ?_;clear FI;rintro e u ⟨rfl,hb⟩;have HX:=hide (ST.out u hb);clear hb ST)
  go_ret2
  exact⟨_,rfl,HX.out⟩
 ·rw[show ptV (some a)=Value.pointer (some ⟨a,0,none⟩)from rfl]at FI;have DE:Hid (∀u,Below w.heap.size w u→Calls Tryz.prog 67 #[.pointer (some ⟨a,0,none⟩)] u fun e w'=>e= .returned (.bool l.dec)∧u=w'):=fun u hu=>by
   obtain⟨sa,sc,da,dc,ua,uc,tp,kl⟩:=(h.on hu).led h1 h2;exact ldec_any kl
  have TU:Hid (∀u,Below w.heap.size w u→Calls Tryz.prog 68 #[.pointer (some ⟨p,0,none⟩),.pointer (some ⟨a,0,none⟩)] u fun e w'=>∃x,e= .returned (.tuple #[x,.int .i64 (noE v 1)])∧SendR B O w p (sgS v l 5 []) q b bt loc (sgA v l 5 []) (.returned x) w'):=fun u hu=>
   (cturn_any (h.on hu) (fun u' hk=>hg u' ((zE hu).trans hk)) h1 h2).mono (fun e w' ⟨x,e1,e2⟩=>⟨x,e1,SendR.two (fun i e=> .inl e) (zE hu) (fun _ _ e=>e) e2⟩)
  cases hd:l.dec;all_goals rw[hd]at DE
  ·simp only[Bool.false_eq_true,if_false];generalize sgS v l 5 []=v5 at *;generalize sgA v l 5 []=x5 at *;generalize noE v 1=n5 at *;clear h h1 h2 hw hg hd ST;go_enter Tryz.func13,Tryz.ntmps13
   go_wp2_with(first
    |(go_at_call 66;refine FI.mono ?_;clear FI;rintro e u ⟨rfl,hb⟩;have D2:=DE.out u hb;have T2:=TU.out u hb;clear hb DE TU)
    |(go_at_call 67;refine D2.mono ?_;clear D2;rintro e w' ⟨rfl,rfl⟩)
    |(go_at_call 68;refine T2.mono ?_;clear T2;rintro e u2 ⟨x,rfl,hx⟩;have HX:=hide hx;clear hx))
   go_ret2
   exact⟨_,rfl,HX.out⟩
  ·simp only[if_true];clear h h1 h2 hw hg hd TU;go_enter Tryz.func13,Tryz.ntmps13
   go_wp2_with(first
    |(go_at_call 66;refine FI.mono ?_;clear FI;rintro e u ⟨rfl,hb⟩;have D2:=DE.out u hb;have HX:=hide (ST.out u hb);clear hb DE ST)
    |(go_at_call 67;refine D2.mono ?_;clear D2;rintro e w' ⟨rfl,rfl⟩))
   go_ret2
   exact⟨_,rfl,HX.out⟩
end
theorem ring_same{h:Int→Int}{id x:Int}(hx:ringH h id x≠0):h x≠0:=by
 unfold ringH at hx
 split at hx
 ·exact hx
 ·by_cases e:x=id
  ·subst e;rename_i h1;omega
  ·rw[Bl.upd_other _ _ e]at hx;exact hx
theorem ring_zero{h:Int→Int}{id:Int}(e:h id=0):ringH h id=h:=by
 unfold ringH
 rw[if_pos (by omega)]
theorem setH_same(v:Ch):setH v v.h=v:=rfl
section
variable {B:Nat}{O:Pt→Nat→Prop}{w:World}{p:Nat}{v:Ch}{q:Nat}{r:Value}{b bt:Nat}{loc:Int→Option Nat}
theorem Up.ring(h:Up B O w p v q r b bt loc){id:Int}(hw:(Lit.int .i64 id).wf =true):
 Calls Tryz.prog 78 #[.pointer (some ⟨bt,0,none⟩),.int .i64 id] w fun e w'=>e= .returned (.tuple #[.bool (Bl.hasB v.h id),.bool (oftB v.h id)])∧UStp B O w p (setH v (ringH v.h id)) q b bt loc w':=
 (bring_any h.k.bl hw (by omega)).mono (fun _ _ ⟨h1,h2,h3⟩=>⟨h1,h.bell h2 h3 (fun _ hx=>ring_same hx)⟩)
theorem UStp.then{v1:Ch}{u:World}(hg:∀u,Rg.Kept (fun i _=>Eo O i) w u→Gl u)(hu:UStp B O w p v1 q b bt loc u):
 ∃O1 r1 loc1,Up B O1 u p v1 q r1 b bt loc1∧(∀u',Rg.Kept (fun i _=>Eo O1 i) u u'→Gl u')∧(∀id a,loc id=some a→loc1 id=some a)∧(∀v2 xs e w',SendR B O1 u p v2 q b bt loc1 xs e w'→SendR B O w p v2 q b bt loc xs e w')∧∀v2 w',UStp B O1 u p v2 q b bt loc1 w'→UStp B O w p v2 q b bt loc w':=by
 obtain⟨O1,r1,loc1,k1,g1,K1,l1⟩:=hu
 exact⟨O1,r1,loc1,k1,fun u' hk=>hg u' (kept_two g1 K1 hk),l1,fun _ _ _ _ h5=>SendR.two g1 K1 l1 h5,fun _ _ h5=>UStp.two g1 K1 l1 h5⟩
set_option maxRecDepth 100000 in
set_option maxHeartbeats 1000000 in
theorem cacc_any(h:Up B O w p v q r b bt loc)(hg:∀u,Rg.Kept (fun i _=>Eo O i) w u→Gl u){id:Int}(hw:(Lit.int .i64 id).wf =true):
 Calls Tryz.prog 15 #[.pointer (some ⟨p,0,none⟩),.int .i64 id] w fun e w'=>e= .returned (.int .i64 (accE v id))∧UStp B O w p (accS v id) q b bt loc w':=by
 have FI:=cfind_any h hw
 have ST:Hid (∀u,Below w.heap.size w u→UStp B O w p v q b bt loc u):=fun u hu=>h.stay hu
 unfold accE accS
 rw[h.d]
 simp only[Bool.false_eq_true,if_false]
 rcases h.k.at_ id with⟨h1,h2⟩|⟨l,a,h1,h2,-⟩
 all_goals rw[h1]
 all_goals rw[h1,h2]at FI
 all_goals dsimp only
 ·rw[show ptV none=Value.pointer none from rfl]at FI;clear h h1 h2 hw hg;go_enter Tryz.func15,Tryz.ntmps15
  go_wp2_with(go_at_call 66;refine FI.mono ?_;clear FI;rintro e u ⟨rfl,hb⟩;have HX:=hide (ST.out u hb);clear hb ST)
  go_ret
  exact⟨rfl,HX.out⟩
 ·rw[show ptV (some a)=Value.pointer (some ⟨a,0,none⟩)from rfl]at FI;have SA:Hid (∀u,Below w.heap.size w u→Calls Tryz.prog 71 #[.pointer (some ⟨a,0,none⟩)] u fun e w'=>e= .returned (.int .i64 (stF l.o l.f))∧Below w.heap.size w w'):=fun u hu=>by
   obtain⟨sa,sc,da,dc,ua,uc,tp,kl⟩:=(h.on hu).led h1 h2;exact(lstate_any kl).mono (fun _ _ ⟨e1,e2⟩=>⟨e1,bel_on' hu e2⟩)
  by_cases hs:stF l.o l.f=7
  ·rw[if_pos hs];have gl:=h.g.gm id l h1
   have AC:Hid (∀u,Below w.heap.size w u→Calls Tryz.prog 72 #[.pointer (some ⟨a,0,none⟩),.string ⟨#[97,99,99,101,112,116]⟩,.slice none 0 0] u fun e u1=>e= .returned (.agg #[.string ⟨#[97,99,99,101,112,116]⟩,.int .i64 l.o.id,.slice none 0 0])∧∀X,X=u1.alloc (.cells #[.string ⟨#[97,99,99,101,112,116]⟩,.int .i64 l.o.id,.slice none 0 0] 104)→Calls Tryz.prog 57 #[.pointer (some ⟨p,0,none⟩),.slice (some ⟨u1.heap.size,0,none⟩) 1 1] X fun x u2=>x= .returned (.int .i64 (noE v 1))∧(roomC v 1=false→UStp B O w p v q b bt loc u2)∧(roomC v 1=true→Calls Tryz.prog 73 #[.pointer (some ⟨a,0,none⟩)] u2 fun e u3=>e= .returned (.bool (overF l.o (folL l 10 []).f))∧u3.cell? ⟨p,4,none⟩=some (.pointer (some ⟨bt,0,none⟩))∧UStp B O w p (accV v l) q b bt loc u3∧Calls Tryz.prog 74 #[.pointer (some ⟨bt,0,none⟩),.int .i64 id] u3 fun e u4=>(∃x,e= .returned x)∧UStp B O w p (setH (accV v l) (cutH v.h id)) q b bt loc u4)):=fun u hu=>by
    obtain⟨sa,sc,da,dc,ua,uc,tp,kl⟩:=(h.on hu).led h1 h2;refine(cabout_any kl ⟨#[97,99,99,101,112,116]⟩ none 0 0).mono ?_;rintro e u1 ⟨e1,e2⟩;refine⟨e1,fun X hX=>?_⟩;have hb:=bel_on' hu e2
    obtain⟨h3,h4⟩:=h.row1 hb ⟨#[97,99,99,101,112,116]⟩ (e:=⟨10,l.o.id,[]⟩) rfl (na:=none) (nc:=0) hX (.inl rfl) (fun ad e=>by cases e);refine((h.on h3).sure1 (fun u' hk=>hg u' ((zE h3).trans hk)) (fit_led h.g h1 (by decide) (by decide) rfl (fit_none (.inr (.inr (.inr (.inr rfl)))))) h4).mono ?_;rintro x u2 ⟨h5,h6⟩;have h7:=h6.from h3
    unfold sureS at h7;rw[show([⟨10,l.o.id,[]⟩]:List Et).length =1 from rfl]at h7;refine⟨h5,fun hr=>?_,fun hr=>?_⟩
    ·rw[hr,if_neg (by decide)]at h7;exact h7
    ·rw[hr,if_pos rfl]at h7;obtain⟨O1,r1,loc1,k1,G1,L1,-,U1⟩:=h7.then hg
     have hl1:=(add_led h.g h1 (kk:=10) (by decide) []).2
     obtain⟨sa,sc,da,dc,ua,uc,tp,kl⟩:=k1.led hl1 (L1 id a h2);refine(lover_any kl).mono ?_;rintro e u3 ⟨g1,g2⟩;exact⟨g1,(k1.k.on g2).cell3.2.2.2.2,U1 _ _ (k1.stay g2),((k1.on g2).cut hw).mono (fun _ _ ⟨z1,z2⟩=>⟨z1,U1 _ _ (z2.from g2)⟩)⟩
   rcases noE_two v 1 with⟨e1,e2⟩|⟨e1,e2⟩
   ·rw[e1]at AC;have AC2:Hid (∀u,Below w.heap.size w u→Calls Tryz.prog 72 #[.pointer (some ⟨a,0,none⟩),.string ⟨#[97,99,99,101,112,116]⟩,.slice none 0 0] u fun e u1=>e= .returned (.agg #[.string ⟨#[97,99,99,101,112,116]⟩,.int .i64 l.o.id,.slice none 0 0])∧∀X,X=u1.alloc (.cells #[.string ⟨#[97,99,99,101,112,116]⟩,.int .i64 l.o.id,.slice none 0 0] 104)→Calls Tryz.prog 57 #[.pointer (some ⟨p,0,none⟩),.slice (some ⟨u1.heap.size,0,none⟩) 1 1] X fun x u2=>x= .returned (.int .i64 0)∧Calls Tryz.prog 73 #[.pointer (some ⟨a,0,none⟩)] u2 fun e u3=>e= .returned (.bool (overF l.o (folL l 10 []).f))∧u3.cell? ⟨p,4,none⟩=some (.pointer (some ⟨bt,0,none⟩))∧UStp B O w p (accV v l) q b bt loc u3∧Calls Tryz.prog 74 #[.pointer (some ⟨bt,0,none⟩),.int .i64 id] u3 fun e u4=>(∃x,e= .returned x)∧UStp B O w p (setH (accV v l) (cutH v.h id)) q b bt loc u4):=fun u hu=>(AC.out u hu).mono (fun _ _ ⟨z1,z2⟩=>⟨z1,fun X hX=>(z2 X hX).mono (fun _ _ ⟨y1,_,y3⟩=>⟨y1,y3 e2⟩)⟩)
    rw[e1,e2];simp only[hs,and_self,if_true];rw[hs]at SA;generalize accV v l=v3 at *;generalize setH v3 (cutH v.h id)=v4 at *;generalize l.o.id=oi at *;clear h h1 h2 hw hg hs gl AC e1 e2 ST;cases hov:overF l.o (folL l 10 []).f;all_goals rw[hov]at AC2
    all_goals clear hov
    all_goals go_enter Tryz.func15,Tryz.ntmps15
    all_goals go_wp2_with(first
     |(go_at_call 66;refine FI.mono ?_;clear FI;rintro e u ⟨rfl,hb⟩;have S2:=SA.out u hb;clear hb SA)
     |(go_at_call 71;refine S2.mono ?_;clear S2;rintro e u ⟨rfl,hb⟩;have A2:=AC2.out u hb;clear hb AC2)
     |(go_at_call 72;refine A2.mono ?_;clear A2;rintro e u1 ⟨rfl,h5⟩;have N2:=h5 _ rfl;clear h5)
     |(go_at_call 57;refine N2.mono ?_;clear N2;rintro e u2 ⟨rfl,h6⟩;have G2:=h6;clear h6)
     |(go_at_call 73;refine G2.mono ?_;clear G2;rintro e u3 ⟨rfl,c4,hx,h8⟩;have HX:=hide hx;have C2:=h8;clear hx h8)
     |(go_at_call 74;refine C2.mono ?_;clear C2;rintro e u4 ⟨⟨y,rfl⟩,hy⟩;have HY:=hide hy;clear hy))
    all_goals go_ret
    ·exact⟨rfl,HX.out⟩
    ·exact⟨rfl,HY.out⟩
   ·rw[e1]at AC;have AC2:Hid (∀u,Below w.heap.size w u→Calls Tryz.prog 72 #[.pointer (some ⟨a,0,none⟩),.string ⟨#[97,99,99,101,112,116]⟩,.slice none 0 0] u fun e u1=>e= .returned (.agg #[.string ⟨#[97,99,99,101,112,116]⟩,.int .i64 l.o.id,.slice none 0 0])∧∀X,X=u1.alloc (.cells #[.string ⟨#[97,99,99,101,112,116]⟩,.int .i64 l.o.id,.slice none 0 0] 104)→Calls Tryz.prog 57 #[.pointer (some ⟨p,0,none⟩),.slice (some ⟨u1.heap.size,0,none⟩) 1 1] X fun x u2=>x= .returned (.int .i64 5)∧UStp B O w p v q b bt loc u2):=fun u hu=>(AC.out u hu).mono (fun _ _ ⟨z1,z2⟩=>⟨z1,fun X hX=>(z2 X hX).mono (fun _ _ ⟨y1,y2,_⟩=>⟨y1,y2 e2⟩)⟩)
    rw[e1,e2];simp only[Bool.false_eq_true,and_false,if_false];rw[hs]at SA;generalize l.o.id=oi at *;clear h h1 h2 hw hg hs gl AC e1 e2 ST;go_enter Tryz.func15,Tryz.ntmps15
    go_wp2_with(first
     |(go_at_call 66;refine FI.mono ?_;clear FI;rintro e u ⟨rfl,hb⟩;have S2:=SA.out u hb;clear hb SA)
     |(go_at_call 71;refine S2.mono ?_;clear S2;rintro e u ⟨rfl,hb⟩;have A2:=AC2.out u hb;clear hb AC2)
     |(go_at_call 72;refine A2.mono ?_;clear A2;rintro e u1 ⟨rfl,h5⟩;have N2:=h5 _ rfl;clear h5)
     |(go_at_call 57;refine N2.mono ?_;clear N2;rintro e u2 ⟨rfl,h6⟩;have HX:=hide h6;clear h6))
    go_ret
    exact⟨rfl,HX.out⟩
  ·rw[if_neg hs,if_neg (fun e=>hs e.1)];generalize stF l.o l.f=s at *;clear h h1 h2 hw hg;go_enter Tryz.func15,Tryz.ntmps15
   go_wp2_with(first
    |(go_at_call 66;refine FI.mono ?_;clear FI;rintro e u ⟨rfl,hb⟩;have S2:=SA.out u hb;clear hb SA)
    |(go_at_call 71;refine S2.mono ?_;clear S2;rintro e u ⟨rfl,hb⟩;have HX:=hide (ST.out u hb);clear hb ST))
   go_ret
   exact⟨rfl,HX.out⟩
set_option maxRecDepth 100000 in
set_option maxHeartbeats 1000000 in
theorem crng_any(h:Up B O w p v q r b bt loc)(hg:∀u,Rg.Kept (fun i _=>Eo O i) w u→Gl u){id:Int}(hw:(Lit.int .i64 id).wf =true):
 Calls Tryz.prog 17 #[.pointer (some ⟨p,0,none⟩),.int .i64 id] w (SendR B O w p (rngS v id) q b bt loc (rngA v id)):=by
 have RI:=h.ring hw
 have c4:=h.k.cell3.2.2.2.2
 unfold rngS rngA
 by_cases h0:v.h id=0
 ·rw[if_pos h0,if_pos h0];have e1:Bl.hasB v.h id=false:=by unfold Bl.hasB;simp[h0]
  rw[ring_zero h0,setH_same,e1]at RI;generalize oftB v.h id=ob at *;clear h hw hg h0 e1;go_enter Tryz.func17,Tryz.ntmps17
  go_wp2_with(go_at_call 78;refine RI.mono ?_;clear RI;rintro e u ⟨rfl,hx⟩;have HX:=hide hx.quiet;clear hx)
  go_ret
  exact HX.out
 ·rw[if_neg h0,if_neg h0];obtain⟨l,hl⟩:=h.g.bl id h0;obtain⟨a,ha,-⟩:=h.k.ld id l hl;have e1:Bl.hasB v.h id=true:=by unfold Bl.hasB;simp[h0]
  rw[e1]at RI;rw[hl];dsimp only;obtain⟨v1,hv1⟩:∃v1,v1=setH v (ringH v.h id):=⟨_,rfl⟩
  have hl1:v1.L id=some l:=by rw[hv1];exact hl
  have hoid:l.o.id=id:=(h.g.gm id l hl).oid
  rw[←hv1]at RI ⊢;have NX:Hid (∀u,UStp B O w p v1 q b bt loc u→u.cell? ⟨p,3,none⟩=some (.map (some b))∧u.cell? ⟨p,4,none⟩=some (.pointer (some ⟨bt,0,none⟩))∧(Instr.lookup 92 (.map (some b)) (.int .i64 id) false).run Tryz.prog u= .ok (.pointer (some ⟨a,0,none⟩)) u∧Calls Tryz.prog 67 #[.pointer (some ⟨a,0,none⟩)] u (fun e w'=>e= .returned (.bool l.dec)∧u=w')∧Calls Tryz.prog 79 #[.pointer (some ⟨p,0,none⟩),.pointer (some ⟨a,0,none⟩)] u (SendR B O w p (sgS v1 l 5 []) q b bt loc (sgA v1 l 5 []))∧Calls Tryz.prog 81 #[.pointer (some ⟨p,0,none⟩),.pointer (some ⟨a,0,none⟩)] u (SendR B O w p (sendS v1 l) q b bt loc (sendA v1 l))∧Calls Tryz.prog 80 #[.pointer (some ⟨bt,0,none⟩),.int .i64 id] u (fun e u2=>(∃x,e= .returned x)∧Calls Tryz.prog 81 #[.pointer (some ⟨p,0,none⟩),.pointer (some ⟨a,0,none⟩)] u2 (SendR B O w p (sendS (agnC v1 id) l) q b bt loc (sendA (agnC v1 id) l)))):=fun u hu=>by
   obtain⟨O1,r1,loc1,k1,G1,L1,S1,U1⟩:=hu.then hg
   have ha1:=L1 id a ha
   have hL:=k1.k.look hw
   rw[ha1]at hL;obtain⟨sa,sc,da,dc,ua,uc,tp,kl⟩:=k1.led hl1 ha1;refine⟨k1.k.cell3.2.2.2.1,k1.k.cell3.2.2.2.2,hL,ldec_any kl,(cturns_any k1 G1 hl1 ha1).mono (S1 _ _),(csend_any k1 G1 hl1 ha1).mono (S1 _ _),(k1.again hw).mono ?_⟩;rintro e u2 ⟨z1,z2⟩;obtain⟨O2,r2,loc2,k2,G2,L2,S2,U2⟩:=z2.then G1
   exact⟨z1,(csend_any k2 G2 (v:=agnC v1 id) hl1 (L2 id a ha1)).mono (fun _ _ z=>S1 _ _ _ _ (S2 _ _ _ _ z))⟩
  clear hl ha hl1;generalize sgS v1 l 5 []=v5 at *;generalize sgA v1 l 5 []=x5 at *;generalize sendS v1 l=v6 at *;generalize sendA v1 l=x6 at *;generalize sendS (agnC v1 id) l=v7 at *;generalize sendA (agnC v1 id) l=x7 at *;generalize l.dec=dc at *;clear h hw hg h0 e1 hv1 hoid;cases hob:oftB v.h id;all_goals rw[hob]at RI
  all_goals clear hob
  ·simp only[Bool.false_eq_true,if_false];go_enter Tryz.func17,Tryz.ntmps17
   go_wp2_with(first
    |(go_at_call 78;refine RI.mono ?_;clear RI;rintro e u ⟨rfl,hx⟩;obtain⟨c3,c4',hL,hd,ht,hs,ha⟩:=NX.out u hx;clear hx NX c4)
    |(go_at_call 81;refine hs.mono ?_;clear hs;rintro e u3 h7;have HX:=hide h7;obtain⟨ra,rc,O9,r9,loc9,rfl,-⟩:=h7))
   go_ret
   exact HX.out
  ·simp only[if_true];cases dc
   ·simp only[Bool.false_eq_true,if_false];go_enter Tryz.func17,Tryz.ntmps17
    go_wp2_with(first
     |(go_at_call 78;refine RI.mono ?_;clear RI;rintro e u ⟨rfl,hx⟩;obtain⟨c3,c4',hL,hd,ht,hs,ha⟩:=NX.out u hx;clear hx NX c4)
     |(go_at_call 67;refine hd.mono ?_;clear hd;rintro e w' ⟨rfl,rfl⟩)
     |(go_at_call 79;refine ht.mono ?_;clear ht;rintro e u3 h7;have HX:=hide h7;obtain⟨ra,rc,O9,r9,loc9,rfl,-⟩:=h7))
    go_ret
    exact HX.out
   ·simp only[if_true];go_enter Tryz.func17,Tryz.ntmps17
    go_wp2_with(first
     |(go_at_call 78;refine RI.mono ?_;clear RI;rintro e u ⟨rfl,hx⟩;obtain⟨c3,c4',hL,hd,ht,hs,ha⟩:=NX.out u hx;clear hx NX c4)
     |(go_at_call 67;refine hd.mono ?_;clear hd;rintro e w' ⟨rfl,rfl⟩)
     |(go_at_call 80;refine ha.mono ?_;clear ha hs;rintro e u2 ⟨⟨y,rfl⟩,hs2⟩;have hs:=hs2;clear hs2)
     |(go_at_call 81;refine hs.mono ?_;clear hs;rintro e u3 h7;have HX:=hide h7;obtain⟨ra,rc,O9,r9,loc9,rfl,-⟩:=h7))
    go_ret
    exact HX.out
end
theorem way_perm{L:Int→Option Lk}(gm:GoodM L){D:DataW Unit}{w:World}{b:Nat}(hown:w.ownsMap Tryz.prog 3 ptX.el b 999 D)(hD:∀x:Int,Maps.has D (.int .i64 x)=(L x).isSome){ss:List Int}(hn:ss.Nodup)(hm:∀x,x∈ss↔(L x).isSome =true):(ss.filter (way1 L)).length =wayN L:=by
 have h1:CollectedI D (fun _=>false) ss:=⟨hn,fun x=>by rw[hm,hD];simp⟩
 have h2:CollectedI D (fun _=>false) (idsC L):=⟨idsC_nodup L,fun x=>by rw[idsC_mem gm,hD];simp⟩
 have K:=int_keyed Tryz.underlying3
 exact(((h1.perm hown K Tryz.underlying3 (fun _=>rfl)).trans (h2.perm hown K Tryz.underlying3 (fun _=>rfl)).symm).filter _).length_eq
theorem grown_of{u u':World}(hb:Below u.heap.size u u'):u.grownBy u' none:=⟨hb.os,hb.tape,hb.output,hb.size,fun k hk _=>hb.block k hk⟩
set_option maxRecDepth 100000 in
set_option maxHeartbeats 1000000 in
theorem cway_any{B:Nat}{O:Pt→Nat→Prop}{w:World}{p:Nat}{v:Ch}{q:Nat}{r:Value}{b bt:Nat}{loc:Int→Option Nat}{Lq:List ByteArray}(k:CkV B O w p v q r b bt loc Lq)(gm:GoodM v.L):
 Calls Tryz.prog 56 #[.pointer (some ⟨p,0,none⟩)] w fun e w'=>e= .returned (.int .i64 (wayN v.L:Int))∧Below w.heap.size w w':=by
 obtain⟨-,-,-,c3,-⟩:=k.cell3
 obtain⟨G,hG⟩:∃G:Int→Option (Option Nat),G=fun id=>(loc id).map some:=⟨_,rfl⟩
 have hmp:=k.mp
 rw[←hG]at hmp
 obtain⟨D,hown,hfit⟩:=hmp
 have HFT:=hide hfit
 have hGs:∀x,(G x).isSome =(loc x).isSome :=fun x=>by rw[hG];show((loc x).map some).isSome =_;cases loc x<;>rfl
 have HG:Hid (∀x c,G x=some c→∃a,loc x=some a∧c=some a):=fun x c h=>by
  rw[hG]at h;cases e:loc x with
  |none=>rw[show(fun id=>(loc id).map some) x=(loc x).map some from rfl,e]at h;cases h
  |some a=>rw[show(fun id=>(loc id).map some) x=(loc x).map some from rfl,e]at h;cases h;exact⟨a,rfl,rfl⟩
 have hLD:∀x,(loc x).isSome =(v.L x).isSome :=fun x=>by
  rcases k.at_ x with⟨h1,h2⟩|⟨l,a,h1,h2,-⟩<;>rw[h1,h2]<;>rfl
 have OV:Hid (∀u x a,Below w.heap.size w u→loc x=some a→∃ov,way1 v.L x= !ov∧Calls Tryz.prog 73 #[.pointer (some ⟨a,0,none⟩)] u fun e u'=>e= .returned (.bool ov)∧Below u.heap.size u u'):=fun u x a hu hx=>by
  rcases k.at_ x with⟨h1,h2⟩|⟨l,a',h1,h2,sa,sc,da,dc,ua,uc,tp,kl⟩
  ·rw[h2]at hx;cases hx
  ·rw[h2]at hx;cases hx;exact⟨overF l.o l.f,by unfold way1;rw[h1],lover_any (kl.on hu)⟩
 have FIN:Hid (∀ss:List Int,ss.Nodup→(∀x,x∈ss↔(G x).isSome =true)→((ss.filter (way1 v.L)).length :Int)=(wayN v.L:Int)):=fun ss hn hm=>by
  have h1:=way_perm gm hown (fun x=>by rw[(hfit.2 x).2,hGs,hLD]) hn (fun x=>by rw[hm x,hGs,hLD])
  rw[h1]
 have LEN:Hid (∀(left:Lit→Bool)(ss:List Int),CollectedI D left ss→(ss.filter (way1 v.L)).length ≤1000):=fun left ss hC=>by
  refine Nat.le_trans (List.length_filter_le _ _) (Gd.Pu.Pa.nodup_few 1000 ss hC.1 (fun x hx=>?_));have h1:=((hC.2 x).1 hx).1
  rw[(hfit.2 x).2,hGs,hLD]at h1;have h2:=h1
  obtain⟨l,hl⟩:=Option.isSome_iff_exists.1 h2;have:=gm x l hl
  have:=this.i1
  have:=(gm x l hl).i2
  omega
 generalize way1 v.L=wy at *
 generalize hW:(wayN v.L:Int)=W at *
 clear hfit k gm hLD hW hG hGs
 go_enter Tryz.func56,Tryz.ntmps56
 go_wp2_with(first
  |(at_range;refine wpList_range_own _ rfl _ 92 rfl 3 97 (int_keyed Tryz.underlying3) Tryz.underlying92 _ b 999 _ rfl hown ?_;intro w0 hrg0 hg0 hs0)
  |go_in)
 go_frame
 have HB0:Hid (Below w.heap.size w w0):=(zF _ _).grown hg0 (zD _) (fun k e=>by cases e)
 clear hown hg0 hs0 c3
 go_loopw [3] (fun nv wr=>∃(left:Lit→Bool)(cnt:Nat)(ss:List Int),nv= .int .i64 ((ss.filter wy).length :Int)∧wr.ranges Tryz.prog 3 ptX.el b w.heap.size 999 D left cnt∧CollectedI D left ss∧Hid (Below w.heap.size w wr)) (fun _ wr=>wr.rangeLeft b w.heap.size)
 case atStart=>exact⟨_,_,[],by simp,hrg0,CollectedI.start D,HB0⟩
 case round=>
  obtain⟨left,cnt,ss,rfl,hrg,hC,HB⟩:=hrel;clear hrg0 HB0;have HC:=hide hC
  have HRG:=hide hrg
  have hlen:=LEN.out left ss hC
  obtain⟨S,hS⟩:∃S,(ss.filter wy).length =S:=⟨_,rfl⟩
  have HS:=hide hS
  rw[hS]at hlen ⊢;clear hS
  go_wp2_with(first
   |(at_next;refine Gd.Pu.Pa.next_elem (X:=ptX) rfl _ rfl Tryz.underlying3 rfl hrg HFT.out hC ?_ ?_)
   |go_in)
  ·intro hall;have HW:Hid ((S:Int)=W):=by rw[←HS.out];exact FIN.out ss HC.out.1 hall
   clear hall hrg hC
   go_wp2
   go_ret
   exact⟨ret_int HW.out,HB.out⟩
  ·intro y c w1 left1 cnt1 hgy hny hrg1 hC1 hlt hg1 hs1 hen;obtain⟨a,hy,rfl⟩:=HG.out y c hgy;have HB1:Hid (Below w.heap.size w w1):=HB.out.grown hg1 HB.out.size (fun k e=>by cases e;exact zD _)
   obtain⟨ov,hov,OX⟩:=OV.out w1 y a HB1.out hy;have HR1:=hide hrg1
   have HC1:=hide hC1
   have HLT:=hide hlt
   have hlen1:=LEN.out left1 (ss++ [y]) hC1
   have HSS:Hid (((ss++ [y]).filter wy).length =S+(if ov=true then 0 else 1)):=by
    show _=_
    rw[List.filter_append,List.length_append,HS.out];congr 1
    rw[List.filter_cons,hov];cases ov<;>rfl
   have NXT:Hid (∀(w2:World),Below w1.heap.size w1 w2→∀nv:Value,nv= .int .i64 ((S+(if ov=true then 0 else 1):Nat):Int)→(∃(left:Lit→Bool)(cnt:Nat)(ss:List Int),nv= .int .i64 ((ss.filter wy).length :Int)∧w2.ranges Tryz.prog 3 ptX.el b w.heap.size 999 D left cnt∧CollectedI D left ss∧Hid (Below w.heap.size w w2))∧w2.rangeLeft b w.heap.size<wr.rangeLeft b w.heap.size):=fun w2 hb nv hnv=>by
    have h1:=HR1.out.kept (grown_of hb) (by simp) (by simp)
    refine⟨⟨left1,cnt1,ss++ [y],?_,h1,HC1.out,bel_on' HB1.out hb⟩,?_⟩
    ·rw[hnv,HSS.out]
    ·rw[h1.left_eq,←HR1.out.left_eq];exact HLT.out
   rw[HSS.out]at hlen1;change(Instr.entry _).run Tryz.prog w1= .ok (.tuple #[.int .i64 y,.pointer (some ⟨a,0,none⟩)]) w1 at hen
   clear hrg hC hrg1 hC1 hlt hgy hny hg1 hs1 hy hov;cases ov
   ·simp only[Bool.false_eq_true,if_false]at NXT hlen1
    go_wp2_with(go_at_call 73;refine OX.mono ?_;clear OX;rintro e w2 ⟨rfl,hb2⟩;have HN:=hide (NXT.out w2 hb2);clear hb2 NXT)
    go_roundw
    case rel=>exact(HN.out _ (by simp)).1
    case measure=>exact(HN.out _ rfl).2
   ·simp only[if_true,Nat.add_zero]at NXT hlen1
    go_wp2_with(go_at_call 73;refine OX.mono ?_;clear OX;rintro e w2 ⟨rfl,hb2⟩;have HN:=hide (NXT.out w2 hb2);clear hb2 NXT)
    go_roundw
    case rel=>exact(HN.out _ rfl).1
    case measure=>exact(HN.out _ rfl).2
structure Ee where
 e:Et
 na:Option Addr
 nc:Nat
def eeC(x:Ee):List Value:=[.string (kC x.e.k),.int .i64 x.e.id,.slice x.na x.e.n.length x.nc]
def eeCells(l:List Ee):List Value:=l.flatMap eeC
theorem eeCells_append(l m:List Ee):eeCells (l++m)=eeCells l++eeCells m:=by simp[eeCells]
theorem eeCells_len(l:List Ee):(eeCells l).length =l.length*3:=by
 induction l with
 |nil=>rfl
 |cons x l ih=>rw[show eeCells (x::l)=eeC x++eeCells l by simp[eeCells],List.length_append,ih];simp[eeC];omega
theorem eeCells_at:∀(l:List Ee)(i j:Nat)(x:Ee),l[i]?=some x→j<3→(eeCells l)[i*3+j]?=(eeC x)[j]?
 | [],_,_,_,h,_=>by simp at h
 |y::r,0,j,x,h,hj=>by
  simp at h;subst h;rw[show eeCells (y::r)=eeC y++eeCells r by simp[eeCells],List.getElem?_append_left (by simp[eeC];omega)];simp
 |y::r,i+1,j,x,h,hj=>by
  have ih:=eeCells_at r i j x (by simpa using h) hj
  rw[show eeCells (y::r)=eeC y++eeCells r by simp[eeCells],List.getElem?_append_right (by simp[eeC];omega),←ih];congr 1
  simp[eeC];omega
theorem eeCells_one{l:List Ee}{u:Value}(h:u∈eeCells l):u.oneCell'=true:=by
 unfold eeCells at h
 obtain⟨x,_,hx⟩:=List.mem_flatMap.1 h
 simp[eeC]at hx
 rcases hx with rfl|rfl|rfl<;>rfl
theorem Tryz.infoEnt:(Tryz.prog.info? 104).map (fun i=>(i.zero,i.size,i.bytes))=some (some (.agg #[.string ⟨#[]⟩,.int .i64 0,.slice none 0 0]),3,48):=by kernel_rfl
theorem append_ee{w:World}{ops:Array Oper}{rest:List Oper}{o:Oper}{a:Act}{Q:Exit→Act→World→Prop}(hgd:o.guard=none)(s x:Operand)
 (ho:o.op= .call {callee:= .builtin .append,args:=#[s,x],argTypes:=#[99,99]})
 (base:Nat) (v:Value) (L:List Ee) (hs:a.eval s=v) (hown:w.ownsRow base 104 3 v L.length (eeCells L)) (m:Ee) {nb c:Nat} (hx:a.eval x= .slice (some ⟨nb,0,none⟩) 1 c)
 (hm:w.heap[nb]?=some (.cells #[.string (kC m.e.k),.int .i64 m.e.id,.slice m.na m.e.n.length m.nc] 104 (0,0))) (hb:L.length≤1000000) (hbase:base≤w.heap.size)
 (h:∀a' c' w',w'.ownsRow base 104 3 (.slice a' (L.length+1) c') (L++ [m]).length (eeCells (L++ [m]))→w.grownBy w' v.ownBlock→((Value.slice a' (L.length+1) c').ownBlock =v.ownBlock∨(Value.slice a' (L.length+1) c').ownBlock =some w.heap.size)→wpList Tryz.prog ops Q rest (a.put o.dst (.slice a' (L.length+1) c')) w'):wpList Tryz.prog ops Q (o::rest) a w:=by
 obtain⟨i0,hi,hz0,hz1,hz2⟩:=info_parts Tryz.infoEnt
 refine wpList_append_own_at _ hgd s x 99 ho base 104 i0 _ 3 48 Tryz.underlying99 hi hz0 hz1 hz2 rfl (by decide) v L.length (eeCells L) hs hown ⟨nb,0,none⟩ 1 c (eeCells [m]) hx (eeCells_len [m]) (fun j u hu=>?_) (fun u hu=>eeCells_one hu) (by unfold maxLen;omega) (by omega) hbase ?_
 ·rw[Sg.st_add',Nat.zero_add,cell_of hm];simpa[eeCells,eeC]using hu
 ·intro v' w' h1 h2 _ h4;obtain⟨a',c',rfl,_⟩:=Sg.row_slice h1;refine h a' c' w' ?_ h2 h4;rw[eeCells_append,List.length_append];exact h1
structure EnI (w:World) (L:List Ee) (ra:Option Addr) (rc:Nat) (u:World):Prop where
 row:u.ownsRow w.heap.size 104 3 (.slice ra L.length rc) L.length (eeCells L)
 nums:∀x∈L,Ints u x.na x.e.n∧∀ad,x.na=some ad→(w.heap.size≤ad.block∧ad.block<u.heap.size)∧∀y,ra=some y→y.block≠ad.block
 bel:Below w.heap.size w u
section
variable {w u u':World}{L:List Ee}{ra:Option Addr}{rc:Nat}
theorem EnI.on(h:EnI w L ra rc u)(hb:Below u.heap.size u u'):EnI w L ra rc u':=
 ⟨Sg.own_on h.row hb,fun x hx=>⟨(h.nums x hx).1.below hb,fun ad e=>⟨⟨((h.nums x hx).2 ad e).1.1,zJ ((h.nums x hx).2 ad e).1.2 hb.size⟩,((h.nums x hx).2 ad e).2⟩⟩,bel_on' h.bel hb⟩
theorem EnI.app(h:EnI w L ra rc u){x:Ee}{ra':Option Addr}{rc':Nat}(hx:Ints u x.na x.e.n)(hxa:∀ad,x.na=some ad→(w.heap.size≤ad.block∧ad.block<u.heap.size)∧∀y,ra=some y→y.block≠ad.block)(o:u'.ownsRow w.heap.size 104 3 (.slice ra' (L.length+1) rc') (L++ [x]).length (eeCells (L++ [x])))(g:u.grownBy u' (Value.slice ra L.length rc).ownBlock)(hl:(Value.slice ra' (L.length+1) rc').ownBlock =(Value.slice ra L.length rc).ownBlock ∨(Value.slice ra' (L.length+1) rc').ownBlock =some u.heap.size):
 EnI w (L++ [x]) ra' rc' u':=by
 have hk:Rg.Kept (fun i _=>(Value.slice ra L.length rc).ownBlock =some i) u u':=Rg.Kept.grown g (fun i _ e=>e)
 have all:∀y∈L++ [x],Ints u y.na y.e.n∧∀ad,y.na=some ad→(w.heap.size≤ad.block∧ad.block<u.heap.size)∧∀z,ra=some z→z.block≠ad.block:=fun y hy=>by
  rcases List.mem_append.1 hy with hy|hy
  ·exact h.nums y hy
  ·rw[List.mem_singleton]at hy;subst hy;exact⟨hx,hxa⟩
 refine⟨by rw[List.length_append,List.length_singleton]at o ⊢;exact o,fun y hy=>?_,?_⟩
 ·obtain⟨h1,h2⟩:=all y hy;refine⟨h1.keptR hk (fun ad _ e e2=>?_),fun ad e=>⟨⟨(h2 ad e).1.1,zJ (h2 ad e).1.2 hk.size⟩,fun z e2=>?_⟩⟩
  ·obtain⟨z,e3,e4⟩:=own_some e2;exact(h2 ad e).2 z e3 e4
  ·subst e2;have e3:(Value.slice (some z) (L.length+1) rc').ownBlock =some z.block:=rfl
   rw[e3]at hl;rcases hl with hl|hl
   ·obtain⟨z2,e4,e5⟩:=own_some hl.symm;rw[←e5];exact(h2 ad e).2 z2 e4
   ·have:=(h2 ad e).1.2
    have e6:z.block=u.heap.size:=by simpa using hl
    omega
 ·exact h.bel.trans (hk.bel h.bel.size (fun i _ e=>by obtain⟨z,e3,rfl⟩:=own_some e;exact(h.row.lt z.block (by rw[e3];rfl)).1))
theorem EnI.new{X:World}{x:Ee}(hu:Below w.heap.size w u)(hX:X=u.alloc (.cells #[.string (kC x.e.k),.int .i64 x.e.id,.slice x.na x.e.n.length x.nc] 104))(hx:Ints u x.na x.e.n)(hxa:∀ad,x.na=some ad→w.heap.size≤ad.block∧ad.block<u.heap.size):EnI w [x] (some ⟨u.heap.size,0,none⟩) 1 X:=by
 have hb:Below u.heap.size u X:=by rw[hX];exact(zF _ _).alloc (zD _) _
 refine⟨?_,fun y hy=>?_,bel_on' hu hb⟩
 ·rw[hX];refine⟨eeCells_len [x],.inr ⟨u.heap.size,1,_,rfl,hu.size,zI u _,zD _,by unfold maxLen;omega,by rfl,by rfl⟩⟩
 ·rw[List.mem_singleton]at hy;subst hy;exact⟨hx.below hb,fun ad e=>⟨⟨(hxa ad e).1,zJ (hxa ad e).2 hb.size⟩,fun z e2=>by cases e2;exact fun e3=>by have:=(hxa ad e).2;have e4:u.heap.size=ad.block:=e3;omega⟩⟩
theorem EnI.rowe(h:EnI w L ra rc u){E:Nat→Prop}(hE:∀i,E i→i<w.heap.size):RowE u E ra (L.map (·.e)):=by
 cases hL:L with
 |nil=>exact .inl rfl
 |cons x0 L0=>
  rw[←hL];have hrow:=h.row
  rcases hrow.2 with⟨e,_⟩|⟨g,cap,cur,e1,hg,hc,h1,h2,h3,h4⟩
  ·cases ra with
   |none=>
    simp only[Value.slice.injEq]at e;rw[hL]at e;simp at e
   |some y=>cases e
  ·cases e1;refine .inr ⟨g,0,rfl,fun e=>by have:=hE g e;omega,fun i e he=>?_⟩;rw[List.getElem?_map]at he;cases hx:L[i]?with
   |none=>rw[hx]at he;cases he
   |some x=>
    rw[hx]at he;cases he;have hil:i<L.length:=(List.getElem?_eq_some_iff.1 hx).1
    have at_:∀j,j<3→u.cell? ⟨g,i*3+j,none⟩=(eeC x)[j]?:=fun j hj=>by
     rw[cell_of hc,←eeCells_at L i j x hx hj,←h4];rw[List.getElem?_take_of_lt (by omega)];simp
    obtain⟨n1,n2⟩:=h.nums x (List.mem_of_getElem? hx);refine⟨by rw[Nat.zero_add];exact at_ 0 (by omega),by rw[Nat.zero_add];exact at_ 1 (by omega),x.na,x.nc,by rw[Nat.zero_add];exact at_ 2 (by omega),n1,fun ad e=>⟨fun e2=>?_,(n2 ad e).1.2⟩⟩;have:=hE _ e2
    have:=(n2 ad e).1.1
    omega
end
theorem stE_get(id:Int):∀(l:List (Int×Int))(i j:Nat),(stE id i l)[j]?=(l[j]?).map (fun s=>(⟨1,id,[((i+j:Nat):Int),s.1,s.2]⟩:Et))
 | [],_,_=>rfl
 |s::r,i,0=>rfl
 |s::r,i,j+1=>by
  show(stE id (i+1) r)[j]?=_
  rw[stE_get id r (i+1) j];show _=(r[j]?).map _
  congr 1
  funext s
  rw[show i+1+j=i+(j+1) by omega]
theorem begT_get{o:Od}{j:Nat}{s:Int×Int}(h:o.steps[j]?=some s):(begT o)[j+1]?=some ⟨1,o.id,[(j:Int),s.1,s.2]⟩:=by
 show(stE o.id 0 o.steps)[j]?=_
 rw[stE_get,h]
 simp
set_option maxRecDepth 100000 in
set_option maxHeartbeats 1000000 in
theorem cents_any{w:World}(o:Od){sa:Option Addr}{sc:Nat}(hs:Sts w sa o.steps)(hl:o.steps.length≤3):
 Calls Tryz.prog 58 #[.agg #[.int .i64 o.id,.int .i64 o.item,.int .i64 o.qty,.int .i64 o.client,.int .i64 o.price,.slice sa o.steps.length sc]] w fun e w'=>∃W L ra rc,e= .returned (.slice ra L.length rc)∧L.map (·.e)=begT o∧Below w.heap.size w W∧EnI W L ra rc w':=by
 obtain⟨W,hW⟩:∃W,W=w.alloc (.cells #[.int .i64 o.id,.int .i64 o.item,.int .i64 o.qty,.int .i64 o.client,.int .i64 o.price,.slice sa o.steps.length sc] 32):=⟨_,rfl⟩
 have hbW:Below w.heap.size w W:=by rw[hW];exact(zF _ _).alloc (zD _) _
 have hbx:W.heap[w.heap.size]?=some (.cells #[.int .i64 o.id,.int .i64 o.item,.int .i64 o.qty,.int .i64 o.client,.int .i64 o.price,.slice sa o.steps.length sc] 32 (0,0)):=by rw[hW];exact zI w _
 have hzW:W.heap.size=w.heap.size+1:=by rw[hW];simp
 obtain⟨X1,hX1⟩:∃X1,X1=W.alloc (.cells #[.int .i64 o.item,.int .i64 o.qty,.int .i64 o.client,.int .i64 o.price] 3):=⟨_,rfl⟩
 have hb1:Below W.heap.size W X1:=by rw[hX1];exact(zF _ _).alloc (zD _) _
 have hz1:X1.heap.size=w.heap.size+1+1:=by rw[hX1];simp[hzW]
 have i1:Ints X1 (some ⟨W.heap.size,0,none⟩) [o.item,o.qty,o.client,o.price]:= .inr ⟨W.heap.size,0,rfl,fun i hi=>by
  have e:X1.heap[W.heap.size]?=some (.cells #[.int .i64 o.item,.int .i64 o.qty,.int .i64 o.client,.int .i64 o.price] 3 (0,0)):=by rw[hX1];exact zI W _
  rw[cell_of e];match i,hi with
  |0,_=>rfl
  |1,_=>rfl
  |2,_=>rfl
  |3,_=>rfl
  |i+4,hi=>simp at hi;omega⟩
 obtain⟨X2,hX2⟩:∃X2,X2=X1.alloc (.cells #[.string ⟨#[98,101,103,105,110]⟩,.int .i64 o.id,.slice (some ⟨W.heap.size,0,none⟩) 4 4] 104):=⟨_,rfl⟩
 have e0:EnI W [⟨⟨0,o.id,[o.item,o.qty,o.client,o.price]⟩,some ⟨W.heap.size,0,none⟩,4⟩] (some ⟨X1.heap.size,0,none⟩) 1 X2:=EnI.new (u:=X1) (x:=⟨⟨0,o.id,[o.item,o.qty,o.client,o.price]⟩,some ⟨W.heap.size,0,none⟩,4⟩) hb1 hX2 i1 (fun ad e=>by cases e;exact⟨zD _,by rw[hX1];simp⟩)
 rw[hzW,hz1]at e0
 have HE0:Hid (([⟨⟨0,o.id,[o.item,o.qty,o.client,o.price]⟩,some ⟨w.heap.size+1,0,none⟩,4⟩]:List Ee).map (·.e)=(begT o).take (0+1)∧EnI W [⟨⟨0,o.id,[o.item,o.qty,o.client,o.price]⟩,some ⟨w.heap.size+1,0,none⟩,4⟩] (some ⟨w.heap.size+1+1,0,none⟩) 1 X2):=⟨rfl,e0⟩
 have CE:Hid (∀u,Below W.heap.size W u→u.cell? ⟨w.heap.size,0,none⟩=some (.int .i64 o.id)∧Sts u sa o.steps):=fun u hu=>by
  refine⟨?_,(hs.below hbW).below hu⟩;rw[cell_of ((hu.block _ (by omega)).trans hbx)];rfl
 rw[hW]at hbx
 have b0:(w.alloc (.cells #[.int .i64 o.id,.int .i64 o.item,.int .i64 o.qty,.int .i64 o.client,.int .i64 o.price,.slice sa o.steps.length sc] 32)).cell? ⟨w.heap.size,0,none⟩=some (.int .i64 o.id):=by rw[cell_of hbx];rfl
 have b1:(w.alloc (.cells #[.int .i64 o.id,.int .i64 o.item,.int .i64 o.qty,.int .i64 o.client,.int .i64 o.price,.slice sa o.steps.length sc] 32)).cell? ⟨w.heap.size,1,none⟩=some (.int .i64 o.item):=by rw[cell_of hbx];rfl
 have b2:(w.alloc (.cells #[.int .i64 o.id,.int .i64 o.item,.int .i64 o.qty,.int .i64 o.client,.int .i64 o.price,.slice sa o.steps.length sc] 32)).cell? ⟨w.heap.size,2,none⟩=some (.int .i64 o.qty):=by rw[cell_of hbx];rfl
 have b3:(w.alloc (.cells #[.int .i64 o.id,.int .i64 o.item,.int .i64 o.qty,.int .i64 o.client,.int .i64 o.price,.slice sa o.steps.length sc] 32)).cell? ⟨w.heap.size,3,none⟩=some (.int .i64 o.client):=by rw[cell_of hbx];rfl
 have b4:(w.alloc (.cells #[.int .i64 o.id,.int .i64 o.item,.int .i64 o.qty,.int .i64 o.client,.int .i64 o.price,.slice sa o.steps.length sc] 32)).cell? ⟨w.heap.size,4,none⟩=some (.int .i64 o.price):=by rw[cell_of hbx];rfl
 have b5:(w.alloc (.cells #[.int .i64 o.id,.int .i64 o.item,.int .i64 o.qty,.int .i64 o.client,.int .i64 o.price,.slice sa o.steps.length sc] 32)).cell? ⟨w.heap.size,5,none⟩=some (.slice sa o.steps.length sc):=by rw[cell_of hbx];rfl
 have hlen:=begT_len o
 have HZW:=hide hzW
 have HBW:=hide hbW
 rw[hX1,hzW,hW]at hX2
 have HX2:=hide hX2
 have HGET:=hide (fun(j:Nat)(s:Int×Int)(h:o.steps[j]?=some s)=>begT_get h)
 clear hbx hb1 i1 e0 hs hX1 hX2 hbW hz1 hzW hW
 generalize begT o=BT at *
 obtain⟨oid,oit,oq,ocl,opr,st⟩:=o
 simp only at *
 go_enter Tryz.func58,Tryz.ntmps58
 go_wp2_with fail
 rw[←HX2.out]
 clear b0 b1 b2 b3 b4 b5
 go_loopw [3,22] (fun s i wr=>∃(j:Nat)(L:List Ee)(ra:Option Addr)(rc:Nat),i= .int .i64 j∧j≤st.length∧s= .slice ra L.length rc∧Hid (L.map (·.e)=BT.take (j+1)∧EnI W L ra rc wr)) (fun _ i _=>st.length-(Go.RowKit.intOf i).toNat)
 case atStart=>exact⟨0,_,some ⟨w.heap.size+1+1,0,none⟩,1,rfl,Nat.zero_le _,rfl,HE0.out⟩
 case round=>
  obtain⟨j,L,ra,rc,rfl,hj,rfl,HH⟩:=hrel;have HS:=hide HH.out.2
  have HQ:=hide HH.out.1
  clear HE0 HH;have HLl:Hid (L.length=j+1):=by
   show L.length=j+1
   have:=congrArg List.length HQ.out
   rw[List.length_map,List.length_take,hlen]at this;omega
  by_cases hlt:j<st.length
  ·obtain⟨⟨s0,s1⟩,hm⟩:∃s,st[j]?=some s:=⟨_,List.getElem?_eq_getElem hlt⟩
   obtain⟨c0,hst⟩:=CE.out wr HS.out.bel;obtain⟨sb,so,hsa,d0,d1⟩:=hst.at hlt;subst hsa;have e2:stAt st j=(s0,s1):=by unfold stAt;rw[List.getD_eq_getElem?_getD,hm];rfl
   rw[e2]at d0 d1;dsimp only at d0 d1;have HT:Hid (BT.take (j+1+1)=BT.take (j+1)++ [⟨1,oid,[(j:Int),s0,s1]⟩]):=by show _=_;rw[List.take_add_one,HGET.out j (s0,s1) hm];rfl
   have ql:(j:Int)<(st.length:Int):=by omega
   have hbw:W.heap.size≤wr.heap.size:=HS.out.bel.size
   have hlw:w.heap.size<wr.heap.size:=by have:=HZW.out;omega
   obtain⟨Y1,hY1⟩:∃Y1,Y1=wr.alloc (.cells #[.int .i64 s0,.int .i64 s1] 107):=⟨_,rfl⟩
   obtain⟨Y2,hY2⟩:∃Y2,Y2=Y1.alloc (.cells #[.int .i64 j,.int .i64 s0,.int .i64 s1] 3):=⟨_,rfl⟩
   have hy1:Y1.heap.size=wr.heap.size+1:=by rw[hY1];simp
   have hy2:Y2.heap.size=wr.heap.size+1+1:=by rw[hY2];simp[hy1]
   have hY3:(Y2.alloc (.cells #[.string ⟨#[115,116,101,112]⟩,.int .i64 oid,.slice (some ⟨wr.heap.size+1,0,none⟩) 3 3] 104)).heap[wr.heap.size+1+1]?=some (.cells #[.string ⟨#[115,116,101,112]⟩,.int .i64 oid,.slice (some ⟨wr.heap.size+1,0,none⟩) 3 3] 104 (0,0)):=by rw[←hy2];exact zI Y2 _
   have hbY:Below wr.heap.size wr Y2:=by rw[hY2,hY1];exact((zF _ _).alloc (zD _) _).alloc (by simp) _
   have hiY:Ints Y2 (some ⟨wr.heap.size+1,0,none⟩) [(j:Int),s0,s1]:= .inr ⟨wr.heap.size+1,0,rfl,fun i hi=>by
    have e:Y2.heap[wr.heap.size+1]?=some (.cells #[.int .i64 j,.int .i64 s0,.int .i64 s1] 3 (0,0)):=by rw[hY2,←hy1];exact zI Y1 _
    rw[cell_of e];match i,hi with
    |0,_=>rfl
    |1,_=>rfl
    |2,_=>rfl
    |i+3,hi=>simp at hi;omega⟩
   have hbZ:Below wr.heap.size wr (Y2.alloc (.cells #[.string ⟨#[115,116,101,112]⟩,.int .i64 oid,.slice (some ⟨wr.heap.size+1,0,none⟩) 3 3] 104)):=hbY.alloc hbY.size _
   have hsZ:(Y2.alloc (.cells #[.string ⟨#[115,116,101,112]⟩,.int .i64 oid,.slice (some ⟨wr.heap.size+1,0,none⟩) 3 3] 104)).heap.size =wr.heap.size+1+1+1:=by simp[hy2]
   have HZ:Hid ((∀y,ra=some y→y.block<wr.heap.size)∧EnI W L ra rc (Y2.alloc (.cells #[.string ⟨#[115,116,101,112]⟩,.int .i64 oid,.slice (some ⟨wr.heap.size+1,0,none⟩) 3 3] 104))∧Ints (Y2.alloc (.cells #[.string ⟨#[115,116,101,112]⟩,.int .i64 oid,.slice (some ⟨wr.heap.size+1,0,none⟩) 3 3] 104)) (some ⟨wr.heap.size+1,0,none⟩) [(j:Int),s0,s1]):=
    ⟨fun y e=>(HS.out.row.lt y.block (by rw[e];rfl)).2,HS.out.on hbZ,hiY.below ((zF _ _).alloc (zD _) _)⟩
   rw[hY2,hY1]at hY3 HZ;rw[hY2,hY1]at hsZ;have HSZ:=hide hsZ
   have HY3:=hide hY3
   clear hm hst e2 hY1 hY2 hy1 hy2 hbY hiY hbZ hsZ hY3
   go_wp2_with(at_builtin;refine append_ee rfl (.tmp 27) (.tmp 37) rfl W.heap.size (.slice ra L.length rc) L rfl HZ.out.2.1.row ⟨⟨1,oid,[(j:Int),s0,s1]⟩,some ⟨wr.heap.size+1,0,none⟩,3⟩ (nb:=wr.heap.size+1+1) (c:=1) rfl HY3.out (by have:=HLl.out;omega) (by rw[HSZ.out];omega) ?_;intro a8 c8 w8 o8 g8 t8;have HN:=hide (HZ.out.2.1.app (x:=⟨⟨1,oid,[(j:Int),s0,s1]⟩,some ⟨wr.heap.size+1,0,none⟩,3⟩) HZ.out.2.2 (fun ad e=>by cases e;exact⟨⟨by show _≤wr.heap.size+1;omega,by rw[HSZ.out];show wr.heap.size+1<_;omega⟩,fun y e3=>by have:=HZ.out.1 y e3;show y.block≠wr.heap.size+1;omega⟩) o8 g8 t8);clear o8 g8 t8)
   go_roundw
   case rel=>exact⟨j+1,L++ [⟨⟨1,oid,[(j:Int),s0,s1]⟩,some ⟨wr.heap.size+1,0,none⟩,3⟩],a8,c8,by go_num,by omega,by simp,by rw[List.map_append,HQ.out,HT.out];rfl,HN.out⟩
   case measure=>simp[Go.RowKit.intOf];omega
  ·have hje:j=st.length:=by omega
   subst hje;have HF:Hid (∃W L' ra' rc',Ending.returned (.slice ra L.length rc)= .returned (.slice ra' L'.length rc')∧L'.map (·.e)=BT∧Below w.heap.size w W∧EnI W L' ra' rc' wr):=by
    have e:=HQ.out
    rw[←hlen,List.take_length]at e;exact⟨W,L,ra,rc,rfl,e,HBW.out,HS.out⟩
   have ql:¬(st.length:Int)<(st.length:Int):=by omega
   go_wp2
   go_ret
   exact HF.out
section
variable {B:Nat}{O:Pt→Nat→Prop}{w:World}{p:Nat}{v:Ch}{q:Nat}{r:Value}{b bt:Nat}{loc:Int→Option Nat}
theorem bel_d{W u:World}(h:Below W.heap.size W u):Below W.heap.size W u.drew:=bel_on' h (zF u.heap.size u).drew
theorem Up.hang(h:Up B O w p v q r b bt loc){id:Int}(hw:(Lit.int .i64 id).wf =true)(hl:∃l,v.L id=some l):
 Calls Tryz.prog 59 #[.pointer (some ⟨bt,0,none⟩),.int .i64 id] w fun e w'=>(∃x,e= .returned x)∧UStp B O w p (setH v (hangH v.t v.h id)) q b bt loc w':=by
 refine(bhang_any h.k.bl hw (by omega)).mono ?_
 rintro e w' ⟨h1,h2,h3⟩
 have k1:=h.k.bstep h2 h3
 refine⟨⟨_,h1⟩,_,r,loc,⟨k1,setH_good h.g (fun e=>by rw[h.d]at e;cases e) (fun x hx=>?_),h.d⟩,fun i e=>gr_eo e,h3.mono (fun i _ e=>⟨_,e⟩),fun _ _ e=>e⟩
 rcases hang_some hx with h4|h4
 ·exact h.g.bl x h4
 ·rw[h4];exact hl
theorem Up.sures(h:Up B O w p v q r b bt loc)(hg:∀u,Rg.Kept (fun i _=>Eo O i) w u→Gl u){es:List Et}(hf:Fits22 v.L es)(hl:es.length≤10){ra:Option Addr}{rc:Nat}(hR:RowE w (Eo O) ra es):
 Calls Tryz.prog 57 #[.pointer (some ⟨p,0,none⟩),.slice ra es.length rc] w fun x w'=>x= .returned (.int .i64 (noE v es.length))∧UStp B O w p (sureS v es) q b bt loc w':=by
 unfold noE sureS
 cases hr:roomC v es.length
 ·rw[if_neg (by decide),if_neg (by decide)];exact(csure_no (es:=es) h.k h.len hl hr ra rc).mono (fun x w' ⟨h1,h2⟩=>⟨h1,h.stay h2⟩)
 ·rw[if_pos rfl,if_pos rfl];exact(csure_yes (es:=es) (rc:=rc) h.k h.d h.g.gm hg hf h.len hl hr hR).mono (fun x w' ⟨h1,h2⟩=>⟨h1,h2.up (addC_good h.g h.d hf hr).2 h.d⟩)
set_option maxRecDepth 100000 in
set_option maxHeartbeats 4000000 in
theorem cbeg_any(h:Up B O w p v q r b bt loc)(hg:∀u,Rg.Kept (fun i _=>Eo O i) w u→Gl u)(o:Od){sa:Option Addr}{sc:Nat}(hs:Sts w sa o.steps)(hsl:o.steps.length≤9223372036854775807)(hw:(Lit.int .i64 o.id).wf =true):
 Calls Tryz.prog 11 #[.pointer (some ⟨p,0,none⟩),.agg #[.int .i64 o.id,.int .i64 o.item,.int .i64 o.qty,.int .i64 o.client,.int .i64 o.price,.slice sa o.steps.length sc]] w fun e w'=>∃x,e= .returned (.tuple #[x,.int .i64 (begE v o)])∧SendR B O w p (begS v o) q b bt loc (begA v o) (.returned x) w':=by
 obtain⟨W,hW⟩:∃W,W=w.alloc (.cells #[.int .i64 o.id,.int .i64 o.item,.int .i64 o.qty,.int .i64 o.client,.int .i64 o.price,.slice sa o.steps.length sc] 32):=⟨_,rfl⟩
 have hbW:Below w.heap.size w W:=by rw[hW];exact(zF _ _).alloc (zD _) _
 have hbx:W.heap[w.heap.size]?=some (.cells #[.int .i64 o.id,.int .i64 o.item,.int .i64 o.qty,.int .i64 o.client,.int .i64 o.price,.slice sa o.steps.length sc] 32 (0,0)):=by rw[hW];exact zI w _
 have hzW:W.heap.size=w.heap.size+1:=by rw[hW];simp
 have CU:Hid (∀u,Below W.heap.size W u→(u.cell? ⟨w.heap.size,0,none⟩=some (.int .i64 o.id)∧u.cell? ⟨w.heap.size,1,none⟩=some (.int .i64 o.item)∧u.cell? ⟨w.heap.size,2,none⟩=some (.int .i64 o.qty)∧u.cell? ⟨w.heap.size,3,none⟩=some (.int .i64 o.client)∧u.cell? ⟨w.heap.size,4,none⟩=some (.int .i64 o.price)∧u.cell? ⟨w.heap.size,5,none⟩=some (.slice sa o.steps.length sc))∧(u.cell? ⟨p,0,none⟩=some (.int .i64 v.most)∧u.cell? ⟨p,3,none⟩=some (.map (some b))∧u.cell? ⟨p,4,none⟩=some (.pointer (some ⟨bt,0,none⟩)))):=fun u hu=>by
  have hx:=(hu.block _ (by omega)).trans hbx
  obtain⟨k0,-,-,k3,k4⟩:=(h.k.on (bel_on' hbW hu)).cell3;refine⟨⟨?_,?_,?_,?_,?_,?_⟩,k0,k3,k4⟩<;>(rw[cell_of hx];rfl)
 have LKU:Hid (∀u,Below W.heap.size W u→(Instr.lookup 92 (.map (some b)) (.int .i64 o.id) false).run Tryz.prog u.drew= .ok (ptV (loc o.id)) u.drew):=fun u hu=>(h.k.on (bel_on' hbW (bel_on' hu (zF u.heap.size u).drew))).look hw
 have ST:Hid (∀u,Below W.heap.size W u→SendR B O w p v q b bt loc [] (.returned (.slice none 0 0)) u∧SendR B O w p v q b bt loc [] (.returned (.slice none 0 0)) u.drew):=fun u hu=>
  ⟨(h.stay (bel_on' hbW hu)).quiet,(h.stay (bel_on' (bel_on' hbW hu) (zF u.heap.size u).drew)).quiet⟩
 have DN:Calls Tryz.prog 28 #[.pointer (some ⟨p,0,none⟩)] W fun e w'=>e= .returned (.bool false)∧Below W.heap.size W w':=by
  have:=(h.k.on hbW).dn
  rw[h.d]at this;exact this
 have MC:Hid (∀u,Below W.heap.size W u→Calls Tryz.prog 55 #[.agg #[.int .i64 o.id,.int .i64 o.item,.int .i64 o.qty,.int .i64 o.client,.int .i64 o.price,.slice sa o.steps.length sc]] u fun e w'=>e= .returned (.bool (mayO o))∧Below W.heap.size W w'):=fun u hu=>(omay_any o sa sc u ((hs.below hbW).below hu) hsl).mono (fun _ _ ⟨e1,e2⟩=>⟨e1,bel_on' hu e2⟩)
 have UW:Hid (∀u,Below W.heap.size W u→Calls Tryz.prog 56 #[.pointer (some ⟨p,0,none⟩)] u fun e w'=>e= .returned (.int .i64 (wayN v.L:Int))∧Below W.heap.size W w'):=fun u hu=>
  (cway_any (h.k.on (bel_on' hbW hu)) h.g.gm).mono (fun _ _ ⟨e1,e2⟩=>⟨e1,bel_on' hu e2⟩)
 unfold begS begA
 by_cases hm:mayO o=true
 rotate_left
 ·have hm:mayO o=false:=by simpa using hm
  have hE:begE v o=1:=by unfold begE;rw[h.d,hm];rfl
  rw[hE,if_neg (by decide),if_neg (by decide)];rw[hm]at MC;rw[hW]at CU ST DN MC;clear h hg hs hsl hw hW hbW hbx hzW LKU UW hm hE;go_enter Tryz.func11,Tryz.ntmps11
  go_wp2_with(first
   |(go_at_call 28;refine DN.mono ?_;clear DN;rintro e u1 ⟨rfl,hb⟩;obtain⟨⟨b0,b1,b2,b3,b4,b5⟩,p0,p3,p4⟩:=CU.out _ hb;have HB:=hide hb;clear hb)
   |(go_at_call 55;refine(MC.out _ HB.out).mono ?_;clear MC;rintro e u2 ⟨rfl,hb⟩;clear b0 b1 b2 b3 b4 b5 p0 p3 p4;obtain⟨⟨b0,b1,b2,b3,b4,b5⟩,p0,p3,p4⟩:=CU.out _ hb;clear HB;have HB:=hide hb;clear hb))
  go_ret2
  exact⟨_,rfl,(ST.out _ HB.out).1⟩
 rw[hm]at MC
 cases hl:v.L o.id with
 |some l=>
  obtain⟨a,ha,-⟩:=h.k.ld o.id l hl;have hE:begE v o=8:=by unfold begE;rw[h.d,hm,hl];rfl
  rw[hE,if_neg (by decide),if_neg (by decide)];rw[ha,show ptV (some a)=Value.pointer (some ⟨a,0,none⟩)from rfl]at LKU;rw[hW]at CU ST DN MC LKU;clear h hg hs hsl hw hW hbW hbx hzW UW hm hE ha hl;go_enter Tryz.func11,Tryz.ntmps11
  go_wp2_with(first
   |(go_at_call 28;refine DN.mono ?_;clear DN;rintro e u1 ⟨rfl,hb⟩;obtain⟨⟨b0,b1,b2,b3,b4,b5⟩,p0,p3,p4⟩:=CU.out _ hb;have HB:=hide hb;clear hb)
   |(go_at_call 55;refine(MC.out _ HB.out).mono ?_;clear MC;rintro e u2 ⟨rfl,hb⟩;clear b0 b1 b2 b3 b4 b5 p0 p3 p4;obtain⟨⟨b0,b1,b2,b3,b4,b5⟩,p0,p3,p4⟩:=CU.out _ hb;clear HB;have HB:=hide hb;have hL:=LKU.out _ hb;clear hb))
  go_region_held3(fun w'=>w'.cell? ⟨w.heap.size,0,none⟩=some (.int .i64 o.id)∧w'.cell? ⟨w.heap.size,1,none⟩=some (.int .i64 o.item)∧w'.cell? ⟨w.heap.size,2,none⟩=some (.int .i64 o.qty)∧w'.cell? ⟨w.heap.size,3,none⟩=some (.int .i64 o.client)∧w'.cell? ⟨w.heap.size,4,none⟩=some (.int .i64 o.price)∧w'.cell? ⟨w.heap.size,5,none⟩=some (.slice sa o.steps.length sc)∧w'.cell? ⟨p,0,none⟩=some (.int .i64 v.most)∧w'.cell? ⟨p,3,none⟩=some (.map (some b))∧w'.cell? ⟨p,4,none⟩=some (.pointer (some ⟨bt,0,none⟩))) (go_keep) (fail)
  go_wp2
  go_ret2
  exact⟨_,rfl,(ST.out _ HB.out).2⟩
 |none=>
 have hlo:=h.k.no o.id hl
 rw[hlo,show ptV none=Value.pointer none from rfl]at LKU
 by_cases hwy:v.most≤(wayN v.L:Int)
 ·have hE:begE v o=5:=by unfold begE;rw[h.d,hm,hl];simp[hwy]
  rw[hE,if_neg (by decide),if_neg (by decide)];rw[hW]at CU ST DN MC LKU UW;generalize (wayN v.L:Int)=wn at *;clear h hg hs hsl hw hW hbW hbx hzW hm hE hl hlo;go_enter Tryz.func11,Tryz.ntmps11
  go_wp2_with(first
   |(go_at_call 28;refine DN.mono ?_;clear DN;rintro e u1 ⟨rfl,hb⟩;obtain⟨⟨b0,b1,b2,b3,b4,b5⟩,p0,p3,p4⟩:=CU.out _ hb;have HB:=hide hb;clear hb)
   |(go_at_call 55;refine(MC.out _ HB.out).mono ?_;clear MC;rintro e u2 ⟨rfl,hb⟩;clear b0 b1 b2 b3 b4 b5 p0 p3 p4;obtain⟨⟨b0,b1,b2,b3,b4,b5⟩,p0,p3,p4⟩:=CU.out _ hb;clear HB;have HB:=hide hb;have hL:=LKU.out _ hb;clear hb))
  go_region_held3(fun w'=>w'.cell? ⟨w.heap.size,0,none⟩=some (.int .i64 o.id)∧w'.cell? ⟨w.heap.size,1,none⟩=some (.int .i64 o.item)∧w'.cell? ⟨w.heap.size,2,none⟩=some (.int .i64 o.qty)∧w'.cell? ⟨w.heap.size,3,none⟩=some (.int .i64 o.client)∧w'.cell? ⟨w.heap.size,4,none⟩=some (.int .i64 o.price)∧w'.cell? ⟨w.heap.size,5,none⟩=some (.slice sa o.steps.length sc)∧w'.cell? ⟨p,0,none⟩=some (.int .i64 v.most)∧w'.cell? ⟨p,3,none⟩=some (.map (some b))∧w'.cell? ⟨p,4,none⟩=some (.pointer (some ⟨bt,0,none⟩))) (go_keep) (fail)
  go_wp2_with fail
  go_region_held3(fun w'=>w'.cell? ⟨w.heap.size,0,none⟩=some (.int .i64 o.id)∧w'.cell? ⟨w.heap.size,1,none⟩=some (.int .i64 o.item)∧w'.cell? ⟨w.heap.size,2,none⟩=some (.int .i64 o.qty)∧w'.cell? ⟨w.heap.size,3,none⟩=some (.int .i64 o.client)∧w'.cell? ⟨w.heap.size,4,none⟩=some (.int .i64 o.price)∧w'.cell? ⟨w.heap.size,5,none⟩=some (.slice sa o.steps.length sc)∧w'.cell? ⟨p,0,none⟩=some (.int .i64 v.most)∧w'.cell? ⟨p,3,none⟩=some (.map (some b))∧w'.cell? ⟨p,4,none⟩=some (.pointer (some ⟨bt,0,none⟩))) (go_keep) (first
   |(go_at_call 56;refine(UW.out _ (bel_d (bel_d HB.out))).mono ?_;clear UW;rintro e u3 ⟨rfl,hb⟩;clear b0 b1 b2 b3 b4 b5 p0 p3 p4;obtain⟨⟨b0,b1,b2,b3,b4,b5⟩,p0,p3,p4⟩:=CU.out _ hb;clear HB hL;have HB:=hide hb;clear hb))
  go_wp2
  go_ret2
  exact⟨_,rfl,(ST.out _ HB.out).1⟩
 have hwy':¬((wayN v.L:Int)≥v.most):=fun e=>hwy e
 have hE:begE v o=noE v (o.steps.length+1):=by unfold begE;rw[h.d,hm,hl];simp[hwy]
 have mo:=mayO_of hm
 have hl1:(sureC v (begT o)).L o.id=some (begL o):=by
  show(begT o).foldl fol v.L o.id=_
  rw[fol_begin hl];exact Gd.updO_same _ _ _
 have EO:Hid (∀u,Below W.heap.size W u→Calls Tryz.prog 58 #[.agg #[.int .i64 o.id,.int .i64 o.item,.int .i64 o.qty,.int .i64 o.client,.int .i64 o.price,.slice sa o.steps.length sc]] u fun e u3=>∃ra n rc,e= .returned (.slice ra n rc)∧Calls Tryz.prog 57 #[.pointer (some ⟨p,0,none⟩),.slice ra n rc] u3 fun x u4=>x= .returned (.int .i64 (noE v (o.steps.length+1)))∧(roomC v (o.steps.length+1)=false→SendR B O w p v q b bt loc [] (.returned (.slice none 0 0)) u4)∧(roomC v (o.steps.length+1)=true→u4.cell? ⟨w.heap.size,0,none⟩=some (.int .i64 o.id)∧u4.cell? ⟨p,4,none⟩=some (.pointer (some ⟨bt,0,none⟩))∧Calls Tryz.prog 59 #[.pointer (some ⟨bt,0,none⟩),.int .i64 o.id] u4.drew fun e u5=>(∃y,e= .returned y)∧u5.cell? ⟨w.heap.size,0,none⟩=some (.int .i64 o.id)∧u5.cell? ⟨p,3,none⟩=some (.map (some b))∧u5.cell? ⟨p,4,none⟩=some (.pointer (some ⟨bt,0,none⟩))∧∃a1,(Instr.lookup 92 (.map (some b)) (.int .i64 o.id) false).run Tryz.prog u5.drew= .ok (.pointer (some ⟨a1,0,none⟩)) u5.drew∧Calls Tryz.prog 60 #[.pointer (some ⟨p,0,none⟩),.pointer (some ⟨a1,0,none⟩)] u5.drew (fun e6 u6=>SendR B O w p (goS (begV v o) (begL o)) q b bt loc (goA (begV v o) (begL o)) e6 u6∧u6.cell? ⟨p,3,none⟩=some (.map (some b))∧u6.cell? ⟨w.heap.size,0,none⟩=some (.int .i64 o.id)))):=fun u hu=>by
  have hx:=bel_on' hbW hu
  refine(cents_any o (hs.below hx) mo.2.2.2.2.2.1).mono ?_;rintro e u3 ⟨W',L,ra,rc,e1,hLe,hbW',en⟩;have hx3:=bel_on' hx (bel_on' hbW' en.bel)
  have hu3:=bel_on' hu (bel_on' hbW' en.bel)
  have hz3:=hu3.size
  have hLl:L.length=(begT o).length :=by rw[←hLe,List.length_map]
  refine⟨ra,L.length,rc,e1,?_⟩;rw[hLl];have hR:RowE u3 (Eo O) ra (begT o):=by
   rw[←hLe];exact en.rowe (fun i ⟨y,e⟩=>by have:=(h.k.bd y i e).2;have:=hx.size;have:=hbW'.size;omega)
  have hg3:∀u',Rg.Kept (fun i _=>Eo O i) u3 u'→Gl u':=fun u' hk=>hg u' ((zE hx3).trans hk)
  refine((h.on hx3).sures hg3 (fits_begin hm hl) (by rw[begT_len];have:=mo.2.2.2.2.2.1;omega) hR).mono ?_;rintro x u4 ⟨e2,h6⟩;rw[begT_len]at e2;unfold sureS at h6;rw[begT_len]at h6;refine⟨e2,fun hr=>?_,fun hr=>?_⟩
  ·rw[hr,if_neg (by decide)]at h6;exact(h6.from hx3).quiet
  ·rw[hr,if_pos rfl]at h6;obtain⟨O1,r1,loc1,k1,g1,K1,l1⟩:=h6;have nb:∀y,¬O y w.heap.size:=fun y e=>by have:=(h.k.bd y _ e).2;omega
   have nb1:¬Eo O1 w.heap.size:=fun e=>(g1 _ e).elim (fun⟨y,e⟩=>nb y e) (fun e=>by omega)
   have c4:u4.cell? ⟨w.heap.size,0,none⟩=some (.int .i64 o.id):=kept_cellR K1 (fun _ ⟨y,e⟩=>nb y e) (CU.out u3 hu3).1.1
   obtain⟨a1,ha1,-⟩:=k1.k.ld o.id _ hl1;have G1:∀u',Rg.Kept (fun i _=>Eo O1 i) u4 u'→Gl u':=fun u' hk=>hg3 u' (kept_two g1 K1 hk)
   refine⟨c4,k1.k.cell3.2.2.2.2,((k1.on (zF u4.heap.size u4).drew).hang hw ⟨_,hl1⟩).mono ?_⟩;rintro e5 u5 ⟨e6,z⟩;obtain⟨O2,r2,loc2,k2,g2,K2,l2⟩:=z.from (w:=u4) (zF u4.heap.size u4).drew
   have G2:∀u',Rg.Kept (fun i _=>Eo O2 i) u5 u'→Gl u':=fun u' hk=>G1 u' (kept_two g2 K2 hk)
   have hd:=(zF u5.heap.size u5).drew
   have ha2:=l2 _ _ ha1
   have hL:=(k2.k.on hd).look hw
   rw[ha2]at hL;have nb2:¬Eo O2 w.heap.size:=fun e=>(g2 _ e).elim nb1 (fun e=>by have:=World.block_lt_of_cell? _ _ c4;have e8:w.heap.size<u4.heap.size:=this;omega)
   have c5:=kept_cellR K2 (fun _=>nb1) c4
   refine⟨e6,c5,k2.k.cell3.2.2.2.1,k2.k.cell3.2.2.2.2,a1,hL,(cgoon_any (k2.on hd) (fun u' hk=>G2 u' ((zE hd).trans hk)) (v:=begV v o) hl1 ha2).mono ?_⟩;intro e7 u7 z7;have s1:=SendR.two (O:=O2) (loc:=loc2) (fun i e=> .inl e) (zE hd) (fun _ _ e=>e) z7
   have s2:=SendR.two g2 K2 l2 s1
   have s3:=SendR.two g1 K1 l1 s2
   obtain⟨ra7,rc7,O7,r7,loc7,-,-,-,k7,-,K7,-⟩:=id z7;exact⟨SendR.two (O:=O) (loc:=loc) (fun i e=> .inl e) (zE hx3) (fun _ _ e=>e) s3,k7.k.cell3.2.2.2.1,kept_cellR K7 (fun _=>nb2) (cellL c5 hd)⟩
 rw[hE]
 rcases noE_two v (o.steps.length+1)with⟨e1,e2⟩|⟨e1,e2⟩
 ·have EO2:Hid (∀u,Below W.heap.size W u→Calls Tryz.prog 58 #[.agg #[.int .i64 o.id,.int .i64 o.item,.int .i64 o.qty,.int .i64 o.client,.int .i64 o.price,.slice sa o.steps.length sc]] u fun e u3=>∃ra n rc,e= .returned (.slice ra n rc)∧Calls Tryz.prog 57 #[.pointer (some ⟨p,0,none⟩),.slice ra n rc] u3 fun x u4=>x= .returned (.int .i64 0)∧u4.cell? ⟨w.heap.size,0,none⟩=some (.int .i64 o.id)∧u4.cell? ⟨p,4,none⟩=some (.pointer (some ⟨bt,0,none⟩))∧Calls Tryz.prog 59 #[.pointer (some ⟨bt,0,none⟩),.int .i64 o.id] u4.drew fun e u5=>(∃y,e= .returned y)∧u5.cell? ⟨w.heap.size,0,none⟩=some (.int .i64 o.id)∧u5.cell? ⟨p,3,none⟩=some (.map (some b))∧u5.cell? ⟨p,4,none⟩=some (.pointer (some ⟨bt,0,none⟩))∧∃a1,(Instr.lookup 92 (.map (some b)) (.int .i64 o.id) false).run Tryz.prog u5.drew= .ok (.pointer (some ⟨a1,0,none⟩)) u5.drew∧Calls Tryz.prog 60 #[.pointer (some ⟨p,0,none⟩),.pointer (some ⟨a1,0,none⟩)] u5.drew (fun e6 u6=>SendR B O w p (goS (begV v o) (begL o)) q b bt loc (goA (begV v o) (begL o)) e6 u6∧u6.cell? ⟨p,3,none⟩=some (.map (some b))∧u6.cell? ⟨w.heap.size,0,none⟩=some (.int .i64 o.id))):=fun u hu=>(EO.out u hu).mono (fun _ _ ⟨ra,n,rc,y1,y2⟩=>⟨ra,n,rc,y1,y2.mono (fun _ _ ⟨x1,_,x3⟩=>⟨by rw[e1]at x1;exact x1,x3 e2⟩)⟩)
  rw[e1,if_pos rfl,if_pos rfl];rw[hW]at CU ST DN MC LKU UW EO2;generalize (wayN v.L:Int)=wn at *;generalize goS (begV v o) (begL o)=v9 at *;generalize goA (begV v o) (begL o)=x9 at *;clear h hg hs hsl hw hW hbW hbx hzW hm hE hl hlo hwy e1 e2 EO mo hl1 ST;go_enter Tryz.func11,Tryz.ntmps11
  go_wp2_with(first
   |(go_at_call 28;refine DN.mono ?_;clear DN;rintro e u1 ⟨rfl,hb⟩;obtain⟨⟨b0,b1,b2,b3,b4,b5⟩,p0,p3,p4⟩:=CU.out _ hb;have HB:=hide hb;clear hb)
   |(go_at_call 55;refine(MC.out _ HB.out).mono ?_;clear MC;rintro e u2 ⟨rfl,hb⟩;clear b0 b1 b2 b3 b4 b5 p0 p3 p4;obtain⟨⟨b0,b1,b2,b3,b4,b5⟩,p0,p3,p4⟩:=CU.out _ hb;clear HB;have HB:=hide hb;have hL:=LKU.out _ hb;clear hb))
  go_region_held3(fun w'=>w'.cell? ⟨w.heap.size,0,none⟩=some (.int .i64 o.id)∧w'.cell? ⟨w.heap.size,1,none⟩=some (.int .i64 o.item)∧w'.cell? ⟨w.heap.size,2,none⟩=some (.int .i64 o.qty)∧w'.cell? ⟨w.heap.size,3,none⟩=some (.int .i64 o.client)∧w'.cell? ⟨w.heap.size,4,none⟩=some (.int .i64 o.price)∧w'.cell? ⟨w.heap.size,5,none⟩=some (.slice sa o.steps.length sc)∧w'.cell? ⟨p,0,none⟩=some (.int .i64 v.most)∧w'.cell? ⟨p,3,none⟩=some (.map (some b))∧w'.cell? ⟨p,4,none⟩=some (.pointer (some ⟨bt,0,none⟩))) (go_keep) (fail)
  go_wp2_with fail
  go_region_held3(fun w'=>w'.cell? ⟨w.heap.size,0,none⟩=some (.int .i64 o.id)∧w'.cell? ⟨w.heap.size,1,none⟩=some (.int .i64 o.item)∧w'.cell? ⟨w.heap.size,2,none⟩=some (.int .i64 o.qty)∧w'.cell? ⟨w.heap.size,3,none⟩=some (.int .i64 o.client)∧w'.cell? ⟨w.heap.size,4,none⟩=some (.int .i64 o.price)∧w'.cell? ⟨w.heap.size,5,none⟩=some (.slice sa o.steps.length sc)∧w'.cell? ⟨p,0,none⟩=some (.int .i64 v.most)∧w'.cell? ⟨p,3,none⟩=some (.map (some b))∧w'.cell? ⟨p,4,none⟩=some (.pointer (some ⟨bt,0,none⟩))) (go_keep) (first
   |(go_at_call 56;refine(UW.out _ (bel_d (bel_d HB.out))).mono ?_;clear UW;rintro e u3 ⟨rfl,hb⟩;clear b0 b1 b2 b3 b4 b5 p0 p3 p4;obtain⟨⟨b0,b1,b2,b3,b4,b5⟩,p0,p3,p4⟩:=CU.out _ hb;clear HB hL;have HB:=hide hb;clear hb))
  go_wp2_with(first
   |(go_at_call 58;refine(EO2.out _ HB.out).mono ?_;clear EO2;rintro e u4 ⟨ra,n,rc,rfl,h5⟩;clear b0 b1 b2 b3 b4 b5 p0 p3 p4;have M2:=h5;clear h5)
   |(go_at_call 57;refine M2.mono ?_;clear M2;rintro e u4 ⟨rfl,c0,c4,h6⟩;have H2:=h6;clear h6))
  go_region_held3(fun w'=>w'.cell? ⟨p,4,none⟩=some (.pointer (some ⟨bt,0,none⟩))∧w'.cell? ⟨w.heap.size,0,none⟩=some (.int .i64 o.id)) (go_keep) (first
   |(go_at_call 59;refine H2.mono ?_;clear H2 c0 c4;rintro e u5 ⟨⟨y,rfl⟩,c0,c3,c4,a1,hL5,h7⟩;have G5:=h7;clear h7))
  go_wp2_with fail
  go_region_held3(fun w'=>w'.cell? ⟨p,3,none⟩=some (.map (some b))∧w'.cell? ⟨w.heap.size,0,none⟩=some (.int .i64 o.id)) (go_keep) (first
   |(go_at_call 60;refine G5.mono ?_;clear G5;clear c0 c3;rintro e u6 ⟨h7,c3,c0⟩;have HX:=hide h7;obtain⟨rb,rd,O9,r9,loc9,rfl,-⟩:=h7))
  go_wp2
  go_ret2
  exact⟨_,rfl,HX.out⟩
 ·have EO2:Hid (∀u,Below W.heap.size W u→Calls Tryz.prog 58 #[.agg #[.int .i64 o.id,.int .i64 o.item,.int .i64 o.qty,.int .i64 o.client,.int .i64 o.price,.slice sa o.steps.length sc]] u fun e u3=>∃ra n rc,e= .returned (.slice ra n rc)∧Calls Tryz.prog 57 #[.pointer (some ⟨p,0,none⟩),.slice ra n rc] u3 fun x u4=>x= .returned (.int .i64 5)∧SendR B O w p v q b bt loc [] (.returned (.slice none 0 0)) u4):=fun u hu=>(EO.out u hu).mono (fun _ _ ⟨ra,n,rc,y1,y2⟩=>⟨ra,n,rc,y1,y2.mono (fun _ _ ⟨x1,x2,_⟩=>⟨by rw[e1]at x1;exact x1,x2 e2⟩)⟩)
  rw[e1,if_neg (by decide),if_neg (by decide)];rw[hW]at CU DN MC LKU UW EO2;generalize (wayN v.L:Int)=wn at *;clear h hg hs hsl hw hW hbW hbx hzW hm hE hl hlo hwy e1 e2 EO mo hl1 ST;go_enter Tryz.func11,Tryz.ntmps11
  go_wp2_with(first
   |(go_at_call 28;refine DN.mono ?_;clear DN;rintro e u1 ⟨rfl,hb⟩;obtain⟨⟨b0,b1,b2,b3,b4,b5⟩,p0,p3,p4⟩:=CU.out _ hb;have HB:=hide hb;clear hb)
   |(go_at_call 55;refine(MC.out _ HB.out).mono ?_;clear MC;rintro e u2 ⟨rfl,hb⟩;clear b0 b1 b2 b3 b4 b5 p0 p3 p4;obtain⟨⟨b0,b1,b2,b3,b4,b5⟩,p0,p3,p4⟩:=CU.out _ hb;clear HB;have HB:=hide hb;have hL:=LKU.out _ hb;clear hb))
  go_region_held3(fun w'=>w'.cell? ⟨w.heap.size,0,none⟩=some (.int .i64 o.id)∧w'.cell? ⟨w.heap.size,1,none⟩=some (.int .i64 o.item)∧w'.cell? ⟨w.heap.size,2,none⟩=some (.int .i64 o.qty)∧w'.cell? ⟨w.heap.size,3,none⟩=some (.int .i64 o.client)∧w'.cell? ⟨w.heap.size,4,none⟩=some (.int .i64 o.price)∧w'.cell? ⟨w.heap.size,5,none⟩=some (.slice sa o.steps.length sc)∧w'.cell? ⟨p,0,none⟩=some (.int .i64 v.most)∧w'.cell? ⟨p,3,none⟩=some (.map (some b))∧w'.cell? ⟨p,4,none⟩=some (.pointer (some ⟨bt,0,none⟩))) (go_keep) (fail)
  go_wp2_with fail
  go_region_held3(fun w'=>w'.cell? ⟨w.heap.size,0,none⟩=some (.int .i64 o.id)∧w'.cell? ⟨w.heap.size,1,none⟩=some (.int .i64 o.item)∧w'.cell? ⟨w.heap.size,2,none⟩=some (.int .i64 o.qty)∧w'.cell? ⟨w.heap.size,3,none⟩=some (.int .i64 o.client)∧w'.cell? ⟨w.heap.size,4,none⟩=some (.int .i64 o.price)∧w'.cell? ⟨w.heap.size,5,none⟩=some (.slice sa o.steps.length sc)∧w'.cell? ⟨p,0,none⟩=some (.int .i64 v.most)∧w'.cell? ⟨p,3,none⟩=some (.map (some b))∧w'.cell? ⟨p,4,none⟩=some (.pointer (some ⟨bt,0,none⟩))) (go_keep) (first
   |(go_at_call 56;refine(UW.out _ (bel_d (bel_d HB.out))).mono ?_;clear UW;rintro e u3 ⟨rfl,hb⟩;clear b0 b1 b2 b3 b4 b5 p0 p3 p4;obtain⟨⟨b0,b1,b2,b3,b4,b5⟩,p0,p3,p4⟩:=CU.out _ hb;clear HB hL;have HB:=hide hb;clear hb))
  go_wp2_with(first
   |(go_at_call 58;refine(EO2.out _ HB.out).mono ?_;clear EO2;rintro e u4 ⟨ra,n,rc,rfl,h5⟩;clear b0 b1 b2 b3 b4 b5 p0 p3 p4;have M2:=h5;clear h5)
   |(go_at_call 57;refine M2.mono ?_;clear M2;rintro e u4 ⟨rfl,h6⟩;have HX:=hide h6;clear h6))
  go_ret2
  exact⟨_,rfl,HX.out⟩
end
end Go.Proofs.YthfgmpooehkhgaaGreatDoor
namespace Go.Proofs.YthfgmpooehkhgaaGreatDoor
open Go.RowKit Sg Bl
open Nat renaming le_trans→zK
structure Mx (n:Nat) (f:Fa):Prop where
 n3:n≤3
 dl:f.dn.length=n
 ul:f.un.length=n
 d:decF f=true
 dn:donF f=true
 un:undF f=true
 ask:f.asked=true→f.turned=false→allB f.dn=true
theorem Mx.may{o:Od}{f:Fa}(hm:mayO o=true)(h:Mx o.steps.length f):mayF o f=true:=by
 unfold mayF
 rw[hm,h.d,h.dn,h.un,decide_eq_true h.dl,decide_eq_true h.ul]
 rfl
section
variable {n:Nat}{f:Fa}
theorem Mx.asked(h:Mx n f)(ha:allB f.dn=true)(hy:f.yes=false)(ht:f.turned=false):Mx n {f with asked:=true}:=by
 obtain⟨h0,h1,h2,h3,h4,h5,h6⟩:=h
 obtain⟨dn,un,a,y,t,k0,k1,s,d0,d1,ac⟩:=f
 cases hy
 cases ht
 exact⟨h0,h1,h2,h3,h4,h5,fun _ _=>ha⟩
theorem Mx.yes(h:Mx n f)(ha:f.asked=true)(hy:f.yes=false)(ht:f.turned=false):Mx n {f with yes:=true}:=by
 obtain⟨h0,h1,h2,h3,h4,h5,h6⟩:=h
 obtain⟨dn,un,a,y,t,k0,k1,s,d0,d1,ac⟩:=f
 cases hy
 cases ht
 cases ha
 exact⟨h0,h1,h2,rfl,h6 rfl rfl,h5,fun _ _=>h6 rfl rfl⟩
theorem stays_not:∀ {l:List Bool},l.length≤3→Sg.hasB l true=false→staysB l true=true
 | [],_,_=>rfl
 | [false],_,_=>rfl
 | [false,false],_,_=>rfl
 | [false,false,false],_,_=>rfl
 |true::_,_,h=>by simp[Sg.hasB]at h
 | [false,true],_,h=>by simp[Sg.hasB]at h
 |false::true::_:: [],_,h=>by simp[Sg.hasB]at h
 | [false,false,true],_,h=>by simp[Sg.hasB]at h
 |_::_::_::_::_,h,_=>by simp at h
theorem Mx.turn(h:Mx n f)(hy:f.yes=false)(ht:f.turned=false):Mx n {f with turned:=true}:=by
 obtain⟨h0,h1,h2,h3,h4,h5,h6⟩:=h
 obtain⟨dn,un,a,y,t,k0,k1,s,d0,d1,ac⟩:=f
 cases hy
 cases ht
 refine⟨h0,h1,h2,?_,rfl,?_,fun _ e=>by cases e⟩
 ·unfold decF at h3 ⊢;simp at h3 ⊢;exact h3.1.1
 ·unfold undF at h5 ⊢;simp at h5 ⊢;exact stays_not (by simpa using zK (Nat.le_of_eq h2) h0) h5
theorem Mx.k0(h:Mx n f)(hd:(f.yes||f.turned)=true):Mx n {f with k0:=true}:=by
 obtain⟨h0,h1,h2,h3,h4,h5,h6⟩:=h
 obtain⟨dn,un,a,y,t,k0,k1,s,d0,d1,ac⟩:=f
 refine⟨h0,h1,h2,?_,h4,h5,h6⟩
 cases y<;>cases t<;>first|exact h3|cases hd
theorem Mx.k1(h:Mx n f)(hd:(f.yes||f.turned)=true):Mx n {f with k1:=true}:=by
 obtain⟨h0,h1,h2,h3,h4,h5,h6⟩:=h
 obtain⟨dn,un,a,y,t,k0,k1,s,d0,d1,ac⟩:=f
 refine⟨h0,h1,h2,?_,h4,h5,h6⟩
 cases y<;>cases t<;>first|exact h3|cases hd
theorem Mx.d0(h:Mx n f)(hd:(f.yes||f.turned)=true):Mx n {f with k0:=true,d0:=true}:=by
 obtain⟨h0,h1,h2,h3,h4,h5,h6⟩:=h
 obtain⟨dn,un,a,y,t,k0,k1,s,d0,d1,ac⟩:=f
 refine⟨h0,h1,h2,?_,h4,h5,h6⟩
 cases y<;>cases t<;>first|exact h3|cases hd
theorem Mx.d1(h:Mx n f)(hd:(f.yes||f.turned)=true):Mx n {f with k1:=true,d1:=true}:=by
 obtain⟨h0,h1,h2,h3,h4,h5,h6⟩:=h
 obtain⟨dn,un,a,y,t,k0,k1,s,d0,d1,ac⟩:=f
 refine⟨h0,h1,h2,?_,h4,h5,h6⟩
 cases y<;>cases t<;>first|exact h3|cases hd
theorem Mx.ship(h:Mx n f)(hy:f.yes=true):Mx n {f with ship:=true}:=by
 obtain⟨h0,h1,h2,h3,h4,h5,h6⟩:=h
 obtain⟨dn,un,a,y,t,k0,k1,s,d0,d1,ac⟩:=f
 cases hy
 refine⟨h0,h1,h2,?_,h4,h5,h6⟩
 cases t
 ·exact h3
 ·unfold decF at h3;simp at h3
theorem Mx.acc(h:Mx n f):Mx n {f with acc:=true}:=⟨h.n3,h.dl,h.ul,h.d,h.dn,h.un,h.ask⟩
theorem stays_set:∀ {l:List Bool}{i:Nat},l.length≤3→i<l.length→idxB l false=i→staysB l false=true→staysB (l.set i true) false=true:=by
 intro l i hl hi
 match l,hl with
 | [],_=>cases hi
 | [a],_=>obtain rfl:i=0:=by simpa using hi
          cases a<;>decide
 | [a,b],_=>
   have:i=0∨i=1:=by simp at hi;omega
   rcases this with rfl|rfl<;>cases a<;>cases b<;>decide
 | [a,b,c],_=>
   have:i=0∨i=1∨i=2:=by simp at hi;omega
   rcases this with rfl|rfl|rfl<;>cases a<;>cases b<;>cases c<;>decide
 |_::_::_::_::_,h=>simp at h
theorem Mx.done(h:Mx n f){i:Nat}(hi:i<n)(ha:f.asked=false)(hy:f.yes=false)(ht:f.turned=false)(hx:idxB f.dn false=i):Mx n {f with dn:=f.dn.set i true}:=by
 obtain⟨h0,h1,h2,h3,h4,h5,h6⟩:=h
 obtain⟨dn,un,a,y,t,k0,k1,s,d0,d1,ac⟩:=f
 cases hy
 cases ht
 cases ha
 exact⟨h0,by simpa using h1,h2,h3,stays_set (by simpa using zK (Nat.le_of_eq h1) h0) (by simpa using Nat.lt_of_lt_of_eq hi h1.symm) hx h4,h5,fun e=>by cases e⟩
theorem unst_set:∀ {l:List Bool}{i:Nat},l.length≤3→i<l.length→Sg.hasB (l.drop (i+1)) false=false→staysB l true=true→staysB (l.set i true) true=true:=by
 intro l i hl hi
 match l,hl with
 | [],_=>cases hi
 | [a],_=>obtain rfl:i=0:=by simpa using hi
          cases a<;>decide
 | [a,b],_=>
   have:i=0∨i=1:=by simp at hi;omega
   rcases this with rfl|rfl<;>cases a<;>cases b<;>decide
 | [a,b,c],_=>
   have:i=0∨i=1∨i=2:=by simp at hi;omega
   rcases this with rfl|rfl|rfl<;>cases a<;>cases b<;>cases c<;>decide
 |_::_::_::_::_,h=>simp at h
theorem Mx.undone(h:Mx n f){i:Nat}(hi:i<n)(ht:f.turned=true)(hx:Sg.hasB (f.un.drop (i+1)) false=false):Mx n {f with un:=f.un.set i true}:=by
 obtain⟨h0,h1,h2,h3,h4,h5,h6⟩:=h
 obtain⟨dn,un,a,y,t,k0,k1,s,d0,d1,ac⟩:=f
 cases ht
 exact⟨h0,h1,by simpa using h2,h3,h4,unst_set (by simpa using zK (Nat.le_of_eq h2) h0) (by simpa using Nat.lt_of_lt_of_eq hi h2.symm) hx h5,fun _ e=>by cases e⟩
end
def frF(n:Nat)(a t:Bool):Fa:=⟨List.replicate n false,List.replicate n false,a,false,t,false,false,false,false,false,false⟩
theorem three_of{o:Od}(hm:mayO o=true):o.steps.length=0∨o.steps.length=1∨o.steps.length=2∨o.steps.length=3:=by
 have:=(mayO_of hm).2.2.2.2.2.1
 omega
theorem may_fr{o:Od}(hm:mayO o=true)(a t:Bool):mayF o (frF o.steps.length a t)=true:=by
 unfold mayF
 rw[hm]
 have h:=three_of hm
 have e1:(frF o.steps.length a t).dn.length =o.steps.length:=by simp[frF]
 have e2:(frF o.steps.length a t).un.length =o.steps.length:=by simp[frF]
 rw[decide_eq_true e1,decide_eq_true e2]
 generalize o.steps.length=n at *
 rcases h with rfl|rfl|rfl|rfl<;>cases a<;>cases t<;>rfl
theorem may_acc{o:Od}{f:Fa}(b:Bool):mayF o {f with acc:=b}=mayF o f:=rfl
theorem over_fr{o:Od}(hm:mayO o=true)(a t:Bool):overF o (frF o.steps.length a t)=false:=by
 unfold overF stF
 rw[may_acc,may_fr hm]
 cases a<;>cases t<;>rfl
theorem next_fr{o:Od}(hm:mayO o=true)(a:Bool):nextF o (frF o.steps.length a false)=if o.steps.length=0 then prepL o else[doM o 0]:=by
 have h:=three_of hm
 unfold nextF planL
 rw[may_fr hm,hm]
 simp only[Bool.true_eq_false,if_false,if_true]
 show runS (fwdS o (frF o.steps.length a false)) _ []=_
 generalize hn:o.steps.length=n at *
 rcases h with rfl|rfl|rfl|rfl<;>rfl
def frL(o:Od)(a t:Bool)(y:Option (Bool×Bool)):Lk:=⟨o,frF o.steps.length a t,y⟩
structure One (v:Ch) (o:Od) (a t:Bool) (n:Nat):Prop where
 d:v.down=false
 l:∃y,v.L o.id=some (frL o a t y)
 len:v.T.length≤n
 oth:∀x,x≠o.id→v.L x=none
theorem One.le{v:Ch}{o:Od}{a t:Bool}{n n':Nat}(h:One v o a t n)(hn:n≤n'):One v o a t n':=⟨h.d,h.l,zK h.len hn,h.oth⟩
theorem One.setH{v:Ch}{o:Od}{a t:Bool}{n:Nat}(h:One v o a t n)(g:Int→Int):One (Go.Proofs.YthfgmpooehkhgaaGreatDoor.setH v g) o a t n:=⟨h.d,h.l,h.len,h.oth⟩
theorem room_of{v:Ch}{n k:Nat}(h:v.T.length≤n)(hr:((n+k:Nat):Int)≤v.room):roomC v k=true:=by
 unfold roomC
 rw[decide_eq_true_eq]
 omega
theorem One.send{v:Ch}{o:Od}{a:Bool}{n:Nat}(hm:mayO o=true)(h:One v o a false n){y:Option (Bool×Bool)}(hy:v.L o.id=some (frL o a false y))(hr:((n+1:Nat):Int)≤v.room):
 One (sendS v (frL o a false y)) o (a||decide (o.steps.length=0)) false (n+1)∧sendA v (frL o a false y)=nextF o (frF o.steps.length a false)∧(sendS v (frL o a false y)).room =v.room∧(sendS v (frL o a false y)).t =v.t∧(sendS v (frL o a false y)).h =v.h:=by
 have hrm:=room_of (k:=1) h.len hr
 have hN:nextF (frL o a false y).o (frL o a false y).f =if o.steps.length=0 then prepL o else[doM o 0]:=next_fr hm a
 have ha:sendA v (frL o a false y)=nextF o (frF o.steps.length a false):=by
  unfold sendA;rw[hrm];simp only[Bool.not_true,Bool.and_false,Bool.false_eq_true,if_false];rfl
 have hp:prepB (frL o a false y)=decide (o.steps.length=0):=by
  unfold prepB;rw[hN];by_cases e:o.steps.length=0
  ·rw[if_pos e,decide_eq_true e];rfl
  ·rw[if_neg e,decide_eq_false e];rfl
 refine⟨?_,ha,?_⟩
 ·unfold sendS;rw[hp];cases e:decide (o.steps.length=0)<;>cases a
  ·simp only[Bool.false_and,Bool.false_eq_true,if_false,Bool.or_false];exact h.le (by omega)
  ·simp only[Bool.false_and,Bool.false_eq_true,if_false,Bool.or_false];exact h.le (by omega)
  ·have e1:(true&& !(frL o false false y).f.asked)=true:=rfl
   rw[if_pos e1];unfold noteS;rw[show([askE (frL o false false y).o.id]:List Et).length =1 from rfl,if_pos hrm];refine⟨h.d,⟨some (false,false),?_⟩,by show(v.T++ [askE o.id]).length ≤n+1;rw[List.length_append];have:=h.len;simp;omega,fun x hx=>?_⟩
   ·show fol v.L (askE o.id) o.id=_
    unfold fol;rw[show(askE o.id).id =o.id from rfl,Gd.updO_same,if_neg (by intro e2;cases e2),hy];rfl
   ·show fol v.L (askE o.id) x=none
    unfold fol;rw[show(askE o.id).id =o.id from rfl,Gd.updO_other _ _ hx];exact h.oth x hx
  ·have e1:¬(true&& !(frL o true false y).f.asked)=true:=by simp[frL,frF]
   rw[if_neg e1];exact h.le (by omega)
 ·unfold sendS noteS;split
  ·split<;>exact⟨rfl,rfl,rfl⟩
  ·exact⟨rfl,rfl,rfl⟩
theorem One.new{o:Od}(hm:mayO o=true)(orders room tries:Int)(hr:5≤roomV room):
 begE (newCh orders room tries) o=0∧One (begS (newCh orders room tries) o) o (decide (o.steps.length=0)) false 5∧begA (newCh orders room tries) o=nextF o (frF o.steps.length false false)∧(begS (newCh orders room tries) o).room =roomV room∧(begS (newCh orders room tries) o).t =clampT tries∧(begS (newCh orders room tries) o).h o.id=clampT tries+1:=by
 have h3:=(mayO_of hm).2.2.2.2.2.1
 have hid:=(mayO_of hm).1
 have hw:wayN (newCh orders room tries).L =0:=by
  have:idsC noL= []:=List.filter_eq_nil_iff.2 (fun x _=>by show¬(noL x).isSome =true;exact fun e=>by cases e)
  show((idsC noL).filter (way1 noL)).length =0
  rw[this];rfl
 have hmost:1≤(newCh orders room tries).most :=(newCh_good orders room tries).m1
 have hrm:roomC (newCh orders room tries) (o.steps.length+1)=true:=by
  unfold roomC;rw[decide_eq_true_eq];show(((([]:List Et)).length :Nat):Int)+_≤roomV room
  simp only[List.length_nil];omega
 have hE:begE (newCh orders room tries) o=0:=by
  unfold begE;rw[show(newCh orders room tries).down =false from rfl,if_neg (by decide),hm,if_neg (by decide),show(newCh orders room tries).L o.id=none from rfl,if_neg (by decide),hw,if_neg (by omega)];unfold noE;rw[hrm];rfl
 obtain⟨-,hd,hl,hL⟩:=begV_good (newCh_good orders room tries) hE
 have o1:One (begV (newCh orders room tries) o) o false false 4:=by
  refine⟨hd,⟨none,by rw[hl];rfl⟩,?_,fun x hx=>?_⟩
  ·show([]++begT o).length ≤4
   rw[List.nil_append,begT_len];omega
  ·rw[hL,Gd.updO_other _ _ hx];rfl
 have o2:=o1.setH (agnH (begV (newCh orders room tries) o).t (begV (newCh orders room tries) o).h o.id)
 have hov:overF (begL o).o (begL o).f =false:=over_fr hm false false
 have key:=o2.send hm (y:=none) hl (by show((4+1:Nat):Int)≤roomV room;omega)
 unfold begS begA
 rw[hE,if_pos rfl,if_pos rfl]
 unfold goS goA
 rw[hov]
 simp only[Bool.false_eq_true,if_false]
 refine⟨trivial,by have:=key.1;rw[Bool.false_or]at this;exact this,?_,key.2.2.1,key.2.2.2.1,?_⟩
 ·have e:=key.2.1
  unfold sendA at e ⊢;exact e
 ·have e:=key.2.2.2.2
  show(sendS _ (frL o false false none)).h o.id=_
  have e1:(sendS (agnC (begV (newCh orders room tries) o) (begL o).o.id) (frL o false false none)).h =agnH (begV (newCh orders room tries) o).t (begV (newCh orders room tries) o).h o.id:=e
  rw[e1];have h0:(begV (newCh orders room tries) o).h o.id=clampT tries+1:=by
   show hangH (clampT tries) (fun _=>0) o.id o.id=_
   unfold hangH;rw[if_pos (by unfold hangB isI;simp;exact hid),Bl.upd_same]
  unfold agnH;split
  ·exact h0
  ·rw[Bl.upd_same];rfl
theorem bck_six(o:Od)(f:Fa):∀m∈runS (bckS o f) (Sg.backL o) [],m.k≠6:=by
 refine runS_all _ [] (fun x _ m hm=>?_) (by simp)
 unfold bckS at hm
 split at hm
 ·have:=decL_k m hm
  omega
 ·split at hm
  ·split at hm
   ·cases hm
   ·simp at hm;rw[hm];show(4:Int)≠6
    decide
  ·cases hm
theorem fwd_six(o:Od)(f:Fa)(hy:f.yes=true):∀m∈runS (fwdS o f) (planL o) [],m.k≠6:=by
 refine runS_all _ [] (fun x _ m hm=>?_) (by simp)
 unfold fwdS at hm
 rw[hy]at hm
 split at hm
 ·split at hm
  ·cases hm
  ·simp at hm;rw[hm];show(1:Int)≠6
   decide
 ·split at hm
  ·simp at hm
  ·split at hm
   ·have:=decL_k m hm
    omega
   ·split at hm
    ·split at hm
     ·cases hm
     ·simp at hm;rw[hm];show(15:Int)≠6
      decide
    ·cases hm
theorem prep_facts{l:Lk}(hm:mayO l.o=true)(hd:l.f.dn.length=l.o.steps.length)(h:prepB l=true):allB l.f.dn=true∧l.f.yes=false∧l.f.turned=false:=by
 have hp:=prepB_of h
 have h6:∃m∈nextF l.o l.f,m.k=6:=by rw[hp];exact⟨_,List.mem_cons_self ..,rfl⟩
 obtain⟨m,hm6,hk⟩:=h6
 have hmay:mayF l.o l.f=true:=by
  cases e:mayF l.o l.f
  ·unfold nextF at hm6;rw[e]at hm6;cases hm6
  ·rfl
 have ht:l.f.turned=false:=by
  cases e:l.f.turned
  ·rfl
  ·unfold nextF at hm6;rw[hmay,e]at hm6;exact absurd hk (bck_six _ _ m hm6)
 have hy:l.f.yes=false:=by
  cases e:l.f.yes
  ·rfl
  ·unfold nextF at hm6;rw[hmay,ht]at hm6;exact absurd hk (fwd_six _ _ e m hm6)
 refine⟨?_,hy,ht⟩
 have h3:=three_of hm
 unfold nextF planL at hp
 rw[hmay,ht,hm]at hp
 simp only[Bool.true_eq_false,Bool.false_eq_true,if_false,if_true]at hp
 obtain⟨o,f,y⟩:=l
 obtain⟨dn,un,a,y0,t,k0,k1,s,d0,d1,ac⟩:=f
 dsimp only at *
 cases hy
 clear hm6 hmay h hm
 generalize o.steps.length=n at *
 subst hd
 match dn,h3 with
 | [],_=>rfl
 | [x],_=>cases x<;>first|rfl|cases hp
 | [x,y],_=>cases x<;>cases y<;>first|rfl|cases hp
 | [x,y,z],_=>cases x<;>cases y<;>cases z<;>first|rfl|cases hp
 |_::_::_::_::_,h3=>simp at h3
def OkS(l:Lk)(k:Nat)(n:List Int):Prop:=
 match k with
 |2=>l.f.asked=false∧l.f.yes=false∧l.f.turned=false∧∃i:Nat,n= [(i:Int)]∧i<l.f.dn.length∧idxB l.f.dn false=i
 |3=>allB l.f.dn=true∧l.f.yes=false∧l.f.turned=false
 |4=>l.f.asked=true∧l.f.yes=false∧l.f.turned=false
 |5=>l.f.yes=false∧l.f.turned=false
 |6=>l.f.turned=true∧∃i:Nat,n= [(i:Int)]∧i<l.f.un.length∧Sg.hasB (l.f.un.drop (i+1)) false=false
 |7=>(l.f.yes||l.f.turned)=true
 |8=>(l.f.yes||l.f.turned)=true
 |9=>l.f.yes=true
 |10=>True
 |_=>False
theorem folL_mx{l:Lk}{k:Nat}{n:List Int}{s:Nat}(h:Mx s l.f)(ho:OkS l k n):(folL l k n).o =l.o∧Mx s (folL l k n).f :=by
 match k,ho with
 |2,⟨h1,h2,h3,i,e1,e2,e3⟩=>
  subst e1;exact⟨rfl,h.done (by rw[h.dl]at e2;exact e2) h1 h2 h3 e3⟩
 |3,⟨h1,h2,h3⟩=>exact⟨rfl,h.asked h1 h2 h3⟩
 |4,⟨h1,h2,h3⟩=>exact⟨rfl,h.yes h1 h2 h3⟩
 |5,⟨h1,h2⟩=>exact⟨rfl,h.turn h1 h2⟩
 |6,⟨h1,i,e1,e2,e3⟩=>
  subst e1;exact⟨rfl,h.undone (by rw[h.ul]at e2;exact e2) h1 e3⟩
 |7,h1=>
  refine⟨rfl,?_⟩;show Mx s (if n.getD 0 0=1 then _ else _)
  split
  ·exact h.k0 h1
  ·exact h.k1 h1
 |8,h1=>
  refine⟨rfl,?_⟩;show Mx s (if n.getD 0 0=1 then _ else _)
  split
  ·exact h.d0 h1
  ·exact h.d1 h1
 |9,h1=>exact⟨rfl,h.ship h1⟩
 |10,_=>exact⟨rfl,h.acc⟩
def hgC(v:Ch)(id:Int):Ch:=setH v (hangH v.t v.h id)
def wkC(v:Ch)(id:Int):Ch:=match v.L id with
 |none=>v
 |some l=>if overF l.o l.f=true then v else hgC (if l.wt=true then sgS v l 5 []else v) id
def rvC(v:Ch):Ch:=⟨v.most,v.room,v.t,v.T,v.T.length,false,runT v.T,fun _=>0⟩
def upC(v:Ch):Ch:=if v.down=true then(idsC (runT v.T)).foldl wkC (rvC v)else v
def rvN(v:Ch)(n:Nat):Ch:=⟨v.most,v.room,v.t,v.T,v.T.length,false,runT (v.T.take n),fun _=>0⟩
theorem rvN_all(v:Ch):rvN v v.T.length=rvC v:=by
 unfold rvN rvC
 rw[List.take_length]
theorem rvN_step{v:Ch}{n:Nat}{e:Et}(h:v.T[n]?=some e):(rvN v (n+1)).L =fol (rvN v n).L e:=by
 obtain⟨hlt,he⟩:=List.getElem?_eq_some_iff.1 h
 show runT (v.T.take (n+1))=fol (runT (v.T.take n)) e
 unfold runT
 rw[List.take_succ_eq_append_getElem hlt,List.foldl_append,he]
 rfl
theorem rvN_fit{v:Ch}(g:GoodCh v){n:Nat}{e:Et}(h:v.T[n]?=some e):FitE (rvN v n).L e∧GoodM (rvN v n).L :=by
 obtain⟨hlt,he⟩:=List.getElem?_eq_some_iff.1 h
 have h1:=fits_take g.ok (n+1)
 rw[List.take_succ_eq_append_getElem hlt,he]at h1
 obtain⟨h2,h3⟩:=fits_app.1 h1
 exact⟨h3.1,noL_good.fols h2⟩
theorem rvC_good{v:Ch}(g:GoodCh v):GoodCh (rvC v):=
 ⟨g.m1,g.m2,g.r1,g.r2,g.len,Nat.le_refl _,g.ok,(fun e=>by cases e),fun _=>rfl,noL_good.fols g.ok,fun id e=>absurd rfl e⟩
end Go.Proofs.YthfgmpooehkhgaaGreatDoor
namespace Go.Proofs.YthfgmpooehkhgaaGreatDoor
open Go.ChangeShapes Go.WideShapes Go.ChangeAt Go.RowKit Sg Bl
open Nat renaming le_refl→zD
def OwnT(w:World)(l:List (Int×Int))(e:Ending)(w':World):Prop:=∃a' c',e= .returned (.slice a' l.length c')∧w'.ownsRow w.heap.size 107 2 (.slice a' l.length c') l.length (stCells l)∧Below w.heap.size w w'
def OwnB(w:World)(l:List Bool)(e:Ending)(w':World):Prop:=∃a' c',e= .returned (.slice a' l.length c')∧w'.ownsRow w.heap.size 4 1 (.slice a' l.length c') l.length (l.map Value.bool)∧Below w.heap.size w w'
set_option maxHeartbeats 1000000 in
theorem clone_steps{w:World}{a:Option Addr}{c:Nat}{l:List (Int×Int)}(hl:l.length≤1000000)(ha:Sts w a l)(hn:a=none→l= []∧c=0):
 Calls Tryz.prog 116 #[.slice a l.length c] w (OwnT w l):=by
 have q:∀(w:World)(a:Option Addr)(n c n' c':Nat),(binOp .eql 30 (.slice a n c) (.slice none n' c')).run Tryz.prog w= .ok (.bool a.isNone) w:=fun w a n c n' c'=>Lib.run_eql_slice_nil w _ _ a n c n' c' Tryz.underlying30
 cases a with
 |none=>
  obtain⟨rfl,rfl⟩:=hn rfl;have HX:Hid (w.ownsRow w.heap.size 107 2 (.slice none 0 0) 0 []):=row_nil _ _ _ _
  clear ha hn hl;go_enter Tryz.func116,Tryz.ntmps116
  go_wp2
  go_ret
  exact⟨none,0,rfl,HX.out,Below.refl _ _⟩
 |some ad=>
  have hb0:Below w.heap.size w (w.alloc (.cells #[] 107)):=(Below.refl _ _).alloc (zD _) _
  have hrow:(w.alloc (.cells #[] 107)).ownsRow w.heap.size 107 2 (.slice (some ⟨w.heap.size,0,none⟩) 0 0) 0 (stCells []):=World.ownsRow_made w #[] 0 (zD _) (Nat.zero_le _) (by simp)
  have HA:=hide (ha.below hb0)
  clear ha hn;have HL:=hide hl
  obtain⟨n,hn⟩:∃n,l.length=n:=⟨_,rfl⟩
  have HN:=hide hn
  rw[hn]at hl ⊢;clear hn;unfold OwnT;rw[HN.out];go_enter Tryz.func116,Tryz.ntmps116
  go_wp2_with(at_builtin;refine append_sts rfl (.tmp 5) (.tmp 6) rfl w.heap.size (.slice (some ⟨w.heap.size,0,none⟩) 0 0) [] rfl hrow ad l c (by rw[HN.out];rfl) HA.out (by simpa using HL.out) (by simp) ?_;intro a' c' w' o1 g1;have O1:=hide o1;have B1:=hide (hb0.grown g1 (by simp) (fun k e=>by simp[Value.ownBlock]at e;omega));clear o1 g1)
  go_ret
  have o1:=O1.out
  simp only[List.nil_append,List.length_nil,Nat.zero_add]at o1 ⊢;rw[HN.out]at o1 ⊢;exact⟨a',c',rfl,o1,B1.out⟩
set_option maxHeartbeats 1000000 in
theorem clone_bools{w:World}{a:Option Addr}{c:Nat}{l:List Bool}(hl:l.length≤1000000)(ha:Bls w a l)(hn:a=none→l= []∧c=0):
 Calls Tryz.prog 117 #[.slice a l.length c] w (OwnB w l):=by
 have q:∀(w:World)(a:Option Addr)(n c n' c':Nat),(binOp .eql 66 (.slice a n c) (.slice none n' c')).run Tryz.prog w= .ok (.bool a.isNone) w:=fun w a n c n' c'=>Lib.run_eql_slice_nil w _ _ a n c n' c' Tryz.underlying66
 cases a with
 |none=>
  obtain⟨rfl,rfl⟩:=hn rfl;have HX:Hid (w.ownsRow w.heap.size 4 1 (.slice none 0 0) 0 []):=row_nil _ _ _ _
  clear ha hn hl;go_enter Tryz.func117,Tryz.ntmps117
  go_wp2
  go_ret
  exact⟨none,0,rfl,HX.out,Below.refl _ _⟩
 |some ad=>
  have hb0:Below w.heap.size w (w.alloc (.cells #[] 4)):=(Below.refl _ _).alloc (zD _) _
  have hrow:=brow_fresh w w.heap.size (zD _)
  have HA:=hide (ha.below hb0)
  clear ha hn;have HL:=hide hl
  obtain⟨n,hn⟩:∃n,l.length=n:=⟨_,rfl⟩
  have HN:=hide hn
  rw[hn]at hl ⊢;clear hn;unfold OwnB;rw[HN.out];go_enter Tryz.func117,Tryz.ntmps117
  go_wp2_with(at_builtin;refine append_bls rfl (.tmp 5) (.tmp 6) rfl w.heap.size (.slice (some ⟨w.heap.size,0,none⟩) 0 0) [] rfl hrow (some ad) l c (by rw[HN.out];rfl) (fun e=>by cases e) HA.out (by simpa using HL.out) (by simp) ?_;intro a' c' w' o1 g1;have O1:=hide o1;have B1:=hide (hb0.grown g1 (by simp) (fun k e=>by simp[Value.ownBlock]at e;omega));clear o1 g1)
  go_ret
  have o1:=O1.out
  simp only[List.nil_append,List.length_nil,Nat.zero_add]at o1 ⊢;rw[HN.out]at o1 ⊢;exact⟨a',c',rfl,o1,B1.out⟩
end Go.Proofs.YthfgmpooehkhgaaGreatDoor
