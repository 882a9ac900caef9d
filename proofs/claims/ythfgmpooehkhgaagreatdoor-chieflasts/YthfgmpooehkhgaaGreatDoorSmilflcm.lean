import Derived.Test.YthfgmpooehkhgaaGreatDoorSmlafldp
import Derived.Test.YthfgmpooehkhgaaGreatDoorSmodcflp
import Derived.Deep.Light
namespace Go.Proofs.YthfgmpooehkhgaaGreatDoor.Sg
open Go.ChangeShapes Go.WideShapes Go.ChangeAt Go.RowKit
open Nat renaming le_refl→zD
open Below renaming refl→zF
open Go.World renaming alloc_heap_new→zI
theorem Bls.get{w:World}{a:Option Addr}{l:List Bool}(h:Bls w a l){i:Nat}(hi:i<l.length):∃b off x,a=some ⟨b,off,none⟩∧l[i]?=some x∧w.cell? ⟨b,off+i,none⟩=some (.bool x):=by
 rcases h with h|⟨b,off,ha,hc⟩
 ·subst h;simp at hi
 ·exact⟨b,off,l[i],ha,List.getElem?_eq_getElem hi,hc i _ (List.getElem?_eq_getElem hi)⟩
theorem ne_of_beq{b x:Bool}(h:(b==x)=false):x≠b:=by simpa using fun e:x=b=>by subst e;simp at h
theorem Bls.drop{w:World}{b off:Nat}{l:List Bool}(h:Bls w (some ⟨b,off,none⟩) l)(n:Nat):Bls w (some ⟨b,off+n,none⟩) (l.drop n):=by
 rcases h with h|⟨b',off',ha,hc⟩
 ·exact .inl (by rw[h];simp)
 ·cases ha;refine .inr ⟨b,off+n,rfl,fun i c hi=>?_⟩;rw[List.getElem?_drop]at hi;rw[Nat.add_assoc];exact hc _ _ hi
set_option maxHeartbeats 1000000 in
theorem index_any(l:List Bool)(a:Option Addr)(c:Nat)(b:Bool)(w:World)(ha:Bls w a l)(hl:l.length≤9223372036854775807):
 Calls Tryz.prog 195 #[.slice a l.length c,.bool b] w fun e w'=>e= .returned (.int .i64 (idxB l b))∧w=w':=by
 have HI:=hide ha
 clear ha
 go_enter Tryz.func195,Tryz.ntmps195
 go_wp2
 go_loopw [8] (fun i wr=>∃j:Nat,i= .int .i64 j∧j≤l.length∧wr=w∧Hid (b∉l.take j)) (fun i _=>l.length-(intOf i).toNat)
 case atStart=>exact⟨0,rfl,Nat.zero_le _,rfl,by show¬_;simp⟩
 case round=>
  obtain⟨j,rfl,hj,rfl,HN⟩:=hrel;by_cases hlt:j<l.length
  ·obtain⟨bb,off,x,rfl,hx,hc⟩:=HI.out.get hlt;have HX:=hide hx
   clear hx;cases hs:(b==x)
   ·have HS:=hide (not_snoc HX.out (ne_of_beq hs) HN.out)
    go_wp2
    go_roundw
    case rel=>exact⟨j+1,by go_num,by omega,by trivial,HS⟩
    case measure=>simp[intOf];omega
   ·have HF:Hid ((j:Int)=idxB l b):=by
     show _=_
     symm
     refine idxB_hit ?_ HN.out;rw[HX.out];simp at hs;rw[hs]
    go_wp2
    go_ret
    exact⟨ret_int HF.out,rfl⟩
  ·have HF:Hid (-1=idxB l b):=(idxB_none (by have:=HN.out;rwa [List.take_of_length_le (by omega)]at this)).symm
   go_wp2
   go_ret
   exact⟨ret_int HF.out,rfl⟩
theorem contains_any(l:List Bool)(a:Option Addr)(c:Nat)(b:Bool)(w:World)(ha:Bls w a l)(hl:l.length≤9223372036854775807):
 Calls Tryz.prog 167 #[.slice a l.length c,.bool b] w fun e w'=>e= .returned (.bool (hasB l b))∧w=w':=by
 have IX:=index_any l a c b w ha hl
 have HH:=hide (idxB_has l b)
 obtain⟨r,hr⟩:∃r,idxB l b=r:=⟨_,rfl⟩
 rw[hr]at IX HH
 clear ha hr
 go_enter Tryz.func167,Tryz.ntmps167
 go_wp2_with(go_at_call 195;refine IX.mono ?_;rintro e w1 ⟨rfl,rfl⟩)
 go_ret
 exact⟨ret_bool (by rw[←HH.out]),rfl⟩
theorem sall_any(l:List Bool)(a:Option Addr)(c:Nat)(w:World)(ha:Bls w a l)(hl:l.length≤9223372036854775807):
 Calls Tryz.prog 165 #[.slice a l.length c] w fun e w'=>e= .returned (.bool (allB l))∧w=w':=by
 have CT:=contains_any l a c false w ha hl
 clear ha
 unfold allB
 go_enter Tryz.func165,Tryz.ntmps165
 go_wp2_with(go_at_call 167;refine CT.mono ?_;rintro e w1 ⟨rfl,rfl⟩)
 go_ret
 exact⟨rfl,rfl⟩
theorem drop_run(W:World)(b off n cap k:Nat)(hk:k≤n)(hc:k<cap):(Instr.sliceAt 66 (.slice (some ⟨b,off,none⟩) n cap) (some (.int .i64 (k:Int))) none none).run Tryz.prog W= .ok (.slice (some ⟨b,off+k,none⟩) (n-k) (cap-k)) W:=by
 have hu:Tryz.prog.underlying 66=some (.slice (Tryz.prog.elem 66)):=by kernel_rfl
 have hz:(sizeOf (Tryz.prog.elem 66)).run Tryz.prog W= .ok 1 W:=by kernel_rfl
 rw[run_sliceAt_slice _ _ _ _ _ _ hu,run_slice_l _ _ _ _ _ hu _ _ (by omega) (by omega),hz]
 show Result.ok (sliced (some ⟨b,off,none⟩) (k:Int).toNat n cap 1) W=_
 unfold sliced
 have:¬cap=k:=by omega
 simp[this,hc_add]
set_option maxHeartbeats 1000000 in
theorem stays_any(l:List Bool)(a:Option Addr)(c:Nat)(so:Bool)(w:World)(ha:Bls w a l)(hl:l.length≤c)(hc:c≤9223372036854775807):
 Calls Tryz.prog 166 #[.slice a l.length c,.bool so] w fun e w'=>e= .returned (.bool (staysB l so))∧w=w':=by
 have IX:=index_any l a c so w ha (by omega)
 rcases idxB_cases l so with⟨e,hn⟩|⟨n,h1,h2,h3,h4⟩
 ·have HF:Hid (true=staysB l so):=by show _=_;unfold staysB;rw[e];simp
  rw[e]at IX;clear ha;go_enter Tryz.func166,Tryz.ntmps166
  go_wp2_with(go_at_call 195;refine IX.mono ?_;rintro e w1 ⟨rfl,rfl⟩)
  go_ret
  exact⟨ret_bool HF.out,rfl⟩
 ·obtain⟨b,off,x,rfl,-,-⟩:=ha.get h1;have CT:=contains_any (l.drop n) (some ⟨b,off+n,none⟩) (c-n) (!so) w (ha.drop n) (by simp;omega)
  rw[List.length_drop]at CT;have HF:Hid ((!hasB (l.drop n) (!so))=staysB l so):=by show _=_;unfold staysB;rw[h2];simp;omega
  rw[h2]at IX;have q1:¬(n:Int)<0:=by omega
  have hs:=fun W=>drop_run W b off l.length c n (by omega) (by omega)
  clear ha h2 h3 h4;go_enter Tryz.func166,Tryz.ntmps166
  go_wp2_with(first
   |(go_at_call 195;refine IX.mono ?_;rintro e w1 ⟨rfl,rfl⟩)
   |(go_at_call 167;refine CT.mono ?_;rintro e w1 ⟨rfl,rfl⟩))
  go_ret
  exact⟨ret_bool HF.out,rfl⟩
theorem eql_two(x y:Bool)(u:World):(binOp .eql 65 (.agg #[.bool x,.bool y]) (.agg #[.bool false,.bool false])).run Tryz.prog u= .ok (.bool (!x&& !y)) u:=by
 cases x<;>cases y<;>kernel_rfl
theorem eql_both(x y:Bool)(u:World):(binOp .eql 65 (.agg #[.bool x,.bool y]) (.agg #[.bool true,.bool true])).run Tryz.prog u= .ok (.bool (x&&y)) u:=by
 cases x<;>cases y<;>kernel_rfl
theorem acked_any(f:Fa)(da:Option Addr)(dc:Nat)(ua:Option Addr)(uc:Nat)(w:World):
 Calls Tryz.prog 179 #[.agg #[.slice da f.dn.length dc,.slice ua f.un.length uc,.bool f.asked,.bool f.yes,.bool f.turned,.bool f.k0,.bool f.k1,.bool f.ship,.bool f.d0,.bool f.d1,.bool f.acc]] w fun e w'=>e= .returned (.bool (f.k0&&f.k1))∧Below w.heap.size w w':=by
 have HB:Hid (Below w.heap.size w (w.alloc (.cells #[.slice da f.dn.length dc,.slice ua f.un.length uc,.bool f.asked,.bool f.yes,.bool f.turned,.bool f.k0,.bool f.k1,.bool f.ship,.bool f.d0,.bool f.d1,.bool f.acc] 68))):=(zF _ _).alloc (zD _) _
 have q:=eql_both f.k0 f.k1
 go_enter Tryz.func179,Tryz.ntmps179
 go_wp2
 go_ret
 exact⟨rfl,HB.out⟩
theorem decM_any(f:Fa)(da:Option Addr)(dc:Nat)(ua:Option Addr)(uc:Nat)(w:World):
 Calls Tryz.prog 118 #[.agg #[.slice da f.dn.length dc,.slice ua f.un.length uc,.bool f.asked,.bool f.yes,.bool f.turned,.bool f.k0,.bool f.k1,.bool f.ship,.bool f.d0,.bool f.d1,.bool f.acc]] w fun e w'=>e= .returned (.bool (decF f))∧Below w.heap.size w w':=by
 have HB:Hid (Below w.heap.size w (w.alloc (.cells #[.slice da f.dn.length dc,.slice ua f.un.length uc,.bool f.asked,.bool f.yes,.bool f.turned,.bool f.k0,.bool f.k1,.bool f.ship,.bool f.d0,.bool f.d1,.bool f.acc] 68))):=(zF _ _).alloc (zD _) _
 have q:=eql_two f.k0 f.k1
 have q2:=eql_two f.d0 f.d1
 obtain⟨dn,un,asked,yes,turned,k0,k1,ship,d0,d1,acc⟩:=f
 unfold decF
 dsimp only at *
 cases turned
 ·cases yes
  ·cases ship
   ·cases k0
    ·cases k1
     ·go_enter Tryz.func118,Tryz.ntmps118
      go_wp2
      go_ret
      exact⟨rfl,HB.out⟩
     ·go_enter Tryz.func118,Tryz.ntmps118
      go_wp2
      go_ret
      exact⟨rfl,HB.out⟩
    ·go_enter Tryz.func118,Tryz.ntmps118
     go_wp2
     go_ret
     exact⟨rfl,HB.out⟩
   ·go_enter Tryz.func118,Tryz.ntmps118
    go_wp2
    go_ret
    exact⟨rfl,HB.out⟩
  ·go_enter Tryz.func118,Tryz.ntmps118
   go_wp2
   go_ret
   exact⟨rfl,HB.out⟩
 ·cases yes
  ·go_enter Tryz.func118,Tryz.ntmps118
   go_wp2
   go_ret
   exact⟨rfl,HB.out⟩
  ·go_enter Tryz.func118,Tryz.ntmps118
   go_wp2
   go_ret
   exact⟨rfl,HB.out⟩
structure FaIn (w:World) (f:Fa) (da:Option Addr) (dc:Nat) (ua:Option Addr) (uc:Nat):Prop where
 dn:Bls w da f.dn
 un:Bls w ua f.un
 dl:f.dn.length≤dc
 ul:f.un.length≤uc
 dm:dc≤9223372036854775807
 um:uc≤9223372036854775807
theorem FaIn.below{w w':World}{f:Fa}{da:Option Addr}{dc:Nat}{ua:Option Addr}{uc:Nat}(h:FaIn w f da dc ua uc)(hb:Below w.heap.size w w'):FaIn w' f da dc ua uc:=
 ⟨h.dn.below hb,h.un.below hb,h.dl,h.ul,h.dm,h.um⟩
theorem donM_any(f:Fa)(da:Option Addr)(dc:Nat)(ua:Option Addr)(uc:Nat)(w:World)(hi:FaIn w f da dc ua uc):
 Calls Tryz.prog 119 #[.agg #[.slice da f.dn.length dc,.slice ua f.un.length uc,.bool f.asked,.bool f.yes,.bool f.turned,.bool f.k0,.bool f.k1,.bool f.ship,.bool f.d0,.bool f.d1,.bool f.acc]] w fun e w'=>e= .returned (.bool (donF f))∧Below w.heap.size w w':=by
 have HB:Hid (Below w.heap.size w (w.alloc (.cells #[.slice da f.dn.length dc,.slice ua f.un.length uc,.bool f.asked,.bool f.yes,.bool f.turned,.bool f.k0,.bool f.k1,.bool f.ship,.bool f.d0,.bool f.d1,.bool f.acc] 68))):=(zF _ _).alloc (zD _) _
 have h2:=hi.below HB.out
 have AL:=sall_any f.dn da dc _ h2.dn (by have:=h2.dl;have:=h2.dm;omega)
 have ST:=stays_any f.dn da dc false _ h2.dn h2.dl h2.dm
 clear h2 hi
 obtain⟨dn,un,asked,yes,turned,k0,k1,ship,d0,d1,acc⟩:=f
 unfold donF
 dsimp only at *
 cases turned
 ·cases yes
  ·go_enter Tryz.func119,Tryz.ntmps119
   go_wp2_with(go_at_call 166;refine ST.mono ?_;rintro e w1 ⟨rfl,rfl⟩)
   go_ret
   exact⟨rfl,HB.out⟩
  ·go_enter Tryz.func119,Tryz.ntmps119
   go_wp2_with(go_at_call 165;refine AL.mono ?_;rintro e w1 ⟨rfl,rfl⟩)
   go_ret
   exact⟨rfl,HB.out⟩
 ·go_enter Tryz.func119,Tryz.ntmps119
  go_wp2
  go_ret
  exact⟨rfl,HB.out⟩
theorem undM_any(f:Fa)(da:Option Addr)(dc:Nat)(ua:Option Addr)(uc:Nat)(w:World)(hi:FaIn w f da dc ua uc):
 Calls Tryz.prog 120 #[.agg #[.slice da f.dn.length dc,.slice ua f.un.length uc,.bool f.asked,.bool f.yes,.bool f.turned,.bool f.k0,.bool f.k1,.bool f.ship,.bool f.d0,.bool f.d1,.bool f.acc]] w fun e w'=>e= .returned (.bool (undF f))∧Below w.heap.size w w':=by
 have HB:Hid (Below w.heap.size w (w.alloc (.cells #[.slice da f.dn.length dc,.slice ua f.un.length uc,.bool f.asked,.bool f.yes,.bool f.turned,.bool f.k0,.bool f.k1,.bool f.ship,.bool f.d0,.bool f.d1,.bool f.acc] 68))):=(zF _ _).alloc (zD _) _
 have h2:=hi.below HB.out
 have AL:=contains_any f.un ua uc true _ h2.un (by have:=h2.ul;have:=h2.um;omega)
 have ST:=stays_any f.un ua uc true _ h2.un h2.ul h2.um
 clear h2 hi
 obtain⟨dn,un,asked,yes,turned,k0,k1,ship,d0,d1,acc⟩:=f
 unfold undF
 dsimp only at *
 cases turned
 ·go_enter Tryz.func120,Tryz.ntmps120
  go_wp2_with(go_at_call 167;refine AL.mono ?_;rintro e w1 ⟨rfl,rfl⟩)
  go_ret
  exact⟨rfl,HB.out⟩
 ·go_enter Tryz.func120,Tryz.ntmps120
  go_wp2_with(go_at_call 166;refine ST.mono ?_;rintro e w1 ⟨rfl,rfl⟩)
  go_ret
  exact⟨rfl,HB.out⟩
structure Rd (w:World) (p q:Nat) (t:TypeId) (o:Od) (a:Option Addr) (c:Nat) (f:Fa) (da:Option Addr) (dc:Nat) (ua:Option Addr) (uc:Nat) (u:World):Prop where
 ob:u.heap[p]?=some (.cells #[.int .i64 o.id,.int .i64 o.item,.int .i64 o.qty,.int .i64 o.client,.int .i64 o.price,.slice a o.steps.length c] 32 (0,0))
 fb:u.heap[q]?=some (.cells #[.slice da f.dn.length dc,.slice ua f.un.length uc,.bool f.asked,.bool f.yes,.bool f.turned,.bool f.k0,.bool f.k1,.bool f.ship,.bool f.d0,.bool f.d1,.bool f.acc] t (0,0))
 st:Sts u a o.steps
 fi:FaIn u f da dc ua uc
 bel:Below w.heap.size w u
 hl:o.steps.length≤9223372036854775807
theorem Rd.on{w:World}{p q:Nat}{t:TypeId}{o:Od}{a:Option Addr}{c:Nat}{f:Fa}{da:Option Addr}{dc:Nat}{ua:Option Addr}{uc:Nat}{u v:World}(h:Rd w p q t o a c f da dc ua uc u)(hb:Below u.heap.size u v):Rd w p q t o a c f da dc ua uc v:=
 ⟨(hb.block _ (Array.getElem?_eq_some_iff.1 h.ob).1).trans h.ob,(hb.block _ (Array.getElem?_eq_some_iff.1 h.fb).1).trans h.fb,h.st.below hb,h.fi.below hb,bel_on' h.bel hb,h.hl⟩
theorem six_cells{u:World}{n:Nat}{t:TypeId}{v0 v1 v2 v3 v4 v5:Value}(h:u.heap[n]?=some (.cells #[v0,v1,v2,v3,v4,v5] t (0,0))):u.cell? ⟨n,0,none⟩=some v0∧u.cell? ⟨n,1,none⟩=some v1∧u.cell? ⟨n,2,none⟩=some v2∧u.cell? ⟨n,3,none⟩=some v3∧u.cell? ⟨n,4,none⟩=some v4∧u.cell? ⟨n,5,none⟩=some v5:=by
 refine⟨?_,?_,?_,?_,?_,?_⟩<;>(rw[cell_of h];rfl)
theorem ten_cells{u:World}{n:Nat}{t:TypeId}{v0 v1 v2 v3 v4 v5 v6 v7 v8 v9 v10:Value}(h:u.heap[n]?=some (.cells #[v0,v1,v2,v3,v4,v5,v6,v7,v8,v9,v10] t (0,0))):u.cell? ⟨n,0,none⟩=some v0∧u.cell? ⟨n,1,none⟩=some v1∧u.cell? ⟨n,2,none⟩=some v2∧u.cell? ⟨n,3,none⟩=some v3∧u.cell? ⟨n,4,none⟩=some v4∧u.cell? ⟨n,5,none⟩=some v5∧u.cell? ⟨n,6,none⟩=some v6∧u.cell? ⟨n,7,none⟩=some v7∧u.cell? ⟨n,8,none⟩=some v8∧u.cell? ⟨n,9,none⟩=some v9∧u.cell? ⟨n,10,none⟩=some v10:=by
 refine⟨?_,?_,?_,?_,?_,?_,?_,?_,?_,?_,?_⟩<;>(rw[cell_of h];rfl)
theorem Rd.cells{w:World}{p q:Nat}{t:TypeId}{o:Od}{a:Option Addr}{c:Nat}{f:Fa}{da:Option Addr}{dc:Nat}{ua:Option Addr}{uc:Nat}{u:World}(h:Rd w p q t o a c f da dc ua uc u):
 (u.cell? ⟨p,0,none⟩=some (.int .i64 o.id)∧u.cell? ⟨p,1,none⟩=some (.int .i64 o.item)∧u.cell? ⟨p,2,none⟩=some (.int .i64 o.qty)∧u.cell? ⟨p,3,none⟩=some (.int .i64 o.client)∧u.cell? ⟨p,4,none⟩=some (.int .i64 o.price)∧u.cell? ⟨p,5,none⟩=some (.slice a o.steps.length c))∧
 u.cell? ⟨q,0,none⟩=some (.slice da f.dn.length dc)∧u.cell? ⟨q,1,none⟩=some (.slice ua f.un.length uc)∧u.cell? ⟨q,2,none⟩=some (.bool f.asked)∧u.cell? ⟨q,3,none⟩=some (.bool f.yes)∧u.cell? ⟨q,4,none⟩=some (.bool f.turned)∧u.cell? ⟨q,5,none⟩=some (.bool f.k0)∧u.cell? ⟨q,6,none⟩=some (.bool f.k1)∧u.cell? ⟨q,7,none⟩=some (.bool f.ship)∧u.cell? ⟨q,8,none⟩=some (.bool f.d0)∧u.cell? ⟨q,9,none⟩=some (.bool f.d1)∧u.cell? ⟨q,10,none⟩=some (.bool f.acc):=
 ⟨six_cells h.ob,ten_cells h.fb⟩
theorem Rd.new{w:World}{o:Od}{a:Option Addr}{c:Nat}{f:Fa}{da:Option Addr}{dc:Nat}{ua:Option Addr}{uc:Nat}(t:TypeId)(ha:Sts w a o.steps)(hl:o.steps.length≤9223372036854775807)(hi:FaIn w f da dc ua uc):
 Rd w w.heap.size (w.heap.size+1) t o a c f da dc ua uc ((w.alloc (.cells #[.int .i64 o.id,.int .i64 o.item,.int .i64 o.qty,.int .i64 o.client,.int .i64 o.price,.slice a o.steps.length c] 32)).alloc (.cells #[.slice da f.dn.length dc,.slice ua f.un.length uc,.bool f.asked,.bool f.yes,.bool f.turned,.bool f.k0,.bool f.k1,.bool f.ship,.bool f.d0,.bool f.d1,.bool f.acc] t)):=by
 have b1:Below w.heap.size w (w.alloc (.cells #[.int .i64 o.id,.int .i64 o.item,.int .i64 o.qty,.int .i64 o.client,.int .i64 o.price,.slice a o.steps.length c] 32)):=(zF _ _).alloc (zD _) _
 have b2:=b1.alloc b1.size (.cells #[.slice da f.dn.length dc,.slice ua f.un.length uc,.bool f.asked,.bool f.yes,.bool f.turned,.bool f.k0,.bool f.k1,.bool f.ship,.bool f.d0,.bool f.d1,.bool f.acc] t)
 refine⟨(Below.heap_alloc _ _ _ (by simp)).trans (zI w _),?_,ha.below b2,hi.below b2,b2,hl⟩
 have:=zI (w.alloc (.cells #[.int .i64 o.id,.int .i64 o.item,.int .i64 o.qty,.int .i64 o.client,.int .i64 o.price,.slice a o.steps.length c] 32)) (.cells #[.slice da f.dn.length dc,.slice ua f.un.length uc,.bool f.asked,.bool f.yes,.bool f.turned,.bool f.k0,.bool f.k1,.bool f.ship,.bool f.d0,.bool f.d1,.bool f.acc] t)
 rwa [World.size_alloc]at this
set_option maxRecDepth 100000 in
set_option maxHeartbeats 4000000 in
theorem smay_any(o:Od)(a:Option Addr)(c:Nat)(f:Fa)(da:Option Addr)(dc:Nat)(ua:Option Addr)(uc:Nat)(w:World)(ha:Sts w a o.steps)(hl:o.steps.length≤9223372036854775807)(hi:FaIn w f da dc ua uc):
 Calls Tryz.prog 34 #[.agg #[.int .i64 o.id,.int .i64 o.item,.int .i64 o.qty,.int .i64 o.client,.int .i64 o.price,.slice a o.steps.length c],.agg #[.slice da f.dn.length dc,.slice ua f.un.length uc,.bool f.asked,.bool f.yes,.bool f.turned,.bool f.k0,.bool f.k1,.bool f.ship,.bool f.d0,.bool f.d1,.bool f.acc]] w fun e w'=>e= .returned (.bool (mayF o f))∧Below w.heap.size w w':=by
 have HR:=Rd.new (c:=c) 68 ha hl hi
 have C1:∀u,Rd w w.heap.size (w.heap.size+1) 68 o a c f da dc ua uc u→Calls Tryz.prog 55 #[.agg #[.int .i64 o.id,.int .i64 o.item,.int .i64 o.qty,.int .i64 o.client,.int .i64 o.price,.slice a o.steps.length c]] u fun e w'=>e= .returned (.bool (mayO o))∧Below u.heap.size u w':=fun u h=>omay_any o a c u h.st h.hl
 have C2:∀u,Rd w w.heap.size (w.heap.size+1) 68 o a c f da dc ua uc u→Calls Tryz.prog 118 #[.agg #[.slice da f.dn.length dc,.slice ua f.un.length uc,.bool f.asked,.bool f.yes,.bool f.turned,.bool f.k0,.bool f.k1,.bool f.ship,.bool f.d0,.bool f.d1,.bool f.acc]] u fun e w'=>e= .returned (.bool (decF f))∧Below u.heap.size u w':=fun u h=>decM_any f da dc ua uc u
 have C3:∀u,Rd w w.heap.size (w.heap.size+1) 68 o a c f da dc ua uc u→Calls Tryz.prog 119 #[.agg #[.slice da f.dn.length dc,.slice ua f.un.length uc,.bool f.asked,.bool f.yes,.bool f.turned,.bool f.k0,.bool f.k1,.bool f.ship,.bool f.d0,.bool f.d1,.bool f.acc]] u fun e w'=>e= .returned (.bool (donF f))∧Below u.heap.size u w':=fun u h=>donM_any f da dc ua uc u h.fi
 have C4:∀u,Rd w w.heap.size (w.heap.size+1) 68 o a c f da dc ua uc u→Calls Tryz.prog 120 #[.agg #[.slice da f.dn.length dc,.slice ua f.un.length uc,.bool f.asked,.bool f.yes,.bool f.turned,.bool f.k0,.bool f.k1,.bool f.ship,.bool f.d0,.bool f.d1,.bool f.acc]] u fun e w'=>e= .returned (.bool (undF f))∧Below u.heap.size u w':=fun u h=>undM_any f da dc ua uc u h.fi
 obtain⟨⟨d0,d1,d2,d3,d4,d5⟩,e0,e1,e2,e3,e4,e5,e6,e7,e8,e9,e10⟩:=HR.cells
 have HML:Hid (f.dn.length≤9223372036854775807∧f.un.length≤9223372036854775807):=⟨by have:=hi.dl;have:=hi.dm;omega,by have:=hi.ul;have:=hi.um;omega⟩
 clear ha hl hi
 cases p1:mayO o
 ·have HF:Hid (false=mayF o f):=by show _=_;unfold mayF;rw[p1];rfl
  rw[p1]at C1;go_enter Tryz.func34,Tryz.ntmps34
  go_wp2_with(first
   |(go_at_call 55;with_reducible refine((C1 _ HR)).mono ?_;rintro e u ⟨rfl,hb⟩;replace HR:=HR.on hb;clear hb d0 d1 d2 d3 d4 d5 e0 e1 e2 e3 e4 e5 e6 e7 e8 e9 e10;obtain⟨⟨d0,d1,d2,d3,d4,d5⟩,e0,e1,e2,e3,e4,e5,e6,e7,e8,e9,e10⟩:=HR.cells)
   |(go_at_call 118;with_reducible refine((C2 _ HR)).mono ?_;rintro e u ⟨rfl,hb⟩;replace HR:=HR.on hb;clear hb d0 d1 d2 d3 d4 d5 e0 e1 e2 e3 e4 e5 e6 e7 e8 e9 e10;obtain⟨⟨d0,d1,d2,d3,d4,d5⟩,e0,e1,e2,e3,e4,e5,e6,e7,e8,e9,e10⟩:=HR.cells)
   |(go_at_call 119;with_reducible refine((C3 _ HR)).mono ?_;rintro e u ⟨rfl,hb⟩;replace HR:=HR.on hb;clear hb d0 d1 d2 d3 d4 d5 e0 e1 e2 e3 e4 e5 e6 e7 e8 e9 e10;obtain⟨⟨d0,d1,d2,d3,d4,d5⟩,e0,e1,e2,e3,e4,e5,e6,e7,e8,e9,e10⟩:=HR.cells)
   |(go_at_call 120;with_reducible refine((C4 _ HR)).mono ?_;rintro e u ⟨rfl,hb⟩;replace HR:=HR.on hb;clear hb d0 d1 d2 d3 d4 d5 e0 e1 e2 e3 e4 e5 e6 e7 e8 e9 e10;obtain⟨⟨d0,d1,d2,d3,d4,d5⟩,e0,e1,e2,e3,e4,e5,e6,e7,e8,e9,e10⟩:=HR.cells))
  go_ret
  exact⟨ret_bool HF.out,HR.bel⟩
 rw[p1]at C1
 by_cases h1:(f.dn.length:Int)=(o.steps.length:Int)
 rotate_left
 ·have HF:Hid (false=mayF o f):=by show _=_;unfold mayF;rw[p1,decide_eq_false (show¬f.dn.length=o.steps.length by omega)];rfl
  go_enter Tryz.func34,Tryz.ntmps34
  go_wp2_with(first
   |(go_at_call 55;with_reducible refine((C1 _ HR)).mono ?_;rintro e u ⟨rfl,hb⟩;replace HR:=HR.on hb;clear hb d0 d1 d2 d3 d4 d5 e0 e1 e2 e3 e4 e5 e6 e7 e8 e9 e10;obtain⟨⟨d0,d1,d2,d3,d4,d5⟩,e0,e1,e2,e3,e4,e5,e6,e7,e8,e9,e10⟩:=HR.cells)
   |(go_at_call 118;with_reducible refine((C2 _ HR)).mono ?_;rintro e u ⟨rfl,hb⟩;replace HR:=HR.on hb;clear hb d0 d1 d2 d3 d4 d5 e0 e1 e2 e3 e4 e5 e6 e7 e8 e9 e10;obtain⟨⟨d0,d1,d2,d3,d4,d5⟩,e0,e1,e2,e3,e4,e5,e6,e7,e8,e9,e10⟩:=HR.cells)
   |(go_at_call 119;with_reducible refine((C3 _ HR)).mono ?_;rintro e u ⟨rfl,hb⟩;replace HR:=HR.on hb;clear hb d0 d1 d2 d3 d4 d5 e0 e1 e2 e3 e4 e5 e6 e7 e8 e9 e10;obtain⟨⟨d0,d1,d2,d3,d4,d5⟩,e0,e1,e2,e3,e4,e5,e6,e7,e8,e9,e10⟩:=HR.cells)
   |(go_at_call 120;with_reducible refine((C4 _ HR)).mono ?_;rintro e u ⟨rfl,hb⟩;replace HR:=HR.on hb;clear hb d0 d1 d2 d3 d4 d5 e0 e1 e2 e3 e4 e5 e6 e7 e8 e9 e10;obtain⟨⟨d0,d1,d2,d3,d4,d5⟩,e0,e1,e2,e3,e4,e5,e6,e7,e8,e9,e10⟩:=HR.cells))
  go_ret
  exact⟨ret_bool HF.out,HR.bel⟩
 by_cases h2:(f.un.length:Int)=(o.steps.length:Int)
 rotate_left
 ·have HF:Hid (false=mayF o f):=by show _=_;unfold mayF;rw[p1,decide_eq_false (show¬f.un.length=o.steps.length by omega)];simp
  go_enter Tryz.func34,Tryz.ntmps34
  go_wp2_with(first
   |(go_at_call 55;with_reducible refine((C1 _ HR)).mono ?_;rintro e u ⟨rfl,hb⟩;replace HR:=HR.on hb;clear hb d0 d1 d2 d3 d4 d5 e0 e1 e2 e3 e4 e5 e6 e7 e8 e9 e10;obtain⟨⟨d0,d1,d2,d3,d4,d5⟩,e0,e1,e2,e3,e4,e5,e6,e7,e8,e9,e10⟩:=HR.cells)
   |(go_at_call 118;with_reducible refine((C2 _ HR)).mono ?_;rintro e u ⟨rfl,hb⟩;replace HR:=HR.on hb;clear hb d0 d1 d2 d3 d4 d5 e0 e1 e2 e3 e4 e5 e6 e7 e8 e9 e10;obtain⟨⟨d0,d1,d2,d3,d4,d5⟩,e0,e1,e2,e3,e4,e5,e6,e7,e8,e9,e10⟩:=HR.cells)
   |(go_at_call 119;with_reducible refine((C3 _ HR)).mono ?_;rintro e u ⟨rfl,hb⟩;replace HR:=HR.on hb;clear hb d0 d1 d2 d3 d4 d5 e0 e1 e2 e3 e4 e5 e6 e7 e8 e9 e10;obtain⟨⟨d0,d1,d2,d3,d4,d5⟩,e0,e1,e2,e3,e4,e5,e6,e7,e8,e9,e10⟩:=HR.cells)
   |(go_at_call 120;with_reducible refine((C4 _ HR)).mono ?_;rintro e u ⟨rfl,hb⟩;replace HR:=HR.on hb;clear hb d0 d1 d2 d3 d4 d5 e0 e1 e2 e3 e4 e5 e6 e7 e8 e9 e10;obtain⟨⟨d0,d1,d2,d3,d4,d5⟩,e0,e1,e2,e3,e4,e5,e6,e7,e8,e9,e10⟩:=HR.cells))
  go_ret
  exact⟨ret_bool HF.out,HR.bel⟩
 cases p2:decF f
 ·have HF:Hid (false=mayF o f):=by show _=_;unfold mayF;rw[p2];simp
  rw[p2]at C2;go_enter Tryz.func34,Tryz.ntmps34
  go_wp2_with(first
   |(go_at_call 55;with_reducible refine((C1 _ HR)).mono ?_;rintro e u ⟨rfl,hb⟩;replace HR:=HR.on hb;clear hb d0 d1 d2 d3 d4 d5 e0 e1 e2 e3 e4 e5 e6 e7 e8 e9 e10;obtain⟨⟨d0,d1,d2,d3,d4,d5⟩,e0,e1,e2,e3,e4,e5,e6,e7,e8,e9,e10⟩:=HR.cells)
   |(go_at_call 118;with_reducible refine((C2 _ HR)).mono ?_;rintro e u ⟨rfl,hb⟩;replace HR:=HR.on hb;clear hb d0 d1 d2 d3 d4 d5 e0 e1 e2 e3 e4 e5 e6 e7 e8 e9 e10;obtain⟨⟨d0,d1,d2,d3,d4,d5⟩,e0,e1,e2,e3,e4,e5,e6,e7,e8,e9,e10⟩:=HR.cells)
   |(go_at_call 119;with_reducible refine((C3 _ HR)).mono ?_;rintro e u ⟨rfl,hb⟩;replace HR:=HR.on hb;clear hb d0 d1 d2 d3 d4 d5 e0 e1 e2 e3 e4 e5 e6 e7 e8 e9 e10;obtain⟨⟨d0,d1,d2,d3,d4,d5⟩,e0,e1,e2,e3,e4,e5,e6,e7,e8,e9,e10⟩:=HR.cells)
   |(go_at_call 120;with_reducible refine((C4 _ HR)).mono ?_;rintro e u ⟨rfl,hb⟩;replace HR:=HR.on hb;clear hb d0 d1 d2 d3 d4 d5 e0 e1 e2 e3 e4 e5 e6 e7 e8 e9 e10;obtain⟨⟨d0,d1,d2,d3,d4,d5⟩,e0,e1,e2,e3,e4,e5,e6,e7,e8,e9,e10⟩:=HR.cells))
  go_ret
  exact⟨ret_bool HF.out,HR.bel⟩
 cases p3:donF f
 ·have HF:Hid (false=mayF o f):=by show _=_;unfold mayF;rw[p3];simp
  rw[p2]at C2;rw[p3]at C3
  go_enter Tryz.func34,Tryz.ntmps34
  go_wp2_with(first
   |(go_at_call 55;with_reducible refine((C1 _ HR)).mono ?_;rintro e u ⟨rfl,hb⟩;replace HR:=HR.on hb;clear hb d0 d1 d2 d3 d4 d5 e0 e1 e2 e3 e4 e5 e6 e7 e8 e9 e10;obtain⟨⟨d0,d1,d2,d3,d4,d5⟩,e0,e1,e2,e3,e4,e5,e6,e7,e8,e9,e10⟩:=HR.cells)
   |(go_at_call 118;with_reducible refine((C2 _ HR)).mono ?_;rintro e u ⟨rfl,hb⟩;replace HR:=HR.on hb;clear hb d0 d1 d2 d3 d4 d5 e0 e1 e2 e3 e4 e5 e6 e7 e8 e9 e10;obtain⟨⟨d0,d1,d2,d3,d4,d5⟩,e0,e1,e2,e3,e4,e5,e6,e7,e8,e9,e10⟩:=HR.cells)
   |(go_at_call 119;with_reducible refine((C3 _ HR)).mono ?_;rintro e u ⟨rfl,hb⟩;replace HR:=HR.on hb;clear hb d0 d1 d2 d3 d4 d5 e0 e1 e2 e3 e4 e5 e6 e7 e8 e9 e10;obtain⟨⟨d0,d1,d2,d3,d4,d5⟩,e0,e1,e2,e3,e4,e5,e6,e7,e8,e9,e10⟩:=HR.cells)
   |(go_at_call 120;with_reducible refine((C4 _ HR)).mono ?_;rintro e u ⟨rfl,hb⟩;replace HR:=HR.on hb;clear hb d0 d1 d2 d3 d4 d5 e0 e1 e2 e3 e4 e5 e6 e7 e8 e9 e10;obtain⟨⟨d0,d1,d2,d3,d4,d5⟩,e0,e1,e2,e3,e4,e5,e6,e7,e8,e9,e10⟩:=HR.cells))
  go_ret
  exact⟨ret_bool HF.out,HR.bel⟩
 cases p4:undF f
 ·have HF:Hid (false=mayF o f):=by show _=_;unfold mayF;rw[p4];simp
  rw[p2]at C2;rw[p3]at C3;rw[p4]at C4
  go_enter Tryz.func34,Tryz.ntmps34
  go_wp2_with(first
   |(go_at_call 55;with_reducible refine((C1 _ HR)).mono ?_;rintro e u ⟨rfl,hb⟩;replace HR:=HR.on hb;clear hb d0 d1 d2 d3 d4 d5 e0 e1 e2 e3 e4 e5 e6 e7 e8 e9 e10;obtain⟨⟨d0,d1,d2,d3,d4,d5⟩,e0,e1,e2,e3,e4,e5,e6,e7,e8,e9,e10⟩:=HR.cells)
   |(go_at_call 118;with_reducible refine((C2 _ HR)).mono ?_;rintro e u ⟨rfl,hb⟩;replace HR:=HR.on hb;clear hb d0 d1 d2 d3 d4 d5 e0 e1 e2 e3 e4 e5 e6 e7 e8 e9 e10;obtain⟨⟨d0,d1,d2,d3,d4,d5⟩,e0,e1,e2,e3,e4,e5,e6,e7,e8,e9,e10⟩:=HR.cells)
   |(go_at_call 119;with_reducible refine((C3 _ HR)).mono ?_;rintro e u ⟨rfl,hb⟩;replace HR:=HR.on hb;clear hb d0 d1 d2 d3 d4 d5 e0 e1 e2 e3 e4 e5 e6 e7 e8 e9 e10;obtain⟨⟨d0,d1,d2,d3,d4,d5⟩,e0,e1,e2,e3,e4,e5,e6,e7,e8,e9,e10⟩:=HR.cells)
   |(go_at_call 120;with_reducible refine((C4 _ HR)).mono ?_;rintro e u ⟨rfl,hb⟩;replace HR:=HR.on hb;clear hb d0 d1 d2 d3 d4 d5 e0 e1 e2 e3 e4 e5 e6 e7 e8 e9 e10;obtain⟨⟨d0,d1,d2,d3,d4,d5⟩,e0,e1,e2,e3,e4,e5,e6,e7,e8,e9,e10⟩:=HR.cells))
  go_ret
  exact⟨ret_bool HF.out,HR.bel⟩
 ·have HF:Hid (true=mayF o f):=by show _=_;unfold mayF;rw[p1,p2,p3,p4,decide_eq_true (show f.dn.length=o.steps.length by omega),decide_eq_true (show f.un.length=o.steps.length by omega)];rfl
  rw[p2]at C2;rw[p3]at C3;rw[p4]at C4
  go_enter Tryz.func34,Tryz.ntmps34
  go_wp2_with(first
   |(go_at_call 55;with_reducible refine((C1 _ HR)).mono ?_;rintro e u ⟨rfl,hb⟩;replace HR:=HR.on hb;clear hb d0 d1 d2 d3 d4 d5 e0 e1 e2 e3 e4 e5 e6 e7 e8 e9 e10;obtain⟨⟨d0,d1,d2,d3,d4,d5⟩,e0,e1,e2,e3,e4,e5,e6,e7,e8,e9,e10⟩:=HR.cells)
   |(go_at_call 118;with_reducible refine((C2 _ HR)).mono ?_;rintro e u ⟨rfl,hb⟩;replace HR:=HR.on hb;clear hb d0 d1 d2 d3 d4 d5 e0 e1 e2 e3 e4 e5 e6 e7 e8 e9 e10;obtain⟨⟨d0,d1,d2,d3,d4,d5⟩,e0,e1,e2,e3,e4,e5,e6,e7,e8,e9,e10⟩:=HR.cells)
   |(go_at_call 119;with_reducible refine((C3 _ HR)).mono ?_;rintro e u ⟨rfl,hb⟩;replace HR:=HR.on hb;clear hb d0 d1 d2 d3 d4 d5 e0 e1 e2 e3 e4 e5 e6 e7 e8 e9 e10;obtain⟨⟨d0,d1,d2,d3,d4,d5⟩,e0,e1,e2,e3,e4,e5,e6,e7,e8,e9,e10⟩:=HR.cells)
   |(go_at_call 120;with_reducible refine((C4 _ HR)).mono ?_;rintro e u ⟨rfl,hb⟩;replace HR:=HR.on hb;clear hb d0 d1 d2 d3 d4 d5 e0 e1 e2 e3 e4 e5 e6 e7 e8 e9 e10;obtain⟨⟨d0,d1,d2,d3,d4,d5⟩,e0,e1,e2,e3,e4,e5,e6,e7,e8,e9,e10⟩:=HR.cells))
  go_ret
  exact⟨ret_bool HF.out,HR.bel⟩
theorem neq_two(x y:Bool)(u:World):(binOp .neq 65 (.agg #[.bool x,.bool y]) (.agg #[.bool false,.bool false])).run Tryz.prog u= .ok (.bool (x||y)) u:=by
 cases x<;>cases y<;>kernel_rfl
set_option maxRecDepth 100000 in
set_option maxHeartbeats 8000000 in
theorem sstate_any(o:Od)(a:Option Addr)(c:Nat)(f:Fa)(da:Option Addr)(dc:Nat)(ua:Option Addr)(uc:Nat)(w:World)(ha:Sts w a o.steps)(hl:o.steps.length≤9223372036854775807)(hi:FaIn w f da dc ua uc):
 Calls Tryz.prog 140 #[.agg #[.int .i64 o.id,.int .i64 o.item,.int .i64 o.qty,.int .i64 o.client,.int .i64 o.price,.slice a o.steps.length c],.agg #[.slice da f.dn.length dc,.slice ua f.un.length uc,.bool f.asked,.bool f.yes,.bool f.turned,.bool f.k0,.bool f.k1,.bool f.ship,.bool f.d0,.bool f.d1,.bool f.acc]] w fun e w'=>e= .returned (.int .i64 (stF o f))∧Below w.heap.size w w':=by
 have HR:=Rd.new (c:=c) 68 ha hl hi
 have C1:∀u,Rd w w.heap.size (w.heap.size+1) 68 o a c f da dc ua uc u→Calls Tryz.prog 34 #[.agg #[.int .i64 o.id,.int .i64 o.item,.int .i64 o.qty,.int .i64 o.client,.int .i64 o.price,.slice a o.steps.length c],.agg #[.slice da f.dn.length dc,.slice ua f.un.length uc,.bool f.asked,.bool f.yes,.bool f.turned,.bool f.k0,.bool f.k1,.bool f.ship,.bool f.d0,.bool f.d1,.bool f.acc]] u fun e w'=>e= .returned (.bool (mayF o f))∧Below u.heap.size u w':=fun u h=>smay_any o a c f da dc ua uc u h.st h.hl h.fi
 have C2:∀u,Rd w w.heap.size (w.heap.size+1) 68 o a c f da dc ua uc u→Calls Tryz.prog 179 #[.agg #[.slice da f.dn.length dc,.slice ua f.un.length uc,.bool f.asked,.bool f.yes,.bool f.turned,.bool f.k0,.bool f.k1,.bool f.ship,.bool f.d0,.bool f.d1,.bool f.acc]] u fun e w'=>e= .returned (.bool (f.k0&&f.k1))∧Below u.heap.size u w':=fun u h=>acked_any f da dc ua uc u
 have C3:∀u,Rd w w.heap.size (w.heap.size+1) 68 o a c f da dc ua uc u→Calls Tryz.prog 165 #[.slice ua f.un.length uc] u fun e w'=>e= .returned (.bool (allB f.un))∧Below u.heap.size u w':=fun u h=>(sall_any f.un ua uc u h.fi.un (by have:=h.fi.ul;have:=h.fi.um;omega)).mono (fun e w' h2=>⟨h2.1,h2.2▸zF _ _⟩)
 have Q:=neq_two f.d0 f.d1
 obtain⟨r,hr⟩:∃r,stF o f=r:=⟨_,rfl⟩
 have HS:=hide hr
 rw[hr]
 unfold stF at HS
 clear ha hl hi hr
 obtain⟨dn,un,asked,yes,turned,k0,k1,ship,g0,g1,acc⟩:=f
 dsimp only at C1 C2 C3 Q HS
 have HC:=HR.cells;dsimp only at HC;obtain⟨⟨d0,d1,d2,d3,d4,d5⟩,e0,e1,e2,e3,e4,e5,e6,e7,e8,e9,e10⟩:=HC
 obtain⟨m,hm⟩:∃m,mayF o ⟨dn,un,asked,yes,turned,k0,k1,ship,g0,g1,acc⟩=m:=⟨_,rfl⟩
 obtain⟨D,hD⟩:∃D,(g0||g1)=D:=⟨_,rfl⟩
 obtain⟨K,hK⟩:∃K,(k0&&k1)=K:=⟨_,rfl⟩
 obtain⟨U,hU⟩:∃U,allB un=U:=⟨_,rfl⟩
 rw[hm]at C1
 rw[hD]at Q
 rw[hK]at C2
 rw[hU]at C3
 rw[hm,hD,hK,hU]at HS
 clear hD hK hU
 ·cases m
  ·clear hm;go_enter Tryz.func140,Tryz.ntmps140
   go_wp2_with(first
    |(go_at_call 34;with_reducible refine((C1 _ HR)).mono ?_;rintro e u ⟨rfl,hb⟩;replace HR:=HR.on hb;clear hb d0 d1 d2 d3 d4 d5 e0 e1 e2 e3 e4 e5 e6 e7 e8 e9 e10;have HC:=HR.cells;dsimp only at HC;obtain⟨⟨d0,d1,d2,d3,d4,d5⟩,e0,e1,e2,e3,e4,e5,e6,e7,e8,e9,e10⟩:=HC)
    |(go_at_call 179;with_reducible refine((C2 _ HR)).mono ?_;rintro e u ⟨rfl,hb⟩;replace HR:=HR.on hb;clear hb d0 d1 d2 d3 d4 d5 e0 e1 e2 e3 e4 e5 e6 e7 e8 e9 e10;have HC:=HR.cells;dsimp only at HC;obtain⟨⟨d0,d1,d2,d3,d4,d5⟩,e0,e1,e2,e3,e4,e5,e6,e7,e8,e9,e10⟩:=HC)
    |(go_at_call 165;with_reducible refine((C3 _ HR)).mono ?_;rintro e u ⟨rfl,hb⟩;replace HR:=HR.on hb;clear hb d0 d1 d2 d3 d4 d5 e0 e1 e2 e3 e4 e5 e6 e7 e8 e9 e10;have HC:=HR.cells;dsimp only at HC;obtain⟨⟨d0,d1,d2,d3,d4,d5⟩,e0,e1,e2,e3,e4,e5,e6,e7,e8,e9,e10⟩:=HC))
   go_ret
   exact⟨ret_int HS.out,HR.bel⟩
  ·cases D
   ·cases turned
    ·cases yes
     ·cases asked
      ·clear hm;go_enter Tryz.func140,Tryz.ntmps140
       go_wp2_with(first
        |(go_at_call 34;with_reducible refine((C1 _ HR)).mono ?_;rintro e u ⟨rfl,hb⟩;replace HR:=HR.on hb;clear hb d0 d1 d2 d3 d4 d5 e0 e1 e2 e3 e4 e5 e6 e7 e8 e9 e10;have HC:=HR.cells;dsimp only at HC;obtain⟨⟨d0,d1,d2,d3,d4,d5⟩,e0,e1,e2,e3,e4,e5,e6,e7,e8,e9,e10⟩:=HC)
        |(go_at_call 179;with_reducible refine((C2 _ HR)).mono ?_;rintro e u ⟨rfl,hb⟩;replace HR:=HR.on hb;clear hb d0 d1 d2 d3 d4 d5 e0 e1 e2 e3 e4 e5 e6 e7 e8 e9 e10;have HC:=HR.cells;dsimp only at HC;obtain⟨⟨d0,d1,d2,d3,d4,d5⟩,e0,e1,e2,e3,e4,e5,e6,e7,e8,e9,e10⟩:=HC)
        |(go_at_call 165;with_reducible refine((C3 _ HR)).mono ?_;rintro e u ⟨rfl,hb⟩;replace HR:=HR.on hb;clear hb d0 d1 d2 d3 d4 d5 e0 e1 e2 e3 e4 e5 e6 e7 e8 e9 e10;have HC:=HR.cells;dsimp only at HC;obtain⟨⟨d0,d1,d2,d3,d4,d5⟩,e0,e1,e2,e3,e4,e5,e6,e7,e8,e9,e10⟩:=HC))
       go_ret
       exact⟨ret_int HS.out,HR.bel⟩
      ·clear hm;go_enter Tryz.func140,Tryz.ntmps140
       go_wp2_with(first
        |(go_at_call 34;with_reducible refine((C1 _ HR)).mono ?_;rintro e u ⟨rfl,hb⟩;replace HR:=HR.on hb;clear hb d0 d1 d2 d3 d4 d5 e0 e1 e2 e3 e4 e5 e6 e7 e8 e9 e10;have HC:=HR.cells;dsimp only at HC;obtain⟨⟨d0,d1,d2,d3,d4,d5⟩,e0,e1,e2,e3,e4,e5,e6,e7,e8,e9,e10⟩:=HC)
        |(go_at_call 179;with_reducible refine((C2 _ HR)).mono ?_;rintro e u ⟨rfl,hb⟩;replace HR:=HR.on hb;clear hb d0 d1 d2 d3 d4 d5 e0 e1 e2 e3 e4 e5 e6 e7 e8 e9 e10;have HC:=HR.cells;dsimp only at HC;obtain⟨⟨d0,d1,d2,d3,d4,d5⟩,e0,e1,e2,e3,e4,e5,e6,e7,e8,e9,e10⟩:=HC)
        |(go_at_call 165;with_reducible refine((C3 _ HR)).mono ?_;rintro e u ⟨rfl,hb⟩;replace HR:=HR.on hb;clear hb d0 d1 d2 d3 d4 d5 e0 e1 e2 e3 e4 e5 e6 e7 e8 e9 e10;have HC:=HR.cells;dsimp only at HC;obtain⟨⟨d0,d1,d2,d3,d4,d5⟩,e0,e1,e2,e3,e4,e5,e6,e7,e8,e9,e10⟩:=HC))
       go_ret
       exact⟨ret_int HS.out,HR.bel⟩
     ·cases K
      ·clear hm;go_enter Tryz.func140,Tryz.ntmps140
       go_wp2_with(first
        |(go_at_call 34;with_reducible refine((C1 _ HR)).mono ?_;rintro e u ⟨rfl,hb⟩;replace HR:=HR.on hb;clear hb d0 d1 d2 d3 d4 d5 e0 e1 e2 e3 e4 e5 e6 e7 e8 e9 e10;have HC:=HR.cells;dsimp only at HC;obtain⟨⟨d0,d1,d2,d3,d4,d5⟩,e0,e1,e2,e3,e4,e5,e6,e7,e8,e9,e10⟩:=HC)
        |(go_at_call 179;with_reducible refine((C2 _ HR)).mono ?_;rintro e u ⟨rfl,hb⟩;replace HR:=HR.on hb;clear hb d0 d1 d2 d3 d4 d5 e0 e1 e2 e3 e4 e5 e6 e7 e8 e9 e10;have HC:=HR.cells;dsimp only at HC;obtain⟨⟨d0,d1,d2,d3,d4,d5⟩,e0,e1,e2,e3,e4,e5,e6,e7,e8,e9,e10⟩:=HC)
        |(go_at_call 165;with_reducible refine((C3 _ HR)).mono ?_;rintro e u ⟨rfl,hb⟩;replace HR:=HR.on hb;clear hb d0 d1 d2 d3 d4 d5 e0 e1 e2 e3 e4 e5 e6 e7 e8 e9 e10;have HC:=HR.cells;dsimp only at HC;obtain⟨⟨d0,d1,d2,d3,d4,d5⟩,e0,e1,e2,e3,e4,e5,e6,e7,e8,e9,e10⟩:=HC))
       go_ret
       exact⟨ret_int HS.out,HR.bel⟩
      ·cases ship
       ·clear hm;go_enter Tryz.func140,Tryz.ntmps140
        go_wp2_with(first
         |(go_at_call 34;with_reducible refine((C1 _ HR)).mono ?_;rintro e u ⟨rfl,hb⟩;replace HR:=HR.on hb;clear hb d0 d1 d2 d3 d4 d5 e0 e1 e2 e3 e4 e5 e6 e7 e8 e9 e10;have HC:=HR.cells;dsimp only at HC;obtain⟨⟨d0,d1,d2,d3,d4,d5⟩,e0,e1,e2,e3,e4,e5,e6,e7,e8,e9,e10⟩:=HC)
         |(go_at_call 179;with_reducible refine((C2 _ HR)).mono ?_;rintro e u ⟨rfl,hb⟩;replace HR:=HR.on hb;clear hb d0 d1 d2 d3 d4 d5 e0 e1 e2 e3 e4 e5 e6 e7 e8 e9 e10;have HC:=HR.cells;dsimp only at HC;obtain⟨⟨d0,d1,d2,d3,d4,d5⟩,e0,e1,e2,e3,e4,e5,e6,e7,e8,e9,e10⟩:=HC)
         |(go_at_call 165;with_reducible refine((C3 _ HR)).mono ?_;rintro e u ⟨rfl,hb⟩;replace HR:=HR.on hb;clear hb d0 d1 d2 d3 d4 d5 e0 e1 e2 e3 e4 e5 e6 e7 e8 e9 e10;have HC:=HR.cells;dsimp only at HC;obtain⟨⟨d0,d1,d2,d3,d4,d5⟩,e0,e1,e2,e3,e4,e5,e6,e7,e8,e9,e10⟩:=HC))
        go_ret
        exact⟨ret_int HS.out,HR.bel⟩
       ·clear hm;go_enter Tryz.func140,Tryz.ntmps140
        go_wp2_with(first
         |(go_at_call 34;with_reducible refine((C1 _ HR)).mono ?_;rintro e u ⟨rfl,hb⟩;replace HR:=HR.on hb;clear hb d0 d1 d2 d3 d4 d5 e0 e1 e2 e3 e4 e5 e6 e7 e8 e9 e10;have HC:=HR.cells;dsimp only at HC;obtain⟨⟨d0,d1,d2,d3,d4,d5⟩,e0,e1,e2,e3,e4,e5,e6,e7,e8,e9,e10⟩:=HC)
         |(go_at_call 179;with_reducible refine((C2 _ HR)).mono ?_;rintro e u ⟨rfl,hb⟩;replace HR:=HR.on hb;clear hb d0 d1 d2 d3 d4 d5 e0 e1 e2 e3 e4 e5 e6 e7 e8 e9 e10;have HC:=HR.cells;dsimp only at HC;obtain⟨⟨d0,d1,d2,d3,d4,d5⟩,e0,e1,e2,e3,e4,e5,e6,e7,e8,e9,e10⟩:=HC)
         |(go_at_call 165;with_reducible refine((C3 _ HR)).mono ?_;rintro e u ⟨rfl,hb⟩;replace HR:=HR.on hb;clear hb d0 d1 d2 d3 d4 d5 e0 e1 e2 e3 e4 e5 e6 e7 e8 e9 e10;have HC:=HR.cells;dsimp only at HC;obtain⟨⟨d0,d1,d2,d3,d4,d5⟩,e0,e1,e2,e3,e4,e5,e6,e7,e8,e9,e10⟩:=HC))
        go_ret
        exact⟨ret_int HS.out,HR.bel⟩
    ·cases K
     ·clear hm;go_enter Tryz.func140,Tryz.ntmps140
      go_wp2_with(first
       |(go_at_call 34;with_reducible refine((C1 _ HR)).mono ?_;rintro e u ⟨rfl,hb⟩;replace HR:=HR.on hb;clear hb d0 d1 d2 d3 d4 d5 e0 e1 e2 e3 e4 e5 e6 e7 e8 e9 e10;have HC:=HR.cells;dsimp only at HC;obtain⟨⟨d0,d1,d2,d3,d4,d5⟩,e0,e1,e2,e3,e4,e5,e6,e7,e8,e9,e10⟩:=HC)
       |(go_at_call 179;with_reducible refine((C2 _ HR)).mono ?_;rintro e u ⟨rfl,hb⟩;replace HR:=HR.on hb;clear hb d0 d1 d2 d3 d4 d5 e0 e1 e2 e3 e4 e5 e6 e7 e8 e9 e10;have HC:=HR.cells;dsimp only at HC;obtain⟨⟨d0,d1,d2,d3,d4,d5⟩,e0,e1,e2,e3,e4,e5,e6,e7,e8,e9,e10⟩:=HC)
       |(go_at_call 165;with_reducible refine((C3 _ HR)).mono ?_;rintro e u ⟨rfl,hb⟩;replace HR:=HR.on hb;clear hb d0 d1 d2 d3 d4 d5 e0 e1 e2 e3 e4 e5 e6 e7 e8 e9 e10;have HC:=HR.cells;dsimp only at HC;obtain⟨⟨d0,d1,d2,d3,d4,d5⟩,e0,e1,e2,e3,e4,e5,e6,e7,e8,e9,e10⟩:=HC))
      go_ret
      exact⟨ret_int HS.out,HR.bel⟩
     ·cases U
      ·clear hm;go_enter Tryz.func140,Tryz.ntmps140
       go_wp2_with(first
        |(go_at_call 34;with_reducible refine((C1 _ HR)).mono ?_;rintro e u ⟨rfl,hb⟩;replace HR:=HR.on hb;clear hb d0 d1 d2 d3 d4 d5 e0 e1 e2 e3 e4 e5 e6 e7 e8 e9 e10;have HC:=HR.cells;dsimp only at HC;obtain⟨⟨d0,d1,d2,d3,d4,d5⟩,e0,e1,e2,e3,e4,e5,e6,e7,e8,e9,e10⟩:=HC)
        |(go_at_call 179;with_reducible refine((C2 _ HR)).mono ?_;rintro e u ⟨rfl,hb⟩;replace HR:=HR.on hb;clear hb d0 d1 d2 d3 d4 d5 e0 e1 e2 e3 e4 e5 e6 e7 e8 e9 e10;have HC:=HR.cells;dsimp only at HC;obtain⟨⟨d0,d1,d2,d3,d4,d5⟩,e0,e1,e2,e3,e4,e5,e6,e7,e8,e9,e10⟩:=HC)
        |(go_at_call 165;with_reducible refine((C3 _ HR)).mono ?_;rintro e u ⟨rfl,hb⟩;replace HR:=HR.on hb;clear hb d0 d1 d2 d3 d4 d5 e0 e1 e2 e3 e4 e5 e6 e7 e8 e9 e10;have HC:=HR.cells;dsimp only at HC;obtain⟨⟨d0,d1,d2,d3,d4,d5⟩,e0,e1,e2,e3,e4,e5,e6,e7,e8,e9,e10⟩:=HC))
       go_ret
       exact⟨ret_int HS.out,HR.bel⟩
      ·clear hm;go_enter Tryz.func140,Tryz.ntmps140
       go_wp2_with(first
        |(go_at_call 34;with_reducible refine((C1 _ HR)).mono ?_;rintro e u ⟨rfl,hb⟩;replace HR:=HR.on hb;clear hb d0 d1 d2 d3 d4 d5 e0 e1 e2 e3 e4 e5 e6 e7 e8 e9 e10;have HC:=HR.cells;dsimp only at HC;obtain⟨⟨d0,d1,d2,d3,d4,d5⟩,e0,e1,e2,e3,e4,e5,e6,e7,e8,e9,e10⟩:=HC)
        |(go_at_call 179;with_reducible refine((C2 _ HR)).mono ?_;rintro e u ⟨rfl,hb⟩;replace HR:=HR.on hb;clear hb d0 d1 d2 d3 d4 d5 e0 e1 e2 e3 e4 e5 e6 e7 e8 e9 e10;have HC:=HR.cells;dsimp only at HC;obtain⟨⟨d0,d1,d2,d3,d4,d5⟩,e0,e1,e2,e3,e4,e5,e6,e7,e8,e9,e10⟩:=HC)
        |(go_at_call 165;with_reducible refine((C3 _ HR)).mono ?_;rintro e u ⟨rfl,hb⟩;replace HR:=HR.on hb;clear hb d0 d1 d2 d3 d4 d5 e0 e1 e2 e3 e4 e5 e6 e7 e8 e9 e10;have HC:=HR.cells;dsimp only at HC;obtain⟨⟨d0,d1,d2,d3,d4,d5⟩,e0,e1,e2,e3,e4,e5,e6,e7,e8,e9,e10⟩:=HC))
       go_ret
       exact⟨ret_int HS.out,HR.bel⟩
   ·cases acc
    ·clear hm;go_enter Tryz.func140,Tryz.ntmps140
     go_wp2_with(first
      |(go_at_call 34;with_reducible refine((C1 _ HR)).mono ?_;rintro e u ⟨rfl,hb⟩;replace HR:=HR.on hb;clear hb d0 d1 d2 d3 d4 d5 e0 e1 e2 e3 e4 e5 e6 e7 e8 e9 e10;have HC:=HR.cells;dsimp only at HC;obtain⟨⟨d0,d1,d2,d3,d4,d5⟩,e0,e1,e2,e3,e4,e5,e6,e7,e8,e9,e10⟩:=HC)
      |(go_at_call 179;with_reducible refine((C2 _ HR)).mono ?_;rintro e u ⟨rfl,hb⟩;replace HR:=HR.on hb;clear hb d0 d1 d2 d3 d4 d5 e0 e1 e2 e3 e4 e5 e6 e7 e8 e9 e10;have HC:=HR.cells;dsimp only at HC;obtain⟨⟨d0,d1,d2,d3,d4,d5⟩,e0,e1,e2,e3,e4,e5,e6,e7,e8,e9,e10⟩:=HC)
      |(go_at_call 165;with_reducible refine((C3 _ HR)).mono ?_;rintro e u ⟨rfl,hb⟩;replace HR:=HR.on hb;clear hb d0 d1 d2 d3 d4 d5 e0 e1 e2 e3 e4 e5 e6 e7 e8 e9 e10;have HC:=HR.cells;dsimp only at HC;obtain⟨⟨d0,d1,d2,d3,d4,d5⟩,e0,e1,e2,e3,e4,e5,e6,e7,e8,e9,e10⟩:=HC))
     go_ret
     exact⟨ret_int HS.out,HR.bel⟩
    ·cases turned
     ·cases yes
      ·cases asked
       ·clear hm;go_enter Tryz.func140,Tryz.ntmps140
        go_wp2_with(first
         |(go_at_call 34;with_reducible refine((C1 _ HR)).mono ?_;rintro e u ⟨rfl,hb⟩;replace HR:=HR.on hb;clear hb d0 d1 d2 d3 d4 d5 e0 e1 e2 e3 e4 e5 e6 e7 e8 e9 e10;have HC:=HR.cells;dsimp only at HC;obtain⟨⟨d0,d1,d2,d3,d4,d5⟩,e0,e1,e2,e3,e4,e5,e6,e7,e8,e9,e10⟩:=HC)
         |(go_at_call 179;with_reducible refine((C2 _ HR)).mono ?_;rintro e u ⟨rfl,hb⟩;replace HR:=HR.on hb;clear hb d0 d1 d2 d3 d4 d5 e0 e1 e2 e3 e4 e5 e6 e7 e8 e9 e10;have HC:=HR.cells;dsimp only at HC;obtain⟨⟨d0,d1,d2,d3,d4,d5⟩,e0,e1,e2,e3,e4,e5,e6,e7,e8,e9,e10⟩:=HC)
         |(go_at_call 165;with_reducible refine((C3 _ HR)).mono ?_;rintro e u ⟨rfl,hb⟩;replace HR:=HR.on hb;clear hb d0 d1 d2 d3 d4 d5 e0 e1 e2 e3 e4 e5 e6 e7 e8 e9 e10;have HC:=HR.cells;dsimp only at HC;obtain⟨⟨d0,d1,d2,d3,d4,d5⟩,e0,e1,e2,e3,e4,e5,e6,e7,e8,e9,e10⟩:=HC))
        go_ret
        exact⟨ret_int HS.out,HR.bel⟩
       ·clear hm;go_enter Tryz.func140,Tryz.ntmps140
        go_wp2_with(first
         |(go_at_call 34;with_reducible refine((C1 _ HR)).mono ?_;rintro e u ⟨rfl,hb⟩;replace HR:=HR.on hb;clear hb d0 d1 d2 d3 d4 d5 e0 e1 e2 e3 e4 e5 e6 e7 e8 e9 e10;have HC:=HR.cells;dsimp only at HC;obtain⟨⟨d0,d1,d2,d3,d4,d5⟩,e0,e1,e2,e3,e4,e5,e6,e7,e8,e9,e10⟩:=HC)
         |(go_at_call 179;with_reducible refine((C2 _ HR)).mono ?_;rintro e u ⟨rfl,hb⟩;replace HR:=HR.on hb;clear hb d0 d1 d2 d3 d4 d5 e0 e1 e2 e3 e4 e5 e6 e7 e8 e9 e10;have HC:=HR.cells;dsimp only at HC;obtain⟨⟨d0,d1,d2,d3,d4,d5⟩,e0,e1,e2,e3,e4,e5,e6,e7,e8,e9,e10⟩:=HC)
         |(go_at_call 165;with_reducible refine((C3 _ HR)).mono ?_;rintro e u ⟨rfl,hb⟩;replace HR:=HR.on hb;clear hb d0 d1 d2 d3 d4 d5 e0 e1 e2 e3 e4 e5 e6 e7 e8 e9 e10;have HC:=HR.cells;dsimp only at HC;obtain⟨⟨d0,d1,d2,d3,d4,d5⟩,e0,e1,e2,e3,e4,e5,e6,e7,e8,e9,e10⟩:=HC))
        go_ret
        exact⟨ret_int HS.out,HR.bel⟩
      ·cases K
       ·clear hm;go_enter Tryz.func140,Tryz.ntmps140
        go_wp2_with(first
         |(go_at_call 34;with_reducible refine((C1 _ HR)).mono ?_;rintro e u ⟨rfl,hb⟩;replace HR:=HR.on hb;clear hb d0 d1 d2 d3 d4 d5 e0 e1 e2 e3 e4 e5 e6 e7 e8 e9 e10;have HC:=HR.cells;dsimp only at HC;obtain⟨⟨d0,d1,d2,d3,d4,d5⟩,e0,e1,e2,e3,e4,e5,e6,e7,e8,e9,e10⟩:=HC)
         |(go_at_call 179;with_reducible refine((C2 _ HR)).mono ?_;rintro e u ⟨rfl,hb⟩;replace HR:=HR.on hb;clear hb d0 d1 d2 d3 d4 d5 e0 e1 e2 e3 e4 e5 e6 e7 e8 e9 e10;have HC:=HR.cells;dsimp only at HC;obtain⟨⟨d0,d1,d2,d3,d4,d5⟩,e0,e1,e2,e3,e4,e5,e6,e7,e8,e9,e10⟩:=HC)
         |(go_at_call 165;with_reducible refine((C3 _ HR)).mono ?_;rintro e u ⟨rfl,hb⟩;replace HR:=HR.on hb;clear hb d0 d1 d2 d3 d4 d5 e0 e1 e2 e3 e4 e5 e6 e7 e8 e9 e10;have HC:=HR.cells;dsimp only at HC;obtain⟨⟨d0,d1,d2,d3,d4,d5⟩,e0,e1,e2,e3,e4,e5,e6,e7,e8,e9,e10⟩:=HC))
        go_ret
        exact⟨ret_int HS.out,HR.bel⟩
       ·cases ship
        ·clear hm;go_enter Tryz.func140,Tryz.ntmps140
         go_wp2_with(first
          |(go_at_call 34;with_reducible refine((C1 _ HR)).mono ?_;rintro e u ⟨rfl,hb⟩;replace HR:=HR.on hb;clear hb d0 d1 d2 d3 d4 d5 e0 e1 e2 e3 e4 e5 e6 e7 e8 e9 e10;have HC:=HR.cells;dsimp only at HC;obtain⟨⟨d0,d1,d2,d3,d4,d5⟩,e0,e1,e2,e3,e4,e5,e6,e7,e8,e9,e10⟩:=HC)
          |(go_at_call 179;with_reducible refine((C2 _ HR)).mono ?_;rintro e u ⟨rfl,hb⟩;replace HR:=HR.on hb;clear hb d0 d1 d2 d3 d4 d5 e0 e1 e2 e3 e4 e5 e6 e7 e8 e9 e10;have HC:=HR.cells;dsimp only at HC;obtain⟨⟨d0,d1,d2,d3,d4,d5⟩,e0,e1,e2,e3,e4,e5,e6,e7,e8,e9,e10⟩:=HC)
          |(go_at_call 165;with_reducible refine((C3 _ HR)).mono ?_;rintro e u ⟨rfl,hb⟩;replace HR:=HR.on hb;clear hb d0 d1 d2 d3 d4 d5 e0 e1 e2 e3 e4 e5 e6 e7 e8 e9 e10;have HC:=HR.cells;dsimp only at HC;obtain⟨⟨d0,d1,d2,d3,d4,d5⟩,e0,e1,e2,e3,e4,e5,e6,e7,e8,e9,e10⟩:=HC))
         go_ret
         exact⟨ret_int HS.out,HR.bel⟩
        ·clear hm;go_enter Tryz.func140,Tryz.ntmps140
         go_wp2_with(first
          |(go_at_call 34;with_reducible refine((C1 _ HR)).mono ?_;rintro e u ⟨rfl,hb⟩;replace HR:=HR.on hb;clear hb d0 d1 d2 d3 d4 d5 e0 e1 e2 e3 e4 e5 e6 e7 e8 e9 e10;have HC:=HR.cells;dsimp only at HC;obtain⟨⟨d0,d1,d2,d3,d4,d5⟩,e0,e1,e2,e3,e4,e5,e6,e7,e8,e9,e10⟩:=HC)
          |(go_at_call 179;with_reducible refine((C2 _ HR)).mono ?_;rintro e u ⟨rfl,hb⟩;replace HR:=HR.on hb;clear hb d0 d1 d2 d3 d4 d5 e0 e1 e2 e3 e4 e5 e6 e7 e8 e9 e10;have HC:=HR.cells;dsimp only at HC;obtain⟨⟨d0,d1,d2,d3,d4,d5⟩,e0,e1,e2,e3,e4,e5,e6,e7,e8,e9,e10⟩:=HC)
          |(go_at_call 165;with_reducible refine((C3 _ HR)).mono ?_;rintro e u ⟨rfl,hb⟩;replace HR:=HR.on hb;clear hb d0 d1 d2 d3 d4 d5 e0 e1 e2 e3 e4 e5 e6 e7 e8 e9 e10;have HC:=HR.cells;dsimp only at HC;obtain⟨⟨d0,d1,d2,d3,d4,d5⟩,e0,e1,e2,e3,e4,e5,e6,e7,e8,e9,e10⟩:=HC))
         go_ret
         exact⟨ret_int HS.out,HR.bel⟩
     ·cases K
      ·clear hm;go_enter Tryz.func140,Tryz.ntmps140
       go_wp2_with(first
        |(go_at_call 34;with_reducible refine((C1 _ HR)).mono ?_;rintro e u ⟨rfl,hb⟩;replace HR:=HR.on hb;clear hb d0 d1 d2 d3 d4 d5 e0 e1 e2 e3 e4 e5 e6 e7 e8 e9 e10;have HC:=HR.cells;dsimp only at HC;obtain⟨⟨d0,d1,d2,d3,d4,d5⟩,e0,e1,e2,e3,e4,e5,e6,e7,e8,e9,e10⟩:=HC)
        |(go_at_call 179;with_reducible refine((C2 _ HR)).mono ?_;rintro e u ⟨rfl,hb⟩;replace HR:=HR.on hb;clear hb d0 d1 d2 d3 d4 d5 e0 e1 e2 e3 e4 e5 e6 e7 e8 e9 e10;have HC:=HR.cells;dsimp only at HC;obtain⟨⟨d0,d1,d2,d3,d4,d5⟩,e0,e1,e2,e3,e4,e5,e6,e7,e8,e9,e10⟩:=HC)
        |(go_at_call 165;with_reducible refine((C3 _ HR)).mono ?_;rintro e u ⟨rfl,hb⟩;replace HR:=HR.on hb;clear hb d0 d1 d2 d3 d4 d5 e0 e1 e2 e3 e4 e5 e6 e7 e8 e9 e10;have HC:=HR.cells;dsimp only at HC;obtain⟨⟨d0,d1,d2,d3,d4,d5⟩,e0,e1,e2,e3,e4,e5,e6,e7,e8,e9,e10⟩:=HC))
       go_ret
       exact⟨ret_int HS.out,HR.bel⟩
      ·cases U
       ·clear hm;go_enter Tryz.func140,Tryz.ntmps140
        go_wp2_with(first
         |(go_at_call 34;with_reducible refine((C1 _ HR)).mono ?_;rintro e u ⟨rfl,hb⟩;replace HR:=HR.on hb;clear hb d0 d1 d2 d3 d4 d5 e0 e1 e2 e3 e4 e5 e6 e7 e8 e9 e10;have HC:=HR.cells;dsimp only at HC;obtain⟨⟨d0,d1,d2,d3,d4,d5⟩,e0,e1,e2,e3,e4,e5,e6,e7,e8,e9,e10⟩:=HC)
         |(go_at_call 179;with_reducible refine((C2 _ HR)).mono ?_;rintro e u ⟨rfl,hb⟩;replace HR:=HR.on hb;clear hb d0 d1 d2 d3 d4 d5 e0 e1 e2 e3 e4 e5 e6 e7 e8 e9 e10;have HC:=HR.cells;dsimp only at HC;obtain⟨⟨d0,d1,d2,d3,d4,d5⟩,e0,e1,e2,e3,e4,e5,e6,e7,e8,e9,e10⟩:=HC)
         |(go_at_call 165;with_reducible refine((C3 _ HR)).mono ?_;rintro e u ⟨rfl,hb⟩;replace HR:=HR.on hb;clear hb d0 d1 d2 d3 d4 d5 e0 e1 e2 e3 e4 e5 e6 e7 e8 e9 e10;have HC:=HR.cells;dsimp only at HC;obtain⟨⟨d0,d1,d2,d3,d4,d5⟩,e0,e1,e2,e3,e4,e5,e6,e7,e8,e9,e10⟩:=HC))
        go_ret
        exact⟨ret_int HS.out,HR.bel⟩
       ·clear hm;go_enter Tryz.func140,Tryz.ntmps140
        go_wp2_with(first
         |(go_at_call 34;with_reducible refine((C1 _ HR)).mono ?_;rintro e u ⟨rfl,hb⟩;replace HR:=HR.on hb;clear hb d0 d1 d2 d3 d4 d5 e0 e1 e2 e3 e4 e5 e6 e7 e8 e9 e10;have HC:=HR.cells;dsimp only at HC;obtain⟨⟨d0,d1,d2,d3,d4,d5⟩,e0,e1,e2,e3,e4,e5,e6,e7,e8,e9,e10⟩:=HC)
         |(go_at_call 179;with_reducible refine((C2 _ HR)).mono ?_;rintro e u ⟨rfl,hb⟩;replace HR:=HR.on hb;clear hb d0 d1 d2 d3 d4 d5 e0 e1 e2 e3 e4 e5 e6 e7 e8 e9 e10;have HC:=HR.cells;dsimp only at HC;obtain⟨⟨d0,d1,d2,d3,d4,d5⟩,e0,e1,e2,e3,e4,e5,e6,e7,e8,e9,e10⟩:=HC)
         |(go_at_call 165;with_reducible refine((C3 _ HR)).mono ?_;rintro e u ⟨rfl,hb⟩;replace HR:=HR.on hb;clear hb d0 d1 d2 d3 d4 d5 e0 e1 e2 e3 e4 e5 e6 e7 e8 e9 e10;have HC:=HR.cells;dsimp only at HC;obtain⟨⟨d0,d1,d2,d3,d4,d5⟩,e0,e1,e2,e3,e4,e5,e6,e7,e8,e9,e10⟩:=HC))
        go_ret
        exact⟨ret_int HS.out,HR.bel⟩
theorem FaIn.acc{w:World}{f:Fa}{da:Option Addr}{dc:Nat}{ua:Option Addr}{uc:Nat}(h:FaIn w f da dc ua uc)(b:Bool):FaIn w {f with acc:=b} da dc ua uc:=⟨h.dn,h.un,h.dl,h.ul,h.dm,h.um⟩
set_option maxHeartbeats 4000000 in
theorem sover_any(o:Od)(a:Option Addr)(c:Nat)(f:Fa)(da:Option Addr)(dc:Nat)(ua:Option Addr)(uc:Nat)(w:World)(ha:Sts w a o.steps)(hl:o.steps.length≤9223372036854775807)(hi:FaIn w f da dc ua uc):
 Calls Tryz.prog 128 #[.agg #[.int .i64 o.id,.int .i64 o.item,.int .i64 o.qty,.int .i64 o.client,.int .i64 o.price,.slice a o.steps.length c],.agg #[.slice da f.dn.length dc,.slice ua f.un.length uc,.bool f.asked,.bool f.yes,.bool f.turned,.bool f.k0,.bool f.k1,.bool f.ship,.bool f.d0,.bool f.d1,.bool f.acc]] w fun e w'=>e= .returned (.bool (overF o f))∧Below w.heap.size w w':=by
 have HR:=Rd.new (f:={f with acc:=true}) (c:=c) 68 ha hl (hi.acc true)
 have ST:=sstate_any o a c {f with acc:=true} da dc ua uc _ HR.st hl HR.fi
 have HB:=hide HR.bel
 unfold overF
 obtain⟨s,hs⟩:∃s,stF o {f with acc:=true}=s:=⟨_,rfl⟩
 rw[hs]at ST ⊢
 clear hs ha hi HR
 dsimp only at ST
 by_cases h5:s=5
 ·subst h5;go_enter Tryz.func128,Tryz.ntmps128
  go_wp2_with(go_at_call 140;refine ST.mono ?_;rintro e u ⟨rfl,hb⟩)
  go_ret
  exact⟨rfl,bel_on' HB.out hb⟩
 have q5:(s==5)=false:=by simpa using h5
 by_cases h6:s=6
 ·subst h6;go_enter Tryz.func128,Tryz.ntmps128
  go_wp2_with(go_at_call 140;refine ST.mono ?_;rintro e u ⟨rfl,hb⟩)
  go_ret
  exact⟨rfl,bel_on' HB.out hb⟩
 have q6:(s==6)=false:=by simpa using h6
 have HF:Hid (false=(s==5||s==6)):=by show _=_;rw[q5,q6];rfl
 go_enter Tryz.func128,Tryz.ntmps128
 go_wp2_with(go_at_call 140;refine ST.mono ?_;rintro e u ⟨rfl,hb⟩)
 go_ret
 exact⟨ret_bool HF.out,bel_on' HB.out hb⟩
theorem Tryz.infoBool:(Tryz.prog.info? 4).map (fun i=>(i.zero,i.size,i.bytes))=some (some (.bool false),1,1):=by kernel_rfl
theorem row_bls{W:World}{base:Nat}{a:Option Addr}{c:Nat}{l:List Bool}(h:W.ownsRow base 4 1 (.slice a l.length c) l.length (l.map Value.bool)):Bls W a l:=by
 have hc:=fun g hg=>h.cells (g:=g) hg
 rcases h.2 with⟨_,h1⟩|⟨g,cap,cur,e,hb,hcur,_⟩
 ·exact .inl (List.eq_nil_of_length_eq_zero h1)
 ·cases e;refine .inr ⟨g,0,rfl,fun i x hx=>?_⟩;have:=hc g rfl i (.bool x) (by rw[List.getElem?_map,hx];rfl)
  rwa [st_add']at this
theorem bls_news{w:World}{ad:Addr}{m:List Bool}(h:Bls w (some ad) m):∀j u,(m.map Value.bool)[j]?=some u→w.cell? (ad.add j)=some u:=by
 intro j u hu
 rcases h with h|⟨b,off,ha,hc⟩
 ·subst h;simp at hu
 ·cases ha;rw[st_add'];rw[List.getElem?_map]at hu;cases hm:m[j]?with
  |none=>rw[hm]at hu;simp at hu
  |some x=>
   rw[hm]at hu;simp at hu;subst hu;exact hc j x hm
theorem append_bls{w:World}{ops:Array Oper}{rest:List Oper}{o:Oper}{a:Act}{Q:Exit→Act→World→Prop}(hgd:o.guard=none)(s x:Operand)
 (ho:o.op= .call {callee:= .builtin .append,args:=#[s,x],argTypes:=#[66,66]})
 (base:Nat) (v:Value) (L:List Bool) (hs:a.eval s=v) (hown:w.ownsRow base 4 1 v L.length (L.map Value.bool)) (ao:Option Addr) (m:List Bool) (c:Nat) (hx:a.eval x= .slice ao m.length c) (hn:ao=none→m= []∧c=0)
 (hm:Bls w ao m) (hb:L.length+m.length≤1000000) (hbase:base≤w.heap.size)
 (h:∀a' c' w',w'.ownsRow base 4 1 (.slice a' (L.length+m.length) c') (L++m).length ((L++m).map Value.bool)→w.grownBy w' v.ownBlock→wpList Tryz.prog ops Q rest (a.put o.dst (.slice a' (L.length+m.length) c')) w'):wpList Tryz.prog ops Q (o::rest) a w:=by
 obtain⟨i0,hi,hz0,hz1,hz2⟩:=info_parts Tryz.infoBool
 cases ao with
 |none=>
  obtain⟨rfl,rfl⟩:=hn rfl;obtain⟨av,cv,rfl,_⟩:=row_slice hown;refine wpList_append_own_none hgd s x 66 ho base 4 i0 1 Tryz.underlying66 hi _ _ _ hs hown (by simpa using hx) (h av cv w ?_ ⟨rfl,rfl,rfl,zD _,fun _ _ _=>rfl⟩);simpa using hown
 |some ad=>
  refine wpList_append_own_at _ hgd s x 66 ho base 4 i0 _ 1 1 Tryz.underlying66 hi hz0 hz1 hz2 rfl (by decide) v L.length (L.map Value.bool) hs hown ad m.length c (m.map Value.bool) hx (by simp) (bls_news hm) (fun u hu=>by obtain⟨y,_,rfl⟩:=List.mem_map.1 hu;rfl) (by unfold maxLen;omega) (by omega) hbase ?_;intro v' w' h1 h2 _ _;obtain⟨a',c',rfl,_⟩:=row_slice h1;refine h a' c' w' ?_ h2;rw[List.map_append,List.length_append];exact h1
theorem brow_fresh(W:World)(base:Nat)(hb:base≤W.heap.size):(W.alloc (.cells #[] 4)).ownsRow base 4 1 (.slice (some ⟨W.heap.size,0,none⟩) 0 0) ([]:List Bool).length (([]:List Bool).map Value.bool):=
 ⟨rfl,.inr ⟨W.heap.size,0,#[],rfl,hb,by show(W.heap.push _)[W.heap.size]?=_;simp,zD _,by decide,rfl,rfl⟩⟩
theorem bls_one(w:World)(x:Bool):Bls (w.alloc (.cells #[.bool x] 4)) (some ⟨w.heap.size,0,none⟩) [x]:=
 .inr ⟨w.heap.size,0,rfl,fun i c hi=>by
  have e:(w.alloc (.cells #[.bool x] 4)).heap[w.heap.size]?=some (.cells #[.bool x] 4 (0,0)):=zI w _
  rw[cell_of e,Nat.zero_add];match i,hi with
  |0,hi=>simp at hi;subst hi;rfl
  |i+1,hi=>simp at hi⟩
end Go.Proofs.YthfgmpooehkhgaaGreatDoor.Sg
