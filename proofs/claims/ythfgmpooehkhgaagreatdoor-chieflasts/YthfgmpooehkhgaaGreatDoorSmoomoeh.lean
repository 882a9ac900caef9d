import Derived.Test.YthfgmpooehkhgaaGreatDoorSmdlpimg
import Derived.Test.YthfgmpooehkhgaaGreatDoorSmmhklnf
import Derived.Test.YthfgmpooehkhgaaGreatDoorSmabdogb
import Derived.BigQuiet
import Derived.WalkLawsBesides
namespace Go.Proofs.YthfgmpooehkhgaaGreatDoor.Sg
open Go.ChangeShapes Go.WideShapes Go.ChangeAt Go.RowKit
def Sts(w:World)(a:Option Addr)(l:List (Int×Int)):Prop:=
 l= []∨∃b off,a=some ⟨b,off,none⟩∧∀i,i<l.length→w.cell? ⟨b,off+i*2,none⟩=some (.int .i64 (stAt l i).1)∧w.cell? ⟨b,off+i*2+1,none⟩=some (.int .i64 (stAt l i).2)
theorem Sts.below{w w':World}{a:Option Addr}{l:List (Int×Int)}(h:Sts w a l)(hb:Below w.heap.size w w'):Sts w' a l:=by
 rcases h with h|⟨b,off,ha,hc⟩
 ·exact .inl h
 ·exact .inr ⟨b,off,ha,fun i hi=>⟨cellL (hc i hi).1 hb,cellL (hc i hi).2 hb⟩⟩
theorem Sts.at{w:World}{a:Option Addr}{l:List (Int×Int)}(h:Sts w a l){i:Nat}(hi:i<l.length):∃b off,a=some ⟨b,off,none⟩∧w.cell? ⟨b,off+i*2,none⟩=some (.int .i64 (stAt l i).1)∧w.cell? ⟨b,off+i*2+1,none⟩=some (.int .i64 (stAt l i).2):=by
 rcases h with h|⟨b,off,ha,hc⟩
 ·subst h;simp at hi
 ·exact⟨b,off,ha,hc i hi⟩
theorem plc_any(n:Int)(w:World):Calls Tryz.prog 130 #[.int .i64 n] w fun e w'=>e= .returned (.bool (plcB n))∧w=w':=by
 by_cases h1:n≥0
 ·by_cases h2:n<8
  ·have HF:Hid (true=plcB n):=by show _=_;symm;rw[plcB_iff];omega
   go_enter Tryz.func130,Tryz.ntmps130
   go_wp2
   go_ret
   exact⟨ret_bool HF.out,rfl⟩
  ·have HF:Hid (false=plcB n):=by show _=_;unfold plcB;simp;omega
   go_enter Tryz.func130,Tryz.ntmps130
   go_wp2
   go_ret
   exact⟨ret_bool HF.out,rfl⟩
 ·have HF:Hid (false=plcB n):=by show _=_;unfold plcB;simp;omega
  go_enter Tryz.func130,Tryz.ntmps130
  go_wp2
  go_ret
  exact⟨ret_bool HF.out,rfl⟩
theorem svc_any(n:Int)(w:World):Calls Tryz.prog 175 #[.int .i64 n] w fun e w'=>e= .returned (.bool (svcB n))∧w=w':=by
 by_cases h1:n≥4
 ·by_cases h2:n≤6
  ·have HF:Hid (true=svcB n):=by show _=_;symm;rw[svcB_iff];omega
   go_enter Tryz.func175,Tryz.ntmps175
   go_wp2
   go_ret
   exact⟨ret_bool HF.out,rfl⟩
  ·have HF:Hid (false=svcB n):=by show _=_;unfold svcB;simp;omega
   go_enter Tryz.func175,Tryz.ntmps175
   go_wp2
   go_ret
   exact⟨ret_bool HF.out,rfl⟩
 ·have HF:Hid (false=svcB n):=by show _=_;unfold svcB;simp;omega
  go_enter Tryz.func175,Tryz.ntmps175
  go_wp2
  go_ret
  exact⟨ret_bool HF.out,rfl⟩
theorem amt_any(n:Int)(w:World):Calls Tryz.prog 131 #[.int .i64 n] w fun e w'=>e= .returned (.bool (amtB n))∧w=w':=by
 cases hm:may n
 ·have HF:Hid (false=amtB n):=by show _=_;have:=may_not.1 hm;unfold amtB;simp;omega
  go_enter Tryz.func131,Tryz.ntmps131
  go_wp2_with(go_at_call 174;refine(may_any _ _).mono ?_;rintro e w' ⟨rfl,rfl⟩)
  go_ret
  exact⟨ret_bool HF.out,rfl⟩
 ·by_cases h2:n>0
  ·have HF:Hid (true=amtB n):=by show _=_;have:=may_iff.1 hm;symm;rw[amtB_iff];omega
   go_enter Tryz.func131,Tryz.ntmps131
   go_wp2_with(go_at_call 174;refine(may_any _ _).mono ?_;rintro e w' ⟨rfl,rfl⟩)
   go_ret
   exact⟨ret_bool HF.out,rfl⟩
  ·have HF:Hid (false=amtB n):=by show _=_;have:=may_iff.1 hm;unfold amtB;simp;omega
   have qd:decide (0<n)=false:=by simp;omega
   go_enter Tryz.func131,Tryz.ntmps131
   go_wp2_with(go_at_call 174;refine(may_any _ _).mono ?_;rintro e w' ⟨rfl,rfl⟩)
   go_ret
   exact⟨ret_bool HF.out,rfl⟩
theorem atF_none{l:List (Int×Int)}{s:Int}(h:∀x∈l,x.1≠s):atF l s= -1:=by
 rcases atF_cases l s with⟨e,_⟩|⟨n,hn,_,h1,_⟩
 ·exact e
 ·exact absurd h1 (h _ (stAt_mem hn))
theorem atF_hit{l:List (Int×Int)}{s:Int}{j:Nat}(hj:j<l.length)(hs:(stAt l j).1 =s)(h:∀x∈l.take j,x.1≠s):atF l s=j:=by
 subst hs
 refine(atF_first hj).2 ?_
 rw[List.any_eq_false]
 intro x hx
 simpa using h x hx
theorem no_snoc{l:List (Int×Int)}{s:Int}{j:Nat}(hj:j<l.length)(hs:(stAt l j).1 ≠s)(h:∀x∈l.take j,x.1≠s):∀x∈l.take (j+1),x.1≠s:=by
 intro x hx
 rw[List.take_succ_eq_append_getElem hj]at hx
 rcases List.mem_append.1 hx with hx|hx
 ·exact h x hx
 ·simp at hx;subst hx;rw[←stAt_get hj];exact hs
set_option maxHeartbeats 1000000 in
theorem at_any(o:Od)(a:Option Addr)(c:Nat)(s:Int)(w:World)(ha:Sts w a o.steps)(hl:o.steps.length≤9223372036854775807):
 Calls Tryz.prog 176 #[.agg #[.int .i64 o.id,.int .i64 o.item,.int .i64 o.qty,.int .i64 o.client,.int .i64 o.price,.slice a o.steps.length c],.int .i64 s] w fun e w'=>e= .returned (.int .i64 (atF o.steps s))∧Below w.heap.size w w':=by
 have HI:Hid (Sts w a o.steps):=ha
 have HB:Hid (Below w.heap.size w (w.alloc (.cells #[.int .i64 o.id,.int .i64 o.item,.int .i64 o.qty,.int .i64 o.client,.int .i64 o.price,.slice a o.steps.length c] 32))):=(Below.refl _ _).alloc (Nat.le_refl _) _
 clear ha
 go_enter Tryz.func176,Tryz.ntmps176
 go_wp2
 go_loopw [10] (fun i wr=>∃j:Nat,i= .int .i64 j∧j≤o.steps.length∧Hid (Below w.heap.size w wr)∧Hid (∀x∈o.steps.take j,x.1≠s)) (fun i _=>o.steps.length-(intOf i).toNat)
 case atStart=>exact⟨0,rfl,Nat.zero_le _,HB,(fun x hx=>by simp at hx)⟩
 case round=>
  obtain⟨j,rfl,hj,HR,HN⟩:=hrel;by_cases hlt:j<o.steps.length
  ·obtain⟨b,off,rfl,h0,h1⟩:=(HI.out.below HR.out).at hlt;obtain⟨x1,e1⟩:∃x,x=(stAt o.steps j).1 :=⟨_,rfl⟩
   obtain⟨x2,e2⟩:∃x,x=(stAt o.steps j).2 :=⟨_,rfl⟩
   rw[←e1]at h0;rw[←e2]at h1;have E1:=hide e1
   clear e1 e2;by_cases hs:x1=s
   ·subst hs;have HF:=hide (atF_hit hlt E1.out.symm HN.out)
    go_wp2
    go_ret
    exact⟨ret_int HF.out.symm,HR.out.alloc HR.out.size _⟩
   ·have HS:=hide (no_snoc hlt (by rw[←E1.out];exact hs) HN.out)
    go_wp2
    go_roundw
    case rel=>exact⟨j+1,by go_num,by omega,HR.out.alloc HR.out.size _,HS⟩
    case measure=>simp[intOf];omega
  ·have HF:Hid (-1=atF o.steps s):=(atF_none (by have:=HN.out;rwa [List.take_of_length_le (by omega)]at this)).symm
   go_wp2
   go_ret
   exact⟨ret_int HF.out,HR.out⟩
theorem steps_long{l:List (Int×Int)}(h:(l.length:Int)>3):stepsB l=false:=by unfold stepsB;simp;omega
theorem steps_bad{l:List (Int×Int)}{j:Nat}(hj:j<l.length)(h:okAt l j=false):stepsB l=false:=by unfold stepsB;rw[okTo_fail h hj];simp
theorem steps_good{l:List (Int×Int)}(h:¬(l.length:Int)>3)(h2:okTo l l.length=true):stepsB l=true:=by unfold stepsB;rw[h2];simp;omega
set_option maxHeartbeats 2000000 in
theorem steps_any(o:Od)(a:Option Addr)(c:Nat)(w:World)(ha:Sts w a o.steps)(hl:o.steps.length≤9223372036854775807):
 Calls Tryz.prog 132 #[.agg #[.int .i64 o.id,.int .i64 o.item,.int .i64 o.qty,.int .i64 o.client,.int .i64 o.price,.slice a o.steps.length c]] w fun e w'=>e= .returned (.bool (stepsB o.steps))∧Below w.heap.size w w':=by
 have HI:Hid (Sts w a o.steps):=ha
 have HB:Hid (Below w.heap.size w (w.alloc (.cells #[.int .i64 o.id,.int .i64 o.item,.int .i64 o.qty,.int .i64 o.client,.int .i64 o.price,.slice a o.steps.length c] 32))):=(Below.refl _ _).alloc (Nat.le_refl _) _
 clear ha
 by_cases h3:(o.steps.length:Int)>3
 ·have HF:=hide (steps_long h3)
  go_enter Tryz.func132,Tryz.ntmps132
  go_wp2
  go_ret
  exact⟨ret_bool HF.out.symm,HB.out⟩
 have HBX:Hid (∀wr,Below (w.heap.size+1) (w.alloc (.cells #[.int .i64 o.id,.int .i64 o.item,.int .i64 o.qty,.int .i64 o.client,.int .i64 o.price,.slice a o.steps.length c] 32)) wr→wr.heap[w.heap.size]?=some (.cells #[.int .i64 o.id,.int .i64 o.item,.int .i64 o.qty,.int .i64 o.client,.int .i64 o.price,.slice a o.steps.length c] 32 (0,0))):=fun wr hb=>by
  rw[hb.block _ (by simp)];show(w.heap.push _)[w.heap.size]?=_
  simp
 go_enter Tryz.func132,Tryz.ntmps132
 go_wp2
 go_loopw [12] (fun i wr=>∃j:Nat,i= .int .i64 j∧j≤o.steps.length∧w.heap.size<wr.heap.size∧Hid (Below w.heap.size w wr)∧Hid (Below (w.heap.size+1) (w.alloc (.cells #[.int .i64 o.id,.int .i64 o.item,.int .i64 o.qty,.int .i64 o.client,.int .i64 o.price,.slice a o.steps.length c] 32)) wr)∧Hid (okTo o.steps j=true)) (fun i _=>o.steps.length-(intOf i).toNat)
 case atStart=>exact⟨0,rfl,Nat.zero_le _,by simp,HB,Below.refl _ _,rfl⟩
 case round=>
  obtain⟨j,rfl,hj,hsz,HR,HR2,HN⟩:=hrel;by_cases hlt:j<o.steps.length
  ·obtain⟨b,off,rfl,h0,h1⟩:=(HI.out.below HR.out).at hlt;obtain⟨x1,e1⟩:∃x,x=(stAt o.steps j).1 :=⟨_,rfl⟩
   obtain⟨x2,e2⟩:∃x,x=(stAt o.steps j).2 :=⟨_,rfl⟩
   rw[←e1]at h0;rw[←e2]at h1;have HK:Hid (okAt o.steps j=(svcB x1&&amtB x2&&(atF o.steps x1==(j:Int)))):=by show _=_;rw[okAt_eq hlt,←e1,←e2]
   clear e1 e2;have hbx:=HBX.out wr HR2.out
   have c0:=cell_of (i:=0) hbx
   have c1:=cell_of (i:=1) hbx
   have c2:=cell_of (i:=2) hbx
   have c3:=cell_of (i:=3) hbx
   have c4:=cell_of (i:=4) hbx
   have c5:=cell_of (i:=5) hbx
   simp at c0 c1 c2 c3 c4 c5;clear hbx;cases p1:svcB x1
   ·have HF:Hid (false=stepsB o.steps):=(steps_bad hlt (by rw[HK.out,p1];rfl)).symm
    go_wp2_with(first
     |(go_at_call 175;refine(svc_any _ _).mono ?_;rintro e w1 ⟨rfl,rfl⟩))
    go_ret
    exact⟨ret_bool HF.out,HR.out.alloc HR.out.size _⟩
   cases p2:amtB x2
   ·have HF:Hid (false=stepsB o.steps):=(steps_bad hlt (by rw[HK.out,p1,p2];rfl)).symm
    go_wp2_with(first
     |(go_at_call 175;refine(svc_any _ _).mono ?_;rintro e w1 ⟨rfl,rfl⟩)
     |(go_at_call 131;refine(amt_any _ _).mono ?_;rintro e w1 ⟨rfl,rfl⟩))
    go_ret
    exact⟨ret_bool HF.out,HR.out.alloc HR.out.size _⟩
   have HA:Hid (∀u:World,Below w.heap.size w u→Calls Tryz.prog 176 #[.agg #[.int .i64 o.id,.int .i64 o.item,.int .i64 o.qty,.int .i64 o.client,.int .i64 o.price,.slice (some ⟨b,off,none⟩) o.steps.length c],.int .i64 x1] u fun e w'=>e= .returned (.int .i64 (atF o.steps x1))∧Below u.heap.size u w'):=fun u hu=>at_any o _ c x1 u (HI.out.below hu) hl
   obtain⟨y,ey⟩:∃y,y=atF o.steps x1:=⟨_,rfl⟩
   rw[←ey]at HA HK;have EY:=hide ey
   clear ey;by_cases hy:y=(j:Int)
   ·subst hy;have HS:Hid (okTo o.steps (j+1)=true):=by show _=_;rw[okTo_succ,HN.out,HK.out,p1,p2];simp
    go_wp2_with(first
     |(go_at_call 175;refine(svc_any _ _).mono ?_;rintro e w1 ⟨rfl,rfl⟩)
     |(go_at_call 131;refine(amt_any _ _).mono ?_;rintro e w1 ⟨rfl,rfl⟩)
     |(go_at_call 176;refine(HA.out _ (HR.out.alloc HR.out.size _)).mono ?_;rintro e w2 ⟨rfl,hb2⟩))
    have hb3:=HR.out.alloc HR.out.size (.cells #[.int .i64 x1,.int .i64 x2] 107)
    have hb4:=HR2.out.alloc (B:=w.heap.size+1) (by have:=HR2.out.size;simpa using this) (.cells #[.int .i64 x1,.int .i64 x2] 107)
    have hs2:=hb2.size
    simp at hs2;have H2:=hide (bel_on' hb3 hb2)
    have H4:=hide (hb4.trans (hb2.mono (by simp;omega)))
    clear hb2 hb3 hb4;go_roundw
    case rel=>exact⟨j+1,by go_num,by omega,by omega,H2,H4,HS⟩
    case measure=>simp[intOf];omega
   ·have HF:Hid (false=stepsB o.steps):=(steps_bad hlt (by rw[HK.out,p1,p2];simpa using hy)).symm
    have hne:(y != (j:Int))=true:=by simpa using hy
    go_wp2_with(first
     |(go_at_call 175;refine(svc_any _ _).mono ?_;rintro e w1 ⟨rfl,rfl⟩)
     |(go_at_call 131;refine(amt_any _ _).mono ?_;rintro e w1 ⟨rfl,rfl⟩)
     |(go_at_call 176;refine(HA.out _ (HR.out.alloc HR.out.size _)).mono ?_;rintro e w2 ⟨rfl,hb2⟩))
    go_ret
    exact⟨ret_bool HF.out,bel_on' (HR.out.alloc HR.out.size _) hb2⟩
  ·have HF:Hid (true=stepsB o.steps):=(steps_good (by omega) (by have:=HN.out;rwa [show j=o.steps.length by omega]at this)).symm
   go_wp2
   go_ret
   exact⟨ret_bool HF.out,HR.out⟩
set_option maxHeartbeats 2000000 in
theorem omay_any(o:Od)(a:Option Addr)(c:Nat)(w:World)(ha:Sts w a o.steps)(hl:o.steps.length≤9223372036854775807):
 Calls Tryz.prog 55 #[.agg #[.int .i64 o.id,.int .i64 o.item,.int .i64 o.qty,.int .i64 o.client,.int .i64 o.price,.slice a o.steps.length c]] w fun e w'=>e= .returned (.bool (mayO o))∧Below w.heap.size w w':=by
 have HI:Hid (Sts w a o.steps):=ha
 have HB:Hid (Below w.heap.size w (w.alloc (.cells #[.int .i64 o.id,.int .i64 o.item,.int .i64 o.qty,.int .i64 o.client,.int .i64 o.price,.slice a o.steps.length c] 32))):=(Below.refl _ _).alloc (Nat.le_refl _) _
 clear ha
 by_cases c1:o.id<1
 ·have HF:Hid (false=mayO o):=by show _=_;unfold mayO oidB;simp;omega
  go_enter Tryz.func55,Tryz.ntmps55
  go_wp2_with(first
   |(go_at_call 130;refine(plc_any _ _).mono ?_;rintro e w1 ⟨rfl,rfl⟩)
   |(go_at_call 131;refine(amt_any _ _).mono ?_;rintro e w1 ⟨rfl,rfl⟩))
  go_ret
  exact⟨ret_bool HF.out,HB.out⟩
 by_cases c2:999<o.id
 ·have HF:Hid (false=mayO o):=by show _=_;unfold mayO oidB;simp;omega
  go_enter Tryz.func55,Tryz.ntmps55
  go_wp2_with(first
   |(go_at_call 130;refine(plc_any _ _).mono ?_;rintro e w1 ⟨rfl,rfl⟩)
   |(go_at_call 131;refine(amt_any _ _).mono ?_;rintro e w1 ⟨rfl,rfl⟩))
  go_ret
  exact⟨ret_bool HF.out,HB.out⟩
 cases p1:plcB o.item
 ·have HF:Hid (false=mayO o):=by show _=_;unfold mayO;rw[p1];simp
  go_enter Tryz.func55,Tryz.ntmps55
  go_wp2_with(first
   |(go_at_call 130;refine(plc_any _ _).mono ?_;rintro e w1 ⟨rfl,rfl⟩)
   |(go_at_call 131;refine(amt_any _ _).mono ?_;rintro e w1 ⟨rfl,rfl⟩))
  go_ret
  exact⟨ret_bool HF.out,HB.out⟩
 cases p2:plcB o.client
 ·have HF:Hid (false=mayO o):=by show _=_;unfold mayO;rw[p2];simp
  go_enter Tryz.func55,Tryz.ntmps55
  go_wp2_with(first
   |(go_at_call 130;refine(plc_any _ _).mono ?_;rintro e w1 ⟨rfl,rfl⟩)
   |(go_at_call 131;refine(amt_any _ _).mono ?_;rintro e w1 ⟨rfl,rfl⟩))
  go_ret
  exact⟨ret_bool HF.out,HB.out⟩
 cases p3:amtB o.qty
 ·have HF:Hid (false=mayO o):=by show _=_;unfold mayO;rw[p3];simp
  go_enter Tryz.func55,Tryz.ntmps55
  go_wp2_with(first
   |(go_at_call 130;refine(plc_any _ _).mono ?_;rintro e w1 ⟨rfl,rfl⟩)
   |(go_at_call 131;refine(amt_any _ _).mono ?_;rintro e w1 ⟨rfl,rfl⟩))
  go_ret
  exact⟨ret_bool HF.out,HB.out⟩
 cases p4:amtB o.price
 ·have HF:Hid (false=mayO o):=by show _=_;unfold mayO;rw[p4];simp
  go_enter Tryz.func55,Tryz.ntmps55
  go_wp2_with(first
   |(go_at_call 130;refine(plc_any _ _).mono ?_;rintro e w1 ⟨rfl,rfl⟩)
   |(go_at_call 131;refine(amt_any _ _).mono ?_;rintro e w1 ⟨rfl,rfl⟩))
  go_ret
  exact⟨ret_bool HF.out,HB.out⟩
 have HF:Hid (stepsB o.steps=mayO o):=by
  show _=_
  unfold mayO;rw[p1,p2,p3,p4,oidB_iff.2 (by omega)];simp
 have HM:=steps_any o a c (w.alloc (.cells #[.int .i64 o.id,.int .i64 o.item,.int .i64 o.qty,.int .i64 o.client,.int .i64 o.price,.slice a o.steps.length c] 32)) (HI.out.below HB.out) hl
 go_enter Tryz.func55,Tryz.ntmps55
 go_wp2_with(first
  |(go_at_call 130;refine(plc_any _ _).mono ?_;rintro e w1 ⟨rfl,rfl⟩)
  |(go_at_call 131;refine(amt_any _ _).mono ?_;rintro e w1 ⟨rfl,rfl⟩)
  |(go_at_call 132;refine HM.mono ?_;rintro e w1 ⟨rfl,hb1⟩))
 go_ret
 exact⟨ret_bool HF.out,bel_on' HB.out hb1⟩
end Go.Proofs.YthfgmpooehkhgaaGreatDoor.Sg
