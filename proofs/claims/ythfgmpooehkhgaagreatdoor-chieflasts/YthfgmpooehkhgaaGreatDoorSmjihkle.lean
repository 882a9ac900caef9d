import Derived.Test.YthfgmpooehkhgaaGreatDoorSmoomoeh
import Derived.Deep.LoopGhost
namespace Go.Proofs.YthfgmpooehkhgaaGreatDoor.Sg
open Go.ChangeShapes Go.WideShapes Go.ChangeAt Go.RowKit
theorem ref_item_any(n:Int)(w:World):Calls Tryz.prog 114 #[.int .i64 n] w fun e w'=>e= .returned (.bool (plcB n))∧w=w':=by
 by_cases h1:n≥0
 ·by_cases h2:n<8
  ·have HF:Hid (true=plcB n):=by show _=_;symm;rw[plcB_iff];omega
   go_enter Tryz.func114,Tryz.ntmps114
   go_wp2
   go_ret
   exact⟨ret_bool HF.out,rfl⟩
  ·have HF:Hid (false=plcB n):=by show _=_;unfold plcB;simp;omega
   go_enter Tryz.func114,Tryz.ntmps114
   go_wp2
   go_ret
   exact⟨ret_bool HF.out,rfl⟩
 ·have HF:Hid (false=plcB n):=by show _=_;unfold plcB;simp;omega
  go_enter Tryz.func114,Tryz.ntmps114
  go_wp2
  go_ret
  exact⟨ret_bool HF.out,rfl⟩
theorem ref_id_any(n:Int)(w:World):Calls Tryz.prog 113 #[.int .i64 n] w fun e w'=>e= .returned (.bool (oidB n))∧w=w':=by
 by_cases h1:n≥1
 ·by_cases h2:n≤999
  ·have HF:Hid (true=oidB n):=by show _=_;symm;rw[oidB_iff];omega
   go_enter Tryz.func113,Tryz.ntmps113
   go_wp2
   go_ret
   exact⟨ret_bool HF.out,rfl⟩
  ·have HF:Hid (false=oidB n):=by show _=_;unfold oidB;simp;omega
   go_enter Tryz.func113,Tryz.ntmps113
   go_wp2
   go_ret
   exact⟨ret_bool HF.out,rfl⟩
 ·have HF:Hid (false=oidB n):=by show _=_;unfold oidB;simp;omega
  go_enter Tryz.func113,Tryz.ntmps113
  go_wp2
  go_ret
  exact⟨ret_bool HF.out,rfl⟩
theorem ref_above_any(n:Int)(w:World):Calls Tryz.prog 115 #[.int .i64 n] w fun e w'=>e= .returned (.bool (amtB n))∧w=w':=by
 by_cases h1:n≥1
 ·by_cases h2:n≤1000000000
  ·have HF:Hid (true=amtB n):=by show _=_;symm;rw[amtB_iff];omega
   go_enter Tryz.func115,Tryz.ntmps115
   go_wp2
   go_ret
   exact⟨ret_bool HF.out,rfl⟩
  ·have HF:Hid (false=amtB n):=by show _=_;unfold amtB;simp;omega
   go_enter Tryz.func115,Tryz.ntmps115
   go_wp2
   go_ret
   exact⟨ret_bool HF.out,rfl⟩
 ·have HF:Hid (false=amtB n):=by show _=_;unfold amtB;simp;omega
  go_enter Tryz.func115,Tryz.ntmps115
  go_wp2
  go_ret
  exact⟨ret_bool HF.out,rfl⟩
set_option maxHeartbeats 4000000 in
theorem ref_omay_any(o:Od)(a:Option Addr)(c:Nat)(w:World)(ha:Sts w a o.steps)(hl:o.steps.length≤9223372036854775807)(hcap:o.steps.length≤c):
 Calls Tryz.prog 32 #[.agg #[.int .i64 o.id,.int .i64 o.item,.int .i64 o.qty,.int .i64 o.client,.int .i64 o.price,.slice a o.steps.length c]] w fun e w'=>e= .returned (.bool (mayO o))∧Below w.heap.size w w':=by
 have HI:Hid (Sts w a o.steps):=ha
 have HB:Hid (Below w.heap.size w (w.alloc (.cells #[.int .i64 o.id,.int .i64 o.item,.int .i64 o.qty,.int .i64 o.client,.int .i64 o.price,.slice a o.steps.length c] 32))):=(Below.refl _ _).alloc (Nat.le_refl _) _
 clear ha
 cases p0:oidB o.id
 ·have HF:Hid (false=mayO o):=by show _=_;unfold mayO;rw[p0];simp
  go_enter Tryz.func32,Tryz.ntmps32
  go_wp2_with(first
   |(go_at_call 113;refine(ref_id_any _ _).mono ?_;rintro e w1 ⟨rfl,rfl⟩)
   |(go_at_call 114;refine(ref_item_any _ _).mono ?_;rintro e w1 ⟨rfl,rfl⟩)
   |(go_at_call 115;refine(ref_above_any _ _).mono ?_;rintro e w1 ⟨rfl,rfl⟩))
  go_ret
  exact⟨ret_bool HF.out,HB.out⟩
 cases p1:plcB o.item
 ·have HF:Hid (false=mayO o):=by show _=_;unfold mayO;rw[p1];simp
  go_enter Tryz.func32,Tryz.ntmps32
  go_wp2_with(first
   |(go_at_call 113;refine(ref_id_any _ _).mono ?_;rintro e w1 ⟨rfl,rfl⟩)
   |(go_at_call 114;refine(ref_item_any _ _).mono ?_;rintro e w1 ⟨rfl,rfl⟩)
   |(go_at_call 115;refine(ref_above_any _ _).mono ?_;rintro e w1 ⟨rfl,rfl⟩))
  go_ret
  exact⟨ret_bool HF.out,HB.out⟩
 cases p2:plcB o.client
 ·have HF:Hid (false=mayO o):=by show _=_;unfold mayO;rw[p2];simp
  go_enter Tryz.func32,Tryz.ntmps32
  go_wp2_with(first
   |(go_at_call 113;refine(ref_id_any _ _).mono ?_;rintro e w1 ⟨rfl,rfl⟩)
   |(go_at_call 114;refine(ref_item_any _ _).mono ?_;rintro e w1 ⟨rfl,rfl⟩)
   |(go_at_call 115;refine(ref_above_any _ _).mono ?_;rintro e w1 ⟨rfl,rfl⟩))
  go_ret
  exact⟨ret_bool HF.out,HB.out⟩
 cases p3:amtB o.qty
 ·have HF:Hid (false=mayO o):=by show _=_;unfold mayO;rw[p3];simp
  go_enter Tryz.func32,Tryz.ntmps32
  go_wp2_with(first
   |(go_at_call 113;refine(ref_id_any _ _).mono ?_;rintro e w1 ⟨rfl,rfl⟩)
   |(go_at_call 114;refine(ref_item_any _ _).mono ?_;rintro e w1 ⟨rfl,rfl⟩)
   |(go_at_call 115;refine(ref_above_any _ _).mono ?_;rintro e w1 ⟨rfl,rfl⟩))
  go_ret
  exact⟨ret_bool HF.out,HB.out⟩
 cases p4:amtB o.price
 ·have HF:Hid (false=mayO o):=by show _=_;unfold mayO;rw[p4];simp
  go_enter Tryz.func32,Tryz.ntmps32
  go_wp2_with(first
   |(go_at_call 113;refine(ref_id_any _ _).mono ?_;rintro e w1 ⟨rfl,rfl⟩)
   |(go_at_call 114;refine(ref_item_any _ _).mono ?_;rintro e w1 ⟨rfl,rfl⟩)
   |(go_at_call 115;refine(ref_above_any _ _).mono ?_;rintro e w1 ⟨rfl,rfl⟩))
  go_ret
  exact⟨ret_bool HF.out,HB.out⟩
 have HM:Hid (mayO o=stepsB o.steps):=by show _=_;unfold mayO;rw[p0,p1,p2,p3,p4];simp
 by_cases h3:(o.steps.length:Int)>3
 ·have HF:Hid (false=mayO o):=by show _=_;rw[HM.out];exact(steps_long h3).symm
  go_enter Tryz.func32,Tryz.ntmps32
  go_wp2_with(first
   |(go_at_call 113;refine(ref_id_any _ _).mono ?_;rintro e w1 ⟨rfl,rfl⟩)
   |(go_at_call 114;refine(ref_item_any _ _).mono ?_;rintro e w1 ⟨rfl,rfl⟩)
   |(go_at_call 115;refine(ref_above_any _ _).mono ?_;rintro e w1 ⟨rfl,rfl⟩))
  go_ret
  exact⟨ret_bool HF.out,HB.out⟩
 have q3:decide (3<(o.steps.length:Int))=false:=by simp only[decide_eq_false_iff_not];omega
 have hcap':(o.steps.length:Int)≤(c:Int):=by omega
 have HBX:Hid (∀wr,Below (w.heap.size+1) (w.alloc (.cells #[.int .i64 o.id,.int .i64 o.item,.int .i64 o.qty,.int .i64 o.client,.int .i64 o.price,.slice a o.steps.length c] 32)) wr→wr.heap[w.heap.size]?=some (.cells #[.int .i64 o.id,.int .i64 o.item,.int .i64 o.qty,.int .i64 o.client,.int .i64 o.price,.slice a o.steps.length c] 32 (0,0))):=fun wr hb=>by
  rw[hb.block _ (by simp)];show(w.heap.push _)[w.heap.size]?=_
  simp
 go_enter Tryz.func32,Tryz.ntmps32
 go_wp2_with(first
  |(go_at_call 113;refine(ref_id_any _ _).mono ?_;rintro e w1 ⟨rfl,rfl⟩)
  |(go_at_call 114;refine(ref_item_any _ _).mono ?_;rintro e w1 ⟨rfl,rfl⟩)
  |(go_at_call 115;refine(ref_above_any _ _).mono ?_;rintro e w1 ⟨rfl,rfl⟩))
 go_loopw [44] (fun i wr=>∃j:Nat,i= .int .i64 j∧j≤o.steps.length∧w.heap.size<wr.heap.size∧Hid (Below w.heap.size w wr)∧Hid (Below (w.heap.size+1) (w.alloc (.cells #[.int .i64 o.id,.int .i64 o.item,.int .i64 o.qty,.int .i64 o.client,.int .i64 o.price,.slice a o.steps.length c] 32)) wr)∧Hid (okTo o.steps j=true)) (fun i _=>o.steps.length-(intOf i).toNat)
 case atStart=>exact⟨0,rfl,Nat.zero_le _,by simp,HB,Below.refl _ _,rfl⟩
 case round=>
  obtain⟨j,rfl,hj,hsz,HR,HR2,HN⟩:=hrel;by_cases hlt:j<o.steps.length
  ·obtain⟨b,off,rfl,h0,h1⟩:=(HI.out.below HR.out).at hlt;obtain⟨x1,e1⟩:∃x,x=(stAt o.steps j).1 :=⟨_,rfl⟩
   obtain⟨x2,e2⟩:∃x,x=(stAt o.steps j).2 :=⟨_,rfl⟩
   rw[←e1]at h0;rw[←e2]at h1;have HK:Hid (okAt o.steps j=(svcB x1&&amtB x2&& !((o.steps.take j).any fun x=>x.1==x1))):=by show _=_;unfold okAt;rw[←e1,←e2]
   clear e1 e2;have hbx:=HBX.out wr HR2.out
   have c5:=cell_of (i:=5) hbx
   simp at c5;clear hbx;have hjc:(j:Int)≤(c:Int):=by omega
   have HF0:Hid (okAt o.steps j=false→false=mayO o):=fun h=>by rw[HM.out];exact(steps_bad hlt h).symm
   by_cases q1:x1<4
   ·have HF:Hid (false=mayO o):=HF0.out (by rw[HK.out,show svcB x1=false by unfold svcB;simp;omega];rfl)
    go_wp2
    go_ret
    exact⟨ret_bool HF.out,HR.out.alloc HR.out.size _⟩
   by_cases q2:6<x1
   ·have HF:Hid (false=mayO o):=HF0.out (by rw[HK.out,show svcB x1=false by unfold svcB;simp;omega];rfl)
    go_wp2
    go_ret
    exact⟨ret_bool HF.out,HR.out.alloc HR.out.size _⟩
   have p5:svcB x1=true:=svcB_iff.2 (by omega)
   cases p6:amtB x2
   ·have HF:Hid (false=mayO o):=HF0.out (by rw[HK.out,p5,p6];rfl)
    go_wp2_with(first
     |(go_at_call 115;refine(ref_above_any _ _).mono ?_;rintro e w1 ⟨rfl,rfl⟩))
    go_ret
    exact⟨ret_bool HF.out,HR.out.alloc HR.out.size _⟩
   go_wp2_with(first
    |(go_at_call 115;refine(ref_above_any _ _).mono ?_;rintro e w1 ⟨rfl,rfl⟩))
   obtain⟨V,hV⟩:∃V,V=wr.alloc (.cells #[.int .i64 x1,.int .i64 x2] 107):=⟨_,rfl⟩
   obtain⟨q,hq⟩:∃q,q=wr.heap.size:=⟨_,rfl⟩
   have HVB:Hid (Below w.heap.size w V∧Below (w.heap.size+1) (w.alloc (.cells #[.int .i64 o.id,.int .i64 o.item,.int .i64 o.qty,.int .i64 o.client,.int .i64 o.price,.slice (some ⟨b,off,none⟩) o.steps.length c] 32)) V∧w.heap.size<V.heap.size):=by
    rw[hV];exact⟨HR.out.alloc HR.out.size _,HR2.out.alloc (by have:=HR2.out.size;simpa using this) _,by simp;omega⟩
   have y0:V.cell? ⟨q,0,none⟩=some (.int .i64 x1):=by rw[hV,hq];simp
   have Y0:=hide y0
   rw[←hV,←hq];have HIV:Hid (Sts V (some ⟨b,off,none⟩) o.steps):=HI.out.below HVB.out.1
   clear hV hq HR HR2 c5 h0 h1 y0 hsz;go_loopw [68] (fun i wi=>∃m:Nat,i= .int .i64 m∧m≤j∧Hid (Below V.heap.size V wi)∧Hid (∀x∈o.steps.take m,x.1≠x1)) (fun i _=>j-(intOf i).toNat)
   case atStart=>exact⟨0,rfl,Nat.zero_le _,Below.refl _ _,(fun x hx=>by simp at hx)⟩
   case round=>
    obtain⟨m,rfl,hm,HW,HNM⟩:=hrel;by_cases hmj:m<j
    ·have hml:m<o.steps.length:=by omega
     obtain⟨b',off',e',h0,h1⟩:=(HIV.out.below HW.out).at hml;cases e';obtain⟨z1,e1⟩:∃x,x=(stAt o.steps m).1 :=⟨_,rfl⟩
     obtain⟨z2,e2⟩:∃x,x=(stAt o.steps m).2 :=⟨_,rfl⟩
     rw[←e1]at h0;rw[←e2]at h1;have E1:=hide e1
     clear e1 e2;have y0:=cellL Y0.out HW.out
     have hqs:q<wr.heap.size:=World.block_lt_of_cell? _ _ y0
     have hqm:(m:Int)<(j:Int):=by omega
     by_cases hz:z1=x1
     ·have HF:Hid (false=mayO o):=HF0.out (by
       rw[HK.out,p5,p6];have:(o.steps.take j).any (fun x=>x.1==x1)=true:=by
        rw[List.any_eq_true];refine⟨stAt o.steps m,?_,by rw[←E1.out,hz];simp⟩;rw[stAt_get hml];exact List.mem_take_iff_getElem.2 ⟨m,by omega,rfl⟩
       rw[this];rfl)
      subst hz
      go_wp2
      go_ret
      exact⟨ret_bool HF.out,(bel_on' HVB.out.1 HW.out).alloc (bel_on' HVB.out.1 HW.out).size _⟩
     ·have HS:=hide (no_snoc hml (by rw[←E1.out];exact hz) HNM.out)
      have qz:(z1==x1)=false:=by simpa using hz
      go_wp2
      go_roundw
      case rel=>exact⟨m+1,by go_num,by omega,HW.out.alloc HW.out.size _,HS⟩
      case measure=>simp[intOf];omega
    ·have HS:Hid (okTo o.steps (j+1)=true):=by
      show _=_
      rw[okTo_succ,HN.out,HK.out,p5,p6];have:(o.steps.take j).any (fun x=>x.1==x1)=false:=by
       rw[List.any_eq_false];intro x hx;have:=HNM.out x (by rw[show m=j by omega];exact hx)
       simpa using this
      rw[this];rfl
     have HE:Hid (Below w.heap.size w wr∧Below (w.heap.size+1) (w.alloc (.cells #[.int .i64 o.id,.int .i64 o.item,.int .i64 o.qty,.int .i64 o.client,.int .i64 o.price,.slice (some ⟨b,off,none⟩) o.steps.length c] 32)) wr∧w.heap.size<wr.heap.size):=
      ⟨bel_on' HVB.out.1 HW.out,HVB.out.2.1.trans (HW.out.mono (by have:=HVB.out.2.2;omega)),Nat.lt_of_lt_of_le HVB.out.2.2 HW.out.size⟩
     go_wp2
     go_roundw
     case rel=>exact⟨j+1,by go_num,by omega,HE.out.2.2,HE.out.1,HE.out.2.1,HS⟩
     case measure=>simp[intOf];omega
  ·have HF:Hid (true=mayO o):=by show _=_;rw[HM.out];exact(steps_good (by omega) (by have:=HN.out;rwa [show j=o.steps.length by omega]at this)).symm
   go_wp2
   go_ret
   exact⟨ret_bool HF.out,HR.out⟩
end Go.Proofs.YthfgmpooehkhgaaGreatDoor.Sg
