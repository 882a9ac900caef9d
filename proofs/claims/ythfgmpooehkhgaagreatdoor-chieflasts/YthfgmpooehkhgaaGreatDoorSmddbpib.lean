import Derived.Test.YthfgmpooehkhgaaGreatDoorSmdlpimg
import Derived.Test.YthfgmpooehkhgaaGreatDoorSmmkapjj
import Derived.Test.YthfgmpooehkhgaaGreatDoorSmmolpgl
import Derived.Test.YthfgmpooehkhgaaGreatDoorSmpajool
namespace Go.Proofs.YthfgmpooehkhgaaGreatDoor
open Go.ChangeShapes Go.WideShapes Go.ChangeAt Go.RowKit
open Nat renaming le_refl→zD
theorem all_step{α:Type}(p:α→Bool)(l:List α)(k:Nat)(h:k<l.length)(ha:(l.take k).all p=true)(hp:p l[k]=true):(l.take (k+1)).all p=true:=by
 rw[List.take_succ_eq_append_getElem h,List.all_append,ha]
 simp[hp]
theorem all_fail{α:Type}(p:α→Bool)(l:List α)(k:Nat)(h:k<l.length)(hp:p l[k]=false):l.all p=false:=by
 rw[List.all_eq_false]
 exact⟨l[k],List.getElem_mem h,by simp[hp]⟩
theorem kind_any(k:ByteArray)(w:World)(hs:k.size≤maxLen):
 Calls Tryz.prog 259 #[.string k] w fun e w'=>e= .returned (.bool (kindB k))∧w=w':=by
 unfold maxLen at hs
 by_cases h1:(k.size:Int)<1
 ·have e:kindB k=false:=by unfold kindB;simp;omega
  rw[e];go_enter Tryz.func259,Tryz.ntmps259
  go_wp2
  go_ret
  exact⟨rfl,rfl⟩
 by_cases h2:(k.size:Int)>8
 ·have e:kindB k=false:=by unfold kindB;simp;omega
  rw[e];go_enter Tryz.func259,Tryz.ntmps259
  go_wp2
  go_ret
  exact⟨rfl,rfl⟩
 have HK:Hid (kindB k=k.data.toList.all letterB):=by
  show kindB k=_
  unfold kindB;rw[decide_eq_true (by omega:1≤k.size),decide_eq_true (by omega:k.size≤8)];simp
 have hlen:k.data.toList.length=k.size:=Array.length_toList
 have HL:Hid (k.data.toList.length=k.size):=hlen
 clear hlen
 go_enter Tryz.func259,Tryz.ntmps259
 go_wp2
 go_loop [14] (fun i=>∃n:Nat,n≤k.size∧i= .int .i64 n∧Hid ((k.data.toList.take n).all letterB=true)) (fun i=>k.size-(intOf i).toNat)
 case atStart=>exact⟨0,Nat.zero_le _,rfl,rfl⟩
 case round=>
  obtain⟨n,hn,rfl,HA⟩:=hrel;by_cases hlt:n<k.size
  ·have hb:=k[n].toNat_lt
   have HG:Hid (k.data.toList[n]'(by rw[HL.out];exact hlt)=k[n]):=by show _=_;rw[Array.getElem_toList];rfl
   by_cases c1:(k[n].toNat :Int)<97
   ·have HF:Hid (false=kindB k):=by
     show _=_
     rw[HK.out];exact(all_fail letterB k.data.toList n (by rw[HL.out];exact hlt) (by rw[HG.out];unfold letterB;simp;omega)).symm
    go_wp2
    go_ret
    exact⟨ret_bool HF.out,rfl⟩
   by_cases c2:(k[n].toNat :Int)>122
   ·have HF:Hid (false=kindB k):=by
     show _=_
     rw[HK.out];exact(all_fail letterB k.data.toList n (by rw[HL.out];exact hlt) (by rw[HG.out];unfold letterB;simp;omega)).symm
    go_wp2
    go_ret
    exact⟨ret_bool HF.out,rfl⟩
   have HS:Hid ((k.data.toList.take (n+1)).all letterB=true):=all_step letterB k.data.toList n (by rw[HL.out];exact hlt) HA.out (by rw[HG.out];unfold letterB;simp;omega)
   go_wp2
   go_round
   case rel=>exact⟨n+1,by omega,by go_num,HS⟩
   case measure=>simp[intOf];omega
  ·have HF:Hid (true=kindB k):=by
    show _=_
    rw[HK.out];have:=HA.out
    rw[List.take_of_length_le (by rw[HL.out];omega)]at this;exact this.symm
   go_wp2
   go_ret
   exact⟨ret_bool HF.out,rfl⟩
theorem id_any(n:Int)(w:World):
 Calls Tryz.prog 260 #[.int .i64 n] w fun e w'=>e= .returned (.bool (idB n))∧w=w':=by
 by_cases h1:n≥0
 ·by_cases h2:n≤999
  ·have HF:Hid (true=idB n):=by show _=_;unfold idB;simp;omega
   go_enter Tryz.func260,Tryz.ntmps260
   go_wp2
   go_ret
   exact⟨ret_bool HF.out,rfl⟩
  ·have HF:Hid (false=idB n):=by show _=_;unfold idB;simp;omega
   go_enter Tryz.func260,Tryz.ntmps260
   go_wp2
   go_ret
   exact⟨ret_bool HF.out,rfl⟩
 ·have HF:Hid (false=idB n):=by show _=_;unfold idB;simp;omega
  go_enter Tryz.func260,Tryz.ntmps260
  go_wp2
  go_ret
  exact⟨ret_bool HF.out,rfl⟩
theorem nums_any(a:Option Addr)(l:List Int)(c:Nat)(w:World)(ha:Ints w a l)(hl:l.length≤9223372036854775807):
 Calls Tryz.prog 261 #[.slice a l.length c] w fun e w'=>e= .returned (.bool (numsB l))∧w=w':=by
 by_cases h1:(l.length:Int)>4
 ·have HF:Hid (false=numsB l):=by show _=_;unfold numsB;simp;omega
  go_enter Tryz.func261,Tryz.ntmps261
  go_wp2
  go_ret
  exact⟨ret_bool HF.out,rfl⟩
 have HK:Hid (numsB l=l.all numB):=by
  show numsB l=_
  unfold numsB;rw[decide_eq_true (by omega:l.length≤4)];simp
 have HI:Hid (Ints w a l):=ha
 clear ha
 go_enter Tryz.func261,Tryz.ntmps261
 go_wp2
 go_loop [10] (fun i=>∃n:Nat,n≤l.length∧i= .int .i64 n∧Hid ((l.take n).all numB=true)) (fun i=>l.length-(intOf i).toNat)
 case atStart=>exact⟨0,Nat.zero_le _,rfl,rfl⟩
 case round=>
  obtain⟨n,hn,rfl,HA⟩:=hrel;by_cases hlt:n<l.length
  ·rcases HI.out with h|⟨b,off,rfl,hc⟩
   ·subst h;simp at hlt
   have hx:=hc n hlt
   clear hc;obtain⟨x,ex⟩:∃x,x=l.getD n 0:=⟨_,rfl⟩
   rw[←ex]at hx;have HG:Hid (l[n]=x):=by show _=_;rw[ex];simp[List.getD,hlt]
   clear ex;by_cases c1:x< -1000000000
   ·have HF:Hid (false=numsB l):=by
     show _=_
     rw[HK.out];exact(all_fail numB l n hlt (by rw[HG.out];unfold numB;simp;omega)).symm
    go_wp2
    go_ret
    exact⟨ret_bool HF.out,rfl⟩
   by_cases c2:x>1000000000
   ·have HF:Hid (false=numsB l):=by
     show _=_
     rw[HK.out];exact(all_fail numB l n hlt (by rw[HG.out];unfold numB;simp;omega)).symm
    go_wp2
    go_ret
    exact⟨ret_bool HF.out,rfl⟩
   have HS:Hid ((l.take (n+1)).all numB=true):=all_step numB l n hlt HA.out (by rw[HG.out];unfold numB;simp;omega)
   go_wp2
   go_round
   case rel=>exact⟨n+1,by omega,by go_num,HS⟩
   case measure=>simp[intOf];omega
  ·have HF:Hid (true=numsB l):=by
    show _=_
    rw[HK.out];have:=HA.out
    rw[List.take_of_length_le (by omega)]at this;exact this.symm
   go_wp2
   go_ret
   exact⟨ret_bool HF.out,rfl⟩
theorem may_any(k:ByteArray)(id:Int)(a:Option Addr)(l:List Int)(c:Nat)(w:World)(hk:k.size≤maxLen)(ha:Ints w a l)(hl:l.length≤9223372036854775807):
 Calls Tryz.prog 229 #[.agg #[.string k,.int .i64 id,.slice a l.length c]] w fun e w'=>e= .returned (.bool (mayB k id l))∧Below w.heap.size w w':=by
 have HI:Hid (Ints w a l):=ha
 clear ha
 have key:mayB k id l=(kindB k&&idB id&&numsB l):=rfl
 obtain⟨b1,e1⟩:∃b,b=kindB k:=⟨_,rfl⟩
 obtain⟨b2,e2⟩:∃b,b=idB id:=⟨_,rfl⟩
 rw[key,←e1,←e2]
 clear key
 have E1:Hid (b1=kindB k):=e1
 have E2:Hid (b2=idB id):=e2
 have HK:Hid (k.size≤maxLen):=hk
 have HL:Hid (l.length≤9223372036854775807):=hl
 clear e1 e2 hk hl
 go_enter Tryz.func229,Tryz.ntmps229
 cases b1
 ·go_wp2_with(first
   |(go_at_call 259;refine(kind_any _ _ HK.out).mono ?_;rintro e w1 ⟨rfl,rfl⟩;rw[←E1.out]))
  go_ret
  exact⟨rfl,(Below.refl _ _).alloc (zD _) _⟩
 cases b2
 ·go_wp2_with(first
   |(go_at_call 259;refine(kind_any _ _ HK.out).mono ?_;rintro e w1 ⟨rfl,rfl⟩;rw[←E1.out])
   |(go_at_call 260;refine(id_any _ _).mono ?_;rintro e w1 ⟨rfl,rfl⟩;rw[←E2.out]))
  go_ret
  exact⟨rfl,(Below.refl _ _).alloc (zD _) _⟩
 go_wp2_with(first
  |(go_at_call 259;refine(kind_any _ _ HK.out).mono ?_;rintro e w1 ⟨rfl,rfl⟩;rw[←E1.out])
  |(go_at_call 260;refine(id_any _ _).mono ?_;rintro e w1 ⟨rfl,rfl⟩;rw[←E2.out])
  |(go_at_call 261;refine(nums_any _ l _ _ (HI.out.below ((Below.refl _ _).alloc (zD _) _)) HL.out).mono ?_;rintro e w1 ⟨rfl,rfl⟩))
 go_ret
 exact⟨rfl,(Below.refl _ _).alloc (zD _) _⟩
theorem belowN{w w':World}(h:Below w.heap.size w w')(n:Nat):Below w.heap.size w (w'.drewN n):=⟨h.os,h.tape,h.output,h.size,h.block⟩
end Go.Proofs.YthfgmpooehkhgaaGreatDoor
