import Derived.Test.YthfgmpooehkhgaaGreatDoorSmddbpib
import Derived.Lib.AppendIntMem
namespace Go.Proofs.YthfgmpooehkhgaaGreatDoor
open Go.ChangeShapes Go.WideShapes Go.ChangeAt Go.RowKit
theorem itoa_any(n:Int)(w:World)(h0: -9223372036854775808≤n)(h1:n≤9223372036854775807)(hg:Gl w):
 Calls Tryz.prog 125 #[.int .i64 n] w fun e w'=>e= .returned (.string ⟨(Lib.itoa n).toArray⟩)∧Below w.heap.size w w':=
 (Tryz.strconv_Itoa n h0 h1 w hg.1).mono fun e w' ⟨h,k,os,e2⟩=>⟨h,by subst e2;exact Lib.below_grow _ w (Nat.le_refl _) k os⟩
theorem atoi_any(s:ByteArray)(w:World)(hs:s.size≤281474976710656)(hg:Gl w):
 Calls Tryz.prog 271 #[.string s] w fun e w'=>Below w.heap.size w w'∧
  ((∃v,Lib.atoiAll s.data.toList= .ok v∧e= .returned (.tuple #[.int .i64 v,.nilIface]))∨
   ((∀v,Lib.atoiAll s.data.toList≠ .ok v)∧∃v N,e= .returned (.tuple #[.int .i64 v,.iface 294 (.pointer (some ⟨N,0,none⟩))]))):=by
 obtain⟨_,⟨t2,p2,h2⟩,⟨t3,p3,h3⟩,_⟩:=hg
 cases h:Lib.atoiAll s.data.toList with
 |ok v=>
  refine(Tryz.strconv_Atoi_ok s (by omega) v h w).mono ?_;rintro e w' ⟨rfl,hw⟩;refine⟨?_,.inl ⟨v,rfl,rfl⟩⟩;rcases hw with rfl|⟨t,rfl⟩
  ·exact Below.refl _ _
  ·exact Lib.bytesWorld_below _ _ _
 |range=>
  refine(Any.strconv_Atoi_range_var Tryz.laysC172 s hs h t3 p3 w h3).mono ?_;rintro e w' ⟨N,rfl,_,_,hb⟩;exact⟨hb,.inr ⟨(fun v hv=>by cases hv),_,N,rfl⟩⟩
 |_=>
  refine(Any.strconv_Atoi_syntax_var Tryz.laysC172 s hs h t2 p2 w h2).mono ?_;rintro e w' ⟨N,rfl,_,_,hb⟩;exact⟨hb,.inr ⟨(fun v hv=>by cases hv),_,N,rfl⟩⟩
theorem split_any(s:ByteArray)(w:World)(hs:s.size<4294967281)(hg:Gl w):
 Calls Tryz.prog 217 #[.string s,.string ⟨#[32]⟩] w fun e w'=>
  e= .returned (.slice (some ⟨w.heap.size,0,none⟩) (cutB s).length (cutB s).length)∧w.alloc (.cells ((cutB s).map Value.string).toArray 9)=w':=by
 obtain⟨m,hm⟩:=hg.mx
 refine(Any.strings_Split {Tryz.laysM146 with} Tryz.laysM146.i9 s ⟨#[32]⟩ m w hs hm (by decide)).mono ?_
 rintro e w' ⟨rfl,rfl⟩
 rw[cutB_len]
 exact⟨rfl,rfl⟩
def NumR(s:ByteArray)(v:Int)(b:Bool):Prop:=
 (b=true→s.data.toList=Lib.itoa v∧ -9223372036854775808≤v∧v≤9223372036854775807)∧
 ∀v',-1000000000≤v'→v'≤1000000000→s.data.toList=Lib.itoa v'→b=true∧v=v'
theorem itoaB_eq(s:ByteArray)(v:Int):((⟨(Lib.itoa v).toArray⟩:ByteArray).toList ==s.toList)=true↔s.data.toList=Lib.itoa v:=by
 rw[ByteArray.toList_eq,ByteArray.toList_eq,beq_iff_eq]
 exact eq_comm
theorem number_any(s:ByteArray)(w:World)(hs:s.size≤281474976710656)(hg:Gl w):
 Calls Tryz.prog 239 #[.string s] w fun e w'=>∃v b,e= .returned (.tuple #[.int .i64 v,.bool b])∧NumR s v b∧Below w.heap.size w w':=by
 have HG:Hid (Gl w):=hg
 have HS:Hid (s.size≤281474976710656):=hs
 clear hg hs
 go_enter Tryz.func239,Tryz.ntmps239
 go_wp2_with fail
 refine(atoi_any s _ HS.out HG.out).mono ?_
 rintro e w1 ⟨hb1,⟨v,hv,rfl⟩|⟨hno,v,N,rfl⟩⟩
 ·obtain⟨hv0,hv1⟩:=Lib.atoiAll_bounds hv;obtain⟨t,ht⟩:∃t:ByteArray,(⟨(Lib.itoa v).toArray⟩:ByteArray)=t:=⟨_,rfl⟩
  have HV:Hid (-9223372036854775808≤v∧v≤9223372036854775807):=⟨hv0,hv1⟩
  have HT:Hid ((t.toList==s.toList)=true↔s.data.toList=Lib.itoa v):=by rw[←ht];exact itoaB_eq s v
  have HO:Hid (Lib.atoiAll s.data.toList= .ok v):=hv
  have H1:Hid (Below w.heap.size w w1):=hb1
  have HTT:Hid _:=ht
  clear hv0 hv1 hv hb1 ht;cases hq:(t.toList==s.toList)
  ·go_wp2_with(first
    |(go_at_call 125;refine(itoa_any _ _ HV.out.1 HV.out.2 (HG.out.on H1.out)).mono ?_;rintro e w2 ⟨rfl,hb2⟩;rw[HTT.out]))
   go_ret2
   refine⟨_,_,rfl,⟨(fun h=>by cases h),fun v' a1 a2 a3=>?_⟩,H1.out.trans (hb2.mono H1.out.size)⟩;have e1:=atoi_itoa a1 a2
   rw[←a3,HO.out]at e1;cases e1;exact absurd (HT.out.2 a3) (by rw[hq];decide)
  ·go_wp2_with(first
    |(go_at_call 125;refine(itoa_any _ _ HV.out.1 HV.out.2 (HG.out.on H1.out)).mono ?_;rintro e w2 ⟨rfl,hb2⟩;rw[HTT.out]))
   go_ret2
   refine⟨_,_,rfl,⟨fun _=>⟨HT.out.1 hq,HV.out⟩,fun v' a1 a2 a3=>⟨rfl,?_⟩⟩,H1.out.trans (hb2.mono H1.out.size)⟩;exact itoa_inj ((HT.out.1 hq).symm.trans a3)
 ·have HN:Hid _:=hno
  have H1:Hid (Below w.heap.size w w1):=hb1
  clear hno hb1
  go_wp2
  go_ret2
  refine⟨_,_,rfl,⟨(fun h=>by cases h),fun v' a1 a2 a3=>?_⟩,H1.out⟩;have e1:=atoi_itoa a1 a2
  rw[←a3]at e1;exact absurd e1 (HN.out v')
def lineV(k:ByteArray)(id:Int)(l:List Int):ByteArray:=if mayB k id l=true then sign (txt k id l)else⟨#[]⟩
def lineE(k:ByteArray)(id:Int)(l:List Int):Int:=if mayB k id l=true then 0 else 1
theorem itoaB_size{n:Int}(h0: -1000000000≤n)(h1:n≤1000000000):(⟨(Lib.itoa n).toArray⟩:ByteArray).size ≤11:=by
 have:=itoa_len h0 h1
 simpa[ByteArray.size]using this
end Go.Proofs.YthfgmpooehkhgaaGreatDoor
