import Derived.Test.YthfgmpooehkhgaaGreatDoorSmgafhjf
import Derived.Test.YthfgmpooehkhgaaGreatDoorSmikfnbn
namespace Go.Proofs.YthfgmpooehkhgaaGreatDoor
open Go.ChangeShapes Go.WideShapes Go.ChangeAt Go.RowKit
open Below renaming refl→zF
def wordsB(k:ByteArray)(id:Int)(l:List Int):List ByteArray:=k::⟨(Lib.itoa id).toArray⟩::l.map fun n=>⟨(Lib.itoa n).toArray⟩
theorem wordsB_data(k:ByteArray)(id:Int)(l:List Int):(wordsB k id l).map (·.data.toList)=wordsL k id l:=by
 simp[wordsB,wordsL]
theorem wordsB_snoc(k:ByteArray)(id:Int)(l:List Int)(n:Int):wordsB k id (l++ [n])=wordsB k id l++ [⟨(Lib.itoa n).toArray⟩]:=by simp[wordsB]
theorem wordsB_len(k:ByteArray)(id:Int)(l:List Int):(wordsB k id l).length =l.length+2:=by simp[wordsB]
set_option maxRecDepth 100000 in
set_option maxHeartbeats 1000000 in
theorem line_any(k:ByteArray)(id:Int)(a:Option Addr)(l:List Int)(c:Nat)(w:World)(hk:k.size≤maxLen)(ha:Ints w a l)(hl:l.length≤9223372036854775807)(hg:Gl w):
 Calls Tryz.prog 205 #[.agg #[.string k,.int .i64 id,.slice a l.length c]] w fun e w'=>e= .returned (.tuple #[.string (lineV k id l),.int .i64 (lineE k id l)])∧Below w.heap.size w w':=by
 have HI:Hid (Ints w a l):=ha
 have HB:Hid (Below w.heap.size w (w.alloc (.cells #[.string k,.int .i64 id,.slice a l.length c] 104))):=(zF _ _).alloc (Nat.le_refl _) _
 have HL:Hid (l.length≤9223372036854775807):=hl
 have HK:Hid (k.size≤maxLen):=hk
 have HG:Hid (Gl w):=hg
 clear ha hl hk hg
 have HM:=may_any k id a l c (w.alloc (.cells #[.string k,.int .i64 id,.slice a l.length c] 104)) HK.out (HI.out.below HB.out) HL.out
 unfold lineV lineE
 cases hm:mayB k id l
 ·rw[hm]at HM;go_enter Tryz.func205,Tryz.ntmps205
  go_wp2_with(first
   |(go_at_call 229;refine HM.mono ?_;rintro e w1 ⟨rfl,hb1⟩))
  go_ret2
  exact⟨rfl,bel_on' HB.out hb1⟩
 ·rw[hm]at HM;obtain⟨_,hk8,_,hi0,hi1,hl4,hn⟩:=may_parts hm;have HMB:Hid (mayB k id l=true):=hm
  have HN:Hid _:=hn
  clear hn hm;go_enter Tryz.func205,Tryz.ntmps205
  have b0:(w.alloc (.cells #[.string k,.int .i64 id,.slice a l.length c] 104)).cell? ⟨w.heap.size,0,none⟩=some (.string k):=by simp
  have b1:(w.alloc (.cells #[.string k,.int .i64 id,.slice a l.length c] 104)).cell? ⟨w.heap.size,1,none⟩=some (.int .i64 id):=by simp
  have b2:(w.alloc (.cells #[.string k,.int .i64 id,.slice a l.length c] 104)).cell? ⟨w.heap.size,2,none⟩=some (.slice a l.length c):=by simp
  have B0:Hid _:=b0
  have B1:Hid _:=b1
  have B2:Hid _:=b2
  clear b0 b1 b2
  go_wp2_with(first
   |(go_at_call 229;refine HM.mono ?_;rintro e w1 ⟨rfl,hb1⟩;have c0:=(hb1.cell (p:=⟨w.heap.size,0,none⟩) (by simp)).trans B0.out;have c1:=(hb1.cell (p:=⟨w.heap.size,1,none⟩) (by simp)).trans B1.out;have c2:=(hb1.cell (p:=⟨w.heap.size,2,none⟩) (by simp)).trans B2.out))
  have H1:Hid (Below w.heap.size w w1):=bel_on' HB.out hb1
  have HS1:Hid (w.heap.size+1≤w1.heap.size):=by show w.heap.size+1≤w1.heap.size;have:=hb1.size;simpa using this
  clear HM hb1;have HG1:Hid (Gl w1):=HG.out.on H1.out
  obtain⟨y,hy⟩:∃y:ByteArray,(⟨(Lib.itoa id).toArray⟩:ByteArray)=y:=⟨_,rfl⟩
  have hys:y.size≤11:=by rw[←hy];exact itoaB_size (by omega) (by omega)
  have HY:Hid _:=hy
  clear hy;have C0:Hid _:=c0
  have C1:Hid _:=c1
  have C2:Hid _:=c2
  go_cut [4]from 10 to 15 (fun v wx=>∃w2,Below w1.heap.size w1 w2∧v= .slice (some ⟨w2.heap.size,0,none⟩) 2 2∧wx=w2.alloc (.cells #[.string k,.string y] 9))
  case first=>
   go_region_with(first
    |(go_at_call 125;refine(itoa_any _ _ ?_ ?_ ?_).mono ?_;(·omega);(·omega);(·exact HG1.out.on (zF _ _).drew);rintro e w2 ⟨rfl,hb2⟩;rw[HY.out];have d0:=(hb2.cell (p:=⟨w.heap.size,0,none⟩) (by have:=HS1.out;show w.heap.size<w1.heap.size;omega)).trans (show w1.drew.cell? ⟨w.heap.size,0,none⟩=some (.string k)from C0.out);have h2:Hid (Below w1.heap.size w1 w2):=(zF _ _).drew.trans hb2))
   all_goals(go_wp2_with fail;go_meet;exact⟨_,h2.out,rfl,rfl⟩)
  case rest=>
   obtain⟨w2,hb2,rfl,rfl⟩:=hcut;have HB2:Hid (Below w.heap.size w w2):=bel_on' H1.out hb2
   have HS2:Hid (w.heap.size+1≤w2.heap.size):=Nat.le_trans HS1.out hb2.size
   have HB3:Hid (Below w.heap.size w (w2.alloc (.cells #[.string k,.string y] 9))):=HB2.out.alloc HB2.out.size _
   have HO:Hid ((w2.alloc (.cells #[.string k,.string y] 9)).ownsRow (w.heap.size+1) 9 1 (.slice (some ⟨w2.heap.size,0,none⟩) 2 2) (0+2) ((wordsB k id (l.take 0)).map Value.string)):=by
    have:=owned_built w2 (w.heap.size+1) HS2.out [k,y] (by simp)
    rw[←HY.out]at this ⊢;exact this
   have HS3:Hid (w.heap.size+1≤(w2.alloc (.cells #[.string k,.string y] 9)).heap.size):=by show _≤_;have:=HS2.out;simp;omega
   have c3:(w2.alloc (.cells #[.string k,.string y] 9)).cell? ⟨w.heap.size,2,none⟩=some (.slice a l.length c):=by
    rw[((zF _ w2).alloc (Nat.le_refl _) _).cell (p:=⟨w.heap.size,2,none⟩) (by have:=HS2.out;show w.heap.size<w2.heap.size;omega)];exact(hb2.cell (p:=⟨w.heap.size,2,none⟩) (by have:=HS1.out;show w.heap.size<w1.heap.size;omega)).trans C2.out
   clear hb2 c0 c1 c2 HY B0 B1 B2 C0 C1 C2 HG1 HB2;generalize hw3:w2.alloc (.cells #[.string k,.string y] 9)=w3 at HB3 HO HS3 c3 ⊢;generalize hv3:Value.slice (some ⟨w2.heap.size,0,none⟩) 2 2=v3 at HO ⊢;clear hw3 hv3
   go_wp2
   go_loopw [4,19] (fun v i wr=>∃n:Nat,n≤l.length∧i= .int .i64 n∧Hid (wr.ownsRow (w.heap.size+1) 9 1 v (n+2) ((wordsB k id (l.take n)).map Value.string))∧Hid (Below w.heap.size w wr)∧Hid (w.heap.size+1≤wr.heap.size)) (fun _ i _=>l.length-(intOf i).toNat)
   case atStart=>exact⟨0,Nat.zero_le _,rfl,HO,HB3,HS3⟩
   case round=>
    obtain⟨n,hnl,rfl,HW,HR,HZ⟩:=hrel;by_cases hlt:n<l.length
    ·rcases HI.out.below HR.out with h|⟨b,off,rfl,hc⟩
     ·subst h;simp at hlt
     have hx:=hc n hlt
     clear hc;obtain⟨x,ex⟩:∃x,x=l.getD n 0:=⟨_,rfl⟩
     rw[←ex]at hx;have hg:l[n]=x:=by rw[ex];simp[List.getD,hlt]
     have hxb:=HN.out x (by rw[←hg];exact List.getElem_mem hlt)
     obtain⟨z,hz⟩:∃z:ByteArray,(⟨(Lib.itoa x).toArray⟩:ByteArray)=z:=⟨_,rfl⟩
     have HS:Hid (wordsB k id (l.take n)++ [z]=wordsB k id (l.take (n+1))):=by
      show _=_
      rw[List.take_succ_eq_append_getElem hlt,wordsB_snoc,hg,hz]
     have HZZ:Hid ((⟨(Lib.itoa x).toArray⟩:ByteArray)=z):=hz
     have hx0:=hxb.1
     have hx1:=hxb.2
     clear ex hg hz hxb
     go_wp2_with(first
      |(go_at_call 125;refine(itoa_any _ _ ?_ ?_ ?_).mono ?_;(·omega);(·omega);(·exact HG.out.on HR.out);rintro e w4 ⟨rfl,hb4⟩;rw[HZZ.out];have H4:Hid _:=hb4;clear hb4)
      |(at_builtin;refine append_strs rfl (.tmp 23) (.tmp 26) rfl (w.heap.size+1) _ (n+2) _ rfl (owned_on (owned_on HW.out H4.out) ((zF _ _).alloc (Nat.le_refl _) _)) ⟨w4.heap.size,0,none⟩ 1 1 [z] rfl rfl ?hst ?hnn ?hba ?_;(case hst=>exact strs_one w4 z);(case hnn=>omega);(case hba=>have h1:=HZ.out;have h2:=H4.out.size;simp;omega);intro v6 w6 o6 g6))
     have HB6:Hid (Below w.heap.size w w6):=by
      show Below w.heap.size w w6
      have h5:=(bel_on' HR.out H4.out).alloc (bel_on' HR.out H4.out).size (.cells #[.string z] 9)
      exact h5.grown g6 h5.size (fun j hj=>by have:=(HW.out.lt j hj).1;omega)
     have HZ6:Hid (w.heap.size+1≤w6.heap.size):=by
      show _≤_
      have h1:=HZ.out
      have h2:=H4.out.size
      have h3:=g6.size
      simp at h3;omega
     rw[HS.out]at o6;have O6:Hid _:=o6
     clear o6 g6
     go_wp2
     go_roundw
     case rel=>exact⟨n+1,by omega,by go_num,O6.out,HB6,HZ6⟩
     case measure=>simp[intOf];omega
    ·obtain rfl:n=l.length:=by omega
     obtain⟨aj,cj,rfl,hjl,hjc,hst⟩:=owned_strs HW.out;rcases hst with h|⟨bj,oj,rfl,hcj⟩
     ·simp[wordsB]at h
     have hj:(wordsB k id l).length =l.length+2:=by rw[wordsB_len]
     have HX:Hid (∀(j:Nat) x,(wordsB k id l)[j]?=some x→wr.cell? ⟨bj,oj+j,none⟩=some (.string x)):=fun j x hx=>by
      rw[List.take_of_length_le (by omega)]at hcj;have hj':j<(wordsB k id l).length :=by
       rcases Nat.lt_or_ge j (wordsB k id l).length with h|h
       ·exact h
       ·rw[List.getElem?_eq_none h]at hx;cases hx
      rw[hcj j hj'];simp[List.getD,hx]
     have hsz:=txt_size HMB.out
     have ej:(⟨(Lib.join ((wordsB k id l).map (·.data.toList)) [32]).toArray⟩:ByteArray)=txt k id l:=by rw[wordsB_data];rfl
     have el:(Lib.join ((wordsB k id l).map (·.data.toList)) [32]).length =(txt k id l).size :=by rw[wordsB_data];simp[txt,ByteArray.size]
     have J:=Tryz.strings_Join bj oj cj (wordsB k id l) ⟨#[32]⟩ wr HX.out (cell_lt (HX.out 0 k rfl)) (by omega) (by omega) (by show(Lib.join ((wordsB k id l).map (·.data.toList)) [32]).length ≤_;rw[el];omega)
     rw[hj]at J;have J2:Calls Tryz.prog 231 #[.slice (some ⟨bj,oj,none⟩) (l.length+2) cj,.string ⟨#[32]⟩] wr fun e w'=>e= .returned (.string (txt k id l))∧Below wr.heap.size wr w':=by
      rw[←ej];exact J
     have HXS:Hid ((txt k id l).size ≤140737488355328):=by show _≤_;omega
     clear J ej el hsz hj HX hcj hjl hjc
     go_wp2_with(first
      |(go_at_call 231;refine J2.mono ?_;rintro e w7 ⟨rfl,hb7⟩)
      |(go_at_call 230;refine(sign_any _ _ HXS.out).mono ?_;rintro e w8 ⟨rfl,hb8⟩))
     go_ret2
     exact⟨rfl,bel_on' (bel_on' HR.out hb7) hb8⟩
end Go.Proofs.YthfgmpooehkhgaaGreatDoor
