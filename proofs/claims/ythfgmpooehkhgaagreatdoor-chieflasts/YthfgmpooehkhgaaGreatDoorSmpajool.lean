import Derived.Test.YthfgmpooehkhgaaGreatDoorSmnlofki
import Derived.Test.YthfgmpooehkhgaaGreatDoorSmokbfnb
import Derived.Test.YthfgmpooehkhgaaGreatDoorSmngfhph
namespace Go.Proofs.YthfgmpooehkhgaaGreatDoor
open Go.ChangeShapes Go.WideShapes Go.ChangeAt Go.RowKit
def sign(s:ByteArray):ByteArray:=s++⟨#[124]⟩++lets s
theorem lets_size(s:ByteArray):(lets s).size =2:=rfl
theorem sign_any(s:ByteArray)(w:World)(hs:s.size≤140737488355328):
 Calls Tryz.prog 230 #[.string s] w fun e w'=>e= .returned (.string (sign s))∧Below w.heap.size w w':=by
 have hl:=lets_size s
 have hm:s.size≤maxLen:=by unfold maxLen;omega
 go_enter Tryz.func230,Tryz.ntmps230
 go_wp2_with(go_at_call 238;refine(letters_any _ _ hm).mono ?_;rintro e w1 ⟨rfl,hb1⟩)
 go_ret
 exact⟨rfl,hb1⟩
def head(s:ByteArray):ByteArray:=s.extract 0 (s.size-3)
def readB(s:ByteArray):Bool:=decide (3≤s.size)&&((sign (head s)).toList ==s.toList)
def readV(s:ByteArray):ByteArray:=if readB s=true then head s else⟨#[]⟩
theorem read_short(s:ByteArray)(h:s.size<3):readB s=false∧readV s=⟨#[]⟩:=by
 have e:readB s=false:=by unfold readB;simp;omega
 exact⟨e,by unfold readV;simp[e]⟩
theorem sign_size(s:ByteArray):(sign s).size =s.size+3:=by unfold sign;simp[lets_size];rfl
theorem sign_list(s:ByteArray):(sign s).toList =s.data.toList++124::(lets s).data.toList :=by
 unfold sign;simp[ByteArray.toList_eq,ByteArray.data_append]
theorem head_list(s:ByteArray):(head s).data.toList =s.data.toList.take (s.size-3):=by
 unfold head;rw[Lib.extract_data];simp
theorem read_parts(s:ByteArray)(h:3≤s.size):
 ((sign (head s)).toList ==s.toList)=((s[s.size-3].toNat :Int)==124&&(s.extract (s.size-2) s.size).toList ==(lets (head s)).toList):=by
 rw[sign_list,head_list,Lib.extract_toList,ByteArray.toList_eq s,ByteArray.toList_eq (lets _)]
 have hl:s.data.toList.length=s.size:=(Lib.size_eq s).symm
 have hd:s.data.toList=s.data.toList.take (s.size-3)++s[s.size-3]::s.data.toList.drop (s.size-2):=by
  conv=>lhs;rw[←List.take_append_drop (s.size-3) s.data.toList,List.drop_eq_getElem_cons (by omega)]
  have:s.size-3+1=s.size-2:=by omega
  rw[this];rfl
 have ht:(s.data.toList.drop (s.size-2)).take (s.size-(s.size-2))=s.data.toList.drop (s.size-2):=List.take_of_length_le (by simp)
 rw[ht]
 generalize hD:s.data.toList.drop (s.size-2)=D at hd ⊢
 generalize hT:s.data.toList.take (s.size-3)=T at hd ⊢
 generalize hX:(lets (head s)).data.toList =X
 rw[hd,Bool.eq_iff_iff]
 simp only[beq_iff_eq,Bool.and_eq_true,List.append_cancel_left_eq,List.cons.injEq]
 constructor
 ·rintro⟨h1,h2⟩;exact⟨by rw[←h1];rfl,h2.symm⟩
 ·rintro⟨h1,h2⟩;refine⟨?_,h2.symm⟩;apply UInt8.toNat_inj.1;have:s[s.size-3].toNat =124:=by omega
  rw[this];rfl
set_option maxHeartbeats 1000000 in
theorem read_any(s:ByteArray)(w:World)(hs:s.size≤140737488355328):
 Calls Tryz.prog 215 #[.string s] w fun e w'=>e= .returned (.tuple #[.string (readV s),.bool (readB s)])∧Below w.heap.size w w':=by
 by_cases h3:s.size<3
 ·obtain⟨e1,e2⟩:=read_short s h3;rw[e1,e2];clear e1 e2;go_enter Tryz.func215,Tryz.ntmps215
  go_wp2
  go_ret2
  exact⟨rfl,Below.refl _ _⟩
 ·have e:(s.extract 0 (s.size-3)).size ≤140737488355328:=by simp;omega
  have em:(s.extract 0 (s.size-3)).size ≤maxLen:=by unfold maxLen;omega
  have i3:((s.size:Int)-3).toNat =s.size-3:=by omega
  have hp:=read_parts s (by omega)
  have hix:∀W:World,(Instr.index 9 (.string s) (.int .i64 ((s.size:Int)-3))).run Tryz.prog W= .ok (.int .u8 (s[s.size-3].toNat :Int)) W:=fun W=>by
   rw[run_index_string _ _ _ _ _ Tryz.underlying9,dif_pos (by omega)];simp[i3]
  have hsl:∀W:World,(Instr.slice 9 (.string s) (some (.int .i64 ((s.size:Int)-3+1))) none none).run Tryz.prog W= .ok (.string (s.extract (s.size-2) s.size)) W:=fun W=>by
   rw[run_slice_string_from_if _ _ _ _ _ Tryz.underlying9,if_pos (by omega)];have i2:((s.size:Int)-3+1).toNat =s.size-2:=by omega
   rw[i2]
  obtain⟨c,hc⟩:∃c:Int,(s[s.size-3].toNat :Int)=c:=⟨_,rfl⟩
  obtain⟨tl,htl⟩:∃tl,s.extract (s.size-2) s.size=tl:=⟨_,rfl⟩
  rw[hc]at hp hix;rw[htl]at hp hsl;clear hc htl;have hh:head s=s.extract 0 (s.size-3):=rfl
  by_cases hr1:(c != 124)=true
  ·have e1:readB s=false:=by unfold readB;rw[hp];simp at hr1;simp[hr1]
   have e2:readV s=⟨#[]⟩:=by unfold readV;simp[e1]
   rw[e1,e2];clear e1 e2 hp hh;go_enter Tryz.func215,Tryz.ntmps215
   go_wp2
   have hne:Nonempty (Later w):=⟨Later.now w⟩
   refine region_later (by kernel_rfl) (by kernel_rfl) ?_;repeat(first|go_big_quiet_step (exact calls_later _ (letters_any _ _ em))|quiet_step (exact calls_later _ (letters_any _ _ em)))
   refine wpQuiet_nil ?_;intro u
   go_wp2
   go_ret2
   exact⟨rfl,u.below⟩
  ·have hr1':(c != 124)=false:=by simpa using hr1
   by_cases hr2:(tl.toList==(lets (s.extract 0 (s.size-3))).toList)=true
   ·have e1:readB s=true:=by unfold readB;rw[hp,hh,hr2];simp at hr1;simp[hr1];omega
    have e2:readV s=s.extract 0 (s.size-3):=by unfold readV;simp[e1,hh]
    rw[e1,e2];clear e1 e2 hp hh hr1;go_enter Tryz.func215,Tryz.ntmps215
    go_wp2
    have hne:Nonempty (Later w):=⟨Later.now w⟩
    refine region_later (by kernel_rfl) (by kernel_rfl) ?_;repeat(first|go_big_quiet_step (exact calls_later _ (letters_any _ _ em))|quiet_step (exact calls_later _ (letters_any _ _ em)))
    refine wpQuiet_nil ?_;intro u
    go_wp2_with(go_at_call 183;refine(clone_any _ _ (by omega)).mono ?_;rintro e w2 ⟨rfl,hb2⟩)
    go_ret2
    exact⟨rfl,u.below.trans (hb2.mono u.below.size)⟩
   ·have hr2':(tl.toList==(lets (s.extract 0 (s.size-3))).toList)=false:=by simpa using hr2
    have e1:readB s=false:=by unfold readB;rw[hp,hh,hr2'];simp
    have e2:readV s=⟨#[]⟩:=by unfold readV;simp[e1]
    rw[e1,e2];clear e1 e2 hp hh hr1 hr2;go_enter Tryz.func215,Tryz.ntmps215
    go_wp2
    have hne:Nonempty (Later w):=⟨Later.now w⟩
    refine region_later (by kernel_rfl) (by kernel_rfl) ?_;repeat(first|go_big_quiet_step (exact calls_later _ (letters_any _ _ em))|quiet_step (exact calls_later _ (letters_any _ _ em)))
    refine wpQuiet_nil ?_;intro u
    go_wp2
    go_ret2
    exact⟨rfl,u.below⟩
end Go.Proofs.YthfgmpooehkhgaaGreatDoor
