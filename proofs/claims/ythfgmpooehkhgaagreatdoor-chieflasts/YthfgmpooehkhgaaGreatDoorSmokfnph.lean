import Derived.Test.YthfgmpooehkhgaaGreatDoorSmpajool
import Derived.Deep.RegionWith
namespace Go.Proofs.YthfgmpooehkhgaaGreatDoor
open Go.ChangeShapes Go.WideShapes Go.ChangeAt Go.RowKit
theorem bel_on{w w1 w2:World}(h1:Below w.heap.size w w1)(h2:Below w1.heap.size w1 w2):Below w.heap.size w w2:=h1.trans (h2.mono h1.size)
theorem bel_drewN(w:World)(n:Nat):Below w.heap.size w (w.drewN n):=by
 induction n with
 |zero=>exact Below.refl _ _
 |succ n ih=>exact bel_on ih ((Below.refl _ _).drew)
theorem head_sign(s:ByteArray):head (sign s)=s:=by
 apply ByteArray.ext
 apply Array.toList_inj.1
 rw[head_list,sign_size,←ByteArray.toList_eq (sign s),sign_list]
 have e:s.size+3-3=s.data.toList.length:=by rw[←Lib.size_eq];omega
 rw[e,List.take_left]
theorem read_sign(s:ByteArray):readB (sign s)=true∧readV (sign s)=s:=by
 have e:readB (sign s)=true:=by unfold readB;rw[head_sign,sign_size];simp
 exact⟨e,by unfold readV;rw[if_pos e,head_sign]⟩
theorem sign_read(t:ByteArray)(h:readB t=true):((sign (readV t)).toList ==t.toList)=true:=by
 unfold readV
 rw[if_pos h]
 unfold readB at h
 rw[Bool.and_eq_true]at h
 exact h.2
end Go.Proofs.YthfgmpooehkhgaaGreatDoor
