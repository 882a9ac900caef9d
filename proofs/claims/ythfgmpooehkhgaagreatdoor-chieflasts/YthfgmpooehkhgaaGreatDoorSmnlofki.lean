import Derived.Test.YthfgmpooehkhgaaGreatDoorSmmhklnf
import Derived.ProofKit
import Derived.OpenShut
import Derived.WalkLawsBesides
import Derived.Lib.Strings
namespace Go.Proofs.YthfgmpooehkhgaaGreatDoor
open Go.ChangeShapes Go.WideShapes Go.ChangeAt Go.RowKit
def wsum:List UInt8→Nat
 | []=>0
 |b::l=>b.toNat+3*wsum l
theorem wsum_append(l m:List UInt8):wsum (l++m)=wsum l+3^l.length*wsum m:=by
 induction l with
 |nil=>simp[wsum]
 |cons b l ih=>simp only[List.cons_append,wsum,ih,List.length_cons,Nat.pow_succ];rw[Nat.mul_add,Nat.mul_comm (3^l.length) 3,Nat.mul_assoc];omega
theorem wsum_snoc(l:List UInt8)(b:UInt8):wsum (l++ [b])=wsum l+b.toNat*3^l.length:=by
 rw[wsum_append];simp[wsum,Nat.mul_comm]
def num(s:ByteArray):Nat:=wsum s.data.toList%673
theorem num_lt(s:ByteArray):num s<673:=Nat.mod_lt _ (by decide)
def let0(n:Nat):UInt8:=UInt8.ofNat (97+n/26)
def let1(n:Nat):UInt8:=UInt8.ofNat (97+n%26)
def lets(s:ByteArray):ByteArray:=⟨#[let0 (num s),let1 (num s)]⟩
theorem take_snoc(s:ByteArray)(k:Nat)(h:k<s.size):s.data.toList.take (k+1)=s.data.toList.take k++ [s[k]]:=by
 rw[List.take_succ_eq_append_getElem (by simpa using h)];rfl
theorem wstep(s:ByteArray)(k:Nat)(h:k<s.size):
 (((wsum (s.data.toList.take k)%673:Nat):Int)+(s[k].toNat :Int)*((3^k%673:Nat):Int)).tmod 673=((wsum (s.data.toList.take (k+1))%673:Nat):Int):=by
 rw[take_snoc s k h,wsum_snoc]
 have hl:(s.data.toList.take k).length =k:=by rw[List.length_take];exact Nat.min_eq_left (by rw[←Lib.size_eq];omega)
 rw[hl]
 have e:((wsum (s.data.toList.take k)%673:Nat):Int)+(s[k].toNat :Int)*((3^k%673:Nat):Int)=((wsum (s.data.toList.take k)%673+s[k].toNat *(3^k%673):Nat):Int):=by
  rw[Int.natCast_add,Int.natCast_mul]
 rw[e]
 show Int.tmod _ ((673:Nat):Int)=_
 rw[←Int.ofNat_tmod]
 congr 1
 rw[Nat.add_mod,Nat.mod_mod,Nat.mul_mod,Nat.mod_mod,←Nat.mul_mod,←Nat.add_mod]
theorem wpow(k:Nat):(((3^k%673:Nat):Int)*3).tmod 673=((3^(k+1)%673:Nat):Int):=by
 have e:((3^k%673:Nat):Int)*3=((3^k%673*3:Nat):Int):=by rw[Int.natCast_mul];rfl
 rw[e]
 show Int.tmod _ ((673:Nat):Int)=_
 rw[←Int.ofNat_tmod]
 congr 1
 rw[Nat.pow_succ,Nat.mul_mod,Nat.mod_mod,←Nat.mul_mod]
theorem wfit(b x y:Nat)(hb:b<256)(hx:x<673)(hy:y<673):
 0≤(b:Int)*(y:Int)∧(b:Int)*(y:Int)≤171360∧wrap64 (b:Int)=b∧wrap64 ((b:Int)*(y:Int))=b*y∧wrap64 ((x:Int)+(b:Int)*(y:Int))=x+b*y:=by
 have h0:0≤(b:Int)*(y:Int):=Int.mul_nonneg (by omega) (by omega)
 have h1:(b:Int)*(y:Int)≤255*672:=Int.mul_le_mul (by omega) (by omega) (by omega) (by omega)
 obtain⟨p,hp⟩:∃p:Int,p=(b:Int)*(y:Int):=⟨_,rfl⟩
 rw[←hp]at h0 h1 ⊢
 exact⟨h0,by omega,IntWalk.wrap64_in _ (by omega),IntWalk.wrap64_in _ (by omega),IntWalk.wrap64_in _ (by omega)⟩
set_option maxHeartbeats 400000 in
theorem remainder_any(s:ByteArray)(w:World)(hs:s.size≤maxLen):
 Calls Tryz.prog 269 #[.string s] w fun e w'=>e= .returned (.int .i64 (num s))∧w=w':=by
 unfold maxLen at hs
 go_enter Tryz.func269,Tryz.ntmps269
 go_wp2
 go_loop [3,4,8] (fun n wt i=>∃k:Nat,k≤s.size∧i= .int .i64 k∧n= .int .i64 ((wsum (s.data.toList.take k)%673:Nat):Int)∧wt= .int .i64 ((3^k%673:Nat):Int)) (fun _ _ i=>s.size-(intOf i).toNat)
 case atStart=>exact⟨0,Nat.zero_le _,rfl,rfl,rfl⟩
 case round=>
  obtain⟨k,hk,rfl,rfl,rfl⟩:=hrel;by_cases hlt:k<s.size
  ·have HS:Hid _:=wstep s k hlt
   have HP:Hid _:=wpow k
   obtain⟨x,hx⟩:∃x:Nat,x=wsum (s.data.toList.take k)%673:=⟨_,rfl⟩
   obtain⟨y,hy⟩:∃y:Nat,y=3^k%673:=⟨_,rfl⟩
   rw[←hx,←hy]at HS;rw[←hy]at HP;rw[←hx,←hy];have hx1:x<673:=by omega
   have hy1:y<673:=by omega
   obtain⟨hp0,hp1,hw1,hw2,hw3⟩:=wfit s[k].toNat x y s[k].toNat_lt hx1 hy1;clear hx hy
   go_wp2
   go_round
   case rel=>exact⟨k+1,by omega,by go_num,by rw[←HS.out,Int.tmod_eq_emod_of_nonneg (by omega)],by rw[←HP.out,Int.tmod_eq_emod_of_nonneg (by omega)]⟩
   case measure=>simp[intOf];omega
  ·go_wp2
   go_ret
   exact⟨ret_int (by rw[List.take_of_length_le (by rw[←Lib.size_eq];omega)];rfl),rfl⟩
theorem letter_any(n:Int)(w:World)(h0:0≤n)(h1:n≤25):
 Calls Tryz.prog 270 #[.int .i64 n] w fun e w'=>e= .returned (.int .u8 (97+n))∧w=w':=by
 go_enter Tryz.func270,Tryz.ntmps270
 go_wp2
 go_ret
 exact⟨rfl,rfl⟩
theorem conv_two(w:World)(x y:UInt8):
 (convert 234 9 (.slice (some ⟨w.heap.size,0,none⟩) 2 2)).run Tryz.prog (w.alloc (.cells #[.int .u8 (x.toNat:Int),.int .u8 (y.toNat:Int)] 5))= .ok (.string ⟨#[x,y]⟩) (w.alloc (.cells #[.int .u8 (x.toNat:Int),.int .u8 (y.toNat:Int)] 5)):=by
 refine run_convert_bytes_back (P:=Tryz.prog) (w.alloc (.cells #[.int .u8 (x.toNat:Int),.int .u8 (y.toNat:Int)] 5)) 234 9 5 ⟨w.heap.size,0,none⟩ 2 [x,y] Tryz.underlying234 Tryz.underlying5 Tryz.underlying9 ?_
 intro j hj
 match j,hj with
 |0,_=>simp[Addr.add]
 |1,_=>simp[Addr.add]
theorem let0_nat(n:Nat)(h:n<673):((let0 n).toNat :Int)=97+(n:Int)/26:=by
 unfold let0;simp;omega
theorem let1_nat(n:Nat):((let1 n).toNat :Int)=97+(n:Int)%26:=by
 unfold let1;simp;omega
theorem letters_any(s:ByteArray)(w:World)(hs:s.size≤maxLen):
 Calls Tryz.prog 238 #[.string s] w fun e w'=>e= .returned (.string (lets s))∧Below w.heap.size w w':=by
 have hn:=num_lt s
 have hc:=conv_two w (let0 (num s)) (let1 (num s))
 rw[let0_nat _ hn,let1_nat]at hc
 go_enter Tryz.func238,Tryz.ntmps238
 go_wp2_with(first|(go_at_call 269;refine(remainder_any _ _ hs).mono ?_;rintro e w' ⟨rfl,rfl⟩)|(go_at_call 270;refine(letter_any _ _ (by omega) (by omega)).mono ?_;rintro e w' ⟨rfl,rfl⟩))
 go_ret
 exact⟨rfl,(Below.refl _ _).alloc (Nat.le_refl _) _⟩
end Go.Proofs.YthfgmpooehkhgaaGreatDoor
namespace Go.Proofs.YthfgmpooehkhgaaGreatDoor
open Go.RowKit
end Go.Proofs.YthfgmpooehkhgaaGreatDoor
