import Derived.Lib.ItoaLen
import Derived.Lib.AtoiTie
import Derived.Lib.Join
import Derived.Lib.SplitLaws
namespace Go.Proofs.YthfgmpooehkhgaaGreatDoor
open Go
open List renaming eq_nil_of_length_eq_zero→zL,length_cons→zQ
def letterB(b:UInt8):Bool:=decide (97≤b.toNat)&&decide (b.toNat≤122)
def kindB(k:ByteArray):Bool:=decide (1≤k.size)&&decide (k.size≤8)&&k.data.toList.all letterB
def idB(n:Int):Bool:=decide (0≤n)&&decide (n≤999)
def numB(n:Int):Bool:=decide (-1000000000≤n)&&decide (n≤1000000000)
def numsB(l:List Int):Bool:=decide (l.length≤4)&&l.all numB
def mayB(k:ByteArray)(id:Int)(l:List Int):Bool:=kindB k&&idB id&&numsB l
def wordsL(k:ByteArray)(id:Int)(l:List Int):List (List UInt8):=k.data.toList::Lib.itoa id::l.map Lib.itoa
def txt(k:ByteArray)(id:Int)(l:List Int):ByteArray:=⟨(Lib.join (wordsL k id l) [32]).toArray⟩
theorem may_parts{k:ByteArray}{id:Int}{l:List Int}(h:mayB k id l=true):
 1≤k.size∧k.size≤8∧(∀b∈k.data.toList,97≤b.toNat∧b.toNat≤122)∧0≤id∧id≤999∧l.length≤4∧∀n∈l,-1000000000≤n∧n≤1000000000:=by
 simp only[mayB,kindB,idB,numsB,numB,letterB,Bool.and_eq_true,decide_eq_true_eq,List.all_eq_true]at h
 obtain⟨⟨⟨⟨h1,h2⟩,h3⟩,h4,h5⟩,h6,h7⟩:=h
 exact⟨h1,h2,h3,h4,h5,h6,h7⟩
theorem decFrom_snoc(b:UInt8)(d:Nat)(hd:Lib.digitVal b=some d):∀(l:List UInt8)(acc n:Nat),Lib.decFrom acc l=some n→Lib.decFrom acc (l++ [b])=some (n*10+d)
 | [],acc,n,h=>by simp only[Lib.decFrom,Option.some.injEq]at h;subst h;simp[Lib.decFrom,hd]
 |c::l,acc,n,h=>by
  simp only[Lib.decFrom,List.cons_append]at h ⊢;split at h
  ·exact decFrom_snoc b d hd l _ n h
  ·cases h
theorem digit_ofNat(i:Nat)(h:i<10):(UInt8.ofNat (48+i)).toNat =48+i:=by
 rw[UInt8.toNat_ofNat'];omega
theorem digitVal_ofNat(i:Nat)(h:i<10):Lib.digitVal (UInt8.ofNat (48+i))=some i:=by
 unfold Lib.digitVal
 rw[digit_ofNat i h,if_pos (by omega)]
 simp
theorem dec_val(u:Nat):Lib.decFrom 0 (Lib.decDigits u)=some u:=by
 induction u using Nat.strongRecOn with
 |ind u ih=>
  rw[Lib.decDigits];split
  ·rename_i h;show(match Lib.digitVal (UInt8.ofNat (48+u))with|some d=>Lib.decFrom (0*10+d) []|none=>none)=some u
   rw[digitVal_ofNat u h];simp[Lib.decFrom]
  ·rename_i h;have:=decFrom_snoc _ _ (digitVal_ofNat (u%10) (by omega)) _ _ _ (ih (u/10) (by omega))
   rw[this];congr 1;omega
theorem dec_digits(u:Nat):∀b∈Lib.decDigits u,48≤b.toNat∧b.toNat≤57:=by
 intro b hb
 obtain⟨i,hi⟩:=List.getElem?_of_mem hb
 obtain⟨d,hd⟩:=Lib.digit_of_decFrom _ _ _ (dec_val u) i b hi
 obtain⟨h1,h2,_⟩:=Lib.digitVal_eq hd
 exact⟨h1,h2⟩
theorem dec_ne(u:Nat):Lib.decDigits u≠[]:=by
 intro h
 have:=Lib.decDigits_length u
 have:=Lib.nDigits_pos u
 rw[h]at *
 simp at *
 omega
theorem itoa_nat(u:Nat):Lib.itoa (u:Int)=Lib.decDigits u:=Lib.itoa_nonneg u
theorem itoa_neg'(u:Nat)(h:1≤u):Lib.itoa (-(u:Int))=45::Lib.decDigits u:=Lib.itoa_neg u h
theorem int_cases(n:Int):(∃u:Nat,n=u)∨∃u:Nat,1≤u∧n= -(u:Int):=by
 by_cases h:0≤n
 ·exact .inl ⟨n.toNat,by omega⟩
 ·exact .inr ⟨n.natAbs,by omega,by omega⟩
theorem itoa_chars(n:Int):∀b∈Lib.itoa n,b.toNat=45∨(48≤b.toNat∧b.toNat≤57):=by
 intro b hb
 rcases int_cases n with⟨u,rfl⟩|⟨u,hu,rfl⟩
 ·rw[itoa_nat]at hb;exact .inr (dec_digits u b hb)
 ·rw[itoa_neg' u hu]at hb;rcases List.mem_cons.1 hb with rfl|hb
  ·exact .inl rfl
  ·exact .inr (dec_digits u b hb)
theorem itoa_nospace(n:Int):(32:UInt8)∉Lib.itoa n:=by
 intro h
 rcases itoa_chars n 32 h with h|⟨h,_⟩<;>simp at h
theorem dec_head(u:Nat)(r:List UInt8):Lib.decDigits u≠45::r:=by
 intro h
 have:=dec_digits u 45 (by rw[h];simp)
 simp at this
theorem itoa_inj{a b:Int}(h:Lib.itoa a=Lib.itoa b):a=b:=by
 have inj:∀u v:Nat,Lib.decDigits u=Lib.decDigits v→u=v:=fun u v e=>by
  have:=dec_val u
  rw[e,dec_val v]at this;exact(Option.some.inj this).symm
 rcases int_cases a with⟨u,rfl⟩|⟨u,hu,rfl⟩<;>rcases int_cases b with⟨v,rfl⟩|⟨v,hv,rfl⟩
 ·rw[itoa_nat,itoa_nat]at h;rw[inj u v h]
 ·rw[itoa_nat,itoa_neg' v hv]at h;exact absurd h (dec_head u _)
 ·rw[itoa_nat,itoa_neg' u hu]at h;exact absurd h.symm (dec_head v _)
 ·rw[itoa_neg' u hu,itoa_neg' v hv]at h;rw[inj u v (List.cons.inj h).2]
theorem itoa_len{n:Int}(h0: -1000000000≤n)(h1:n≤1000000000):(Lib.itoa n).length ≤11:=by
 have key:∀u:Nat,u≤1000000000→(Lib.decDigits u).length ≤10:=fun u hu=>by
  rw[Lib.decDigits_length];have:∀k u:Nat,u<10^k→1≤k→Lib.nDigits u≤k:=by
   intro k;induction k with
   |zero=>intro u _ h;omega
   |succ k ih=>
    intro u hu _;by_cases h:u<10
    ·rw[Lib.nDigits_small h];omega
    ·rw[Lib.nDigits_big h];have h10:u/10<10^k:=by rw[Nat.pow_succ]at hu;omega
     have hk:1≤k:=by
      rcases k with _|k
      ·simp at hu;omega
      ·omega
     have:=ih (u/10) h10 hk
     omega
  exact this 10 u (by omega) (by omega)
 rcases int_cases n with⟨u,rfl⟩|⟨u,hu,rfl⟩
 ·rw[itoa_nat];have:=key u (by omega);omega
 ·rw[itoa_neg' u hu];have:=key u (by omega);simp;omega
theorem itoa_len3{n:Int}(h0:0≤n)(h1:n≤999):(Lib.itoa n).length ≤3:=by
 obtain⟨u,rfl⟩:∃u:Nat,n=u:=⟨n.toNat,by omega⟩
 rw[itoa_nat,Lib.decDigits_length]
 by_cases h:u<10
 ·rw[Lib.nDigits_small h];omega
 ·rw[Lib.nDigits_big h];by_cases h':u/10<10
  ·rw[Lib.nDigits_small h'];omega
  ·rw[Lib.nDigits_big h',Lib.nDigits_small (by omega)];omega
theorem decNat_digits(u:Nat):Lib.decNat (Lib.decDigits u)=some u:=by
 unfold Lib.decNat
 rw[if_neg (by simpa using dec_ne u)]
 exact dec_val u
theorem atoi_itoa{n:Int}(h0: -1000000000≤n)(h1:n≤1000000000):Lib.atoiAll (Lib.itoa n)= .ok n:=by
 rw[Lib.atoiAll_short _ (by have:=itoa_len h0 h1;omega)]
 have:Lib.atoi (Lib.itoa n)=some n:=by
  rcases int_cases n with⟨u,rfl⟩|⟨u,hu,rfl⟩
  ·rw[itoa_nat];have hd:=decNat_digits u
   cases hl:Lib.decDigits u with
   |nil=>exact absurd hl (dec_ne u)
   |cons b r=>
    have hb:=dec_digits u b (by rw[hl];simp)
    rw[hl]at hd;simp only[Lib.atoi];rw[if_neg (by intro e;have:=eq_of_beq e;subst this;simp at hb),if_neg (by intro e;have:=eq_of_beq e;subst this;simp at hb),hd];rfl
  ·rw[itoa_neg' u hu];simp only[Lib.atoi];rw[if_pos (by rfl),decNat_digits];rfl
 rw[this]
 rfl
def cutW:List UInt8→List (List UInt8)
 | []=>[[]]
 |b::l=>if b=32 then[]::cutW l else match cutW l with
  | []=>[[b]]
  |x::r=>(b::x)::r
theorem cutW_plain{p:List UInt8}(h:(32:UInt8)∉p):cutW p= [p]:=by
 induction p with
 |nil=>rfl
 |cons b p ih=>
  rw[List.mem_cons,not_or]at h;rw[cutW,if_neg (fun e=>h.1 e.symm),ih h.2]
theorem cutW_at{p:List UInt8}(h:(32:UInt8)∉p)(r:List UInt8):cutW (p++32::r)=p::cutW r:=by
 induction p with
 |nil=>simp[cutW]
 |cons b p ih=>
  rw[List.mem_cons,not_or]at h;rw[List.cons_append,cutW,if_neg (fun e=>h.1 e.symm),ih h.2]
theorem cut_or(l:List UInt8):(32:UInt8)∉l∨∃p r,l=p++32::r∧(32:UInt8)∉p:=by
 induction l with
 |nil=>exact .inl (by simp)
 |cons b l ih=>
  by_cases hb:b=32
  ·subst hb;exact .inr ⟨[],l,rfl,by simp⟩
  ·rcases ih with h|⟨p,r,rfl,h⟩
   ·exact .inl (by rw[List.mem_cons,not_or];exact⟨fun e=>hb e.symm,h⟩)
   ·exact .inr ⟨b::p,r,rfl,by rw[List.mem_cons,not_or];exact⟨fun e=>hb e.symm,h⟩⟩
theorem cut_join:∀(ws:List (List UInt8)),ws≠[]→(∀x∈ws,(32:UInt8)∉x)→cutW (Lib.join ws [32])=ws
 | [],h,_=>absurd rfl h
 | [x],_,h=>by rw[Lib.join_one];exact cutW_plain (h x (by simp))
 |x::y::r,_,h=>by
  have e:Lib.join (x::y::r) [32]=x++32::Lib.join (y::r) [32]:=by
   rw[Lib.join_cons,Lib.join_cons];simp[Lib.joinTail]
  rw[e,cutW_at (h x (by simp)),cut_join (y::r) (by simp) (fun z hz=>h z (by simp[hz]))]
theorem join_cut(n:Nat):∀l:List UInt8,l.length≤n→Lib.join (cutW l) [32]=l∧cutW l≠[]:=by
 induction n with
 |zero=>intro l h;have:=zL (Nat.le_zero.1 h);subst this;exact⟨rfl,by simp[cutW]⟩
 |succ n ih=>
  intro l h;rcases cut_or l with hp|⟨p,r,rfl,hp⟩
  ·rw[cutW_plain hp];exact⟨Lib.join_one _ _,by simp⟩
  ·rw[cutW_at hp];obtain⟨e,hne⟩:=ih r (by simp at h;omega);refine⟨?_,by simp⟩;cases hc:cutW r with
   |nil=>exact absurd hc hne
   |cons x t=>
    rw[hc,Lib.join_cons]at e;rw[Lib.join_cons];simp only[Lib.joinTail,List.map_cons,List.flatten_cons]at e ⊢;rw[←e];simp
theorem index_at{p:List UInt8}(h:(32:UInt8)∉p)(r:List UInt8):Lib.index (p++32::r) [32]=(p.length:Int):=by
 induction p with
 |nil=>unfold Lib.index;simp[List.isPrefixOf]
 |cons b p ih=>
  rw[List.mem_cons,not_or]at h;have hb:([32]:List UInt8).isPrefixOf (b::(p++32::r))=false:=by simp[List.isPrefixOf];exact h.1
  rw[List.cons_append];unfold Lib.index;rw[hb,ih h.2];have:((p.length:Int)== -1)=false:=by simp
  simp[this]
theorem splitK_cut(n:Nat):∀l:List UInt8,l.length≤n→Lib.splitK [32] 0 (l.count 32) l=cutW l:=by
 induction n with
 |zero=>intro l h;have:=zL (Nat.le_zero.1 h);subst this;rfl
 |succ n ih=>
  intro l h;rcases cut_or l with hp|⟨p,r,rfl,hp⟩
  ·rw[List.count_eq_zero.2 hp,cutW_plain hp];rfl
  ·have hc:(p++32::r).count 32=r.count 32+1:=by rw[List.count_append,List.count_eq_zero.2 hp];simp
   rw[hc,cutW_at hp,Lib.splitK,index_at hp];have:((p.length:Int)== -1)=false:=by simp
   rw[this];simp only[Bool.false_eq_true,if_false,Int.toNat_natCast,Nat.add_zero];rw[←ih r (by simp at h;omega)];congr 1
   ·simp
   ·congr 1
    simp[List.drop_append]
def cutB(s:ByteArray):List ByteArray:=Lib.splitB ⟨#[32]⟩ 0 (Lib.countB s ⟨#[32]⟩) s
theorem cutB_data(s:ByteArray):(cutB s).map (·.data.toList)=cutW s.data.toList:=by
 unfold cutB
 rw[Lib.splitB_data]
 have e:Lib.countB s ⟨#[32]⟩=s.data.toList.count 32:=Lib.count_one 32 s.data.toList
 rw[e]
 exact splitK_cut _ _ (Nat.le_refl _)
theorem cutB_len(s:ByteArray):(cutB s).length =Lib.countB s ⟨#[32]⟩+1:=Lib.splitB_all ⟨#[32]⟩ (by decide) 0 _ s rfl
theorem words_nospace{k:ByteArray}{id:Int}{l:List Int}(h:mayB k id l=true):∀x∈wordsL k id l,(32:UInt8)∉x:=by
 intro x hx
 obtain⟨_,_,hk,_⟩:=may_parts h
 rcases List.mem_cons.1 hx with rfl|hx
 ·intro h32;have:=hk 32 h32
  simp at this
 ·rcases List.mem_cons.1 hx with rfl|hx
  ·exact itoa_nospace _
  ·obtain⟨n,_,rfl⟩:=List.mem_map.1 hx;exact itoa_nospace _
theorem cut_txt{k:ByteArray}{id:Int}{l:List Int}(h:mayB k id l=true):cutW (txt k id l).data.toList =wordsL k id l:=by
 show cutW (Lib.join (wordsL k id l) [32])=_
 exact cut_join _ (by simp[wordsL]) (words_nospace h)
theorem bytes_ext{a b:ByteArray}(h:a.data.toList=b.data.toList):a=b:=by
 obtain⟨⟨a⟩⟩:=a
 obtain⟨⟨b⟩⟩:=b
 simp at h
 rw[h]
theorem words_inj{k k':ByteArray}{id id':Int}{l l':List Int}(h:wordsL k id l=wordsL k' id' l'):k=k'∧id=id'∧l=l':=by
 simp only[wordsL,List.cons.injEq]at h
 obtain⟨h1,h2,h3⟩:=h
 refine⟨bytes_ext h1,itoa_inj h2,?_⟩
 exact List.map_inj_right (fun a b e=>itoa_inj e)|>.1 h3
theorem txt_of_words{s k:ByteArray}{id:Int}{l:List Int}(h:cutW s.data.toList=wordsL k id l):s=txt k id l:=by
 apply bytes_ext
 show _=Lib.join (wordsL k id l) [32]
 rw[←h]
 exact(join_cut _ _ (Nat.le_refl _)).1.symm
theorem txt_inj{k k':ByteArray}{id id':Int}{l l':List Int}(h:mayB k id l=true)(h':mayB k' id' l'=true)(e:txt k id l=txt k' id' l'):k=k'∧id=id'∧l=l':=by
 apply words_inj
 rw[←cut_txt h,←cut_txt h',e]
theorem txt_size{k:ByteArray}{id:Int}{l:List Int}(h:mayB k id l=true):(txt k id l).size ≤60:=by
 obtain⟨_,h2,_,h4,h5,h6,h7⟩:=may_parts h
 have e:(txt k id l).size =(Lib.join (wordsL k id l) [32]).length :=by simp[txt,ByteArray.size]
 rw[e,wordsL,Lib.join_length]
 have s1:=itoa_len3 h4 h5
 have key:∀l:List Int,(∀n∈l,-1000000000≤n∧n≤1000000000)→Lib.lens (l.map Lib.itoa)≤11*l.length:=by
  intro l;induction l with
  |nil=>intro _;simp[Lib.lens]
  |cons n l ih=>
   intro hl;have a1:=ih (fun m hm=>hl m (List.mem_cons_of_mem _ hm))
   have a2:=itoa_len (hl n List.mem_cons_self).1 (hl n List.mem_cons_self).2
   simp only[Lib.lens,List.map_cons,List.sum_cons,zQ]at a1 ⊢;omega
 have a:=key l h7
 have hk:k.data.toList.length=k.size:=Array.length_toList
 simp only[Lib.lens,List.map_cons,List.sum_cons,zQ,List.length_map]at a ⊢
 simp only[List.length_nil]
 omega
end Go.Proofs.YthfgmpooehkhgaaGreatDoor
namespace Go.Proofs.YthfgmpooehkhgaaGreatDoor.Sg
open Go
structure Od where
 id:Int
 item:Int
 qty:Int
 client:Int
 price:Int
 steps:List (Int×Int)
def oidB(n:Int):Bool:=decide (1≤n∧n≤999)
def plcB(n:Int):Bool:=decide (0≤n∧n<8)
def amtB(n:Int):Bool:=decide (1≤n∧n≤1000000000)
def svcB(n:Int):Bool:=decide (4≤n∧n≤6)
theorem oidB_iff{n:Int}:oidB n=true↔1≤n∧n≤999:=by unfold oidB;simp
theorem plcB_iff{n:Int}:plcB n=true↔0≤n∧n<8:=by unfold plcB;simp
theorem amtB_iff{n:Int}:amtB n=true↔1≤n∧n≤1000000000:=by unfold amtB;simp
theorem svcB_iff{n:Int}:svcB n=true↔4≤n∧n≤6:=by unfold svcB;simp
def atF:List (Int×Int)→Int→Int
 | [],_=> -1
 |x::l,s=>if x.1=s then 0 else if atF l s= -1 then -1 else atF l s+1
def stAt(l:List (Int×Int))(i:Nat):Int×Int:=l.getD i (0,0)
def okAt(l:List (Int×Int))(i:Nat):Bool:=svcB (stAt l i).1 &&amtB (stAt l i).2 && !((l.take i).any fun x=>x.1==(stAt l i).1)
def okTo(l:List (Int×Int))(n:Nat):Bool:=(List.range n).all (okAt l)
def stepsB(l:List (Int×Int)):Bool:=decide (l.length≤3)&&okTo l l.length
def mayO(o:Od):Bool:=oidB o.id&&plcB o.item&&plcB o.client&&amtB o.qty&&amtB o.price&&stepsB o.steps
theorem okTo_succ(l:List (Int×Int))(n:Nat):okTo l (n+1)=(okTo l n&&okAt l n):=by
 unfold okTo
 rw[List.range_succ,List.all_append];simp
theorem okTo_fail{l:List (Int×Int)}{n m:Nat}(h:okAt l n=false)(hm:n<m):okTo l m=false:=by
 unfold okTo
 rw[List.all_eq_false]
 exact⟨n,by simpa using hm,by simp[h]⟩
theorem atF_cases(l:List (Int×Int))(s:Int):(atF l s= -1∧∀x∈l,x.1≠s)∨∃n:Nat,n<l.length∧atF l s=n∧(stAt l n).1 =s∧∀x∈l.take n,x.1≠s:=by
 induction l with
 |nil=>exact .inl ⟨rfl,(fun x hx=>by cases hx)⟩
 |cons x l ih=>
  unfold atF;by_cases hx:x.1=s
  ·rw[if_pos hx];exact .inr ⟨0,by simp,rfl,hx,(fun y hy=>by simp at hy)⟩
  ·rw[if_neg hx];rcases ih with⟨e,h⟩|⟨n,hn,e,h1,h2⟩
   ·rw[if_pos e];refine .inl ⟨rfl,fun y hy=>?_⟩;rcases List.mem_cons.1 hy with rfl|hy
    ·exact hx
    ·exact h y hy
   ·rw[if_neg (by omega)];refine .inr ⟨n+1,by simp;omega,by omega,h1,fun y hy=>?_⟩;rw[List.take_succ_cons]at hy;rcases List.mem_cons.1 hy with rfl|hy
    ·exact hx
    ·exact h2 y hy
theorem stAt_mem{l:List (Int×Int)}{n:Nat}(h:n<l.length):stAt l n∈l:=by
 unfold stAt
 simp[List.getD,h]
theorem stAt_get{l:List (Int×Int)}{n:Nat}(h:n<l.length):stAt l n=l[n]:=by
 unfold stAt
 simp[List.getD,h]
theorem atF_first{l:List (Int×Int)}{n:Nat}(h:n<l.length):(atF l (stAt l n).1 =n)↔((l.take n).any fun x=>x.1==(stAt l n).1)=false:=by
 rw[List.any_eq_false]
 rcases atF_cases l (stAt l n).1 with⟨e,hno⟩|⟨m,hm,e,h1,h2⟩
 ·exact absurd rfl (hno _ (stAt_mem h))
 ·constructor
  ·intro he;have:m=n:=by omega
   subst this;intro x hx;simpa using h2 x hx
  ·intro hall;rcases Nat.lt_trichotomy m n with hlt|rfl|hgt
   ·have:stAt l m∈l.take n:=by
     rw[stAt_get hm];exact List.mem_take_iff_getElem.2 ⟨m,by omega,rfl⟩
    have:=hall _ this
    simp[h1]at this
   ·exact e
   ·have:stAt l n∈l.take m:=by
     rw[stAt_get h];exact List.mem_take_iff_getElem.2 ⟨n,by omega,rfl⟩
    exact absurd rfl (h2 _ this)
theorem okAt_eq{l:List (Int×Int)}{n:Nat}(h:n<l.length):okAt l n=(svcB (stAt l n).1 &&amtB (stAt l n).2 &&(atF l (stAt l n).1 ==(n:Int))):=by
 unfold okAt
 congr 1
 rw[Bool.eq_iff_iff]
 simp only[Bool.not_eq_true',beq_iff_eq]
 exact(atF_first h).symm
def doL:Nat→Nat→List (Int×Int)
 |_,0=>[]
 |j,k+1=>(1,(j:Int))::doL (j+1) k
def undoL:Nat→List (Int×Int)
 |0=>[]
 |k+1=>(4,(k:Int))::undoL k
def planL(o:Od):List (Int×Int):=if mayO o=true then doL 0 o.steps.length++ [(6,0),(9,0),(15,0)]else[]
def backL(o:Od):List (Int×Int):=if mayO o=true then(10,0)::undoL o.steps.length else[]
end Go.Proofs.YthfgmpooehkhgaaGreatDoor.Sg
