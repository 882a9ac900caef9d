import Derived.Test.YthfgmpooehkhgaaGreatDoorSmaijggj
import Derived.Deep.RegionWith
namespace Go.Proofs.YthfgmpooehkhgaaGreatDoor.Sg
open Go.ChangeShapes Go.WideShapes Go.ChangeAt Go.RowKit Go.Shelf
open Nat renaming le_refl→zD
open Below renaming refl→zF
open Go.World renaming alloc_heap_new→zI
def allocs(w:World):List Obj→World
 | []=>w
 |o::l=>allocs (w.alloc o) l
theorem allocs_below:∀(l:List Obj)(w:World),Below w.heap.size w (allocs w l)
 | [],_=>zF _ _
 |o::l,w=>bel_on' ((zF _ _).alloc (zD _) _) (allocs_below l (w.alloc o))
theorem allocs_size:∀(l:List Obj)(w:World),(allocs w l).heap.size =w.heap.size+l.length
 | [],_=>rfl
 |o::l,w=>by rw[allocs,allocs_size l];simp;omega
theorem allocs_at:∀(l:List Obj)(w:World)(i:Nat)(o:Obj),l[i]?=some o→(allocs w l).heap[w.heap.size+i]?=some o
 | [],w,i,o,h=>by simp at h
 |o'::l,w,0,o,h=>by
  simp at h;subst h;rw[allocs,Nat.add_zero,(allocs_below l (w.alloc o')).block _ (by simp)];exact zI w _
 |o'::l,w,i+1,o,h=>by
  have:=allocs_at l (w.alloc o') i o (by simpa using h)
  rw[allocs];rwa [World.size_alloc,show w.heap.size+1+i=w.heap.size+(i+1) by omega]at this
theorem joined_any(a:Option Addr)(n c:Nat)(w:World):Calls Tryz.prog 233 #[.slice a n c] w fun e w'=>e= .returned (.func (.func 265) #[] #[.pointer (some ⟨w.heap.size,0,none⟩)])∧w'=w.alloc (.cells #[.slice a n c] 267):=by
 go_enter Tryz.func233,Tryz.ntmps233
 go_wp2
 go_ret
 exact⟨rfl,rfl⟩
theorem alone_any(k:Int)(w:World):Calls Tryz.prog 234 #[.int .i64 k] w fun e w'=>e= .returned (.func (.func 266) #[] #[.pointer (some ⟨w.heap.size,0,none⟩)])∧w'=w.alloc (.cells #[.int .i64 k] 3):=by
 go_enter Tryz.func234,Tryz.ntmps234
 go_wp2
 go_ret
 exact⟨rfl,rfl⟩
theorem rising_any(k n:Int)(w:World):Calls Tryz.prog 237 #[.int .i64 k,.int .i64 n] w fun e w'=>e= .returned (.func (.func 268) #[] #[.pointer (some ⟨w.heap.size+1,0,none⟩),.pointer (some ⟨w.heap.size,0,none⟩)])∧w'=(w.alloc (.cells #[.int .i64 k] 3)).alloc (.cells #[.int .i64 n] 3):=by
 go_enter Tryz.func237,Tryz.ntmps237
 go_wp2
 go_ret
 exact⟨rfl,rfl⟩
theorem falling_any(k n:Int)(w:World):Calls Tryz.prog 235 #[.int .i64 k,.int .i64 n] w fun e w'=>e= .returned (.func (.func 267) #[] #[.pointer (some ⟨w.heap.size+1,0,none⟩),.pointer (some ⟨w.heap.size,0,none⟩)])∧w'=(w.alloc (.cells #[.int .i64 k] 3)).alloc (.cells #[.int .i64 n] 3):=by
 go_enter Tryz.func235,Tryz.ntmps235
 go_wp2
 go_ret
 exact⟨rfl,rfl⟩
def TellR(w:World)(L:List (Int×Int))(e:Ending)(w':World):Prop:=
 ∃Bp:Nat,e= .returned (.func (.func 265) #[] #[.pointer (some ⟨Bp,0,none⟩)])∧Below w.heap.size w w'∧∀X:Nat→Prop,(∀k,X k→k<w.heap.size)→SeqA Tryz.prog 34 X 265 #[.pointer (some ⟨Bp,0,none⟩)] encA L w'
theorem planL_may{o:Od}(h:mayO o=true):planL o=upL 1 0 o.steps.length++ [(6,0),(9,0),(15,0)]:=by
 have e:∀k j,doL j k=upL 1 j k:=by
  intro k;induction k with
  |zero=>intro j;rfl
  |succ k ih=>intro j;rw[doL,upL,ih]
 unfold planL
 rw[if_pos h,e]
theorem backL_may{o:Od}(h:mayO o=true):backL o=(10,0)::dnL 4 o.steps.length:=by
 have e:∀k,undoL k=dnL 4 k:=by
  intro k;induction k with
  |zero=>rfl
  |succ k ih=>rw[undoL,dnL,ih]
 unfold backL
 rw[if_pos h,e]
theorem planL_not{o:Od}(h:mayO o=false):planL o= []:=by unfold planL;rw[h];rfl
theorem backL_not{o:Od}(h:mayO o=false):backL o= []:=by unfold backL;rw[h];rfl
theorem tell_none{w w1:World}(hb:Below w.heap.size w w1):TellR w [] (.returned (.func (.func 265) #[] #[.pointer (some ⟨w1.heap.size,0,none⟩)])) (w1.alloc (.cells #[.slice none 0 0] 267)):=by
 refine⟨w1.heap.size,rfl,hb.alloc hb.size _,fun X hX=>?_⟩
 exact joined1_seq (Ps:=[]) (a:=none) (c:=0) (zI w1 _) (fun k h=>by have:=hX k h;have:=hb.size;simp;omega) (by simp) (.inl rfl) (fun p h=>by cases h) (fun p h=>by cases h)
def planObjs(n s:Nat):List Obj:=[.cells #[.int .i64 1] 3 (0,0),.cells #[.int .i64 n] 3 (0,0),.cells #[.int .i64 6] 3 (0,0),.cells #[.int .i64 9] 3 (0,0),.cells #[.int .i64 15] 3 (0,0),
 .cells #[.func (.func 268) #[] #[.pointer (some ⟨s+1,0,none⟩),.pointer (some ⟨s,0,none⟩)],.func (.func 266) #[] #[.pointer (some ⟨s+2,0,none⟩)],.func (.func 266) #[] #[.pointer (some ⟨s+3,0,none⟩)],.func (.func 266) #[] #[.pointer (some ⟨s+4,0,none⟩)]] 213 (0,0),
 .cells #[.slice (some ⟨s+5,0,none⟩) 4 4] 267 (0,0)]
theorem tell_plan{w w1:World}(hb:Below w.heap.size w w1)(n:Nat)(hn:n≤9223372036854775807):TellR w (upL 1 0 n++ [(6,0),(9,0),(15,0)]) (.returned (.func (.func 265) #[] #[.pointer (some ⟨w1.heap.size+6,0,none⟩)])) (allocs w1 (planObjs n w1.heap.size)):=by
 have hs:=hb.size
 have at_:∀i o,(planObjs n w1.heap.size)[i]?=some o→(allocs w1 (planObjs n w1.heap.size)).heap[w1.heap.size+i]?=some o:=fun i o h=>allocs_at _ w1 i o h
 have hz:(allocs w1 (planObjs n w1.heap.size)).heap.size =w1.heap.size+7:=allocs_size _ _
 have h0:=at_ 0 _ rfl
 rw[Nat.add_zero]at h0
 refine⟨w1.heap.size+6,rfl,bel_on' hb (allocs_below _ _),fun X hX=>?_⟩
 have nx:∀(X':Nat→Prop),(∀k,X' k→X k∨(allocs w1 (planObjs n w1.heap.size)).heap.size ≤k)→∀i,i<7→¬X' (w1.heap.size+i):=fun X' h i hi h'=>by
  rcases h _ h' with h|h
  ·have:=hX _ h;omega
  ·omega
 have key:=joined1_seq (X:=X) (Ps:=[⟨268,#[.pointer (some ⟨w1.heap.size+1,0,none⟩),.pointer (some ⟨w1.heap.size,0,none⟩)],upL 1 0 n⟩,⟨266,#[.pointer (some ⟨w1.heap.size+2,0,none⟩)],[(6,0)]⟩,⟨266,#[.pointer (some ⟨w1.heap.size+3,0,none⟩)],[(9,0)]⟩,⟨266,#[.pointer (some ⟨w1.heap.size+4,0,none⟩)],[(15,0)]⟩])
  (a:=some ⟨w1.heap.size+5,0,none⟩) (c:=4) (at_ 6 _ rfl) (fun k h=>by have:=hX k h;omega) (by simp) (.inr ⟨w1.heap.size+5,_,rfl,nx _ (fun _ h=>h) 5 (by omega),at_ 5 _ rfl,?_⟩) ?_ ?_
 ·simpa using key
 ·intro i p hp;match i,hp with
  |0,hp=>simp at hp;subst hp;rfl
  |1,hp=>simp at hp;subst hp;rfl
  |2,hp=>simp at hp;subst hp;rfl
  |3,hp=>simp at hp;subst hp;rfl
  |i+4,hp=>simp at hp
 ·intro p hp;simp only[List.mem_cons,List.not_mem_nil,or_false]at hp;rcases hp with rfl|rfl|rfl|rfl
  ·exact enters_of Tryz.func268 (by kernel_rfl) rfl
  ·exact enters_of Tryz.func266 (by kernel_rfl) rfl
  ·exact enters_of Tryz.func266 (by kernel_rfl) rfl
  ·exact enters_of Tryz.func266 (by kernel_rfl) rfl
 ·intro p hp X' w' hX' hk;simp only[List.mem_cons,List.not_mem_nil,or_false]at hp;have n0:=nx X' hX' 0 (by omega)
  rw[Nat.add_zero]at n0;rcases hp with rfl|rfl|rfl|rfl
  ·exact rising1_seq hn (hk.cell h0 n0 (by decide)) (hk.cell (at_ 1 _ rfl) (nx X' hX' 1 (by omega)) (by decide)) n0 (nx X' hX' 1 (by omega))
  ·exact alone1_seq (hk.cell (at_ 2 _ rfl) (nx X' hX' 2 (by omega)) (by decide))
  ·exact alone1_seq (hk.cell (at_ 3 _ rfl) (nx X' hX' 3 (by omega)) (by decide))
  ·exact alone1_seq (hk.cell (at_ 4 _ rfl) (nx X' hX' 4 (by omega)) (by decide))
set_option maxHeartbeats 2000000 in
theorem plan_any(o:Od)(a:Option Addr)(c:Nat)(w:World)(ha:Sts w a o.steps)(hl:o.steps.length≤9223372036854775807):
 Calls Tryz.prog 210 #[.agg #[.int .i64 o.id,.int .i64 o.item,.int .i64 o.qty,.int .i64 o.client,.int .i64 o.price,.slice a o.steps.length c]] w (TellR w (planL o)):=by
 obtain⟨V,hV⟩:∃V,V=w.alloc (.cells #[.int .i64 o.id,.int .i64 o.item,.int .i64 o.qty,.int .i64 o.client,.int .i64 o.price,.slice a o.steps.length c] 32):=⟨_,rfl⟩
 have hbV:Below w.heap.size w V:=by rw[hV];exact(zF _ _).alloc (zD _) _
 have hVb:V.heap[w.heap.size]?=some (.cells #[.int .i64 o.id,.int .i64 o.item,.int .i64 o.qty,.int .i64 o.client,.int .i64 o.price,.slice a o.steps.length c] 32 (0,0)):=by rw[hV];exact zI w _
 have MY:=omay_any o a c V (ha.below hbV) hl
 rw[hV]at MY
 have HV:=hide hV
 have HBV:=hide hbV
 have HVB:=hide hVb
 have HL:=hide hl
 clear hV hbV hVb ha
 cases hm:mayO o
 ·rw[planL_not hm];rw[hm]at MY;go_enter Tryz.func210,Tryz.ntmps210
  go_wp2_with fail
  refine MY.mono ?_;rintro e w1 ⟨rfl,hb1⟩;rw[←HV.out]at hb1;have HB1:=hide (bel_on' HBV.out hb1)
  clear hb1 MY
  go_wp2_with(go_at_call 233;refine(joined_any _ _ _ _).mono ?_;rintro e w2 ⟨rfl,rfl⟩)
  go_ret
  exact tell_none HB1.out
 ·rw[planL_may hm];rw[hm]at MY;go_enter Tryz.func210,Tryz.ntmps210
  go_wp2_with fail
  refine MY.mono ?_;rintro e w1 ⟨rfl,hb1⟩;rw[←HV.out]at hb1;have HB1:=hide (bel_on' HBV.out hb1)
  have hx:=(hb1.block _ (Array.getElem?_eq_some_iff.1 HVB.out).1).trans HVB.out
  have c5:=cell_of (i:=5) hx
  simp at c5;clear hb1 MY hx
  go_wp2_with(first
   |(go_at_call 237;refine(rising_any _ _ _).mono ?_;rintro e w2 ⟨rfl,rfl⟩)
   |(go_at_call 234;refine(alone_any _ _).mono ?_;rintro e w2 ⟨rfl,rfl⟩)
   |(go_at_call 233;refine(joined_any _ _ _ _).mono ?_;rintro e w2 ⟨rfl,rfl⟩))
  go_ret
  have:=tell_plan HB1.out o.steps.length HL.out
  simpa[allocs,planObjs]using this
theorem tell_back{w V:World}(hb:Below w.heap.size w V){n bk b2 b3 b5 bp:Nat}(hn:n≤9223372036854775807)(gk:w.heap.size≤bk)(g2:w.heap.size≤b2)(g3:w.heap.size≤b3)(g5:w.heap.size≤b5)
 (hk:V.heap[bk]?=some (.cells #[.int .i64 10] 3 (0,0))) (h2:V.heap[b2]?=some (.cells #[.int .i64 4] 3 (0,0))) (h3:V.heap[b3]?=some (.cells #[.int .i64 n] 3 (0,0)))
 (h5:V.heap[b5]?=some (.cells #[.func (.func 266) #[] #[.pointer (some ⟨bk,0,none⟩)],.func (.func 267) #[] #[.pointer (some ⟨b3,0,none⟩),.pointer (some ⟨b2,0,none⟩)]] 213 (0,0)))
 (hp:V.heap[bp]?=some (.cells #[.slice (some ⟨b5,0,none⟩) 2 2] 267 (0,0))):TellR w ((10,0)::dnL 4 n) (.returned (.func (.func 265) #[] #[.pointer (some ⟨bp,0,none⟩)])) V:=by
 have hs:=hb.size
 refine⟨bp,rfl,hb,fun X hX=>?_⟩
 have nx:∀(X':Nat→Prop),(∀k,X' k→X k∨V.heap.size≤k)→∀i o,w.heap.size≤i→V.heap[i]?=some o→¬X' i:=fun X' h i o hi ho h'=>by
  have:=(Array.getElem?_eq_some_iff.1 ho).1
  rcases h _ h' with h|h
  ·have:=hX _ h;omega
  ·omega
 have key:=joined1_seq (X:=X) (Ps:=[⟨266,#[.pointer (some ⟨bk,0,none⟩)],[(10,0)]⟩,⟨267,#[.pointer (some ⟨b3,0,none⟩),.pointer (some ⟨b2,0,none⟩)],dnL 4 n⟩])
  (a:=some ⟨b5,0,none⟩) (c:=2) hp (fun k h=>by have:=hX k h;omega) (by simp) (.inr ⟨b5,_,rfl,nx _ (fun _ h=>h) _ _ g5 h5,h5,?_⟩) ?_ ?_
 ·simpa using key
 ·intro i p hp;match i,hp with
  |0,hp=>simp at hp;subst hp;rfl
  |1,hp=>simp at hp;subst hp;rfl
  |i+2,hp=>simp at hp
 ·intro p hp;simp only[List.mem_cons,List.not_mem_nil,or_false]at hp;rcases hp with rfl|rfl
  ·exact enters_of Tryz.func266 (by kernel_rfl) rfl
  ·exact enters_of Tryz.func267 (by kernel_rfl) rfl
 ·intro p hp X' w' hX' hkk;simp only[List.mem_cons,List.not_mem_nil,or_false]at hp;rcases hp with rfl|rfl
  ·exact alone1_seq (hkk.cell hk (nx X' hX' _ _ gk hk) (by decide))
  ·exact falling1_seq hn (hkk.cell h2 (nx X' hX' _ _ g2 h2) (by decide)) (hkk.cell h3 (nx X' hX' _ _ g3 h3) (by decide)) (nx X' hX' _ _ g2 h2)
theorem below_drew{w v:World}(h:Below w.heap.size w v):Below w.heap.size w v.drew:=h.drew
theorem back_end{w w1:World}(hb:Below w.heap.size w w1)(n:Nat)(hn:n≤9223372036854775807):
 TellR w ((10,0)::dnL 4 n) (.returned (.func (.func 265) #[] #[.pointer (some ⟨w1.heap.size+1+1+1+1,0,none⟩)]))
  (((((w1.alloc (.cells #[.int .i64 10] 3)).alloc (.cells #[.int .i64 4] 3)).alloc (.cells #[.int .i64 n] 3)).alloc
    (.cells #[.func (.func 266) #[] #[.pointer (some ⟨w1.heap.size,0,none⟩)],.func (.func 267) #[] #[.pointer (some ⟨w1.heap.size+1+1,0,none⟩),.pointer (some ⟨w1.heap.size+1,0,none⟩)]] 213)).alloc
    (.cells #[.slice (some ⟨w1.heap.size+1+1+1,0,none⟩) 2 2] 267)).drew :=by
 have hs:=hb.size
 obtain⟨l,hl⟩:∃l:List Obj,l= [.cells #[.int .i64 10] 3 (0,0),.cells #[.int .i64 4] 3 (0,0),.cells #[.int .i64 n] 3 (0,0),
  .cells #[.func (.func 266) #[] #[.pointer (some ⟨w1.heap.size,0,none⟩)],.func (.func 267) #[] #[.pointer (some ⟨w1.heap.size+1+1,0,none⟩),.pointer (some ⟨w1.heap.size+1,0,none⟩)]] 213 (0,0),
  .cells #[.slice (some ⟨w1.heap.size+1+1+1,0,none⟩) 2 2] 267 (0,0)]:=⟨_,rfl⟩
 have at_:∀i o,l[i]?=some o→(allocs w1 l).drew.heap[w1.heap.size+i]?=some o:=fun i o h=>allocs_at _ w1 i o h
 have key:=tell_back (w:=w) (V:=(allocs w1 l).drew) (n:=n) (bk:=w1.heap.size) (b2:=w1.heap.size+1) (b3:=w1.heap.size+1+1) (b5:=w1.heap.size+1+1+1) (bp:=w1.heap.size+1+1+1+1) (below_drew (bel_on' hb (allocs_below l w1))) hn (by omega) (by omega) (by omega) (by omega)
  (at_ 0 _ (by rw[hl];rfl)) (at_ 1 _ (by rw[hl];rfl)) (at_ 2 _ (by rw[hl];rfl)) (at_ 3 _ (by rw[hl];rfl)) (at_ 4 _ (by rw[hl];rfl))
 rw[hl]at key
 exact key
set_option maxHeartbeats 2000000 in
theorem back_any(o:Od)(a:Option Addr)(c:Nat)(w:World)(ha:Sts w a o.steps)(hl:o.steps.length≤9223372036854775807):
 Calls Tryz.prog 207 #[.agg #[.int .i64 o.id,.int .i64 o.item,.int .i64 o.qty,.int .i64 o.client,.int .i64 o.price,.slice a o.steps.length c]] w (TellR w (backL o)):=by
 obtain⟨V,hV⟩:∃V,V=w.alloc (.cells #[.int .i64 o.id,.int .i64 o.item,.int .i64 o.qty,.int .i64 o.client,.int .i64 o.price,.slice a o.steps.length c] 32):=⟨_,rfl⟩
 have hbV:Below w.heap.size w V:=by rw[hV];exact(zF _ _).alloc (zD _) _
 have hVb:V.heap[w.heap.size]?=some (.cells #[.int .i64 o.id,.int .i64 o.item,.int .i64 o.qty,.int .i64 o.client,.int .i64 o.price,.slice a o.steps.length c] 32 (0,0)):=by rw[hV];exact zI w _
 have MY:=omay_any o a c V (ha.below hbV) hl
 rw[hV]at MY
 have HV:=hide hV
 have HBV:=hide hbV
 have HVB:=hide hVb
 have HL:=hide hl
 clear hV hbV hVb ha
 cases hm:mayO o
 ·rw[backL_not hm];rw[hm]at MY;go_enter Tryz.func207,Tryz.ntmps207
  go_wp2_with fail
  refine MY.mono ?_;rintro e w1 ⟨rfl,hb1⟩;rw[←HV.out]at hb1;have HB1:=hide (bel_on' HBV.out hb1)
  clear hb1 MY
  go_wp2_with(go_at_call 233;refine(joined_any _ _ _ _).mono ?_;rintro e w2 ⟨rfl,rfl⟩)
  go_ret
  exact tell_none HB1.out
 ·rw[backL_may hm];rw[hm]at MY;go_enter Tryz.func207,Tryz.ntmps207
  go_wp2_with fail
  refine MY.mono ?_;rintro e w1 ⟨rfl,hb1⟩;rw[←HV.out]at hb1;have HB1:=hide (bel_on' HBV.out hb1)
  have hx:=(hb1.block _ (Array.getElem?_eq_some_iff.1 HVB.out).1).trans HVB.out
  have c5:=cell_of (i:=5) hx
  simp at c5;have c5b:(w1.alloc (.cells #[.int .i64 10] 3)).cell? ⟨w.heap.size,5,none⟩=some (.slice a o.steps.length c):=cellL c5 ((zF _ _).alloc (zD _) _)
  clear hb1 MY hx
  go_wp2_with fail
  go_region_with(first
   |(go_at_call 235;refine(falling_any _ _ _).mono ?_;rintro e w2 ⟨rfl,rfl⟩)
   |(go_at_call 234;refine(alone_any _ _).mono ?_;rintro e w2 ⟨rfl,rfl⟩)
   |(go_at_call 233;refine(joined_any _ _ _ _).mono ?_;rintro e w2 ⟨rfl,rfl⟩))
  all_goals go_wp2
  all_goals go_ret
  all_goals exact back_end HB1.out _ HL.out
end Go.Proofs.YthfgmpooehkhgaaGreatDoor.Sg
