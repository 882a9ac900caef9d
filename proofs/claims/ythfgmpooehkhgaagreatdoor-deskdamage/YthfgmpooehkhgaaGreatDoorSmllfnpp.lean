import Derived.Test.YthfgmpooehkhgaaGreatDoorSmpjfpgf
namespace Go.Proofs.YthfgmpooehkhgaaGreatDoor
open Go.ChangeShapes Go.WideShapes Go.ChangeAt Go.RowKit Go.Maps Sg Bl
open Rg.Kept renaming of_below→zE
open Below renaming refl→zF
open Option renaming some→Z,none→Y
open Go.IntKind renaming i64→X
open Go.Ending renaming returned→V
section
variable {B:Nat}{O:Pt→Nat→Prop}{w:World}{p:Nat}{v:Ch}{q:Nat}{r:Value}{b bt:Nat}{loc:Int→Option Nat}
theorem bel_d{W u:World}(h:Below W.heap.size W u):Below W.heap.size W u.drew:=bel_on' h (zF u.heap.size u).drew
theorem Up.hang(h:Up B O w p v q r b bt loc){id:Int}(hw:(Lit.int X id).wf =true)(hl:∃l,v.L id=Z l):
 Calls Tryz.prog 59 #[.pointer (Z ⟨bt,0,Y⟩),.int X id] w fun e w'=>(∃x,e=V x)∧UStp B O w p (setH v (hangH v.t v.h id)) q b bt loc w':=by
 refine(bhang_any h.k.bl hw (by omega)).mono ?_
 rintro e w' ⟨h1,h2,h3⟩
 have k1:=h.k.bstep h2 h3
 refine⟨⟨_,h1⟩,_,r,loc,⟨k1,setH_good h.g (fun e=>by rw[h.d]at e;cases e) (fun x hx=>?_),h.d⟩,fun i e=>gr_eo e,h3.mono (fun i _ e=>⟨_,e⟩),fun _ _ e=>e⟩
 rcases hang_some hx with h4|h4
 ·exact h.g.bl x h4
 ·rw[h4];exact hl
theorem Up.sures(h:Up B O w p v q r b bt loc)(hg:∀u,Rg.Kept (fun i _=>Eo O i) w u→Gl u){es:List Et}(hf:Fits22 v.L es)(hl:es.length≤10){ra:Option Addr}{rc:Nat}(hR:RowE w (Eo O) ra es):
 Calls Tryz.prog 57 #[.pointer (Z ⟨p,0,Y⟩),.slice ra es.length rc] w fun x w'=>x=V (.int X (noE v es.length))∧UStp B O w p (sureS v es) q b bt loc w':=by
 unfold noE sureS
 cases hr:roomC v es.length
 ·rw[if_neg (by decide),if_neg (by decide)];exact(csure_no (es:=es) h.k h.len hl hr ra rc).mono (fun x w' ⟨h1,h2⟩=>⟨h1,h.stay h2⟩)
 ·rw[if_pos rfl,if_pos rfl];exact(csure_yes (es:=es) (rc:=rc) h.k h.d h.g.gm hg hf h.len hl hr hR).mono (fun x w' ⟨h1,h2⟩=>⟨h1,h2.up (addC_good h.g h.d hf hr).2 h.d⟩)
set_option maxRecDepth 100000 in
set_option maxHeartbeats 4000000 in
theorem cbeg_any(h:Up B O w p v q r b bt loc)(hg:∀u,Rg.Kept (fun i _=>Eo O i) w u→Gl u)(o:Od){sa:Option Addr}{sc:Nat}(hs:Sts w sa o.steps)(hsl:o.steps.length≤9223372036854775807)(hw:(Lit.int X o.id).wf =true):
 Calls Tryz.prog 11 #[.pointer (Z ⟨p,0,Y⟩),.agg #[.int X o.id,.int X o.item,.int X o.qty,.int X o.client,.int X o.price,.slice sa o.steps.length sc]] w fun e w'=>∃x,e=V (.tuple #[x,.int X (begE v o)])∧SendR B O w p (begS v o) q b bt loc (begA v o) (V x) w':=by
 obtain⟨W,hW⟩:∃W,W=w.alloc (.cells #[.int X o.id,.int X o.item,.int X o.qty,.int X o.client,.int X o.price,.slice sa o.steps.length sc] 32):=⟨_,rfl⟩
 have hbW:Below w.heap.size w W:=by rw[hW];exact(zF _ _).alloc (Nat.le_refl _) _
 have hbx:W.heap[w.heap.size]?=Z (.cells #[.int X o.id,.int X o.item,.int X o.qty,.int X o.client,.int X o.price,.slice sa o.steps.length sc] 32 (0,0)):=by rw[hW];exact World.alloc_heap_new w _
 have hzW:W.heap.size=w.heap.size+1:=by rw[hW];simp
 have CU:Hid (∀u,Below W.heap.size W u→(u.cell? ⟨w.heap.size,0,Y⟩=Z (.int X o.id)∧u.cell? ⟨w.heap.size,1,Y⟩=Z (.int X o.item)∧u.cell? ⟨w.heap.size,2,Y⟩=Z (.int X o.qty)∧u.cell? ⟨w.heap.size,3,Y⟩=Z (.int X o.client)∧u.cell? ⟨w.heap.size,4,Y⟩=Z (.int X o.price)∧u.cell? ⟨w.heap.size,5,Y⟩=Z (.slice sa o.steps.length sc))∧(u.cell? ⟨p,0,Y⟩=Z (.int X v.most)∧u.cell? ⟨p,3,Y⟩=Z (.map (Z b))∧u.cell? ⟨p,4,Y⟩=Z (.pointer (Z ⟨bt,0,Y⟩)))):=fun u hu=>by
  have hx:=(hu.block _ (by omega)).trans hbx
  obtain⟨k0,-,-,k3,k4⟩:=(h.k.on (bel_on' hbW hu)).cell3;refine⟨⟨?_,?_,?_,?_,?_,?_⟩,k0,k3,k4⟩<;>(rw[cell_of hx];rfl)
 have LKU:Hid (∀u,Below W.heap.size W u→(Instr.lookup 92 (.map (Z b)) (.int X o.id) false).run Tryz.prog u.drew= .ok (ptV (loc o.id)) u.drew):=fun u hu=>(h.k.on (bel_on' hbW (bel_on' hu (zF u.heap.size u).drew))).look hw
 have ST:Hid (∀u,Below W.heap.size W u→SendR B O w p v q b bt loc [] (V (.slice Y 0 0)) u∧SendR B O w p v q b bt loc [] (V (.slice Y 0 0)) u.drew):=fun u hu=>
  ⟨(h.stay (bel_on' hbW hu)).quiet,(h.stay (bel_on' (bel_on' hbW hu) (zF u.heap.size u).drew)).quiet⟩
 have DN:Calls Tryz.prog 28 #[.pointer (Z ⟨p,0,Y⟩)] W fun e w'=>e=V (.bool false)∧Below W.heap.size W w':=by
  have:=(h.k.on hbW).dn
  rw[h.d]at this;exact this
 have MC:Hid (∀u,Below W.heap.size W u→Calls Tryz.prog 55 #[.agg #[.int X o.id,.int X o.item,.int X o.qty,.int X o.client,.int X o.price,.slice sa o.steps.length sc]] u fun e w'=>e=V (.bool (mayO o))∧Below W.heap.size W w'):=fun u hu=>(omay_any o sa sc u ((hs.below hbW).below hu) hsl).mono (fun _ _ ⟨e1,e2⟩=>⟨e1,bel_on' hu e2⟩)
 have UW:Hid (∀u,Below W.heap.size W u→Calls Tryz.prog 56 #[.pointer (Z ⟨p,0,Y⟩)] u fun e w'=>e=V (.int X (wayN v.L:Int))∧Below W.heap.size W w'):=fun u hu=>
  (cway_any (h.k.on (bel_on' hbW hu)) h.g.gm).mono (fun _ _ ⟨e1,e2⟩=>⟨e1,bel_on' hu e2⟩)
 unfold begS begA
 by_cases hm:mayO o=true
 rotate_left
 ·have hm:mayO o=false:=by simpa using hm
  have hE:begE v o=1:=by unfold begE;rw[h.d,hm];rfl
  rw[hE,if_neg (by decide),if_neg (by decide)];rw[hm]at MC;rw[hW]at CU ST DN MC;clear h hg hs hsl hw hW hbW hbx hzW LKU UW hm hE;go_enter Tryz.func11,Tryz.ntmps11
  go_wp2_with(first
   |(go_at_call 28;refine DN.mono ?_;clear DN;rintro e u1 ⟨rfl,hb⟩;obtain⟨⟨b0,b1,b2,b3,b4,b5⟩,p0,p3,p4⟩:=CU.out _ hb;have HB:=hide hb;clear hb)
   |(go_at_call 55;refine(MC.out _ HB.out).mono ?_;clear MC;rintro e u2 ⟨rfl,hb⟩;clear b0 b1 b2 b3 b4 b5 p0 p3 p4;obtain⟨⟨b0,b1,b2,b3,b4,b5⟩,p0,p3,p4⟩:=CU.out _ hb;clear HB;have HB:=hide hb;clear hb))
  go_ret2
  exact⟨_,rfl,(ST.out _ HB.out).1⟩
 rw[hm]at MC
 cases hl:v.L o.id with
 |some l=>
  obtain⟨a,ha,-⟩:=h.k.ld o.id l hl;have hE:begE v o=8:=by unfold begE;rw[h.d,hm,hl];rfl
  rw[hE,if_neg (by decide),if_neg (by decide)];rw[ha,show ptV (Z a)=Value.pointer (Z ⟨a,0,Y⟩)from rfl]at LKU;rw[hW]at CU ST DN MC LKU;clear h hg hs hsl hw hW hbW hbx hzW UW hm hE ha hl;go_enter Tryz.func11,Tryz.ntmps11
  go_wp2_with(first
   |(go_at_call 28;refine DN.mono ?_;clear DN;rintro e u1 ⟨rfl,hb⟩;obtain⟨⟨b0,b1,b2,b3,b4,b5⟩,p0,p3,p4⟩:=CU.out _ hb;have HB:=hide hb;clear hb)
   |(go_at_call 55;refine(MC.out _ HB.out).mono ?_;clear MC;rintro e u2 ⟨rfl,hb⟩;clear b0 b1 b2 b3 b4 b5 p0 p3 p4;obtain⟨⟨b0,b1,b2,b3,b4,b5⟩,p0,p3,p4⟩:=CU.out _ hb;clear HB;have HB:=hide hb;have hL:=LKU.out _ hb;clear hb))
  go_region_held3(fun w'=>w'.cell? ⟨w.heap.size,0,Y⟩=Z (.int X o.id)∧w'.cell? ⟨w.heap.size,1,Y⟩=Z (.int X o.item)∧w'.cell? ⟨w.heap.size,2,Y⟩=Z (.int X o.qty)∧w'.cell? ⟨w.heap.size,3,Y⟩=Z (.int X o.client)∧w'.cell? ⟨w.heap.size,4,Y⟩=Z (.int X o.price)∧w'.cell? ⟨w.heap.size,5,Y⟩=Z (.slice sa o.steps.length sc)∧w'.cell? ⟨p,0,Y⟩=Z (.int X v.most)∧w'.cell? ⟨p,3,Y⟩=Z (.map (Z b))∧w'.cell? ⟨p,4,Y⟩=Z (.pointer (Z ⟨bt,0,Y⟩))) (go_keep) (fail)
  go_wp2
  go_ret2
  exact⟨_,rfl,(ST.out _ HB.out).2⟩
 |none=>
 have hlo:=h.k.no o.id hl
 rw[hlo,show ptV Y=Value.pointer Y from rfl]at LKU
 by_cases hwy:v.most≤(wayN v.L:Int)
 ·have hE:begE v o=5:=by unfold begE;rw[h.d,hm,hl];simp[hwy]
  rw[hE,if_neg (by decide),if_neg (by decide)];rw[hW]at CU ST DN MC LKU UW;generalize (wayN v.L:Int)=wn at *;clear h hg hs hsl hw hW hbW hbx hzW hm hE hl hlo;go_enter Tryz.func11,Tryz.ntmps11
  go_wp2_with(first
   |(go_at_call 28;refine DN.mono ?_;clear DN;rintro e u1 ⟨rfl,hb⟩;obtain⟨⟨b0,b1,b2,b3,b4,b5⟩,p0,p3,p4⟩:=CU.out _ hb;have HB:=hide hb;clear hb)
   |(go_at_call 55;refine(MC.out _ HB.out).mono ?_;clear MC;rintro e u2 ⟨rfl,hb⟩;clear b0 b1 b2 b3 b4 b5 p0 p3 p4;obtain⟨⟨b0,b1,b2,b3,b4,b5⟩,p0,p3,p4⟩:=CU.out _ hb;clear HB;have HB:=hide hb;have hL:=LKU.out _ hb;clear hb))
  go_region_held3(fun w'=>w'.cell? ⟨w.heap.size,0,Y⟩=Z (.int X o.id)∧w'.cell? ⟨w.heap.size,1,Y⟩=Z (.int X o.item)∧w'.cell? ⟨w.heap.size,2,Y⟩=Z (.int X o.qty)∧w'.cell? ⟨w.heap.size,3,Y⟩=Z (.int X o.client)∧w'.cell? ⟨w.heap.size,4,Y⟩=Z (.int X o.price)∧w'.cell? ⟨w.heap.size,5,Y⟩=Z (.slice sa o.steps.length sc)∧w'.cell? ⟨p,0,Y⟩=Z (.int X v.most)∧w'.cell? ⟨p,3,Y⟩=Z (.map (Z b))∧w'.cell? ⟨p,4,Y⟩=Z (.pointer (Z ⟨bt,0,Y⟩))) (go_keep) (fail)
  go_wp2_with fail
  go_region_held3(fun w'=>w'.cell? ⟨w.heap.size,0,Y⟩=Z (.int X o.id)∧w'.cell? ⟨w.heap.size,1,Y⟩=Z (.int X o.item)∧w'.cell? ⟨w.heap.size,2,Y⟩=Z (.int X o.qty)∧w'.cell? ⟨w.heap.size,3,Y⟩=Z (.int X o.client)∧w'.cell? ⟨w.heap.size,4,Y⟩=Z (.int X o.price)∧w'.cell? ⟨w.heap.size,5,Y⟩=Z (.slice sa o.steps.length sc)∧w'.cell? ⟨p,0,Y⟩=Z (.int X v.most)∧w'.cell? ⟨p,3,Y⟩=Z (.map (Z b))∧w'.cell? ⟨p,4,Y⟩=Z (.pointer (Z ⟨bt,0,Y⟩))) (go_keep) (first
   |(go_at_call 56;refine(UW.out _ (bel_d (bel_d HB.out))).mono ?_;clear UW;rintro e u3 ⟨rfl,hb⟩;clear b0 b1 b2 b3 b4 b5 p0 p3 p4;obtain⟨⟨b0,b1,b2,b3,b4,b5⟩,p0,p3,p4⟩:=CU.out _ hb;clear HB hL;have HB:=hide hb;clear hb))
  go_wp2
  go_ret2
  exact⟨_,rfl,(ST.out _ HB.out).1⟩
 have hwy':¬((wayN v.L:Int)≥v.most):=fun e=>hwy e
 have hE:begE v o=noE v (o.steps.length+1):=by unfold begE;rw[h.d,hm,hl];simp[hwy]
 have mo:=mayO_of hm
 have hl1:(sureC v (begT o)).L o.id=Z (begL o):=by
  show(begT o).foldl fol v.L o.id=_
  rw[fol_begin hl];exact Gd.updO_same _ _ _
 have EO:Hid (∀u,Below W.heap.size W u→Calls Tryz.prog 58 #[.agg #[.int X o.id,.int X o.item,.int X o.qty,.int X o.client,.int X o.price,.slice sa o.steps.length sc]] u fun e u3=>∃ra n rc,e=V (.slice ra n rc)∧Calls Tryz.prog 57 #[.pointer (Z ⟨p,0,Y⟩),.slice ra n rc] u3 fun x u4=>x=V (.int X (noE v (o.steps.length+1)))∧(roomC v (o.steps.length+1)=false→SendR B O w p v q b bt loc [] (V (.slice Y 0 0)) u4)∧(roomC v (o.steps.length+1)=true→u4.cell? ⟨w.heap.size,0,Y⟩=Z (.int X o.id)∧u4.cell? ⟨p,4,Y⟩=Z (.pointer (Z ⟨bt,0,Y⟩))∧Calls Tryz.prog 59 #[.pointer (Z ⟨bt,0,Y⟩),.int X o.id] u4.drew fun e u5=>(∃y,e=V y)∧u5.cell? ⟨w.heap.size,0,Y⟩=Z (.int X o.id)∧u5.cell? ⟨p,3,Y⟩=Z (.map (Z b))∧u5.cell? ⟨p,4,Y⟩=Z (.pointer (Z ⟨bt,0,Y⟩))∧∃a1,(Instr.lookup 92 (.map (Z b)) (.int X o.id) false).run Tryz.prog u5.drew= .ok (.pointer (Z ⟨a1,0,Y⟩)) u5.drew∧Calls Tryz.prog 60 #[.pointer (Z ⟨p,0,Y⟩),.pointer (Z ⟨a1,0,Y⟩)] u5.drew (fun e6 u6=>SendR B O w p (goS (begV v o) (begL o)) q b bt loc (goA (begV v o) (begL o)) e6 u6∧u6.cell? ⟨p,3,Y⟩=Z (.map (Z b))∧u6.cell? ⟨w.heap.size,0,Y⟩=Z (.int X o.id)))):=fun u hu=>by
  have hx:=bel_on' hbW hu
  refine(cents_any o (hs.below hx) mo.2.2.2.2.2.1).mono ?_;rintro e u3 ⟨W',L,ra,rc,e1,hLe,hbW',en⟩;have hx3:=bel_on' hx (bel_on' hbW' en.bel)
  have hu3:=bel_on' hu (bel_on' hbW' en.bel)
  have hz3:=hu3.size
  have hLl:L.length=(begT o).length :=by rw[←hLe,List.length_map]
  refine⟨ra,L.length,rc,e1,?_⟩;rw[hLl];have hR:RowE u3 (Eo O) ra (begT o):=by
   rw[←hLe];exact en.rowe (fun i ⟨y,e⟩=>by have:=(h.k.bd y i e).2;have:=hx.size;have:=hbW'.size;omega)
  have hg3:∀u',Rg.Kept (fun i _=>Eo O i) u3 u'→Gl u':=fun u' hk=>hg u' ((zE hx3).trans hk)
  refine((h.on hx3).sures hg3 (fits_begin hm hl) (by rw[begT_len];have:=mo.2.2.2.2.2.1;omega) hR).mono ?_;rintro x u4 ⟨e2,h6⟩;rw[begT_len]at e2;unfold sureS at h6;rw[begT_len]at h6;refine⟨e2,fun hr=>?_,fun hr=>?_⟩
  ·rw[hr,if_neg (by decide)]at h6;exact(h6.from hx3).quiet
  ·rw[hr,if_pos rfl]at h6;obtain⟨O1,r1,loc1,k1,g1,K1,l1⟩:=h6;have nb:∀y,¬O y w.heap.size:=fun y e=>by have:=(h.k.bd y _ e).2;omega
   have nb1:¬Eo O1 w.heap.size:=fun e=>(g1 _ e).elim (fun⟨y,e⟩=>nb y e) (fun e=>by omega)
   have c4:u4.cell? ⟨w.heap.size,0,Y⟩=Z (.int X o.id):=kept_cellR K1 (fun _ ⟨y,e⟩=>nb y e) (CU.out u3 hu3).1.1
   obtain⟨a1,ha1,-⟩:=k1.k.ld o.id _ hl1;have G1:∀u',Rg.Kept (fun i _=>Eo O1 i) u4 u'→Gl u':=fun u' hk=>hg3 u' (kept_two g1 K1 hk)
   refine⟨c4,k1.k.cell3.2.2.2.2,((k1.on (zF u4.heap.size u4).drew).hang hw ⟨_,hl1⟩).mono ?_⟩;rintro e5 u5 ⟨e6,z⟩;obtain⟨O2,r2,loc2,k2,g2,K2,l2⟩:=z.from (w:=u4) (zF u4.heap.size u4).drew
   have G2:∀u',Rg.Kept (fun i _=>Eo O2 i) u5 u'→Gl u':=fun u' hk=>G1 u' (kept_two g2 K2 hk)
   have hd:=(zF u5.heap.size u5).drew
   have ha2:=l2 _ _ ha1
   have hL:=(k2.k.on hd).look hw
   rw[ha2]at hL;have nb2:¬Eo O2 w.heap.size:=fun e=>(g2 _ e).elim nb1 (fun e=>by have:=World.block_lt_of_cell? _ _ c4;have e8:w.heap.size<u4.heap.size:=this;omega)
   have c5:=kept_cellR K2 (fun _=>nb1) c4
   refine⟨e6,c5,k2.k.cell3.2.2.2.1,k2.k.cell3.2.2.2.2,a1,hL,(cgoon_any (k2.on hd) (fun u' hk=>G2 u' ((zE hd).trans hk)) (v:=begV v o) hl1 ha2).mono ?_⟩;intro e7 u7 z7;have s1:=SendR.two (O:=O2) (loc:=loc2) (fun i e=> .inl e) (zE hd) (fun _ _ e=>e) z7
   have s2:=SendR.two g2 K2 l2 s1
   have s3:=SendR.two g1 K1 l1 s2
   obtain⟨ra7,rc7,O7,r7,loc7,-,-,-,k7,-,K7,-⟩:=id z7;exact⟨SendR.two (O:=O) (loc:=loc) (fun i e=> .inl e) (zE hx3) (fun _ _ e=>e) s3,k7.k.cell3.2.2.2.1,kept_cellR K7 (fun _=>nb2) (cellL c5 hd)⟩
 rw[hE]
 rcases noE_two v (o.steps.length+1)with⟨e1,e2⟩|⟨e1,e2⟩
 ·have EO2:Hid (∀u,Below W.heap.size W u→Calls Tryz.prog 58 #[.agg #[.int X o.id,.int X o.item,.int X o.qty,.int X o.client,.int X o.price,.slice sa o.steps.length sc]] u fun e u3=>∃ra n rc,e=V (.slice ra n rc)∧Calls Tryz.prog 57 #[.pointer (Z ⟨p,0,Y⟩),.slice ra n rc] u3 fun x u4=>x=V (.int X 0)∧u4.cell? ⟨w.heap.size,0,Y⟩=Z (.int X o.id)∧u4.cell? ⟨p,4,Y⟩=Z (.pointer (Z ⟨bt,0,Y⟩))∧Calls Tryz.prog 59 #[.pointer (Z ⟨bt,0,Y⟩),.int X o.id] u4.drew fun e u5=>(∃y,e=V y)∧u5.cell? ⟨w.heap.size,0,Y⟩=Z (.int X o.id)∧u5.cell? ⟨p,3,Y⟩=Z (.map (Z b))∧u5.cell? ⟨p,4,Y⟩=Z (.pointer (Z ⟨bt,0,Y⟩))∧∃a1,(Instr.lookup 92 (.map (Z b)) (.int X o.id) false).run Tryz.prog u5.drew= .ok (.pointer (Z ⟨a1,0,Y⟩)) u5.drew∧Calls Tryz.prog 60 #[.pointer (Z ⟨p,0,Y⟩),.pointer (Z ⟨a1,0,Y⟩)] u5.drew (fun e6 u6=>SendR B O w p (goS (begV v o) (begL o)) q b bt loc (goA (begV v o) (begL o)) e6 u6∧u6.cell? ⟨p,3,Y⟩=Z (.map (Z b))∧u6.cell? ⟨w.heap.size,0,Y⟩=Z (.int X o.id))):=fun u hu=>(EO.out u hu).mono (fun _ _ ⟨ra,n,rc,y1,y2⟩=>⟨ra,n,rc,y1,y2.mono (fun _ _ ⟨x1,_,x3⟩=>⟨by rw[e1]at x1;exact x1,x3 e2⟩)⟩)
  rw[e1,if_pos rfl,if_pos rfl];rw[hW]at CU ST DN MC LKU UW EO2;generalize (wayN v.L:Int)=wn at *;generalize goS (begV v o) (begL o)=v9 at *;generalize goA (begV v o) (begL o)=x9 at *;clear h hg hs hsl hw hW hbW hbx hzW hm hE hl hlo hwy e1 e2 EO mo hl1 ST;go_enter Tryz.func11,Tryz.ntmps11
  go_wp2_with(first
   |(go_at_call 28;refine DN.mono ?_;clear DN;rintro e u1 ⟨rfl,hb⟩;obtain⟨⟨b0,b1,b2,b3,b4,b5⟩,p0,p3,p4⟩:=CU.out _ hb;have HB:=hide hb;clear hb)
   |(go_at_call 55;refine(MC.out _ HB.out).mono ?_;clear MC;rintro e u2 ⟨rfl,hb⟩;clear b0 b1 b2 b3 b4 b5 p0 p3 p4;obtain⟨⟨b0,b1,b2,b3,b4,b5⟩,p0,p3,p4⟩:=CU.out _ hb;clear HB;have HB:=hide hb;have hL:=LKU.out _ hb;clear hb))
  go_region_held3(fun w'=>w'.cell? ⟨w.heap.size,0,Y⟩=Z (.int X o.id)∧w'.cell? ⟨w.heap.size,1,Y⟩=Z (.int X o.item)∧w'.cell? ⟨w.heap.size,2,Y⟩=Z (.int X o.qty)∧w'.cell? ⟨w.heap.size,3,Y⟩=Z (.int X o.client)∧w'.cell? ⟨w.heap.size,4,Y⟩=Z (.int X o.price)∧w'.cell? ⟨w.heap.size,5,Y⟩=Z (.slice sa o.steps.length sc)∧w'.cell? ⟨p,0,Y⟩=Z (.int X v.most)∧w'.cell? ⟨p,3,Y⟩=Z (.map (Z b))∧w'.cell? ⟨p,4,Y⟩=Z (.pointer (Z ⟨bt,0,Y⟩))) (go_keep) (fail)
  go_wp2_with fail
  go_region_held3(fun w'=>w'.cell? ⟨w.heap.size,0,Y⟩=Z (.int X o.id)∧w'.cell? ⟨w.heap.size,1,Y⟩=Z (.int X o.item)∧w'.cell? ⟨w.heap.size,2,Y⟩=Z (.int X o.qty)∧w'.cell? ⟨w.heap.size,3,Y⟩=Z (.int X o.client)∧w'.cell? ⟨w.heap.size,4,Y⟩=Z (.int X o.price)∧w'.cell? ⟨w.heap.size,5,Y⟩=Z (.slice sa o.steps.length sc)∧w'.cell? ⟨p,0,Y⟩=Z (.int X v.most)∧w'.cell? ⟨p,3,Y⟩=Z (.map (Z b))∧w'.cell? ⟨p,4,Y⟩=Z (.pointer (Z ⟨bt,0,Y⟩))) (go_keep) (first
   |(go_at_call 56;refine(UW.out _ (bel_d (bel_d HB.out))).mono ?_;clear UW;rintro e u3 ⟨rfl,hb⟩;clear b0 b1 b2 b3 b4 b5 p0 p3 p4;obtain⟨⟨b0,b1,b2,b3,b4,b5⟩,p0,p3,p4⟩:=CU.out _ hb;clear HB hL;have HB:=hide hb;clear hb))
  go_wp2_with(first
   |(go_at_call 58;refine(EO2.out _ HB.out).mono ?_;clear EO2;rintro e u4 ⟨ra,n,rc,rfl,h5⟩;clear b0 b1 b2 b3 b4 b5 p0 p3 p4;have M2:=h5;clear h5)
   |(go_at_call 57;refine M2.mono ?_;clear M2;rintro e u4 ⟨rfl,c0,c4,h6⟩;have H2:=h6;clear h6))
  go_region_held3(fun w'=>w'.cell? ⟨p,4,Y⟩=Z (.pointer (Z ⟨bt,0,Y⟩))∧w'.cell? ⟨w.heap.size,0,Y⟩=Z (.int X o.id)) (go_keep) (first
   |(go_at_call 59;refine H2.mono ?_;clear H2 c0 c4;rintro e u5 ⟨⟨y,rfl⟩,c0,c3,c4,a1,hL5,h7⟩;have G5:=h7;clear h7))
  go_wp2_with fail
  go_region_held3(fun w'=>w'.cell? ⟨p,3,Y⟩=Z (.map (Z b))∧w'.cell? ⟨w.heap.size,0,Y⟩=Z (.int X o.id)) (go_keep) (first
   |(go_at_call 60;refine G5.mono ?_;clear G5;clear c0 c3;rintro e u6 ⟨h7,c3,c0⟩;have HX:=hide h7;obtain⟨rb,rd,O9,r9,loc9,rfl,-⟩:=h7))
  go_wp2
  go_ret2
  exact⟨_,rfl,HX.out⟩
 ·have EO2:Hid (∀u,Below W.heap.size W u→Calls Tryz.prog 58 #[.agg #[.int X o.id,.int X o.item,.int X o.qty,.int X o.client,.int X o.price,.slice sa o.steps.length sc]] u fun e u3=>∃ra n rc,e=V (.slice ra n rc)∧Calls Tryz.prog 57 #[.pointer (Z ⟨p,0,Y⟩),.slice ra n rc] u3 fun x u4=>x=V (.int X 5)∧SendR B O w p v q b bt loc [] (V (.slice Y 0 0)) u4):=fun u hu=>(EO.out u hu).mono (fun _ _ ⟨ra,n,rc,y1,y2⟩=>⟨ra,n,rc,y1,y2.mono (fun _ _ ⟨x1,x2,_⟩=>⟨by rw[e1]at x1;exact x1,x2 e2⟩)⟩)
  rw[e1,if_neg (by decide),if_neg (by decide)];rw[hW]at CU DN MC LKU UW EO2;generalize (wayN v.L:Int)=wn at *;clear h hg hs hsl hw hW hbW hbx hzW hm hE hl hlo hwy e1 e2 EO mo hl1 ST;go_enter Tryz.func11,Tryz.ntmps11
  go_wp2_with(first
   |(go_at_call 28;refine DN.mono ?_;clear DN;rintro e u1 ⟨rfl,hb⟩;obtain⟨⟨b0,b1,b2,b3,b4,b5⟩,p0,p3,p4⟩:=CU.out _ hb;have HB:=hide hb;clear hb)
   |(go_at_call 55;refine(MC.out _ HB.out).mono ?_;clear MC;rintro e u2 ⟨rfl,hb⟩;clear b0 b1 b2 b3 b4 b5 p0 p3 p4;obtain⟨⟨b0,b1,b2,b3,b4,b5⟩,p0,p3,p4⟩:=CU.out _ hb;clear HB;have HB:=hide hb;have hL:=LKU.out _ hb;clear hb))
  go_region_held3(fun w'=>w'.cell? ⟨w.heap.size,0,Y⟩=Z (.int X o.id)∧w'.cell? ⟨w.heap.size,1,Y⟩=Z (.int X o.item)∧w'.cell? ⟨w.heap.size,2,Y⟩=Z (.int X o.qty)∧w'.cell? ⟨w.heap.size,3,Y⟩=Z (.int X o.client)∧w'.cell? ⟨w.heap.size,4,Y⟩=Z (.int X o.price)∧w'.cell? ⟨w.heap.size,5,Y⟩=Z (.slice sa o.steps.length sc)∧w'.cell? ⟨p,0,Y⟩=Z (.int X v.most)∧w'.cell? ⟨p,3,Y⟩=Z (.map (Z b))∧w'.cell? ⟨p,4,Y⟩=Z (.pointer (Z ⟨bt,0,Y⟩))) (go_keep) (fail)
  go_wp2_with fail
  go_region_held3(fun w'=>w'.cell? ⟨w.heap.size,0,Y⟩=Z (.int X o.id)∧w'.cell? ⟨w.heap.size,1,Y⟩=Z (.int X o.item)∧w'.cell? ⟨w.heap.size,2,Y⟩=Z (.int X o.qty)∧w'.cell? ⟨w.heap.size,3,Y⟩=Z (.int X o.client)∧w'.cell? ⟨w.heap.size,4,Y⟩=Z (.int X o.price)∧w'.cell? ⟨w.heap.size,5,Y⟩=Z (.slice sa o.steps.length sc)∧w'.cell? ⟨p,0,Y⟩=Z (.int X v.most)∧w'.cell? ⟨p,3,Y⟩=Z (.map (Z b))∧w'.cell? ⟨p,4,Y⟩=Z (.pointer (Z ⟨bt,0,Y⟩))) (go_keep) (first
   |(go_at_call 56;refine(UW.out _ (bel_d (bel_d HB.out))).mono ?_;clear UW;rintro e u3 ⟨rfl,hb⟩;clear b0 b1 b2 b3 b4 b5 p0 p3 p4;obtain⟨⟨b0,b1,b2,b3,b4,b5⟩,p0,p3,p4⟩:=CU.out _ hb;clear HB hL;have HB:=hide hb;clear hb))
  go_wp2_with(first
   |(go_at_call 58;refine(EO2.out _ HB.out).mono ?_;clear EO2;rintro e u4 ⟨ra,n,rc,rfl,h5⟩;clear b0 b1 b2 b3 b4 b5 p0 p3 p4;have M2:=h5;clear h5)
   |(go_at_call 57;refine M2.mono ?_;clear M2;rintro e u4 ⟨rfl,h6⟩;have HX:=hide h6;clear h6))
  go_ret2
  exact⟨_,rfl,HX.out⟩
end
end Go.Proofs.YthfgmpooehkhgaaGreatDoor
namespace Go.Proofs.YthfgmpooehkhgaaGreatDoor
open Go.RowKit Sg Bl
def noK:Lk:=⟨⟨0,0,0,0,0,[]⟩,fa00,none⟩
def lkD(v:Ch)(id:Int):Lk:=(v.L id).getD noK
def stD(v:Ch)(R:Int→Bool)(id:Int):Int:=if stC v id=0∧R id=true then 8 else stC v id
def upR(R:Int→Bool)(i:Int)(b:Bool):Int→Bool:=fun x=>if x=i then b else R x
theorem upR_same(R:Int→Bool)(i:Int)(b:Bool):upR R i b i=b:=by simp[upR]
theorem upR_other(R:Int→Bool){i x:Int}(b:Bool)(h:x≠i):upR R i b x=R x:=by simp[upR,h]
def subR(R:Int→Bool)(e id:Int):Int→Bool:=if e=0 then upR R id false else if(e≠10∧e≠8)∧(1≤id∧id≤999)then upR R id true else R
def IdR(R:Int→Bool):Prop:=∀x,R x=true→1≤x∧x≤999
theorem IdR.none:IdR (fun _=>false):=fun _ h=>by cases h
theorem IdR.sub{R:Int→Bool}(h:IdR R)(e id:Int):IdR (subR R e id):=by
 intro x hx
 unfold subR at hx
 split at hx
 ·by_cases e1:x=id
  ·subst e1;rw[upR_same]at hx;cases hx
  ·rw[upR_other _ _ e1]at hx;exact h x hx
 ·split at hx
  ·rename_i h2;by_cases e1:x=id
   ·subst e1;exact h2.2
   ·rw[upR_other _ _ e1]at hx;exact h x hx
  ·exact h x hx
def truN(l:List Bool):Nat:=(l.filter (fun b=>b)).length
theorem truN_snoc(l:List Bool)(b:Bool):truN (l++ [b])=truN l+(if b=true then 1 else 0):=by
 unfold truN
 rw[List.filter_append,List.length_append]
 cases b<;>rfl
theorem truN_le(l:List Bool):truN l≤l.length:=List.length_filter_le _ _
def shrL(l:List Bool):List UInt8:=Lib.itoa (truN l)++ [47]++Lib.itoa l.length
def whoL(a b:Bool):List UInt8:=(if a=true then[32,115,116,111,99,107]else[])++(if b=true then[32,112,117,114,115,101]else[])
def wrdL(s:Int)(f:Fa):List UInt8:=
 if s=1 then[102,111,114,119,97,114,100,32]++shrL f.dn
 else if s=2 then[112,114,101,112,97,114,105,110,103]
 else if s=3 then[99,111,109,109,105,116,116,101,100]
 else if s=4 then[117,110,100,111,105,110,103,32]++shrL f.un
 else if s=5 then[115,104,105,112,112,101,100]
 else if s=6 then[97,98,111,114,116,101,100]
 else if s=7 then[100,97,109,97,103,101,100]++whoL f.d0 f.d1
 else if s=8 then[114,101,106,101,99,116,101,100]
 else[]
def telL(v:Ch)(R:Int→Bool)(id:Int):List UInt8:=if wrdL (stD v R id) (lkD v id).f = []then[]else Lib.itoa id++ [58,32]++wrdL (stD v R id) (lkD v id).f
def txB(l:List UInt8):ByteArray:=⟨l.toArray⟩
theorem txB_app(a b:List UInt8):txB a++txB b=txB (a++b):=by
 apply ByteArray.ext
 show(txB a++txB b).data =_
 rw[ByteArray.data_append]
 show a.toArray++b.toArray=(a++b).toArray
 simp
theorem txB_eq(a b:List UInt8):((txB a).toList ==(txB b).toList)=decide (a=b):=by
 rw[ByteArray.toList_eq,ByteArray.toList_eq]
 show(a==b)=_
 by_cases h:a=b
 ·subst h;simp
 ·simp[h]
theorem txB_len(a:List UInt8):(txB a).size =a.length:=by simp[txB,ByteArray.size]
theorem itoa_one{n:Int}(h0:0≤n)(h1:n<10):Lib.itoa n= [UInt8.ofNat (48+n.toNat)]:=by
 unfold Lib.itoa
 rw[if_neg (by omega),Lib.decDigits,dif_pos (by omega)]
def opn1(v:Ch)(x:Int×Int):Bool:=x.2 != 8&& !overF (lkD v x.1).o (lkD v x.1).f
def opnD(v:Ch)(l:List (Int×Int)):Nat:=(l.filter (opn1 v)).length
theorem opnD_snoc(v:Ch)(l:List (Int×Int))(x:Int×Int):opnD v (l++ [x])=opnD v l+(if opn1 v x=true then 1 else 0):=by
 unfold opnD
 rw[List.filter_append,List.length_append]
 cases h:opn1 v x<;>simp[h]
def allF(f:Int→Int)(n:Nat):List (Int×Int):=((List.range n).map (fun i:Nat=>((i:Int),f i))).filter (fun x=>x.2 != 0)
theorem allF_succ(f:Int→Int)(n:Nat):allF f (n+1)=allF f n++(if f n=0 then[]else[((n:Int),f n)]):=by
 unfold allF
 rw[List.range_succ,List.map_append,List.filter_append]
 congr 1
 by_cases h:f (n:Int)=0
 ·rw[if_pos h];simp[h]
 ·rw[if_neg h];simp[h]
theorem allF_pre(f:Int→Int){i j:Nat}(h:i≤j):allF f i<+:allF f j:=by
 induction j with
 |zero=>obtain rfl:i=0:=by omega
        exact List.prefix_refl _
 |succ j ih=>
  by_cases e:i=j+1
  ·subst e;exact List.prefix_refl _
  ·rw[allF_succ];exact(ih (by omega)).trans (List.prefix_append _ _)
theorem allF_mem{f:Int→Int}{n:Nat}{x:Int×Int}(h:x∈allF f n):∃i:Nat,i<n∧x=((i:Int),f i)∧f i≠0:=by
 unfold allF at h
 rw[List.mem_filter,List.mem_map]at h
 obtain⟨⟨i,h1,rfl⟩,h2⟩:=h
 exact⟨i,List.mem_range.1 h1,rfl,by simpa using h2⟩
theorem allF_len(f:Int→Int)(n:Nat):(allF f n).length ≤n:=by
 unfold allF
 refine Nat.le_trans (List.length_filter_le _ _) ?_
 simp
def ltO(x:Int):Od:=⟨x,0,1,0,1,[]⟩
section
variable {M:Int}{L:Int→Option Lk}{n:Nat}{v:Ch}
end
structure Mx (n:Nat) (f:Fa):Prop where
 n3:n≤3
 dl:f.dn.length=n
 ul:f.un.length=n
 d:decF f=true
 dn:donF f=true
 un:undF f=true
 ask:f.asked=true→f.turned=false→allB f.dn=true
section
variable {n:Nat}{f:Fa}
end
def hgC(v:Ch)(id:Int):Ch:=setH v (hangH v.t v.h id)
def wkC(v:Ch)(id:Int):Ch:=match v.L id with
 |none=>v
 |some l=>if overF l.o l.f=true then v else hgC (if l.wt=true then sgS v l 5 []else v) id
def rvC(v:Ch):Ch:=⟨v.most,v.room,v.t,v.T,v.T.length,false,runT v.T,fun _=>0⟩
def upC(v:Ch):Ch:=if v.down=true then(idsC (runT v.T)).foldl wkC (rvC v)else v
def rvN(v:Ch)(n:Nat):Ch:=⟨v.most,v.room,v.t,v.T,v.T.length,false,runT (v.T.take n),fun _=>0⟩
theorem rvN_all(v:Ch):rvN v v.T.length=rvC v:=by
 unfold rvN rvC
 rw[List.take_length]
theorem rvN_step{v:Ch}{n:Nat}{e:Et}(h:v.T[n]?=some e):(rvN v (n+1)).L =fol (rvN v n).L e:=by
 obtain⟨hlt,he⟩:=List.getElem?_eq_some_iff.1 h
 show runT (v.T.take (n+1))=fol (runT (v.T.take n)) e
 unfold runT
 rw[List.take_succ_eq_append_getElem hlt,List.foldl_append,he]
 rfl
theorem rvN_fit{v:Ch}(g:GoodCh v){n:Nat}{e:Et}(h:v.T[n]?=some e):FitE (rvN v n).L e∧GoodM (rvN v n).L :=by
 obtain⟨hlt,he⟩:=List.getElem?_eq_some_iff.1 h
 have h1:=fits_take g.ok (n+1)
 rw[List.take_succ_eq_append_getElem hlt,he]at h1
 obtain⟨h2,h3⟩:=fits_app.1 h1
 exact⟨h3.1,noL_good.fols h2⟩
theorem rvC_good{v:Ch}(g:GoodCh v):GoodCh (rvC v):=
 ⟨g.m1,g.m2,g.r1,g.r2,g.len,Nat.le_refl _,g.ok,(fun e=>by cases e),fun _=>rfl,noL_good.fols g.ok,fun id e=>absurd rfl e⟩
end Go.Proofs.YthfgmpooehkhgaaGreatDoor
namespace Go.Proofs.YthfgmpooehkhgaaGreatDoor
open Go.ChangeShapes Go.WideShapes Go.ChangeAt Go.RowKit Go.Maps Sg Bl
open Below renaming refl→zF
open Option renaming some→Z,none→Y
section
variable {B:Nat}{S:Nat→Prop}{w:World}{a:Nat}{l:Lk}{sa:Option Addr}{sc:Nat}{da:Option Addr}{dc:Nat}{ua:Option Addr}{uc:Nat}{tp:Option Nat}
theorem lfollow_any2(k:LdV B S w a l sa sc da dc ua uc tp){id':Int}(g:GoodL id' l)(hS:∀i,S i→i<w.heap.size){kk:Nat}{n:List Int}(hk:kk≤10)(h0:kk≠0)(f:FitL l kk n)(id:Int){na:Option Addr}{nc:Nat}(hn:Ints w na n)(hnS:n≠[]→∀ad,na=Z ad→¬S ad.block):
 Calls Tryz.prog 151 #[.pointer (Z ⟨a,0,Y⟩),.agg #[.string (kC kk),.int .i64 id,.slice na n.length nc]] w (LFol B S w a (folL l kk n)):=by
 obtain h|h|h|h|h|h|h|h|h|h:kk=1∨kk=2∨kk=3∨kk=4∨kk=5∨kk=6∨kk=7∨kk=8∨kk=9∨kk=10:=by omega
 all_goals subst h
 ·obtain⟨h1,i,x,y,rfl⟩:=f.step rfl;obtain⟨b,o,rfl,hc⟩:=ints_at hn;exact lfol1 k h1 g.dl g.ul id i x y b o nc (hc 1 x rfl) (hc 2 y rfl) (hnS (by simp) _ rfl) hS
 ·obtain⟨i,rfl,hi⟩:=f.done rfl;obtain⟨b,o,rfl,hc⟩:=ints_at hn;exact lfol2 k id i hi b o nc (hc 0 _ rfl)
 ·obtain rfl:=f.none (.inl rfl);exact lfol3 k id na nc
 ·obtain rfl:=f.none (.inr (.inl rfl));exact lfol4 k id na nc
 ·obtain rfl:=f.none (.inr (.inr (.inl rfl)));exact lfol5 k id na nc
 ·obtain⟨i,rfl,hi⟩:=f.undone rfl;obtain⟨b,o,rfl,hc⟩:=ints_at hn;exact lfol6 k id i hi b o nc (hc 0 _ rfl)
 ·rcases f.node (.inl rfl)with rfl|rfl
  ·obtain⟨b,o,rfl,hc⟩:=ints_at hn;exact lfol7_1 k id b o nc (hc 0 _ rfl) (hnS (by simp) _ rfl)
  ·obtain⟨b,o,rfl,hc⟩:=ints_at hn;exact lfol7_2 k id b o nc (hc 0 _ rfl) (hnS (by simp) _ rfl)
 ·rcases f.node (.inr rfl)with rfl|rfl
  ·obtain⟨b,o,rfl,hc⟩:=ints_at hn;exact lfol8_1 k id b o nc (hc 0 _ rfl) (hnS (by simp) _ rfl)
  ·obtain⟨b,o,rfl,hc⟩:=ints_at hn;exact lfol8_2 k id b o nc (hc 0 _ rfl) (hnS (by simp) _ rfl)
 ·obtain rfl:=f.none (.inr (.inr (.inr (.inl rfl))));exact lfol9 k id na nc
 ·obtain rfl:=f.none (.inr (.inr (.inr (.inr rfl))));exact lfol10 k id na nc
end
section
variable {B:Nat}{O:Pt→Nat→Prop}{w:World}{p:Nat}{v:Ch}{q:Nat}{r:Value}{b bt:Nat}{loc:Int→Option Nat}{Lq:List ByteArray}
set_option maxRecDepth 100000 in
set_option maxHeartbeats 2000000 in
theorem cfollow_old2(k:CkV B O w p v q r b bt loc Lq)(gm:GoodM v.L){e:Et}(f:FitE v.L e)(hk0:e.k≠0){na:Option Addr}{nc:Nat}(hn:Ints w na e.n)(hnE:e.n≠[]→∀ad,na=Z ad→¬Eo O ad.block):
 Calls Tryz.prog 89 #[.pointer (Z ⟨p,0,Y⟩),.agg #[.string (kC e.k),.int .i64 e.id,.slice na e.n.length nc]] w fun x w'=>(∃y,x= .returned y)∧CStp B O w p (putL v (fol v.L e)) q b bt loc Lq w':=by
 obtain⟨l,hl,fl⟩:=f.old hk0
 obtain⟨a,ha,sa,sc,da,dc,ua,uc,tp,kl⟩:=k.ld e.id l hl
 have hfo:fol v.L e=Gd.updO v.L e.id (Z (folL l e.k e.n)):=by unfold fol;rw[if_neg hk0,hl];rfl
 rw[hfo]
 obtain⟨W,hW⟩:∃W,W=w.alloc (.cells #[.string (kC e.k),.int .i64 e.id,.slice na e.n.length nc] 104):=⟨_,rfl⟩
 have hbW:Below w.heap.size w W:=by rw[hW];exact(zF _ _).alloc (Nat.le_refl _) _
 obtain⟨b0,b1,b2⟩:=three_new w (.string (kC e.k)) (.int .i64 e.id) (.slice na e.n.length nc) 104
 rw[←hW]at b0 b1 b2
 have kW:=k.on hbW
 obtain⟨-,-,-,c3,-⟩:=kW.cell3
 have hw:=wf_id f.ok.i1 f.ok.i2
 have hb3:=k.bd
 have LF:Hid (∀u,Below W.heap.size W u→(Instr.lookup 92 (.map (Z b)) (.int .i64 e.id) false).run Tryz.prog u= .ok (.pointer (Z ⟨a,0,Y⟩)) u∧Calls Tryz.prog 151 #[.pointer (Z ⟨a,0,Y⟩),.agg #[.string (kC e.k),.int .i64 e.id,.slice na e.n.length nc]] u fun x w'=>(∃y,x= .returned y)∧CStp B O w p (putL v (Gd.updO v.L e.id (Z (folL l e.k e.n)))) q b bt loc Lq w'∧w'.cell? ⟨p,3,Y⟩=Z (.map (Z b))∧w'.cell? ⟨w.heap.size,0,Y⟩=Z (.string (kC e.k))∧w'.cell? ⟨w.heap.size,1,Y⟩=Z (.int .i64 e.id)∧w'.cell? ⟨w.heap.size,2,Y⟩=Z (.slice na e.n.length nc)):=fun u hu=>by
  have ku:=kW.on hu
  have hwu:=bel_on' hbW hu
  have hL:=ku.look hw
  rw[ha]at hL;refine⟨hL,?_⟩;refine(lfollow_any2 (kl.on hwu) (gm _ _ hl) (fun i e2=>(ku.bd _ _ e2).2) f.ok.k hk0 fl e.id (hn.below hwu) (fun hne ad e2 e3=>hnE hne ad e2 ⟨_,e3⟩)).mono ?_;rintro x w' ⟨h1,h2,h3⟩;have k2:=ku.lstep hl ha h2 h3
  have hE:Rg.Kept (fun i _=>Eo O i) w w':=(Rg.Kept.of_below hwu).trans (h3.mono (fun i _ e2=>⟨_,e2⟩))
  have nw:∀_:Obj,¬O (.ld e.id) w.heap.size:=fun _ e2=>by have:=(hb3 _ _ e2).2;omega
  refine⟨h1,⟨_,r,loc,k2,fun i e2=>st_grow hwu.size e2,hE,fun _ _ h=>h⟩,k2.cell3.2.2.2.1,kept_cellR h3 nw (cellL b0 hu),kept_cellR h3 nw (cellL b1 hu),kept_cellR h3 nw (cellL b2 hu)⟩
 have hK:=kC_begin hk0
 have hL0:=(LF.out W (zF _ _)).1
 have hL1:=(LF.out W.drew (zF _ _).drew).1
 have HW:=hide hW
 generalize kC e.k=K at *
 generalize e.id=ei at *
 generalize e.n.length=en at *
 generalize putL v (Gd.updO v.L ei (Z (folL l e.k e.n)))=v' at *
 clear k kW hbW hW f fl hl ha kl hfo hn hnE gm hw hb3
 go_enter Tryz.func89,Tryz.ntmps89
 go_wp2_with fail
 rw[←HW.out]
 go_region_held3(fun w'=>w'.cell? ⟨p,3,Y⟩=Z (.map (Z b))∧w'.cell? ⟨w.heap.size,0,Y⟩=Z (.string K)∧w'.cell? ⟨w.heap.size,1,Y⟩=Z (.int .i64 ei)∧w'.cell? ⟨w.heap.size,2,Y⟩=Z (.slice na en nc)) (go_keep) (first
  |(go_at_call 151;refine((LF.out _ (by first|exact zF _ _|exact(zF _ _).drew)).2).mono ?_;clear LF;rintro x u1 ⟨⟨y,rfl⟩,hx,h1,h2,h3,h4⟩;clear c3 b0 b1 b2;have c3:=h1;have b0:=h2;have b1:=h3;have b2:=h4;have HX:=hide hx;clear hx h1 h2 h3 h4))
 go_wp2
 go_end0
 exact⟨⟨_,rfl⟩,HX.out⟩
theorem cfollow_any2(k:CkV B O w p v q r b bt loc Lq)(gm:GoodM v.L){e:Et}(f:FitE v.L e){na:Option Addr}{nc:Nat}(hn:Ints w na e.n)(hnE:e.n≠[]→∀ad,na=Z ad→¬Eo O ad.block):
 Calls Tryz.prog 89 #[.pointer (Z ⟨p,0,Y⟩),.agg #[.string (kC e.k),.int .i64 e.id,.slice na e.n.length nc]] w fun x w'=>(∃y,x= .returned y)∧CStp B O w p (putL v (fol v.L e)) q b bt loc Lq w':=by
 by_cases hk0:e.k=0
 ·obtain⟨hno,x0,x1,x2,x3,hen⟩:=f.new hk0;have hfo:fol v.L e=Gd.updO v.L e.id (Z (newL e.id e.n)):=by unfold fol;rw[if_pos hk0]
  rw[hfo,hen,hk0];rw[hen]at hn;obtain⟨nb,no,rfl,_⟩:=ints_at hn;exact cfollow_new k gm f.ok.i1 f.ok.i2 hno hn (hnE (by rw[hen];simp) _ rfl)
 ·exact cfollow_old2 k gm f hk0 hn hnE
end
end Go.Proofs.YthfgmpooehkhgaaGreatDoor
