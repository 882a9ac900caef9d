/-
  PostOnce: the walk.
-/
import Derived.Test.YtmndemjjfhdfdaaPstL
import Derived.Test.YtmndemjjfhdfdaaMapM
import Derived.Test.YtmndemjjfhdfdaaInts
import Derived.Test.YtmndemjjfhdfdaaNum
import Derived.Deep.CutBlock
namespace Go.Proofs.Ytmndemjjfhdfdaa
open Go.ChangeShapes Go.WideShapes Go.ChangeAt Go.RowKit Go.Shelf Go.Maps

theorem put_all (M : Nat) : ∀ (l m : List Mg) (lo : Nat), m.length + l.length ≤ M → putPs ⟨M, m, lo⟩ l = ⟨M, m ++ l, lo⟩
  | [], m, lo, _ => by simp [putPs]
  | x :: l, m, lo, h => by
    have h' : m.length + (l.length + 1) ≤ M := h
    rw [putPs]
    have e : put1 ⟨M, m, lo⟩ x = ⟨M, m ++ [x], lo⟩ := if_pos (show m.length < M by omega)
    rw [e, put_all M l (m ++ [x]) lo (by rw [List.length_append, List.length_singleton]; omega), List.append_assoc]
    rfl
/-- How often each is there. -/
def cntG (L : List Mg) (s : List UInt8) : Int := ((L.map kB).count s : Nat)
theorem cntG_bd (L : List Mg) (s : List UInt8) : 0 ≤ cntG L s ∧ cntG L s ≤ L.length := by
  unfold cntG
  have := List.count_le_length (a := s) (l := L.map kB)
  rw [List.length_map] at this
  omega
theorem cntG_nil : cntG [] = fun _ => 0 := by funext s; simp [cntG]
theorem cntG_snoc (L : List Mg) (m : Mg) : cntG (L ++ [m]) = updS (cntG L) (kB m) (cntG L (kB m) + 1) := by
  funext s
  simp only [cntG, updS]
  rw [List.map_append, List.count_append, List.map_cons, List.map_nil]
  by_cases e : s = kB m
  · subst e
    rw [if_pos rfl, List.count_singleton_self]
    omega
  · rw [if_neg e]
    have : List.count s [kB m] = 0 := List.count_eq_zero.2 (by simpa using e)
    omega
theorem cntG_erase (L : List Mg) (k : Nat) (m : Mg) (h : L[k]? = some m) : cntG (L.eraseIdx k) = updS (cntG L) (kB m) (cntG L (kB m) - 1) ∧ 1 ≤ cntG L (kB m) := by
  obtain ⟨hk, e⟩ := List.getElem?_eq_some_iff.1 h
  have hL : L = L.take k ++ m :: L.drop (k + 1) := by
    rw [← e, ← List.drop_eq_getElem_cons hk, List.take_append_drop]
  have hE : L.eraseIdx k = L.take k ++ L.drop (k + 1) := List.eraseIdx_eq_take_drop_succ ..
  have key : ∀ s, cntG L s = cntG (L.eraseIdx k) s + (if s = kB m then 1 else 0) := fun s => by
    unfold cntG
    rw [hE]
    conv => lhs; rw [hL]
    rw [List.map_append, List.map_append, List.count_append, List.count_append, List.map_cons, List.count_cons]
    by_cases e2 : s = kB m
    · subst e2
      simp
      omega
    · rw [if_neg e2, if_neg (by simpa using fun h => e2 h.symm)]
      omega
  refine ⟨?_, ?_⟩
  · funext s
    unfold updS
    by_cases e2 : s = kB m
    · subst e2
      rw [if_pos rfl, key (kB m), if_pos rfl]
      omega
    · rw [if_neg e2, key s, if_neg e2]
      omega
  · have h1 := key (kB m)
    rw [if_pos rfl] at h1
    have h2 := (cntG_bd (L.eraseIdx k) (kB m)).1
    omega
theorem wf_M {a : Int} (h1 : -9223372036854775808 ≤ a) (h2 : a ≤ 9223372036854775807) : (Lit.int .i64 a).wf = true := WalkArith.wf_i64 ⟨h1, h2⟩
/-- The post and the map beside each other. -/
def On (w : World) (p b : Nat) (wr : World) (n : Nat) (L G : List Mg) : Prop :=
  ∃ E, Pt w.heap.size E wr p ⟨256, L, 0⟩ ∧ (∀ k, E k → k ≠ b) ∧ Wt wr b n (cntG G) ∧ w.heap.size ≤ b ∧ Below w.heap.size w wr
theorem On.bel {w : World} {p b : Nat} {wr : World} {n : Nat} {L G : List Mg} (h : On w p b wr n L G) : Below w.heap.size w wr := by
  obtain ⟨E, _, _, _, _, h⟩ := h
  exact h
theorem On.wt {w : World} {p b : Nat} {wr : World} {n : Nat} {L G : List Mg} (h : On w p b wr n L G) : Wt wr b n (cntG G) := by
  obtain ⟨E, _, _, h, _, _⟩ := h
  exact h
theorem On.on {w : World} {p b : Nat} {wr u : World} {n : Nat} {L G : List Mg} (h : On w p b wr n L G) (hb : Below wr.heap.size wr u) : On w p b u n L G := by
  obtain ⟨E, h1, h2, h3, h4, h5⟩ := h
  exact ⟨E, h1.on hb, h2, h3.on hb, h4, bel_on' h5 hb⟩
/-- The map has turned. -/
theorem On.turn {w : World} {p b : Nat} {wr u : World} {n n' : Nat} {L G G' : List Mg} (h : On w p b wr n L G) (hk : Rg.Kept (fun i _ => i = b) wr u) (hw : Wt u b n' (cntG G')) : On w p b u n' L G' := by
  obtain ⟨E, h1, h2, h3, h4, h5⟩ := h
  exact ⟨E, h1.kept hk (fun k _ e e2 => h2 k e e2), h2, hw, h4, h5.trans (hk.bel (Nat.le_trans h5.size (Nat.le_refl _)) (fun k _ e => by rw [e]; exact h4))⟩

theorem On.low {w : World} {p b : Nat} {wr : World} {n : Nat} {L G : List Mg} (h : On w p b wr n L G) : w.heap.size ≤ b := by
  obtain ⟨E, _, _, _, h, _⟩ := h
  exact h
theorem On.dbl {w : World} {p b : Nat} {wr : World} {n : Nat} {L G : List Mg} (h : On w p b wr n L G) {i : Nat} {m : Mg} (hl : L.length < 256) (hi : L[i]? = some m) :
    Calls Try.prog 16 #[.pointer (some ⟨p, 0, none⟩), .int .i64 i] wr fun e w' => e = .returned (.bool true) ∧ On w p b w' n (L ++ [m]) G := by
  obtain ⟨E, h1, h2, h3, h4, h5⟩ := h
  refine (tdbl_any h1 i).mono ?_
  have hlt := (List.getElem?_eq_some_iff.1 hi).1
  have hin : inP L i = true := inP_nat hlt
  have hd : dblPs ⟨256, L, 0⟩ i = ⟨256, L ++ [m], 0⟩ := by
    unfold dblPs
    rw [if_pos hin, atPs_nat hi]
    exact if_pos hl
  rw [hd]
  rintro e w' ⟨rfl, k1, k2⟩
  have hb := h3.lt
  refine ⟨by rw [hin], _, k1, fun k e => ?_, h3.kept k2 (fun _ e => h2 b e rfl), h4, h5.trans (h1.bel k2)⟩
  rcases e with e | e
  · exact h2 k e
  · omega
theorem On.tak {w : World} {p b : Nat} {wr : World} {n : Nat} {L G : List Mg} (h : On w p b wr n L G) {i : Nat} {m : Mg} (hi : L[i]? = some m) :
    Calls Try.prog 14 #[.pointer (some ⟨p, 0, none⟩), .int .i64 i] wr fun e w' => e = .returned (.tuple #[.agg #[.int .i64 m.k, .int .i64 m.fr, .int .i64 m.to, .int .i64 m.id, .int .i64 m.st, .int .i64 m.a, .int .i64 m.b], .bool true]) ∧ On w p b w' n (L.eraseIdx i) G := by
  obtain ⟨E, h1, h2, h3, h4, h5⟩ := h
  refine (ttake_any h1 i).mono ?_
  have hlt := (List.getElem?_eq_some_iff.1 hi).1
  have hin : inP L i = true := inP_nat hlt
  have hd : takPs ⟨256, L, 0⟩ i = ⟨256, L.eraseIdx i, 0⟩ := by
    unfold takPs
    rw [if_pos hin]
    rfl
  rw [hd]
  rintro e w' ⟨rfl, k1, k2⟩
  exact ⟨by rw [hin, atPs_nat hi], E, k1, h2, h3.kept k2 (fun _ e => h2 b e rfl), h4, h5.trans (h1.bel k2)⟩

theorem On.len {w : World} {p b : Nat} {wr : World} {n : Nat} {L G : List Mg} (h : On w p b wr n L G) : Calls Try.prog 20 #[.pointer (some ⟨p, 0, none⟩)] wr fun e w' => e = .returned (.int .i64 L.length) ∧ wr = w' := by
  obtain ⟨E, h1, _⟩ := h
  exact tlen_any h1
theorem On.nothing {w : World} {p b : Nat} {wr : World} {n : Nat} {G : List Mg} (h : On w p b wr n [] G) : Calls Try.prog 14 #[.pointer (some ⟨p, 0, none⟩), .int .i64 0] wr fun e w' => e = .returned (.tuple #[.agg #[.int .i64 zeroM.k, .int .i64 zeroM.fr, .int .i64 zeroM.to, .int .i64 zeroM.id, .int .i64 zeroM.st, .int .i64 zeroM.a, .int .i64 zeroM.b], .bool false]) ∧ On w p b w' n [] G := by
  obtain ⟨E, h1, h2, h3, h4, h5⟩ := h
  refine (ttake_any h1 0).mono ?_
  rintro e w' ⟨rfl, k1, k2⟩
  exact ⟨rfl, E, k1, h2, h3.kept k2 (fun _ e => h2 b e rfl), h4, h5.trans (h1.bel k2)⟩
theorem On.lost {w : World} {p b : Nat} {wr : World} {n : Nat} {L G : List Mg} (h : On w p b wr n L G) : Calls Try.prog 21 #[.pointer (some ⟨p, 0, none⟩)] wr fun e w' => e = .returned (.int .i64 0) ∧ wr = w' := by
  obtain ⟨E, h1, _⟩ := h
  exact tlost_any h1
/-- A step of a range over a map of noughts. -/
theorem next_nul {w : World} {b r n : Nat} {D : DataW Unit} {left : Lit → Bool} {cnt : Nat} {ops : Array Oper} {rest : List Oper} {o : Oper} {a : Act} {Q : Exit → Act → World → Prop} (hg : o.guard = none) (it : Operand) (hop : o.op = Op.next it false) (hit : a.eval it = .pointer (some ⟨r, 0, none⟩))
    (h : w.ranges Try.prog 35 (plainElem Try.prog 3) b r n D left cnt) (hD : ∀ s, D.atKey (.string s) (.lit (.int .i64 0)) = .lit (.int .i64 0))
    (hDone : cnt = 0 → wpList Try.prog ops Q rest (a.put o.dst (.tuple #[.bool false])) w)
    (hMore : ∀ (x : Value) (w' : World) (left' : Lit → Bool) (cnt' : Nat), w'.ranges Try.prog 35 (plainElem Try.prog 3) b r n D left' cnt' → w'.rangeLeft b r < w.rangeLeft b r → w.grownBy w' (some r) →
      (Instr.entry (.pointer (some ⟨r, 0, none⟩))).run Try.prog w' = .ok (.tuple #[x, .int .i64 0]) w' → wpList Try.prog ops Q rest (a.put o.dst (.tuple #[.bool true, x, .int .i64 0])) w') :
    wpList Try.prog ops Q (o :: rest) a w := by
  refine wpList_next_ranges w hg it hop 35 lawM (plainElem Try.prog 3) (fun x : Value => x) (Value.int .i64) (fun key _ _ => ⟨key, rfl⟩) (fun v y e => by obtain ⟨c, hc, _⟩ := plainElem_int_inv Try.underlying3 e; exact ⟨c, hc⟩) b r n D left cnt hit h (fun h0 _ => hDone h0) ?_
  intro x c kl y w' cnt' hkey hlk hv hat hrg hlt hgr hsz hen
  obtain ⟨s, rfl⟩ := lawM0.str hkey
  obtain ⟨c', ec, rfl, _⟩ := plainElem_int_inv Try.underlying3 hv
  cases ec
  have h0 := hat (.lit (.int .i64 0))
  rw [hD s] at h0
  cases h0
  exact hMore x w' _ cnt' hrg (by rw [hrg.left_eq, h.left_eq]; exact hlt) hgr hen

set_option maxRecDepth 100000 in
set_option maxHeartbeats 4000000 in
theorem postOnce_walk (l0 : List Mg) (a0 : Option Addr) (cap0 : Nat) (a1 : Option Addr) (len1 cap1 : Nat) (z1 : List Int) (a2 : Option Addr) (len2 cap2 : Nat) (z2 : List Int) (w : World) (w0 : MsIn w l0 a0 cap0) (w1 : IsRow .i64 w a1 len1 cap1 z1) (w2 : IsRow .i64 w a2 len2 cap2 z2) :
    Calls Try.prog 5 #[.slice a0 l0.length cap0, .slice a1 len1 cap1, .slice a2 len2 cap2] w fun e w' => e = .returned (.bool true) ∧ Below w.heap.size w w' := by
  obtain ⟨l1, rfl, hlen1, hin1⟩ := w1.ints
  obtain ⟨l2, rfl, hlen2, hin2⟩ := w2.ints
  clear w1 w2
  obtain ⟨hlen, hM, hnone, hcap, hok⟩ := w0
  have HI1 := hide hin1
  have HI2 := hide hin2
  have HM := hide hM
  have HOK := hide hok
  have HW := hide tawake_any
  obtain ⟨n, hn⟩ : ∃ n, l0.length = n := ⟨_, rfl⟩
  have HN := hide hn
  rw [hn] at hlen hcap ⊢
  clear hM hok hin1 hin2 hnone hn
  obtain ⟨m1, hm1⟩ : ∃ m1, l1.length = m1 := ⟨_, rfl⟩
  have HL1 := hide hm1
  rw [hm1] at hlen1 ⊢
  obtain ⟨m2, hm2⟩ : ∃ m2, l2.length = m2 := ⟨_, rfl⟩
  have HL2 := hide hm2
  rw [hm2] at hlen2 ⊢
  clear hm1 hm2
  by_cases h100 : (n : Int) > 100
  · go_enter Try.func5, Try.ntmps5
    go_wp2_with (go_at_call 9; refine (HW.out _).mono ?_; rintro e u6 ⟨rfl, b6⟩; have HB6 := hide b6; clear b6)
    go_ret
    exact ⟨rfl, HB6.out⟩
  by_cases h60 : (m1 : Int) > 60
  · go_enter Try.func5, Try.ntmps5
    go_wp2_with (go_at_call 9; refine (HW.out _).mono ?_; rintro e u6 ⟨rfl, b6⟩; have HB6 := hide b6; clear b6)
    go_ret
    exact ⟨rfl, HB6.out⟩
  have HNW := tnew_any 256 w
  rw [show newPs 256 = ⟨256, [], 0⟩ from rfl] at HNW
  have hmm := @run_makeMap Try.prog
  go_enter Try.func5, Try.ntmps5
  go_wp2_with fail
  refine HNW.mono ?_
  rintro e u1 ⟨rfl, k1, b1⟩
  have HB1 := hide b1
  have P2 := tput_any (c := cap0) k1 (HM.out.below b1) (fun h ad e he => by have := HM.out.lt h ad e; omega) (by have := HN.out; omega)
  rw [put_all 256 l0 [] 0 (by have := HN.out; simp; omega), List.nil_append, HN.out] at P2
  have HK1 := hide k1
  clear HNW k1 b1
  go_wp2_with fail
  refine P2.mono ?_
  rintro e u2 ⟨rfl, k2, o2⟩
  have HO : Hid (On w w.heap.size u2.heap.size (u2.alloc (.map #[] 0)) 0 l0 []) := by
    have hb2 := HB1.out.trans (HK1.out.bel o2)
    refine ⟨_, k2.on (bel_al (Below.refl _ _) _), fun k e e2 => ?_, ?_, hb2.size, bel_al hb2 _⟩
    · have := (k2.1 k e).2
      omega
    · rw [cntG_nil]
      exact Wt.new u2
  clear P2 k2 o2 HK1 HB1
  go_wp2_with fail
  obtain ⟨p, hp⟩ : ∃ p, w.heap.size = p := ⟨_, rfl⟩
  obtain ⟨b, hb⟩ : ∃ b, u2.heap.size = b := ⟨_, rfl⟩
  obtain ⟨U3, hU3⟩ : ∃ U, u2.alloc (.map #[] 0) = U := ⟨_, rfl⟩
  rw [hU3, hb, show On w w.heap.size b U3 0 l0 [] = On w p b U3 0 l0 [] by rw [hp]] at HO
  rw [hp, hb, hU3]
  clear hU3 hb hp
  go_loopw [39] (fun i wr => ∃ j : Nat, i = .int .i64 j ∧ j ≤ n ∧ Hid (On w p b wr j l0 (l0.take j))) (fun i _ => n - (intOf i).toNat)
  case atStart => exact ⟨0, rfl, Nat.zero_le _, HO⟩
  case round =>
    obtain ⟨j, rfl, hj, HO1⟩ := hrel
    clear HO
    by_cases hlt : j < n
    · have hq : (j : Int) < (n : Int) := by omega
      have hkl : j < l0.length := by have := HN.out; omega
      obtain ⟨m, hmj⟩ : ∃ m, l0[j]? = some m := ⟨_, List.getElem?_eq_getElem hkl⟩
      obtain ⟨ba, oa, rfl, p0, p1, p2, p3, p4, p5, p6⟩ := (HM.out.below HO1.out.bel).get hmj
      have hokm : okM m := HOK.out m (List.mem_of_getElem? hmj)
      have HT : Hid (l0.take (j + 1) = l0.take j ++ [m]) := by
        show _ = _
        obtain ⟨h1, h2⟩ := List.getElem?_eq_some_iff.1 hmj
        rw [List.take_succ_eq_append_getElem h1, h2]
      obtain ⟨V, hV⟩ : ∃ V, wr.alloc (.cells #[.int .i64 m.k, .int .i64 m.fr, .int .i64 m.to, .int .i64 m.id, .int .i64 m.st, .int .i64 m.a, .int .i64 m.b] 35) = V := ⟨_, rfl⟩
      have hbV : Below wr.heap.size wr V := by rw [← hV]; exact bel_al (Below.refl _ _) _
      have hxV : V.heap[wr.heap.size]? = some (.cells #[.int .i64 m.k, .int .i64 m.fr, .int .i64 m.to, .int .i64 m.id, .int .i64 m.st, .int .i64 m.a, .int .i64 m.b] 35 (0, 0)) := by rw [← hV]; exact World.alloc_heap_new _ _
      have HOV := hide ((HO1.out.on hbV).on (Below.refl _ _).drew)
      have hne : b ≠ wr.heap.size := by have := HO1.out.wt.lt; omega
      have hbd := cntG_bd (l0.take j) (kB m)
      have hsn := cntG_snoc (l0.take j) m
      rw [← HT.out] at hsn
      have hlk := HOV.out.wt.look hokm
      obtain ⟨c, hc⟩ : ∃ c, cntG (l0.take j) (kB m) = c := ⟨_, rfl⟩
      have hc2 : 0 ≤ c ∧ c ≤ 100 := by rw [← hc]; refine ⟨hbd.1, ?_⟩; have h1 := hbd.2; rw [List.length_take] at h1; omega
      obtain ⟨v0, st, w1, w2, hme, hl1, hst, wt2, kk1, kk2⟩ := HOV.out.wt.entry hokm (v := c + 1) (wf_M (by omega) (by omega)) (by omega)
      rw [hc] at hlk hl1 hsn
      rw [← hsn] at wt2
      have HO2 := hide (HOV.out.turn kk2 wt2)
      have hx1 := kk1.block _ _ (show V.drew.heap[wr.heap.size]? = _ from hxV) (fun e => hne e.symm)
      obtain ⟨z0, z1, z2, z3, z4, z5, z6⟩ := box7 hxV
      obtain ⟨y0, y1, y2, y3, y4, y5, y6⟩ := box7 hx1
      have hc1 := hc2.1
      have hc3 := hc2.2
      clear hx1 kk1 kk2 wt2 hsn hc hc2 hbd hxV hbV hmj hkl hokm hne HOV
      go_upto_region 9 with fail
      go_region
      all_goals go_wp2
      all_goals go_roundw
      all_goals first | exact ⟨j + 1, by go_num, by omega, HO2⟩ | (simp [intOf]; omega)
    · have hq : ¬ (j : Int) < (n : Int) := by omega
      obtain rfl : j = n := by omega
      have HO2 : Hid (On w p b wr j l0 l0) := by
        have := HO1.out
        rwa [List.take_of_length_le (by have := HN.out; omega)] at this
      clear HO1
      go_upto_block 2 with fail
      go_cut [12, 13] from 52 to 79 (fun _ _ wx => ∃ (t : Nat) (ds : List Mg), ds.length = t ∧ t ≤ 60 ∧ Hid (∀ x ∈ ds, okM x) ∧ Hid (On w p b wx (j + t) (l0 ++ ds) (l0 ++ ds)))
      case first =>
        go_wp2_with fail
        go_loopw [52] (fun i wr => ∃ (t : Nat) (ds : List Mg), i = .int .i64 t ∧ t ≤ m1 ∧ ds.length = t ∧ Hid (∀ x ∈ ds, okM x) ∧ Hid (On w p b wr (j + t) (l0 ++ ds) (l0 ++ ds))) (fun i _ => m1 - (intOf i).toNat)
        case atStart => exact ⟨0, [], rfl, Nat.zero_le _, rfl, (fun x h => by cases h), by rw [List.append_nil]; exact HO2⟩
        case round =>
          obtain ⟨t, ds, rfl, ht, hds, HOD, HO3⟩ := hrel
          clear HO2
          by_cases htl : t < m1
          rotate_left
          · have hq2 : ¬ (t : Int) < (m1 : Int) := by omega
            go_wp2_with fail
            go_meet
            exact ⟨t, ds, hds, by omega, HOD, HO3⟩
          have hq2 : (t : Int) < (m1 : Int) := by omega
          have HDS := hide hds
          obtain ⟨b1, o1, rfl, hc1⟩ : ∃ b1 o1, a1 = some ⟨b1, o1, none⟩ ∧ ∀ i, i < l1.length → wr.cell? ⟨b1, o1 + i, none⟩ = some (.int .i64 (l1.getD i 0)) := by
            rcases HI1.out.below HO3.out.bel with h | ⟨b1, o1, h1, h2⟩
            · have := HL1.out; rw [h] at this; simp at this; omega
            · exact ⟨b1, o1, h1, h2⟩
          have hd := hc1 t (by have := HL1.out; omega)
          obtain ⟨d, hdd⟩ : ∃ d, l1.getD t 0 = d := ⟨_, rfl⟩
          rw [hdd] at hd
          clear hc1 hdd hds
          by_cases hj0 : j = 0
          · have q00 : ((j : Int) == 0) = true := by simp [hj0]
            have HJ0 := hide hj0
            clear hj0
            go_wp2_with fail
            go_meet
            exact ⟨t, ds, HDS.out, by omega, HOD, HO3⟩
          have q00 : ((j : Int) == 0) = false := by simp only [beq_eq_false_iff_ne]; omega
          obtain ⟨e1, e2⟩ := um_bd d j (by omega) (by omega)
          obtain ⟨R, hR⟩ : ∃ R, um d j = R := ⟨_, rfl⟩
          rw [hR] at e1 e2
          unfold um at hR
          obtain ⟨i, rfl⟩ : ∃ i : Nat, R = i := ⟨R.toNat, by omega⟩
          have hil : i < l0.length := by have := HN.out; omega
          obtain ⟨m, hmi⟩ : ∃ m, l0[i]? = some m := ⟨_, List.getElem?_eq_getElem hil⟩
          have hokm : okM m := HOK.out m (List.mem_of_getElem? hmi)
          have D := HO3.out.dbl (i := i) (m := m) (by rw [List.length_append, HN.out, HDS.out]; omega) (by rw [List.getElem?_append_left hil]; exact hmi)
          have HMI := hide hmi
          have HOKM := hide hokm
          have qi : (i : Int) < (j : Int) := by omega
          clear hmi hil hokm
          go_wp2_with fail
          refine D.mono ?_
          clear D
          rintro e v3 ⟨rfl, hO4⟩
          have HOV := hide (hO4.on (Below.refl _ _).drew)
          obtain ⟨ba, oa, rfl, p0, p1, p2, p3, p4, p5, p6⟩ := (HM.out.below hO4.bel).get HMI.out
          have hba : ba < w.heap.size := HM.out.lt (fun h => by have := HMI.out; rw [h] at this; simp at this) _ rfl
          have hbb : ba ≠ b := by have := hO4.low; omega
          have hbd := cntG_bd (l0 ++ ds) (kB m)
          have hsn := cntG_snoc (l0 ++ ds) m
          have hlk := HOV.out.wt.look HOKM.out
          obtain ⟨c, hc⟩ : ∃ c, cntG (l0 ++ ds) (kB m) = c := ⟨_, rfl⟩
          have hc2 : 0 ≤ c ∧ c ≤ 200 := by rw [← hc]; refine ⟨hbd.1, ?_⟩; have h1 := hbd.2; rw [List.length_append, HN.out, HDS.out] at h1; omega
          obtain ⟨v0, st, w1, w2, hme, hl1, hst, wt2, kk1, kk2⟩ := HOV.out.wt.entry HOKM.out (v := c + 1) (wf_M (by omega) (by omega)) (by omega)
          rw [hc] at hlk hl1 hsn
          rw [← hsn, List.append_assoc] at wt2
          have HO5 : Hid (On w p b w2 (j + (t + 1)) (l0 ++ (ds ++ [m])) (l0 ++ (ds ++ [m]))) := by
            have := HOV.out.turn kk2 wt2
            rwa [List.append_assoc] at this
          have ck : ∀ {ad : Addr} {u : Value}, v3.cell? ad = some u → ad.block = ba → w1.cell? ad = some u := fun {ad u} h1 h2 => cell_kept kk1 (show v3.drew.cell? ad = some u from h1) (fun _ e => hbb (h2.symm.trans e))
          have y0 := ck p0 rfl
          have y1 := ck p1 rfl
          have y2 := ck p2 rfl
          have y3 := ck p3 rfl
          have y4 := ck p4 rfl
          have y5 := ck p5 rfl
          have y6 := ck p6 rfl
          have hc1 := hc2.1
          have hc3 := hc2.2
          have HDS2 : Hid (∀ x ∈ ds ++ [m], okM x) := fun x hx => by
            rcases List.mem_append.1 hx with hx | hx
            · exact HOD.out x hx
            · rw [List.mem_singleton.1 hx]; exact HOKM.out
          clear ck kk1 kk2 wt2 hsn hc hc2 hbd hO4 HOV hba hbb
          go_upto_region 18 with fail
          go_region
          all_goals go_wp2
          all_goals go_roundw
          all_goals first | exact ⟨t + 1, ds ++ [m], by go_num, by omega, by rw [List.length_append, HDS.out]; rfl, HDS2, HO5⟩ | (simp [intOf]; omega)
      case rest =>
        obtain ⟨t, ds, hds, ht, HOD, HO3⟩ := hcut
        clear HO2
        obtain ⟨L0, hL0⟩ : ∃ L0, l0 ++ ds = L0 := ⟨_, rfl⟩
        have HOL0 : Hid (∀ x ∈ L0, okM x) := fun x hx => by
          rw [← hL0] at hx
          rcases List.mem_append.1 hx with hx | hx
          · exact HOK.out x hx
          · exact HOD.out x hx
        obtain ⟨N, hN⟩ : ∃ N, j + t = N := ⟨_, rfl⟩
        have HLN0 : Hid (L0.length = N) := by show _ = _; rw [← hL0, List.length_append, HN.out, hds]; omega
        have hN160 : N ≤ 160 := by omega
        rw [hL0, hN] at HO3
        have LN := HO3.out.len
        rw [HLN0.out] at LN
        clear hL0 hN hds HOD
        go_wp2_with fail
        refine LN.mono ?_
        clear LN
        rintro e v ⟨rfl, rfl⟩
        go_wp2_with fail
        go_loopw [83] (fun i wr => ∃ (i' : Nat) (L : List Mg), i = .int .i64 i' ∧ i' ≤ N ∧ L.length + i' = N ∧ Hid (∀ x ∈ L, okM x) ∧ Hid (On w p b wr (N + i') L L)) (fun i _ => N - (intOf i).toNat)
        case atStart => exact ⟨0, L0, rfl, Nat.zero_le _, HLN0.out, HOL0, HO3⟩
        case round =>
          obtain ⟨i, L, rfl, hi, hLi, HOL, HO4⟩ := hrel
          clear HO3 HOL0 HLN0
          have HLI := hide hLi
          clear hLi
          by_cases hlt2 : i < N
          · have hq3 : (i : Int) < (N : Int) := by omega
            by_cases hm2 : i < m2
            · have hq4 : (i : Int) < (m2 : Int) := by omega
              obtain ⟨b1, o1, rfl, hc1⟩ : ∃ b1 o1, a2 = some ⟨b1, o1, none⟩ ∧ ∀ i, i < l2.length → wr.cell? ⟨b1, o1 + i, none⟩ = some (.int .i64 (l2.getD i 0)) := by
                rcases HI2.out.below HO4.out.bel with h | ⟨b1, o1, h1, h2⟩
                · have := HL2.out; rw [h] at this; simp at this; omega
                · exact ⟨b1, o1, h1, h2⟩
              have hd := hc1 i (by have := HL2.out; omega)
              obtain ⟨d, hdd⟩ : ∃ d, l2.getD i 0 = d := ⟨_, rfl⟩
              rw [hdd] at hd
              clear hc1 hdd
              obtain ⟨e1, e2⟩ := um_bd d ((N : Int) - (i : Int)) (by omega) (by omega)
              obtain ⟨R, hR⟩ : ∃ R, um d ((N : Int) - (i : Int)) = R := ⟨_, rfl⟩
              rw [hR] at e1 e2
              unfold um at hR
              obtain ⟨k, rfl⟩ : ∃ k : Nat, R = k := ⟨R.toNat, by omega⟩
              obtain ⟨m, hmk⟩ : ∃ m, L[k]? = some m := ⟨_, List.getElem?_eq_getElem (show k < L.length by have := HLI.out; omega)⟩
              have TK := HO4.out.tak hmk
              have hokm : okM m := HOL.out m (List.mem_of_getElem? hmk)
              obtain ⟨hce, hc1⟩ := cntG_erase L k m hmk
              have hbd := (cntG_bd L (kB m)).2
              obtain ⟨c, hc⟩ : ∃ c, cntG L (kB m) = c := ⟨_, rfl⟩
              rw [hc] at hce hc1 hbd
              have hcm : c ≤ 200 := by have := HLI.out; omega
              have HOK2 : Hid (∀ x ∈ L.eraseIdx k, okM x) := fun x hx => HOL.out x (List.mem_of_mem_eraseIdx hx)
              have HLE : Hid ((L.eraseIdx k).length + (i + 1) = N) := by show _ = _; rw [List.length_eraseIdx, if_pos (List.getElem?_eq_some_iff.1 hmk).1]; have := HLI.out; omega
              have HCE := hide hce
              have HCC := hide hc
              have HOKM := hide hokm
              clear hmk hokm hce hbd hc
              go_wp2_with fail
              refine TK.mono ?_
              clear TK
              rintro e v3 ⟨rfl, hO5⟩
              obtain ⟨V, hV⟩ : ∃ V, v3.alloc (.cells #[.int .i64 m.k, .int .i64 m.fr, .int .i64 m.to, .int .i64 m.id, .int .i64 m.st, .int .i64 m.a, .int .i64 m.b] 35) = V := ⟨_, rfl⟩
              have hbV : Below v3.heap.size v3 V := by rw [← hV]; exact bel_al (Below.refl _ _) _
              have hxV : V.heap[v3.heap.size]? = some (.cells #[.int .i64 m.k, .int .i64 m.fr, .int .i64 m.to, .int .i64 m.id, .int .i64 m.st, .int .i64 m.a, .int .i64 m.b] 35 (0, 0)) := by rw [← hV]; exact World.alloc_heap_new _ _
              have HOV := hide ((hO5.on hbV).on (Below.refl _ _).drew)
              have hne : b ≠ v3.heap.size := by have := hO5.wt.lt; omega
              have hlk0 := (hO5.on hbV).wt.look HOKM.out
              have hlk := HOV.out.wt.look HOKM.out
              obtain ⟨v0, st, w1, w2, hme, hl1, hst, wt2, kk1, kk2⟩ := HOV.out.wt.entry HOKM.out (v := c - 1) (wf_M (by omega) (by omega)) (by omega)
              rw [HCC.out] at hlk hl1 hlk0
              rw [← HCE.out] at wt2
              have HO6 : Hid (On w p b w2 (N + (i + 1)) (L.eraseIdx k) (L.eraseIdx k)) := HOV.out.turn kk2 wt2
              have hx1 := kk1.block _ _ (show V.drew.heap[v3.heap.size]? = _ from hxV) (fun e => hne e.symm)
              obtain ⟨z0, z1, z2, z3, z4, z5, z6⟩ := box7 hxV
              obtain ⟨y0, y1, y2, y3, y4, y5, y6⟩ := box7 hx1
              have qc : ¬ c < 1 := by omega
              clear hx1 kk1 kk2 wt2 hxV hbV hne HOV hO5
              go_upto_region 30 with fail
              go_region
              all_goals go_wp2
              all_goals go_roundw
              all_goals first | exact ⟨i + 1, L.eraseIdx k, by go_num, by omega, HLE.out, HOK2, HO6⟩ | (simp [intOf]; omega)
            · have hq4 : ¬ (i : Int) < (m2 : Int) := by omega
              obtain ⟨m, hmk⟩ : ∃ m, L[0]? = some m := ⟨_, List.getElem?_eq_getElem (show 0 < L.length by have := HLI.out; omega)⟩
              have TK := HO4.out.tak hmk
              have hokm : okM m := HOL.out m (List.mem_of_getElem? hmk)
              obtain ⟨hce, hc1⟩ := cntG_erase L 0 m hmk
              have hbd := (cntG_bd L (kB m)).2
              obtain ⟨c, hc⟩ : ∃ c, cntG L (kB m) = c := ⟨_, rfl⟩
              rw [hc] at hce hc1 hbd
              have hcm : c ≤ 200 := by have := HLI.out; omega
              have HOK2 : Hid (∀ x ∈ L.eraseIdx 0, okM x) := fun x hx => HOL.out x (List.mem_of_mem_eraseIdx hx)
              have HLE : Hid ((L.eraseIdx 0).length + (i + 1) = N) := by show _ = _; rw [List.length_eraseIdx, if_pos (List.getElem?_eq_some_iff.1 hmk).1]; have := HLI.out; omega
              have HCE := hide hce
              have HCC := hide hc
              have HOKM := hide hokm
              clear hmk hokm hce hbd hc
              rw [show ((0 : Nat) : Int) = 0 from rfl] at TK
              go_wp2_with fail
              refine TK.mono ?_
              clear TK
              rintro e v3 ⟨rfl, hO5⟩
              obtain ⟨V, hV⟩ : ∃ V, v3.alloc (.cells #[.int .i64 m.k, .int .i64 m.fr, .int .i64 m.to, .int .i64 m.id, .int .i64 m.st, .int .i64 m.a, .int .i64 m.b] 35) = V := ⟨_, rfl⟩
              have hbV : Below v3.heap.size v3 V := by rw [← hV]; exact bel_al (Below.refl _ _) _
              have hxV : V.heap[v3.heap.size]? = some (.cells #[.int .i64 m.k, .int .i64 m.fr, .int .i64 m.to, .int .i64 m.id, .int .i64 m.st, .int .i64 m.a, .int .i64 m.b] 35 (0, 0)) := by rw [← hV]; exact World.alloc_heap_new _ _
              have HOV := hide ((hO5.on hbV).on (Below.refl _ _).drew)
              have hne : b ≠ v3.heap.size := by have := hO5.wt.lt; omega
              have hlk0 := (hO5.on hbV).wt.look HOKM.out
              have hlk := HOV.out.wt.look HOKM.out
              obtain ⟨v0, st, w1, w2, hme, hl1, hst, wt2, kk1, kk2⟩ := HOV.out.wt.entry HOKM.out (v := c - 1) (wf_M (by omega) (by omega)) (by omega)
              rw [HCC.out] at hlk hl1 hlk0
              rw [← HCE.out] at wt2
              have HO6 : Hid (On w p b w2 (N + (i + 1)) (L.eraseIdx 0) (L.eraseIdx 0)) := HOV.out.turn kk2 wt2
              have hx1 := kk1.block _ _ (show V.drew.heap[v3.heap.size]? = _ from hxV) (fun e => hne e.symm)
              obtain ⟨z0, z1, z2, z3, z4, z5, z6⟩ := box7 hxV
              obtain ⟨y0, y1, y2, y3, y4, y5, y6⟩ := box7 hx1
              have qc : ¬ c < 1 := by omega
              clear hx1 kk1 kk2 wt2 hxV hbV hne HOV hO5
              go_upto_region 30 with fail
              go_region
              all_goals go_wp2
              all_goals go_roundw
              all_goals first | exact ⟨i + 1, L.eraseIdx 0, by go_num, by omega, HLE.out, HOK2, HO6⟩ | (simp [intOf]; omega)
          · have hq3 : ¬ (i : Int) < (N : Int) := by omega
            obtain rfl : i = N := by omega
            obtain ⟨wq, rfl⟩ : ∃ wq, wq = wr := ⟨_, rfl⟩
            have hLn : L = [] := List.eq_nil_of_length_eq_zero (by have := HLI.out; omega)
            subst hLn
            obtain ⟨D, hown, hmap, hD⟩ := HO4.out.wt
            have HD : Hid (∀ s, D.atKey (.string s) (.lit (.int .i64 0)) = .lit (.int .i64 0)) := fun s => by
              have := hD s
              rwa [show cntG [] s = 0 by rw [cntG_nil]] at this
            clear hD hmap
            go_wp2_with (first
              | (at_range; refine wpList_range_own _ rfl _ 47 rfl 35 3 lawM Try.underlying47 _ b (i + i) _ rfl hown ?_; intro w0 hrg0 hg0 hs0)
              | go_in)
            have HB0 : Hid (Below wq.heap.size wq w0) := (Below.refl _ _).grown hg0 (Nat.le_refl _) (fun k e => by cases e)
            clear hown hg0 hs0
            go_loopw [20] (fun _ vr => ∃ left cnt, vr.ranges Try.prog 35 (plainElem Try.prog 3) b wq.heap.size (i + i) D left cnt ∧ Hid (Below wq.heap.size wq vr)) (fun _ vr => vr.rangeLeft b wq.heap.size)
            case atStart => exact ⟨_, _, hrg0, HB0⟩
            case round =>
              obtain ⟨left, cnt, hrg, HB⟩ := hrel
              clear hrg0 HB0
              go_wp2_with (first
                | (at_next; refine next_nul rfl _ rfl rfl hrg HD.out ?_ ?_)
                | go_in)
              · intro _
                have TN := (HO4.out.on HB.out).nothing
                clear hrg
                go_wp2_with fail
                refine TN.mono ?_
                clear TN
                rintro e v5 ⟨rfl, hO7⟩
                have HO7 := hide (hO7.on (bel_al (Below.refl v5.heap.size v5) (.cells #[.int .i64 zeroM.k, .int .i64 zeroM.fr, .int .i64 zeroM.to, .int .i64 zeroM.id, .int .i64 zeroM.st, .int .i64 zeroM.a, .int .i64 zeroM.b] 35)))
                have LS := HO7.out.lost
                clear hO7
                go_wp2_with (first
                  | (go_at_call 21; refine LS.mono ?_; clear LS; rintro e v6 ⟨rfl, rfl⟩)
                  | (go_at_call 9; refine (HW.out _).mono ?_; rintro e u6 ⟨rfl, b6⟩; have HB6 := hide b6; clear b6))
                go_ret
                exact ⟨rfl, bel_on' HO7.out.bel HB6.out⟩
              · intro x w' left' cnt' hrg1 hlt1 hgr1 hen
                have HB1 : Hid (Below wq.heap.size wq w') := HB.out.grown hgr1 HB.out.size (fun k e => by cases e; exact Nat.le_refl _)
                clear hgr1
                go_wp2
                go_roundw
                case rel => exact ⟨_, _, hrg1, HB1⟩
                case measure => exact hlt1
end Go.Proofs.Ytmndemjjfhdfdaa
