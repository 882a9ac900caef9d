/-
  EntryWords: a line has its words and no others: as many numbers as there are, each as it is.
-/
import Derived.Test.YthcjlieegihdlaaDoorEntBack
import Derived.BigQuiet
import Derived.Deep.QuietTactic
namespace Go.Proofs.YthcjlieegihdlaaDoor
open Go.ChangeShapes Go.WideShapes Go.ChangeAt Go.RowKit

theorem count_join : ∀ (ws : List (List UInt8)), ws ≠ [] → (∀ x ∈ ws, (32 : UInt8) ∉ x) → (Lib.join ws [32]).count 32 + 1 = ws.length
  | [], h, _ => absurd rfl h
  | [x], _, h => by rw [Lib.join_one, List.count_eq_zero.2 (h x (by simp))]; rfl
  | x :: y :: r, _, h => by
    have e : Lib.join (x :: y :: r) [32] = x ++ 32 :: Lib.join (y :: r) [32] := by
      rw [Lib.join_cons, Lib.join_cons]; simp [Lib.joinTail]
    have ih := count_join (y :: r) (by simp) (fun z hz => h z (by simp [hz]))
    rw [e, List.count_append, List.count_eq_zero.2 (h x (by simp)), List.count_cons_self]
    simp only [List.length_cons] at ih ⊢
    omega
theorem count_txt {k : ByteArray} {id : Int} {l : List Int} (h : mayB k id l = true) : (txt k id l).data.toList.count 32 = l.length + 1 := by
  have := count_join (wordsL k id l) (by simp [wordsL]) (words_nospace h)
  have e : (wordsL k id l).length = l.length + 2 := by simp [wordsL]
  show (Lib.join (wordsL k id l) [32]).count 32 = _
  omega
theorem txt_head (k : ByteArray) (id : Int) (l : List Int) : k.size ≤ (txt k id l).size ∧ (((txt k id l).extract 0 k.size).toList == k.toList) = true := by
  have e : (txt k id l).data.toList = k.data.toList ++ Lib.joinTail [32] (Lib.itoa id :: l.map Lib.itoa) := by
    show Lib.join (wordsL k id l) [32] = _
    rw [wordsL, Lib.join_cons]
  have hk : k.data.toList.length = k.size := Array.length_toList
  have ht : (txt k id l).data.toList.length = (txt k id l).size := Array.length_toList
  have h1 : k.size ≤ (txt k id l).size := by rw [← hk, ← ht, e]; simp
  refine ⟨h1, ?_⟩
  rw [beq_iff_eq, ByteArray.toList_eq, ByteArray.toList_eq, Lib.extract_from_zero, e, ← hk, List.take_left]
theorem itoa5 : Lib.itoa 5 = [53] := (itoa_nat 5).trans (by rw [Lib.decDigits_one (by omega)]; rfl)
theorem txt_five (k : ByteArray) (id : Int) (l : List Int) : txt k id l ++ ⟨#[32, 53]⟩ = txt k id (l ++ [5]) := by
  rw [txt_snoc, itoa5]
  apply bytes_ext
  simp
theorem may_five {k : ByteArray} {id : Int} {l : List Int} (h : mayB k id l = true) : mayB k id (l ++ [5]) = decide (l.length ≠ 4) := by
  have h6 := (may_parts h).2.2.2.2.2.1
  unfold mayB numsB at h ⊢
  simp only [Bool.and_eq_true, decide_eq_true_eq] at h
  obtain ⟨⟨h1, h2⟩, h3, h4⟩ := h
  rw [h1, h2, List.all_append, h4]
  have e5 : [(5 : Int)].all numB = true := by decide
  rw [e5]
  simp only [List.length_append, List.length_cons, List.length_nil, Bool.true_and, Bool.and_true]
  rw [Bool.eq_iff_iff]
  simp
  omega
theorem nospace_five {k : ByteArray} {id : Int} {l : List Int} (h : mayB k id l = true) : ∀ x ∈ wordsL k id (l ++ [5]), (32 : UInt8) ∉ x := by
  intro x hx
  have e : wordsL k id (l ++ [5]) = wordsL k id l ++ [Lib.itoa 5] := by simp [wordsL]
  rw [e] at hx
  rcases List.mem_append.1 hx with h1 | h1
  · exact words_nospace h x h1
  · simp at h1; subst h1; exact itoa_nospace _
theorem parse_five {k : ByteArray} {id : Int} {l : List Int} (h : mayB k id l = true) {k' : ByteArray} {id' : Int} {l' : List Int} {er : Int} (hp : ParseR (sign (txt k id (l ++ [5]))) k' id' l' er) :
    (l.length = 4 → er = 2) ∧ (l.length ≠ 4 → er = 0 ∧ l' = l ++ [5]) := by
  have hm := may_five h
  constructor
  · intro h4
    rw [h4] at hm
    have hs : (sign (txt k id (l ++ [5]))).size ≤ 80 := by
      rw [sign_size, ← txt_five]
      have := txt_size h
      have e : (txt k id l ++ ⟨#[32, 53]⟩).size = (txt k id l).size + 2 := by rw [ByteArray.size_append]; rfl
      omega
    obtain ⟨r1, r2⟩ := read_sign (txt k id (l ++ [5]))
    rcases hp with ⟨_, p2, _, _, p5⟩ | ⟨_, _, _, _, p5, _⟩
    · rw [r2] at p5
      have e1 : cutW (txt k id (l ++ [5])).data.toList = wordsL k id (l ++ [5]) := cut_join _ (by simp [wordsL]) (nospace_five h)
      have e2 := cut_txt p2
      rw [← p5, e1] at e2
      obtain ⟨rfl, rfl, rfl⟩ := words_inj e2
      rw [p2] at hm
      simp at hm
    · rw [if_neg (by omega), if_pos r1] at p5
      exact p5
  · intro h4
    have hm' : mayB k id (l ++ [5]) = true := by rw [hm]; simpa using h4
    obtain ⟨_, _, e3, e4⟩ := ParseR.uniq hp (parse_line hm')
    exact ⟨e4, e3⟩

theorem count_take (s : ByteArray) (n : Nat) (h : n < s.size) : (s.data.toList.take (n + 1)).count 32 = (s.data.toList.take n).count 32 + if s[n] = 32 then 1 else 0 := by
  rw [take_snoc s n h, List.count_append]
  congr 1
  by_cases e : s[n] = 32
  · rw [if_pos e, e]; rfl
  · rw [if_neg e]
    rw [List.count_eq_zero]
    simp
    exact fun h => e h.symm

set_option maxRecDepth 100000 in
set_option maxHeartbeats 1000000 in
theorem entryWords_walk (k0 : ByteArray) (id0 : Int) (a0 : Option Addr) (len0 cap0 : Nat) (z0 : List Int) (w : World)
    (wk0 : k0.size ≤ maxLen) (_wi0 : (Lit.int .i64 id0).wf = true) (w0 : IsRow .i64 w a0 len0 cap0 z0) (hg : Gl w) :
    Calls Tryd.prog 7 #[.agg #[.string k0, .int .i64 id0, .slice a0 len0 cap0]] w fun e w' => e = .returned (.bool true) ∧ Below w.heap.size w w' := by
  obtain ⟨l, rfl, hl, hi⟩ := w0.ints
  clear w0 _wi0
  obtain ⟨W, hW⟩ : ∃ W, W = w.alloc (.cells #[.string k0, .int .i64 id0, .slice a0 l.length cap0] 24) := ⟨_, rfl⟩
  have HB : Hid (Below w.heap.size w W) := by show Below w.heap.size w W; rw [hW]; exact (Below.refl _ _).alloc (Nat.le_refl _) _
  have HI : Hid (Ints w a0 l) := hi
  have HG : Hid (Gl w) := hg
  have HL : Hid (l.length ≤ 9223372036854775807) := hl
  have HK0 : Hid (k0.size ≤ maxLen) := wk0
  have HWW : Hid (W = w.alloc (.cells #[.string k0, .int .i64 id0, .slice a0 l.length cap0] 24)) := hW
  have L0 := light_any k0 id0 a0 l cap0 W
  rw [hW] at L0
  clear hi hg hl wk0 hW
  have AW : Hid (∀ u, Below W.heap.size W u → Calls Tryd.prog 9 #[] u fun e w' => e = .returned (.bool true) ∧ Below u.heap.size u w') := fun u hu => awake_any u (HG.out.on (bel_on' HB.out hu))
  have TM : ∀ u, Below W.heap.size W u → Calls Tryd.prog 15 #[.agg #[.string k0, .int .i64 id0, .slice a0 l.length cap0]] u fun e w' => e = .returned (.bool (mayB k0 id0 l)) ∧ Below u.heap.size u w' := fun u hu => may_any k0 id0 a0 l cap0 u HK0.out (HI.out.below (bel_on' HB.out hu)) HL.out
  cases h0 : lightB k0 l
  · rw [h0] at L0
    go_enter Tryd.func7, Tryd.ntmps7
    go_wp2_with fail
    refine L0.mono ?_
    rintro e u1 ⟨rfl, hb_u1⟩
    have B_u1 : Hid (Below W.heap.size W u1) := by show Below W.heap.size W u1; rw [HWW.out]; exact hb_u1
    clear hb_u1 L0
    go_wp2_with fail
    refine (AW.out _ B_u1.out).mono ?_
    rintro e wz ⟨rfl, hbz⟩
    go_wp2
    go_ret
    exact ⟨rfl, bel_on' (bel_on' HB.out B_u1.out) hbz⟩
  rw [h0] at L0
  clear h0
  cases hm : mayB k0 id0 l
  · rw [hm] at TM
    go_enter Tryd.func7, Tryd.ntmps7
    go_wp2_with fail
    refine L0.mono ?_
    rintro e u1 ⟨rfl, hb_u1⟩
    have B_u1 : Hid (Below W.heap.size W u1) := by show Below W.heap.size W u1; rw [HWW.out]; exact hb_u1
    clear hb_u1 L0
    obtain ⟨p0, p1, p2⟩ := box3 HWW.out B_u1.out
    go_wp2_with fail
    refine (TM _ B_u1.out).mono ?_
    rintro e u2 ⟨rfl, hb_u2⟩
    have B_u2 : Hid (Below W.heap.size W u2) := bel_on' B_u1.out hb_u2
    clear hb_u2 TM
    go_wp2_with fail
    refine (AW.out _ B_u2.out).mono ?_
    rintro e wz ⟨rfl, hbz⟩
    go_wp2
    go_ret
    exact ⟨rfl, bel_on' (bel_on' HB.out B_u2.out) hbz⟩
  rw [hm] at TM
  have TL : ∀ u, Below W.heap.size W u → Calls Tryd.prog 11 #[.agg #[.string k0, .int .i64 id0, .slice a0 l.length cap0]] u fun e w' => e = .returned (.tuple #[.string (sign (txt k0 id0 l)), .int .i64 0]) ∧ Below u.heap.size u w' := fun u hu => by
    have := line_any k0 id0 a0 l cap0 u HK0.out (HI.out.below (bel_on' HB.out hu)) HL.out (HG.out.on (bel_on' HB.out hu))
    unfold lineV lineE at this
    rwa [if_pos hm, if_pos hm] at this
  have TR : ∀ u, Calls Tryd.prog 20 #[.string (sign (txt k0 id0 l))] u fun e w' => e = .returned (.tuple #[.string (txt k0 id0 l), .bool true]) ∧ Below u.heap.size u w' := fun u => by
    have := read_any (sign (txt k0 id0 l)) u (by rw [sign_size]; have := txt_size hm; omega)
    rwa [(read_sign _).1, (read_sign _).2] at this
  have HM : Hid (mayB k0 id0 l = true) := hm
  have HCT : Hid ((txt k0 id0 l).data.toList.count 32 = l.length + 1) := count_txt hm
  obtain ⟨hh1, hh2⟩ := txt_head k0 id0 l
  have hT := txt_size hm
  have H5 := txt_five k0 id0 l
  have hl4 := (may_parts hm).2.2.2.2.2.1
  have hk8 := (may_parts hm).2.1
  obtain ⟨T, eT⟩ : ∃ T, txt k0 id0 l = T := ⟨_, rfl⟩
  rw [eT] at TL TR HCT hh1 hh2 hT H5
  obtain ⟨X, eX⟩ : ∃ X, sign T = X := ⟨_, rfl⟩
  rw [eX] at TL TR
  have HH5 : Hid (T ++ (⟨#[32, 53]⟩ : ByteArray) = txt k0 id0 (l ++ [5])) := H5
  have HLT : Hid (T.data.toList.length = T.size) := Array.length_toList
  clear hm H5 eT eX
  go_enter Tryd.func7, Tryd.ntmps7
  go_wp2_with fail
  refine L0.mono ?_
  rintro e u1 ⟨rfl, hb_u1⟩
  have B_u1 : Hid (Below W.heap.size W u1) := by show Below W.heap.size W u1; rw [HWW.out]; exact hb_u1
  clear hb_u1 L0
  obtain ⟨p0, p1, p2⟩ := box3 HWW.out B_u1.out
  go_wp2_with fail
  refine (TM _ B_u1.out).mono ?_
  rintro e u2 ⟨rfl, hb_u2⟩
  have B_u2 : Hid (Below W.heap.size W u2) := bel_on' B_u1.out hb_u2
  clear hb_u2 TM p0 p1 p2
  obtain ⟨p0, p1, p2⟩ := box3 HWW.out B_u2.out
  go_wp2_with fail
  refine (TL _ B_u2.out).mono ?_
  rintro e u3 ⟨rfl, hb_u3⟩
  have B_u3 : Hid (Below W.heap.size W u3) := bel_on' B_u2.out hb_u3
  clear hb_u3 TL p0 p1 p2
  go_wp2_with fail
  refine (TR _).mono ?_
  rintro e u4 ⟨rfl, hb_u4⟩
  have B_u4 : Hid (Below W.heap.size W u4) := bel_on' B_u3.out hb_u4
  clear hb_u4 TR
  go_wp2
  go_loop [7, 39] (fun n i => ∃ j : Nat, j ≤ T.size ∧ i = .int .i64 j ∧ n = .int .i64 (((T.data.toList.take j).count 32 + 1 : Nat) : Int)) (fun _ i => T.size - (intOf i).toNat)
  case atStart => exact ⟨0, Nat.zero_le _, rfl, rfl⟩
  case round =>
    obtain ⟨j, hj, rfl, rfl⟩ := hrel
    by_cases hlt : j < T.size
    · have HC : Hid _ := count_take T j hlt
      have hc60 : (T.data.toList.take j).count 32 ≤ 60 := by
        have h1 := List.count_le_length (a := (32 : UInt8)) (l := T.data.toList.take j)
        have h2 : (T.data.toList.take j).length ≤ T.size := by rw [List.length_take, HLT.out]; omega
        omega
      obtain ⟨c, hc⟩ : ∃ c, (T.data.toList.take j).count 32 = c := ⟨_, rfl⟩
      rw [hc] at HC hc60 ⊢
      clear hc
      by_cases e : T[j] = 32
      · have HC1 : Hid ((T.data.toList.take (j + 1)).count 32 = c + 1) := by show _ = _; rw [HC.out, if_pos e]
        have e2 : ((T[j].toNat : Int) == 32) = true := by rw [e]; rfl
        clear e HC
        go_wp2
        go_round
        case rel => exact ⟨j + 1, by omega, by go_num, by rw [HC1.out]; go_num⟩
        case measure => simp [intOf]; omega
      · have HC1 : Hid ((T.data.toList.take (j + 1)).count 32 = c) := by show _ = _; rw [HC.out, if_neg e]; rfl
        have e2 : ((T[j].toNat : Int) == 32) = false := by
          simp
          intro h
          apply e
          apply UInt8.toNat_inj.1
          show T[j].toNat = 32
          omega
        clear e HC
        go_wp2
        go_round
        case rel => exact ⟨j + 1, by omega, by go_num, by rw [HC1.out]⟩
        case measure => simp [intOf]; omega
    · have ec : (T.data.toList.take j).count 32 = l.length + 1 := by rw [List.take_of_length_le (by rw [HLT.out]; omega)]; exact HCT.out
      have ec2 : (((l.length + 1 + 1 : Nat)) : Int) = 2 + (l.length : Int) := by omega
      rw [ec, ec2]
      clear ec ec2
      go_wp2_with fail
      have hs6 : (T ++ ⟨#[32, 53]⟩ : ByteArray).size ≤ 140737488355328 := by rw [ByteArray.size_append]; show T.size + 2 ≤ _; omega
      refine (sign_any (T ++ (⟨#[32, 53]⟩ : ByteArray)) _ hs6).mono ?_
      rintro e u5 ⟨rfl, hb_u5⟩
      clear hs6
      have hs7 : (sign (T ++ (⟨#[32, 53]⟩ : ByteArray))).size ≤ 65 := by rw [sign_size, ByteArray.size_append]; show T.size + 2 + 3 ≤ _; omega
      have hy : sign (T ++ (⟨#[32, 53]⟩ : ByteArray)) = sign (txt k0 id0 (l ++ [5])) := by rw [HH5.out]
      generalize sign (T ++ (⟨#[32, 53]⟩ : ByteArray)) = Y at hs7 hy ⊢
      have HY : Hid (Y = sign (txt k0 id0 (l ++ [5]))) := hy
      have HYS : Hid (Y.size ≤ 65) := hs7
      clear hy hs7
      have B_u5 : Hid (Below W.heap.size W u5) := bel_on' B_u4.out hb_u5
      clear hb_u5
      go_wp2_with fail
      refine (parse_any Y _ (by have := HYS.out; omega) (HG.out.on (bel_on' HB.out B_u5.out))).mono ?_
      rintro e u6 ⟨k1, id1, l1, av1, cv1, er1, rfl, hin1, hll1, hpr1, hb_u6⟩
      rw [HY.out] at hpr1
      obtain ⟨f4, f5⟩ := parse_five HM.out hpr1
      have HF4 : Hid (l.length = 4 → er1 = 2) := f4
      have HF5 : Hid (l.length ≠ 4 → er1 = 0 ∧ l1 = l ++ [5]) := f5
      have HI1 : Hid (Ints u6 av1 l1) := hin1
      have B_u6 : Hid (Below W.heap.size W u6) := bel_on' B_u5.out hb_u6
      obtain ⟨p0, p1, p2⟩ := box3 HWW.out B_u6.out
      have hlt6 : w.heap.size < u6.heap.size := World.block_lt_of_cell? _ _ p0
      have HCP : Hid (l1.length ≤ cv1) := hll1.2
      clear hpr1 f4 f5 hin1 hb_u6 hll1 HY HYS
      have hl9 : l.length ≤ 9 := by omega
      have hkT : (k0.size : Int) ≤ (T.size : Int) := by omega
      have hk00 : (0 : Int) ≤ (k0.size : Int) := by omega
      go_wp2
      obtain ⟨V, hV⟩ : ∃ V, V = u6.alloc (.cells #[.string k1, .int .i64 id1, .slice av1 l1.length cv1] 24) := ⟨_, rfl⟩
      have HVV : Hid (V = u6.alloc (.cells #[.string k1, .int .i64 id1, .slice av1 l1.length cv1] 24)) := hV
      have B_V : Hid (Below W.heap.size W V) := by show Below W.heap.size W V; rw [hV]; exact B_u6.out.alloc B_u6.out.size _
      have HIV : Hid (Ints V av1 l1) := by show Ints V av1 l1; rw [hV]; exact HI1.out.below ((Below.refl _ _).alloc (Nat.le_refl _) _)
      rw [← hV]
      clear hV p0 p1 p2
      obtain ⟨p0, p1, p2⟩ := box3 HWW.out B_V.out
      obtain ⟨s0, s1, s2⟩ := box3 HVV.out (Below.refl _ _)
      go_quiet (fail)
      have B_V2 : Hid (Below W.heap.size W (V.drewN nq)) := belowN B_V.out nq
      by_cases h4 : l.length = 4
      · obtain rfl : er1 = 2 := HF4.out h4
        have q4 : ((l.length : Int) == 4) = true := by simp; omega
        clear h4
        go_wp2_with fail
        refine (AW.out _ B_V2.out).mono ?_
        rintro e wz ⟨rfl, hbz⟩
        go_wp2
        go_ret
        exact ⟨rfl, bel_on' (bel_on' HB.out B_V2.out) hbz⟩
      · obtain ⟨rfl, rfl⟩ := HF5.out h4
        have q4 : ((l.length : Int) == 4) = false := by simp; omega
        clear h4
        go_wp2
        have HI2 : Hid (Ints (V.drewN nq) av1 (l ++ [5])) := HIV.out.drewN nq
        have p0' : (V.drewN nq).cell? ⟨w.heap.size, 0, none⟩ = some (.string k0) := by simpa using p0
        have p2' : (V.drewN nq).cell? ⟨w.heap.size, 2, none⟩ = some (.slice a0 l.length cap0) := by simpa using p2
        have s2' : (V.drewN nq).cell? ⟨u6.heap.size, 2, none⟩ = some (.slice av1 (l ++ [5]).length cv1) := by simpa using s2
        clear p0 p1 p2 s0 s1 s2
        generalize V.drewN nq = V2 at B_V2 HI2 p0' p2' s2' ⊢
        rcases HI2.out with h | ⟨b, off, rfl, hc⟩
        · simp at h
        have c5 : V2.cell? ⟨b, off + l.length, none⟩ = some (.int .i64 5) := by
          have := hc l.length (by simp)
          simpa [List.getD] using this
        have HIL : Hid (Ints V2 (some ⟨b, off, none⟩) l) := by
          show Ints V2 (some ⟨b, off, none⟩) l
          refine .inr ⟨b, off, rfl, fun i hi => ?_⟩
          have := hc i (by simp; omega)
          rw [this]
          simp [List.getD, List.getElem?_append_left hi]
        clear hc HI2
        have hcv : (l.length : Int) < (cv1 : Int) := by have := HCP.out; simp at this; omega
        have hne : Nonempty (Later V2) := ⟨Later.now V2⟩
        have la := Later.cell p2'
        have lb := Later.cell s2'
        have lc := Later.cell c5
        have HIA : Hid (Ints V2 a0 l) := HI.out.below (bel_on' HB.out B_V2.out)
        have CS : ∀ u : Later V2, Calls Tryd.prog 21 #[.slice (some ⟨b, off, none⟩) l.length cv1, .slice a0 l.length cap0] u.w fun e w' => e = .returned (.bool true) ∧ ∃ u' : Later V2, w' = u'.w := fun u => calls_later u (by
          refine (same_any _ _ l l _ _ u.w (by omega) (HIL.out.below u.below) (HIA.out.below u.below)).mono ?_
          rintro e w' ⟨rfl, n, rfl⟩
          exact ⟨ret_bool (by simp), belowN (Below.refl _ _) n⟩)
        have CA : ∀ u : Later V2, Calls Tryd.prog 9 #[] u.w fun e w' => e = .returned (.bool true) ∧ ∃ u' : Later V2, w' = u'.w := fun u => calls_later u (AW.out _ (bel_on' B_V2.out u.below))
        have e1 : ((l ++ [5]).length : Int) = (l.length : Int) + 1 := by simp
        clear e1
        refine region_later (by kernel_rfl) (by kernel_rfl) ?_
        repeat (first | go_big_quiet_step (first | (go_at_call 21; exact CS _) | (go_at_call 9; exact CA _)) | quiet_step (first | (go_at_call 21; exact CS _) | (go_at_call 9; exact CA _)))
        refine wpQuiet_nil ?_
        intro u
        go_wp2
        go_ret
        exact ⟨rfl, bel_on' (bel_on' HB.out B_V2.out) u.below⟩
end Go.Proofs.YthcjlieegihdlaaDoor
