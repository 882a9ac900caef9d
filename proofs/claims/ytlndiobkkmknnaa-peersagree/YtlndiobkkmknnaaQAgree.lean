/-
  PeersAgree's walk.
-/
import Derived.Test.YtlndiobkkmknnaaPerA
import Derived.Test.YtlndiobkkmknnaaPerB
import Derived.Test.YtlndiobkkmknnaaNum
import Derived.Deep.RegionLaw
namespace Go.Proofs.Ytlndiobkkmknnaa
open Go.ChangeShapes Go.WideShapes Go.ChangeAt Go.RowKit

/-- append to a row of one's own, as a step of a region that draws. -/
theorem step_nums {ops : Array Oper} {o : Oper} {a : Act} {w : World} {K : Act → World → Prop} {Q : Exit → Act → World → Prop} {E : Prop} (hgd : o.guard = none) (s x : Operand)
    (ho : o.op = .call { callee := .builtin .append, args := #[s, x], argTypes := #[22, 22] })
    (base : Nat) (v : Value) (n : Nat) (L : List Int) (hs : a.eval s = v) (hown : w.ownsRow base 3 1 v n (L.map (Value.int .i64)))
    (ao : Option Addr) (m c : Nat) (l : List Int) (hm : l.length = m) (hx : a.eval x = .slice ao m c) (hn : ao = none → m = 0 ∧ c = 0) (hl : Ints w ao l) (hb : n + m ≤ 17592186044416) (hbase : base ≤ w.heap.size)
    (h : ∀ v' w', w'.ownsRow base 3 1 v' (n + m) ((L ++ l).map (Value.int .i64)) → w.grownBy w' v.ownBlock → K (a.put o.dst v') w') :
    if Region.wanted o (yielded ops a.tmps) = true then Oper.wp Try.prog o a w K Q else E := by
  have hw : Region.wanted o (yielded ops a.tmps) = true := by simp [Region.wanted, hgd]
  rw [if_pos hw]
  obtain ⟨i0, hi, hz0, hz1, hz2⟩ := info_parts Try.infoNum
  cases ao with
  | none =>
    obtain ⟨h0, rfl⟩ := hn rfl
    have e : l = [] := List.eq_nil_of_length_eq_zero (by omega)
    subst e
    subst h0
    have hrun := run_append_owned_none (P := Try.prog) (w := w) base 22 o.type 3 i0 1 Try.underlying22 hi v n _ hown
    unfold Oper.wp execOp
    simp only [ho, resolve, invoke, builtin, Sem.run_bind, Sem.run_pure, Result.andThen_ok, List.map_toArray, List.map_cons, List.map_nil, hs, hx, hrun]
    exact h v w (by simpa using hown) ⟨rfl, rfl, rfl, Nat.le_refl _, fun _ _ _ => rfl⟩
  | some ad =>
    obtain ⟨v', w', hr, h2, h3, -⟩ := run_append_own (P := Try.prog) w base 22 o.type 3 i0 _ 1 8 Try.underlying22 hi hz0 hz1 hz2 rfl (by decide) v n _ hown ad m c (l.map (Value.int .i64)) (by simp [hm]) (by
      intro j u hu
      rw [List.getElem?_map] at hu
      rcases hl with rfl | ⟨b, off, hab, hc⟩
      · simp at hu
      · cases hab
        have hj : j < l.length := by
          rcases Nat.lt_or_ge j l.length with h | h
          · exact h
          · rw [List.getElem?_eq_none h] at hu; simp at hu
        rw [st_add', hc j hj]
        simp [hj] at hu
        simp [List.getD, hj, hu]) (by
      intro u hu
      obtain ⟨z, _, rfl⟩ := List.mem_map.1 hu
      rfl) (by unfold maxLen; omega) (by omega) hbase
    unfold Oper.wp execOp
    simp only [ho, resolve, invoke, builtin, Sem.run_bind, Sem.run_pure, Result.andThen_ok, List.map_toArray, List.map_cons, List.map_nil, hs, hx, hr]
    rw [← List.map_append] at h2
    exact h v' w' h2 h3

theorem cnt_take {t : Int} {l : List Int} {k : Nat} (hk : k < l.length) : cntV t (l.take (k + 1)) = cntV t (l.take k) + if telV (l.getD k 0) = t then 1 else 0 := by
  rw [take_snoc hk]
  unfold cntV
  rw [List.countP_append]
  congr 1
  rw [List.countP_singleton]
  by_cases h : telV (l.getD k 0) = t
  · rw [if_pos h, if_pos (by simpa using h)]
  · rw [if_neg h, if_neg (by simpa using h)]
/-- What the loop holds. -/
structure AgS (l : List Int) (k y n : Nat) : Prop where
  yes : cntV 13 (l.take k) = y
  no : cntV 14 (l.take k) = n
  le : y ≤ k ∧ n ≤ k
theorem AgS.more {l : List Int} {k y n : Nat} (h : AgS l k y n) (hk : k < l.length) : AgS l (k + 1) (y + if telV (l.getD k 0) = 13 then 1 else 0) (n + if telV (l.getD k 0) = 14 then 1 else 0) := by
  refine ⟨by rw [cnt_take hk, h.yes], by rw [cnt_take hk, h.no], ?_⟩
  have := h.le
  constructor <;> split <;> omega
/-- Behind it. -/
theorem AgS.done {l : List Int} {k y n : Nat} (h : AgS l k y n) (hk : l.length ≤ k) (hs : safV l = true) : (decV l = 13 ∧ 0 < y ∧ n = 0) ∨ (decV l = 14 ∧ y = 0 ∧ 0 < n) ∨ (decV l = 0 ∧ y = 0 ∧ n = 0) := by
  obtain ⟨a, b, -⟩ := h
  rw [List.take_of_length_le hk] at a b
  have d := dec_safe hs
  rw [← cnt_pos, ← cnt_pos, a, b] at d
  rcases dec_cases l with e | e | e <;> rw [e] at d ⊢ <;> simp at d ⊢ <;> omega
theorem turn_mem (l : List Int) (c : Nat) (s : Int) : s ∈ l.drop c ++ l.take c ↔ s ∈ l := by
  rw [List.mem_append, Or.comm, ← List.mem_append, List.take_append_drop]
set_option maxHeartbeats 4000000 in
theorem peersAgree_walk (a0 : Option Addr) (len0 cap0 : Nat) (z0 : List Int) (a1 : Int) (w : World) (w0 : IsRow .i64 w a0 len0 cap0 z0) (_w1 : (Lit.int .i64 a1).wf = true) :
    Calls Try.prog 4 #[.slice a0 len0 cap0, .int .i64 a1] w fun e w' => e = .returned (.bool true) ∧ Below w.heap.size w w' := by
  have hlc : len0 ≤ cap0 := by
    rcases w0 with ⟨_, rfl, rfl, _⟩ | ⟨x, _, h, _⟩
    · exact Nat.le_refl _
    · exact h
  have HN := hide w0.nils
  obtain ⟨l, rfl, hl9, hi⟩ := w0.ints
  clear w0 _w1
  by_cases hbig : 60 < l.length
  · clear hi
    go_enter Try.func4, Try.ntmps4
    go_wp2_with (go_at_call 7; refine (pawake_any _).mono ?_; rintro e u ⟨rfl, hb⟩)
    go_ret
    exact ⟨rfl, hb⟩
  have S0 := hide (psafe_any a0 l cap0 w (by omega) hi)
  cases hs : safV l
  · rw [hs] at S0
    clear hi hs HN
    go_enter Try.func4, Try.ntmps4
    go_wp2_with (first
      | (go_at_call 12; refine S0.out.mono ?_; rintro e u ⟨rfl, rfl⟩)
      | (go_at_call 7; refine (pawake_any _).mono ?_; rintro e u ⟨rfl, hb⟩))
    go_ret
    exact ⟨rfl, hb⟩
  rw [hs] at S0
  have HS := hide hs
  have HI := hide hi
  have HLC := hide hlc
  clear hs hi hlc hl9
  go_enter Try.func4, Try.ntmps4
  go_wp2_with (go_at_call 12; refine S0.out.mono ?_; rintro e u ⟨rfl, rfl⟩)
  clear S0
  go_loopw [5, 6, 23] (fun yv nv iv wr => ∃ k y n : Nat, yv = .int .i64 y ∧ nv = .int .i64 n ∧ iv = .int .i64 k ∧ k ≤ l.length ∧ y ≤ k ∧ n ≤ k ∧ Hid (AgS l k y n) ∧ wr = w) (fun _ _ iv _ => l.length - (intOf iv).toNat)
  case atStart => exact ⟨0, 0, 0, rfl, rfl, rfl, Nat.zero_le _, Nat.zero_le _, Nat.zero_le _, ⟨rfl, rfl, Nat.zero_le _, Nat.zero_le _⟩, rfl⟩
  case round =>
    obtain ⟨k, y, n, rfl, rfl, rfl, hk, hy, hn, HV, hw⟩ := hrel
    subst hw
    by_cases hlt : k < l.length
    · have ql : (k : Int) < (l.length : Int) := by omega
      rcases HI.out with h0 | ⟨bi, oi, rfl, hci⟩
      · subst h0; simp at hlt
      have c0 := hci k hlt
      obtain ⟨s, hs⟩ : ∃ s, l.getD k 0 = s := ⟨_, rfl⟩
      have F := HV.out.more hlt
      rw [hs] at c0 F
      have CT := ptell_any s wr
      rcases tel_cases s with e | e | e <;> rw [e] at CT F
      · have HE : Hid (AgS l (k + 1) y n) := F
        clear F e hs hci HV
        go_wp2_with (go_at_call 8; refine CT.mono ?_; rintro e u ⟨rfl, rfl⟩)
        go_roundw
        case rel => exact ⟨k + 1, y, n, rfl, rfl, by go_num, by omega, by omega, by omega, HE, by trivial⟩
        case measure => simp [intOf]; omega
      · have HE : Hid (AgS l (k + 1) (y + 1) n) := F
        clear F e hs hci HV
        go_wp2_with (go_at_call 8; refine CT.mono ?_; rintro e u ⟨rfl, rfl⟩)
        go_roundw
        case rel => exact ⟨k + 1, y + 1, n, by go_num, rfl, by go_num, by omega, by omega, by omega, HE, by trivial⟩
        case measure => simp [intOf]; omega
      · have HE : Hid (AgS l (k + 1) y (n + 1)) := F
        clear F e hs hci HV
        go_wp2_with (go_at_call 8; refine CT.mono ?_; rintro e u ⟨rfl, rfl⟩)
        go_roundw
        case rel => exact ⟨k + 1, y, n + 1, rfl, by go_num, by go_num, by omega, by omega, by omega, HE, by trivial⟩
        case measure => simp [intOf]; omega
    · have ql : ¬ (k : Int) < (l.length : Int) := by omega
      rcases HV.out.done (by omega) HS.out with ⟨ed, hy0, rfl⟩ | ⟨ed, rfl, hn0⟩ | ⟨ed, rfl, rfl⟩
      · have qy : (0 : Int) < (y : Int) := by omega
        clear hy0
        have HD := hide ed
        clear ed HV
        obtain ⟨c0, c1⟩ := um_bd a1 ((l.length : Int) + 1) (by omega) (by omega)
        obtain ⟨c, hc⟩ : ∃ c : Nat, um a1 ((l.length : Int) + 1) = c := ⟨(um a1 ((l.length : Int) + 1)).toNat, by omega⟩
        have hcl : c ≤ l.length := by omega
        unfold um at hc
        have hs1 := fun W => tail_run W a0 l.length cap0 c hcl
        have hs2 := fun W => head_run W a0 l.length cap0 c (by have := HLC.out; omega)
        have KO : Hid (OwnI wr (wr.alloc (.cells #[] 3)).drew (.slice (some ⟨wr.heap.size, 0, none⟩) 0 0) []) := (OwnI.fresh (Below.refl _ _)).drew
        have KA : Hid (Ints (wr.alloc (.cells #[] 3)).drew (tailA a0 cap0 c) (l.drop c)) := (HI.out.tail cap0 c HLC.out).below ((Below.refl _ _).alloc (Nat.le_refl _) _).drew
        have KN : Hid (tailA a0 cap0 c = none → l.length - c = 0 ∧ cap0 - c = 0) := fun h => by have := HN.out (tail_nil h); omega
        have KM : Hid (a0 = none → c = 0 ∧ cap0 = 0) := fun h => by have := HN.out h; omega
        clear c0 c1
        go_wp2_with fail
        go_region_law (first
          | (refine step_nums rfl (.tmp 52) (.tmp 55) rfl wr.heap.size _ 0 [] rfl KO.out.own (tailA a0 cap0 c) (l.length - c) (cap0 - c) (l.drop c) (by simp) rfl KN.out KA.out (by omega) (by simp) ?_
             intro v1 w1 o1 g1
             have K1 : Hid (OwnI wr w1 v1 (l.drop c)) := KO.out.more (m := l.drop c) (by simp) o1 g1
             have HO1 : Hid (w1.ownsRow wr.heap.size 3 1 v1 (l.length - c) ((l.drop c).map (Value.int .i64))) := by have := K1.out.own; rw [List.length_drop] at this; exact this
             have KB : Hid (Ints w1 a0 (l.take c)) := (HI.out.head c).below K1.out.bel
             clear o1 g1)
          | (refine step_nums rfl (.tmp 56) (.tmp 59) rfl wr.heap.size v1 (l.length - c) (l.drop c) rfl HO1.out a0 c cap0 (l.take c) (by rw [List.length_take]; omega) rfl KM.out KB.out (by omega) K1.out.bel.size ?_
             intro v2 w2 o2 g2
             obtain ⟨L2, hL2⟩ : ∃ L', L' = l.drop c ++ l.take c := ⟨_, rfl⟩
             have K2 : OwnI wr w2 v2 (l.drop c ++ l.take c) := K1.out.more (m := l.take c) (by rw [List.length_drop, List.length_take]; omega) o2 g2
             rw [← hL2] at K2
             obtain ⟨b2, d2, rfl, -, -, i2⟩ := K2.ints
             have hM : ∀ s, s ∈ L2 ↔ s ∈ l := fun s => by rw [hL2]; exact turn_mem l c s
             have hlen : L2.length ≤ 4611686018427387904 := by rw [hL2, List.length_append, List.length_drop, List.length_take]; omega
             have Q0 : Hid (Calls Try.prog 10 #[.slice a0 l.length cap0] w2 fun e w' => e = .returned (.int .i64 13) ∧ w2 = w') := by
               have := pdec_any a0 l cap0 w2 (by omega) (HI.out.below K2.bel)
               rw [HD.out] at this
               exact this
             have Q1 : Hid (Calls Try.prog 10 #[.slice b2 L2.length d2] w2 fun e w' => e = .returned (.int .i64 13) ∧ w2 = w') := by
               have := pdec_any b2 L2 d2 w2 hlen i2
               rw [dec_perm HS.out hM, HD.out] at this
               exact this
             have Q2 : Hid (Calls Try.prog 12 #[.slice b2 L2.length d2] w2 fun e w' => e = .returned (.bool true) ∧ w2 = w') := by
               have := psafe_any b2 L2 d2 w2 hlen i2
               rw [saf_mem HS.out fun s h => (hM s).1 h] at this
               exact this
             have HB2 := hide K2.bel
             clear o2 g2 K2 i2 hL2 hM hlen))
        all_goals
          go_wp2_with fail
          refine Q0.out.mono ?_
          rintro e u ⟨rfl, rfl⟩
          go_wp2_with fail
          refine Q1.out.mono ?_
          rintro e u ⟨rfl, rfl⟩
          go_wp2_with (first
            | (go_at_call 12; refine Q2.out.mono ?_; rintro e u ⟨rfl, rfl⟩)
            | (go_at_call 7; refine (pawake_any _).mono ?_; rintro e u ⟨rfl, hb⟩; have HE := hide (bel_on' HB2.out hb); clear hb))
          go_ret
          exact ⟨rfl, HE.out⟩
      · have qn : (0 : Int) < (n : Int) := by omega
        clear hn0
        have HD := hide ed
        clear ed HV
        obtain ⟨c0, c1⟩ := um_bd a1 ((l.length : Int) + 1) (by omega) (by omega)
        obtain ⟨c, hc⟩ : ∃ c : Nat, um a1 ((l.length : Int) + 1) = c := ⟨(um a1 ((l.length : Int) + 1)).toNat, by omega⟩
        have hcl : c ≤ l.length := by omega
        unfold um at hc
        have hs1 := fun W => tail_run W a0 l.length cap0 c hcl
        have hs2 := fun W => head_run W a0 l.length cap0 c (by have := HLC.out; omega)
        have KO : Hid (OwnI wr (wr.alloc (.cells #[] 3)).drew (.slice (some ⟨wr.heap.size, 0, none⟩) 0 0) []) := (OwnI.fresh (Below.refl _ _)).drew
        have KA : Hid (Ints (wr.alloc (.cells #[] 3)).drew (tailA a0 cap0 c) (l.drop c)) := (HI.out.tail cap0 c HLC.out).below ((Below.refl _ _).alloc (Nat.le_refl _) _).drew
        have KN : Hid (tailA a0 cap0 c = none → l.length - c = 0 ∧ cap0 - c = 0) := fun h => by have := HN.out (tail_nil h); omega
        have KM : Hid (a0 = none → c = 0 ∧ cap0 = 0) := fun h => by have := HN.out h; omega
        clear c0 c1
        go_wp2_with fail
        go_region_law (first
          | (refine step_nums rfl (.tmp 52) (.tmp 55) rfl wr.heap.size _ 0 [] rfl KO.out.own (tailA a0 cap0 c) (l.length - c) (cap0 - c) (l.drop c) (by simp) rfl KN.out KA.out (by omega) (by simp) ?_
             intro v1 w1 o1 g1
             have K1 : Hid (OwnI wr w1 v1 (l.drop c)) := KO.out.more (m := l.drop c) (by simp) o1 g1
             have HO1 : Hid (w1.ownsRow wr.heap.size 3 1 v1 (l.length - c) ((l.drop c).map (Value.int .i64))) := by have := K1.out.own; rw [List.length_drop] at this; exact this
             have KB : Hid (Ints w1 a0 (l.take c)) := (HI.out.head c).below K1.out.bel
             clear o1 g1)
          | (refine step_nums rfl (.tmp 56) (.tmp 59) rfl wr.heap.size v1 (l.length - c) (l.drop c) rfl HO1.out a0 c cap0 (l.take c) (by rw [List.length_take]; omega) rfl KM.out KB.out (by omega) K1.out.bel.size ?_
             intro v2 w2 o2 g2
             obtain ⟨L2, hL2⟩ : ∃ L', L' = l.drop c ++ l.take c := ⟨_, rfl⟩
             have K2 : OwnI wr w2 v2 (l.drop c ++ l.take c) := K1.out.more (m := l.take c) (by rw [List.length_drop, List.length_take]; omega) o2 g2
             rw [← hL2] at K2
             obtain ⟨b2, d2, rfl, -, -, i2⟩ := K2.ints
             have hM : ∀ s, s ∈ L2 ↔ s ∈ l := fun s => by rw [hL2]; exact turn_mem l c s
             have hlen : L2.length ≤ 4611686018427387904 := by rw [hL2, List.length_append, List.length_drop, List.length_take]; omega
             have Q0 : Hid (Calls Try.prog 10 #[.slice a0 l.length cap0] w2 fun e w' => e = .returned (.int .i64 14) ∧ w2 = w') := by
               have := pdec_any a0 l cap0 w2 (by omega) (HI.out.below K2.bel)
               rw [HD.out] at this
               exact this
             have Q1 : Hid (Calls Try.prog 10 #[.slice b2 L2.length d2] w2 fun e w' => e = .returned (.int .i64 14) ∧ w2 = w') := by
               have := pdec_any b2 L2 d2 w2 hlen i2
               rw [dec_perm HS.out hM, HD.out] at this
               exact this
             have Q2 : Hid (Calls Try.prog 12 #[.slice b2 L2.length d2] w2 fun e w' => e = .returned (.bool true) ∧ w2 = w') := by
               have := psafe_any b2 L2 d2 w2 hlen i2
               rw [saf_mem HS.out fun s h => (hM s).1 h] at this
               exact this
             have HB2 := hide K2.bel
             clear o2 g2 K2 i2 hL2 hM hlen))
        all_goals
          go_wp2_with fail
          refine Q0.out.mono ?_
          rintro e u ⟨rfl, rfl⟩
          go_wp2_with fail
          refine Q1.out.mono ?_
          rintro e u ⟨rfl, rfl⟩
          go_wp2_with (first
            | (go_at_call 12; refine Q2.out.mono ?_; rintro e u ⟨rfl, rfl⟩)
            | (go_at_call 7; refine (pawake_any _).mono ?_; rintro e u ⟨rfl, hb⟩; have HE := hide (bel_on' HB2.out hb); clear hb))
          go_ret
          exact ⟨rfl, HE.out⟩
      · skip
        have HD := hide ed
        clear ed HV
        obtain ⟨c0, c1⟩ := um_bd a1 ((l.length : Int) + 1) (by omega) (by omega)
        obtain ⟨c, hc⟩ : ∃ c : Nat, um a1 ((l.length : Int) + 1) = c := ⟨(um a1 ((l.length : Int) + 1)).toNat, by omega⟩
        have hcl : c ≤ l.length := by omega
        unfold um at hc
        have hs1 := fun W => tail_run W a0 l.length cap0 c hcl
        have hs2 := fun W => head_run W a0 l.length cap0 c (by have := HLC.out; omega)
        have KO : Hid (OwnI wr (wr.alloc (.cells #[] 3)).drew (.slice (some ⟨wr.heap.size, 0, none⟩) 0 0) []) := (OwnI.fresh (Below.refl _ _)).drew
        have KA : Hid (Ints (wr.alloc (.cells #[] 3)).drew (tailA a0 cap0 c) (l.drop c)) := (HI.out.tail cap0 c HLC.out).below ((Below.refl _ _).alloc (Nat.le_refl _) _).drew
        have KN : Hid (tailA a0 cap0 c = none → l.length - c = 0 ∧ cap0 - c = 0) := fun h => by have := HN.out (tail_nil h); omega
        have KM : Hid (a0 = none → c = 0 ∧ cap0 = 0) := fun h => by have := HN.out h; omega
        clear c0 c1
        go_wp2_with fail
        go_region_law (first
          | (refine step_nums rfl (.tmp 52) (.tmp 55) rfl wr.heap.size _ 0 [] rfl KO.out.own (tailA a0 cap0 c) (l.length - c) (cap0 - c) (l.drop c) (by simp) rfl KN.out KA.out (by omega) (by simp) ?_
             intro v1 w1 o1 g1
             have K1 : Hid (OwnI wr w1 v1 (l.drop c)) := KO.out.more (m := l.drop c) (by simp) o1 g1
             have HO1 : Hid (w1.ownsRow wr.heap.size 3 1 v1 (l.length - c) ((l.drop c).map (Value.int .i64))) := by have := K1.out.own; rw [List.length_drop] at this; exact this
             have KB : Hid (Ints w1 a0 (l.take c)) := (HI.out.head c).below K1.out.bel
             clear o1 g1)
          | (refine step_nums rfl (.tmp 56) (.tmp 59) rfl wr.heap.size v1 (l.length - c) (l.drop c) rfl HO1.out a0 c cap0 (l.take c) (by rw [List.length_take]; omega) rfl KM.out KB.out (by omega) K1.out.bel.size ?_
             intro v2 w2 o2 g2
             obtain ⟨L2, hL2⟩ : ∃ L', L' = l.drop c ++ l.take c := ⟨_, rfl⟩
             have K2 : OwnI wr w2 v2 (l.drop c ++ l.take c) := K1.out.more (m := l.take c) (by rw [List.length_drop, List.length_take]; omega) o2 g2
             rw [← hL2] at K2
             obtain ⟨b2, d2, rfl, -, -, i2⟩ := K2.ints
             have hM : ∀ s, s ∈ L2 ↔ s ∈ l := fun s => by rw [hL2]; exact turn_mem l c s
             have hlen : L2.length ≤ 4611686018427387904 := by rw [hL2, List.length_append, List.length_drop, List.length_take]; omega
             have Q0 : Hid (Calls Try.prog 10 #[.slice a0 l.length cap0] w2 fun e w' => e = .returned (.int .i64 0) ∧ w2 = w') := by
               have := pdec_any a0 l cap0 w2 (by omega) (HI.out.below K2.bel)
               rw [HD.out] at this
               exact this
             have Q1 : Hid (Calls Try.prog 10 #[.slice b2 L2.length d2] w2 fun e w' => e = .returned (.int .i64 0) ∧ w2 = w') := by
               have := pdec_any b2 L2 d2 w2 hlen i2
               rw [dec_perm HS.out hM, HD.out] at this
               exact this
             have Q2 : Hid (Calls Try.prog 12 #[.slice b2 L2.length d2] w2 fun e w' => e = .returned (.bool true) ∧ w2 = w') := by
               have := psafe_any b2 L2 d2 w2 hlen i2
               rw [saf_mem HS.out fun s h => (hM s).1 h] at this
               exact this
             have HB2 := hide K2.bel
             clear o2 g2 K2 i2 hL2 hM hlen))
        all_goals
          go_wp2_with fail
          refine Q0.out.mono ?_
          rintro e u ⟨rfl, rfl⟩
          go_wp2_with fail
          refine Q1.out.mono ?_
          rintro e u ⟨rfl, rfl⟩
          go_wp2_with (first
            | (go_at_call 12; refine Q2.out.mono ?_; rintro e u ⟨rfl, rfl⟩)
            | (go_at_call 7; refine (pawake_any _).mono ?_; rintro e u ⟨rfl, hb⟩; have HE := hide (bel_on' HB2.out hb); clear hb))
          go_ret
          exact ⟨rfl, HE.out⟩
end Go.Proofs.Ytlndiobkkmknnaa
