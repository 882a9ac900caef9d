/-
  Contract: the reference's digits.
-/
import Derived.Test.YteefmibnkfojiaaDoorOrdC
import Derived.Test.YteefmibnkfojiaaDoorOrdR
import Derived.Deep.LoopGhost
import Derived.Deep.CutBlock
namespace Go.Proofs.YteefmibnkfojiaaDoor
open Go.ChangeShapes Go.WideShapes Go.ChangeAt Go.RowKit

/-- A natural number as a cell. -/
def nCell (n : Nat) : Value := .int .i64 (n : Int)
theorem Tryd.infoNum : (Tryd.prog.info? 3).map (fun i => (i.zero, i.size, i.bytes)) = some (some (.int .i64 0), 1, 8) := by kernel_rfl
/-- The slice at a reads as the numbers l. -/
def Nat1 (w : World) (a : Option Addr) (l : List Nat) : Prop :=
  l = [] ∨ ∃ b off, a = some ⟨b, off, none⟩ ∧ ∀ i, i < l.length → w.cell? ⟨b, off + i, none⟩ = some (.int .i64 ((l.getD i 0 : Nat) : Int))
theorem Nat1.below {w w' : World} {a : Option Addr} {l : List Nat} (h : Nat1 w a l) (hb : Below w.heap.size w w') : Nat1 w' a l := by
  rcases h with h | ⟨b, off, ha, hc⟩
  · exact .inl h
  · exact .inr ⟨b, off, ha, fun i hi => cellL (hc i hi) hb⟩
theorem Nat1.at {w : World} {a : Option Addr} {l : List Nat} (h : Nat1 w a l) {i : Nat} (hi : i < l.length) : ∃ b off, a = some ⟨b, off, none⟩ ∧ w.cell? ⟨b, off + i, none⟩ = some (.int .i64 ((l.getD i 0 : Nat) : Int)) := by
  rcases h with h | ⟨b, off, ha, hc⟩
  · subst h; simp at hi
  · exact ⟨b, off, ha, hc i hi⟩
theorem row_nat {w : World} {base : Nat} {a : Option Addr} {n c : Nat} {l : List Nat} (h : w.ownsRow base 3 1 (.slice a n c) n (l.map nCell)) : l.length = n ∧ Nat1 w a l := by
  have hc := fun g hg => h.cells (g := g) hg
  obtain ⟨hlen, h⟩ := id h
  rw [List.length_map, Nat.mul_one] at hlen
  refine ⟨hlen, ?_⟩
  rcases h with ⟨_, he⟩ | ⟨g, cap, cur, e, _⟩
  · subst he
    exact .inl (List.eq_nil_of_length_eq_zero hlen)
  · cases e
    refine .inr ⟨g, 0, rfl, fun i hi => ?_⟩
    have := hc g rfl i (nCell (l.getD i 0)) (by simp [List.getD, hi])
    rw [← st_add']
    exact this
theorem append_nat {w : World} {ops : Array Oper} {rest : List Oper} {o : Oper} {a : Act} {Q : Exit → Act → World → Prop} (hgd : o.guard = none) (s x : Operand)
    (ho : o.op = .call { callee := .builtin .append, args := #[s, x], argTypes := #[43, 43] })
    (base : Nat) (v : Value) (L : List Nat) (hs : a.eval s = v) (hown : w.ownsRow base 3 1 v L.length (L.map nCell))
    (ad : Addr) (y : Nat) (hx : a.eval x = .slice (some ad) 1 1) (hl : w.cell? ad = some (nCell y)) (hb : L.length + 1 ≤ 1000000) (hbase : base ≤ w.heap.size)
    (h : ∀ a' c' w', w'.ownsRow base 3 1 (.slice a' (L.length + 1) c') (L ++ [y]).length ((L ++ [y]).map nCell) → w.grownBy w' v.ownBlock → wpList Tryd.prog ops Q rest (a.put o.dst (.slice a' (L.length + 1) c')) w') : wpList Tryd.prog ops Q (o :: rest) a w := by
  obtain ⟨i0, hi, hz0, hz1, hz2⟩ := info_parts Tryd.infoNum
  refine wpList_append_own _ hgd s x 43 ho base 3 i0 (.int .i64 0) 1 8 Tryd.underlying43 hi hz0 hz1 hz2 rfl (by decide) v L.length _ hs hown ad 1 1 [nCell y] hx rfl ?_ ?_ (by unfold maxLen; omega) (by omega) hbase ?_
  · intro j u hu
    have h0 : j = 0 := by
      rcases j with _ | j
      · rfl
      · simp at hu
    subst h0
    simp at hu
    subst hu
    simpa [Addr.add] using hl
  · intro u hu
    simp at hu
    subst hu
    rfl
  · intro v' w' h1 h2 _
    obtain ⟨a', c', rfl, _⟩ := row_slice h1
    refine h a' c' w' ?_ h2
    rw [List.map_append, List.length_append]
    exact h1

theorem size_one (m : ByteArray) : (m ++ (⟨#[48]⟩ : ByteArray)).size = m.size + 1 := by rw [ByteArray.size_append]; rfl
theorem digs_stop {l : List UInt8} {i n : Nat} (h : l.length ≤ i ∨ ∃ h : i < l.length, digB l[i] = false) : digsA (l.drop i) (some n) = n :: digsA (l.drop i) none := by
  refine digs_end _ _ ?_
  rcases h with h | ⟨h, hc⟩
  · rw [List.drop_eq_nil_of_le h]; exact .inl rfl
  · exact .inr ⟨l[i], l.drop (i + 1), List.drop_eq_getElem_cons h, hc⟩
theorem digs_skip {l : List UInt8} {i : Nat} (h : i < l.length) (hc : digB l[i] = false) : digsA (l.drop i) none = digsA (l.drop (i + 1)) none := by
  rw [List.drop_eq_getElem_cons h, digs_mark _ _ hc]
theorem digs_start {l : List UInt8} {i : Nat} (h : i < l.length) (hc : digB l[i] = true) : digsA (l.drop i) none = digsA (l.drop i) (some 0) := by
  rw [List.drop_eq_getElem_cons h, digs_first _ _ hc]
theorem digs_next {l : List UInt8} {i n : Nat} (h : i < l.length) (hc : digB l[i] = true) : digsA (l.drop i) (some n) = digsA (l.drop (i + 1)) (some (min (10 * n + (l[i].toNat - 48)) 1099511627776)) := by
  rw [List.drop_eq_getElem_cons h, digsA, if_pos hc]

set_option maxRecDepth 100000 in
set_option maxHeartbeats 8000000 in
theorem digits_any (l : List UInt8) (w : World) (hl : l.length ≤ 300) :
    Calls Tryd.prog 21 #[.string (byB l)] w fun e w' => ∃ (av : Option Addr) (cv : Nat) (m : ByteArray), e = .returned (.tuple #[.slice av (digsA l none).length cv, .string m]) ∧ Nat1 w' av (digsA l none) ∧ (digsA l none).length ≤ 300 ∧ Below w.heap.size w w' := by
  obtain ⟨S, hS⟩ : ∃ S, S = byB l := ⟨_, rfl⟩
  rw [← hS]
  have hsz : S.size ≤ 300 := by rw [hS, byB_size]; exact hl
  have HZ : Hid (S.size = l.length) := by show _ = _; rw [hS, byB_size]
  have HE := hide hS
  clear hS hl
  go_enter Tryd.func21, Tryd.ntmps21
  go_wp2
  have HR0 : Hid (w.ownsRow w.heap.size 3 1 (.slice none 0 0) ([] : List Nat).length (([] : List Nat).map nCell)) := row_nil w w.heap.size 3 1
  go_loopw [4, 5, 6] (fun lv mv iv wr => ∃ (i : Nat) (L : List Nat) (m : ByteArray), iv = .int .i64 i ∧ mv = .string m ∧ i ≤ S.size ∧ m.size ≤ i ∧ L.length ≤ i ∧ Hid (wr.ownsRow w.heap.size 3 1 lv L.length (L.map nCell)) ∧ Hid (L ++ digsA (l.drop i) none = digsA l none) ∧ Hid (Below w.heap.size w wr)) (fun _ _ iv _ => S.size - (intOf iv).toNat)
  case atStart => exact ⟨0, [], ⟨#[]⟩, rfl, rfl, Nat.zero_le _, Nat.le_refl _, Nat.le_refl _, HR0, rfl, Below.refl _ _⟩
  case round =>
    obtain ⟨i, L, m, rfl, rfl, hi, hms, hLl, HO, HD, HB⟩ := hrel
    obtain ⟨av, cv, rfl, -⟩ := row_slice HO.out
    by_cases hlt : i < S.size
    · have hb := S[i].toNat_lt
      have HC : Hid (∃ h : i < l.length, l[i] = S[i]) := ⟨by have := HZ.out; omega, by have := HE.out; subst this; rw [byB_get]⟩
      have hil : (i : Int) < (S.size : Int) := by omega
      obtain ⟨X, hX⟩ : ∃ X, X = S.extract i (i + 1) := ⟨_, rfl⟩
      have hes : X.size ≤ 1 := by rw [hX]; simp; omega
      have hsl : ∀ W : World, (Instr.slice 9 (.string S) (some (.int .i64 (i : Int))) (some (.int .i64 ((i : Int) + 1))) none).run Tryd.prog W = .ok (.string X) W := fun W => by
        rw [run_slice_string W 9 S .i64 .i64 (i : Int) ((i : Int) + 1) Tryd.underlying9 (by omega) (by omega) (by omega), hX]
        have e1 : ((i : Int)).toNat = i := by omega
        have e2 : ((i : Int) + 1).toNat = i + 1 := by omega
        rw [e1, e2]
      clear hX
      by_cases c2 : (S[i].toNat : Int) < 48
      · have HX : Hid (L ++ digsA (l.drop (i + 1)) none = digsA l none) := by
          obtain ⟨h1, h2⟩ := HC.out
          show _ = _
          rw [← HD.out, digs_skip h1 (by rw [h2]; unfold digB; simp; omega)]
        go_wp2
        go_roundw
        case rel => exact ⟨i + 1, L, m ++ X, by go_num, rfl, by omega, by simp; omega, by omega, HO, HX, HB⟩
        case measure => simp [intOf]; omega
      by_cases c3 : (S[i].toNat : Int) > 57
      · have HX : Hid (L ++ digsA (l.drop (i + 1)) none = digsA l none) := by
          obtain ⟨h1, h2⟩ := HC.out
          show _ = _
          rw [← HD.out, digs_skip h1 (by rw [h2]; unfold digB; simp; omega)]
        go_wp2
        go_roundw
        case rel => exact ⟨i + 1, L, m ++ X, by go_num, rfl, by omega, by simp; omega, by omega, HO, HX, HB⟩
        case measure => simp [intOf]; omega
      have HD2 : Hid (L ++ digsA (l.drop i) (some 0) = digsA l none) := by
        obtain ⟨h1, h2⟩ := HC.out
        show _ = _
        rw [← HD.out, digs_start h1 (by rw [h2, digB_iff]; omega)]
      have HDG : Hid (∃ h : i < l.length, digB l[i] = true) := by
        obtain ⟨h1, h2⟩ := HC.out
        exact ⟨h1, by rw [h2, digB_iff]; omega⟩
      clear hsl hes hb
      go_wp2
      go_loop [6, 7] (fun iv nv => ∃ k n : Nat, iv = .int .i64 k ∧ nv = .int .i64 n ∧ i ≤ k ∧ k ≤ S.size ∧ n ≤ 1099511627776 ∧ Hid (L ++ digsA (l.drop k) (some n) = digsA l none)) (fun iv _ => S.size - (intOf iv).toNat)
      case atStart => exact ⟨i, 0, rfl, rfl, Nat.le_refl _, by omega, Nat.zero_le _, HD2⟩
      case round =>
        obtain ⟨k, n, rfl, rfl, hik0, hkS, hn, HK⟩ := hrel
        by_cases hk : k < S.size
        · have hb := S[k].toNat_lt
          have HCk : Hid (∃ h : k < l.length, l[k] = S[k]) := ⟨by have := HZ.out; omega, by have := HE.out; subst this; rw [byB_get]⟩
          have hkl : (k : Int) < (S.size : Int) := by omega
          by_cases c4 : (S[k].toNat : Int) < 48
          · have HSTP : Hid (digsA (l.drop k) (some n) = n :: digsA (l.drop k) none) := by
              obtain ⟨h1, h2⟩ := HCk.out
              exact digs_stop (.inr ⟨h1, by rw [h2]; unfold digB; simp; omega⟩)
            have HLT : Hid (i < k) := by
              show i < k
              rcases Nat.lt_or_ge i k with h | h
              · exact h
              · exfalso
                obtain ⟨h1, h2⟩ := HCk.out
                obtain ⟨h3, h4⟩ := HDG.out
                have e : k = i := by omega
                subst e
                rw [h2, digB_iff] at h4
                omega
            have HX : Hid ((L ++ [n]) ++ digsA (l.drop k) none = digsA l none) := by
              show _ = _
              rw [← HK.out, HSTP.out]
              simp
            have hik : i < k := by have := HLT.out; omega
            have HOU := hide (row_stays HO.out (W' := wr.alloc (.cells #[.int .i64 (n : Int)] 3)) (fun kk cs _ hc => ((Below.refl wr.heap.size wr).alloc (Nat.le_refl _) _).block kk (Array.getElem?_eq_some_iff.1 hc).1))
            have hbs : w.heap.size ≤ wr.heap.size := HB.out.size
            go_wp2_with (first
              | (at_builtin; refine append_nat rfl (.tmp 58) (.tmp 60) rfl w.heap.size _ L rfl HOU.out ⟨wr.heap.size, 0, none⟩ n rfl ?hcc ?hnn ?hba ?_; (case hcc => simp [nCell]); (case hnn => omega); (case hba => simp; omega); intro a6 c6 w6 o6 g6; have HO6 := hide o6; have HB6 := hide ((HB.out.alloc HB.out.size (.cells #[.int .i64 (n : Int)] 3)).grown g6 (by have := HB.out.size; simp; omega) (fun j hj => (HO.out.lt j hj).1)); clear o6 g6))
            go_roundw
            case rel => exact ⟨k, L ++ [n], m ++ ⟨#[48]⟩, rfl, rfl, by omega, by rw [size_one]; omega, by simp; omega, HO6, HX, HB6⟩
            case measure => simp [intOf]; omega
          by_cases c5 : (S[k].toNat : Int) > 57
          · have HSTP : Hid (digsA (l.drop k) (some n) = n :: digsA (l.drop k) none) := by
              obtain ⟨h1, h2⟩ := HCk.out
              exact digs_stop (.inr ⟨h1, by rw [h2]; unfold digB; simp; omega⟩)
            have HLT : Hid (i < k) := by
              show i < k
              rcases Nat.lt_or_ge i k with h | h
              · exact h
              · exfalso
                obtain ⟨h1, h2⟩ := HCk.out
                obtain ⟨h3, h4⟩ := HDG.out
                have e : k = i := by omega
                subst e
                rw [h2, digB_iff] at h4
                omega
            have HX : Hid ((L ++ [n]) ++ digsA (l.drop k) none = digsA l none) := by
              show _ = _
              rw [← HK.out, HSTP.out]
              simp
            have hik : i < k := by have := HLT.out; omega
            have HOU := hide (row_stays HO.out (W' := wr.alloc (.cells #[.int .i64 (n : Int)] 3)) (fun kk cs _ hc => ((Below.refl wr.heap.size wr).alloc (Nat.le_refl _) _).block kk (Array.getElem?_eq_some_iff.1 hc).1))
            have hbs : w.heap.size ≤ wr.heap.size := HB.out.size
            go_wp2_with (first
              | (at_builtin; refine append_nat rfl (.tmp 58) (.tmp 60) rfl w.heap.size _ L rfl HOU.out ⟨wr.heap.size, 0, none⟩ n rfl ?hcc ?hnn ?hba ?_; (case hcc => simp [nCell]); (case hnn => omega); (case hba => simp; omega); intro a6 c6 w6 o6 g6; have HO6 := hide o6; have HB6 := hide ((HB.out.alloc HB.out.size (.cells #[.int .i64 (n : Int)] 3)).grown g6 (by have := HB.out.size; simp; omega) (fun j hj => (HO.out.lt j hj).1)); clear o6 g6))
            go_roundw
            case rel => exact ⟨k, L ++ [n], m ++ ⟨#[48]⟩, rfl, rfl, by omega, by rw [size_one]; omega, by simp; omega, HO6, HX, HB6⟩
            case measure => simp [intOf]; omega
          obtain ⟨r, hr⟩ : ∃ r : Nat, r = min (10 * n + (S[k].toNat - 48)) 1099511627776 := ⟨_, rfl⟩
          have HNX : Hid (L ++ digsA (l.drop (k + 1)) (some r) = digsA l none) := by
            obtain ⟨h1, h2⟩ := HCk.out
            show _ = _
            rw [← HK.out, digs_next h1 (by rw [h2, digB_iff]; omega), h2, hr]
          have hr2 : r ≤ 1099511627776 := by omega
          have HRV : Hid ((if 1099511627776 < 10 * (n : Int) + ((S[k].toNat : Int) - 48) then 1099511627776 else 10 * (n : Int) + ((S[k].toNat : Int) - 48)) = (r : Int)) := by show _ = _; split <;> omega
          clear hr
          go_wp2
          go_round
          case rel => exact ⟨k + 1, r, by go_num, congrArg (Value.int .i64) HRV.out, by omega, by omega, hr2, HNX⟩
          case measure => simp [intOf]; omega
        · have HSTP : Hid (digsA (l.drop k) (some n) = n :: digsA (l.drop k) none) := digs_stop (.inl (by have := HZ.out; omega))
          have HLT : Hid (i < k) := by show i < k; omega
          have HX : Hid ((L ++ [n]) ++ digsA (l.drop k) none = digsA l none) := by
            show _ = _
            rw [← HK.out, HSTP.out]
            simp
          have hik : i < k := by have := HLT.out; omega
          have HOU := hide (row_stays HO.out (W' := wr.alloc (.cells #[.int .i64 (n : Int)] 3)) (fun kk cs _ hc => ((Below.refl wr.heap.size wr).alloc (Nat.le_refl _) _).block kk (Array.getElem?_eq_some_iff.1 hc).1))
          have hbs : w.heap.size ≤ wr.heap.size := HB.out.size
          go_wp2_with (first
            | (at_builtin; refine append_nat rfl (.tmp 58) (.tmp 60) rfl w.heap.size _ L rfl HOU.out ⟨wr.heap.size, 0, none⟩ n rfl ?hcc ?hnn ?hba ?_; (case hcc => simp [nCell]); (case hnn => omega); (case hba => simp; omega); intro a6 c6 w6 o6 g6; have HO6 := hide o6; have HB6 := hide ((HB.out.alloc HB.out.size (.cells #[.int .i64 (n : Int)] 3)).grown g6 (by have := HB.out.size; simp; omega) (fun j hj => (HO.out.lt j hj).1)); clear o6 g6))
          go_roundw
          case rel => exact ⟨k, L ++ [n], m ++ ⟨#[48]⟩, rfl, rfl, by omega, by rw [size_one]; omega, by simp; omega, HO6, HX, HB6⟩
          case measure => simp [intOf]; omega
    · have HF : Hid (L = digsA l none) := by
        show _ = _
        rw [← HD.out, List.drop_eq_nil_of_le (by have := HZ.out; omega)]
        simp [digsA]
      obtain ⟨hl1, hl2⟩ := row_nat HO.out
      rw [HF.out] at hl2 hLl
      have HN1 := hide hl2
      have e0 : L.length = (digsA l none).length := by rw [HF.out]
      rw [e0]
      clear hl2 hl1 e0
      go_wp2
      go_ret2
      exact ⟨av, cv, m, rfl, HN1.out, by omega, HB.out⟩
end Go.Proofs.YteefmibnkfojiaaDoor
