/-
  Own texts put together: EntCut, EntNumM.
-/
import Derived.Test.YtdbmnjodkpeobaaGreatDoorBd13
/-
  Contract: the reference's Cuts at a space: the words that cutW tells.
-/
namespace Go.Proofs.YtdbmnjodkpeobaaGreatDoor
open Go.ChangeShapes Go.WideShapes Go.ChangeAt Go.RowKit

/-- What Cuts has done ahead of place i: the words D, and what begins at f has no space so far. -/
def CutI (t : List UInt8) (i f : Nat) (D : List (List UInt8)) : Prop :=
  (i ≤ t.length ∧ f ≤ i ∧ cutW t = D ++ cutW (t.drop f) ∧ (32 : UInt8) ∉ (t.drop f).take (i - f)) ∨ (i = t.length + 1 ∧ cutW t = D)

theorem cut_start (t : List UInt8) : CutI t 0 0 [] := .inl ⟨Nat.zero_le _, Nat.le_refl _, by simp, by simp⟩
theorem drop_at (t : List UInt8) (f i : Nat) (hf : f ≤ i) (hi : i < t.length) : t.drop f = (t.drop f).take (i - f) ++ t[i] :: t.drop (i + 1) := by
  have e : t.drop f = (t.drop f).take (i - f) ++ (t.drop f).drop (i - f) := (List.take_append_drop _ _).symm
  rw [List.drop_drop, show f + (i - f) = i by omega, List.drop_eq_getElem_cons hi] at e
  exact e
theorem cut_next {t : List UInt8} {i f : Nat} {D : List (List UInt8)} (h : CutI t i f D) (hi : i < t.length) (hb : t[i] ≠ 32) : CutI t (i + 1) f D := by
  rcases h with ⟨h1, h2, h3, h4⟩ | ⟨h1, _⟩
  · refine .inl ⟨hi, by omega, h3, ?_⟩
    have e : (t.drop f).take (i + 1 - f) = (t.drop f).take (i - f) ++ [t[i]] := by
      rw [show i + 1 - f = (i - f) + 1 by omega, List.take_succ_eq_append_getElem (by simp; omega)]
      simp [show f + (i - f) = i by omega]
    rw [e]
    intro hm
    rcases List.mem_append.1 hm with hm | hm
    · exact h4 hm
    · simp at hm; exact hb hm.symm
  · omega
theorem cut_space {t : List UInt8} {i f : Nat} {D : List (List UInt8)} (h : CutI t i f D) (hi : i < t.length) (hb : t[i] = 32) : CutI t (i + 1) (i + 1) (D ++ [(t.drop f).take (i - f)]) := by
  rcases h with ⟨h1, h2, h3, h4⟩ | ⟨h1, _⟩
  · refine .inl ⟨hi, Nat.le_refl _, ?_, by simp⟩
    have e2 : cutW (t.drop f) = (t.drop f).take (i - f) :: cutW (t.drop (i + 1)) := by
      have e := drop_at t f i h2 hi
      rw [hb] at e
      exact (congrArg cutW e).trans (cutW_at h4 _)
    rw [h3, e2]
    simp
  · omega
theorem cut_last {t : List UInt8} {f : Nat} {D : List (List UInt8)} (h : CutI t t.length f D) : CutI t (t.length + 1) (t.length + 1) (D ++ [(t.drop f).take (t.length - f)]) := by
  rcases h with ⟨h1, h2, h3, h4⟩ | ⟨h1, _⟩
  · refine .inr ⟨rfl, ?_⟩
    have e : (t.drop f).take (t.length - f) = t.drop f := List.take_of_length_le (by simp)
    rw [e] at h4 ⊢
    rw [h3, cutW_plain h4]
  · omega
theorem cut_over {t : List UInt8} {i f : Nat} {D : List (List UInt8)} (h : CutI t i f D) (hi : ¬ i ≤ t.length) : cutW t = D := by
  rcases h with ⟨h1, _⟩ | ⟨_, h2⟩
  · exact absurd h1 hi
  · exact h2
theorem cut_from {t : List UInt8} {i f : Nat} {D : List (List UInt8)} (h : CutI t i f D) (hi : i ≤ t.length) : f ≤ i := by
  rcases h with ⟨_, h2, _⟩ | ⟨h1, _⟩
  · exact h2
  · omega

theorem extract_list (s : ByteArray) (f i : Nat) : (s.extract f i).data.toList = (s.data.toList.drop f).take (i - f) := by
  rw [Lib.extract_data]

set_option maxRecDepth 100000 in
set_option maxHeartbeats 1000000 in
theorem cuts_any (s : ByteArray) (w : World) (hs : s.size ≤ 1000) :
    Calls Tryz.prog 67 #[.string s, .int .u8 32] w fun e w' => ∃ a c ws, e = .returned (.slice a ws.length c) ∧ Strs w' a ws ∧ ws.map (·.data.toList) = cutW s.data.toList ∧ ws.length ≤ c ∧ ws.length ≤ 1001 ∧ Below w.heap.size w w' := by
  have HLn : Hid (s.data.toList.length = s.size) := Array.length_toList
  go_enter Tryz.func67, Tryz.ntmps67
  go_wp2
  go_loopw [5, 6, 7] (fun v fv iv wr => ∃ (f i : Nat) (D : List ByteArray), fv = .int .i64 f ∧ iv = .int .i64 i ∧ i ≤ s.size + 1 ∧ D.length ≤ i ∧ Hid (CutI s.data.toList i f (D.map (·.data.toList))) ∧ Hid (wr.ownsRow w.heap.size 9 1 v D.length (D.map Value.string)) ∧ Hid (Below w.heap.size w wr)) (fun _ _ iv _ => s.size + 1 - (intOf iv).toNat)
  case atStart => exact ⟨0, 0, [], rfl, rfl, by omega, by simp, cut_start _, ⟨rfl, .inl ⟨rfl, rfl⟩⟩, Below.refl _ _⟩
  case round =>
    obtain ⟨f, i, D, rfl, rfl, hi, hD, HC, HO, HR⟩ := hrel
    by_cases hlt : i < s.size
    · have hfi : f ≤ i := cut_from HC.out (by rw [HLn.out]; omega)
      have HG : Hid (s.data.toList[i]'(by rw [HLn.out]; exact hlt) = s[i]) := by show _ = _; rw [Array.getElem_toList]; rfl
      by_cases hb : s[i] = 32
      · have e2 : ((s[i].toNat : Int) == 32) = true := by rw [hb]; rfl
        have e1 : ((i : Int) == (s.size : Int)) = false := by simp; omega
        have HN : Hid (CutI s.data.toList (i + 1) (i + 1) ((D ++ [s.extract f i]).map (·.data.toList))) := by
          show CutI _ _ _ _
          rw [List.map_append, List.map_cons, List.map_nil, extract_list]
          exact cut_space HC.out (by rw [HLn.out]; exact hlt) (by rw [HG.out]; exact hb)
        clear hb
        have hf0 : (0 : Int) ≤ (f : Int) := by omega
        have hf1 : (f : Int) ≤ (i : Int) := by omega
        go_wp2_with (first
          | (at_builtin; refine append_strs rfl (.tmp 25) (.tmp 30) rfl w.heap.size _ D.length D rfl (owned_on HO.out ((Below.refl _ _).alloc (Nat.le_refl _) _)) ⟨wr.heap.size, 0, none⟩ 1 1 [s.extract f i] rfl rfl ?hst ?hnn ?hba ?_; (case hst => exact strs_one wr _); (case hnn => omega); (case hba => have := HR.out.size; simp; omega); intro v6 w6 o6 g6))
        have HB6 : Hid (Below w.heap.size w w6) := by
          show Below w.heap.size w w6
          have h5 := HR.out.alloc HR.out.size (.cells #[.string (s.extract f i)] 9)
          exact h5.grown g6 h5.size (fun j hj => (HO.out.lt j hj).1)
        have O6 : Hid (w6.ownsRow w.heap.size 9 1 v6 (D ++ [s.extract f i]).length ((D ++ [s.extract f i]).map Value.string)) := by
          show w6.ownsRow _ _ _ _ _ _
          simpa using o6
        clear o6 g6
        go_wp2
        go_roundw
        case rel => exact ⟨i + 1, i + 1, D ++ [s.extract f i], by go_num, by go_num, by omega, by simp; omega, HN, O6, HB6⟩
        case measure => simp [intOf]; omega
      · have e2 : ((s[i].toNat : Int) == 32) = false := by
          simp
          intro h
          apply hb
          apply UInt8.toNat_inj.1
          show s[i].toNat = 32
          omega
        have e1 : ((i : Int) == (s.size : Int)) = false := by simp; omega
        have HN : Hid (CutI s.data.toList (i + 1) f (D.map (·.data.toList))) := cut_next HC.out (by rw [HLn.out]; exact hlt) (by rw [HG.out]; exact hb)
        clear hb
        go_wp2
        go_roundw
        case rel => exact ⟨f, i + 1, D, rfl, by go_num, by omega, by omega, HN, HO, HR⟩
        case measure => simp [intOf]; omega
    · by_cases he : i = s.size
      · subst he
        have hfi : f ≤ s.size := cut_from HC.out (by rw [HLn.out]; omega)
        have HN : Hid (CutI s.data.toList (s.size + 1) (s.size + 1) ((D ++ [s.extract f s.size]).map (·.data.toList))) := by
          show CutI _ _ _ _
          rw [List.map_append, List.map_cons, List.map_nil, extract_list]
          have h1 := HC.out
          rw [← HLn.out] at h1 ⊢
          exact cut_last h1
        have hf0 : (0 : Int) ≤ (f : Int) := by omega
        have hf1 : (f : Int) ≤ (s.size : Int) := by omega
        go_wp2_with (first
          | (at_builtin; refine append_strs rfl (.tmp 25) (.tmp 30) rfl w.heap.size _ D.length D rfl (owned_on HO.out ((Below.refl _ _).alloc (Nat.le_refl _) _)) ⟨wr.heap.size, 0, none⟩ 1 1 [s.extract f s.size] rfl rfl ?hst ?hnn ?hba ?_; (case hst => exact strs_one wr _); (case hnn => omega); (case hba => have := HR.out.size; simp; omega); intro v6 w6 o6 g6))
        have HB6 : Hid (Below w.heap.size w w6) := by
          show Below w.heap.size w w6
          have h5 := HR.out.alloc HR.out.size (.cells #[.string (s.extract f s.size)] 9)
          exact h5.grown g6 h5.size (fun j hj => (HO.out.lt j hj).1)
        have O6 : Hid (w6.ownsRow w.heap.size 9 1 v6 (D ++ [s.extract f s.size]).length ((D ++ [s.extract f s.size]).map Value.string)) := by
          show w6.ownsRow _ _ _ _ _ _
          simpa using o6
        clear o6 g6
        go_wp2
        go_roundw
        case rel => exact ⟨s.size + 1, s.size + 1, D ++ [s.extract f s.size], by go_num, by go_num, by omega, by simp; omega, HN, O6, HB6⟩
        case measure => simp [intOf]
      · have HE : Hid (cutW s.data.toList = D.map (·.data.toList)) := cut_over HC.out (by rw [HLn.out]; omega)
        have hle : ¬ (i : Int) ≤ (s.size : Int) := by omega
        obtain ⟨aj, cj, rfl, hjl, hjc, hst⟩ := owned_strs HO.out
        have HST : Hid (Strs wr aj D) := hst
        have HJC : Hid (D.length ≤ cj) := hjc
        clear hst hjc hjl
        go_wp2
        go_ret
        exact ⟨aj, cj, D, rfl, HST.out, HE.out.symm, HJC.out, by omega, HR.out⟩
end Go.Proofs.YtdbmnjodkpeobaaGreatDoor
/-
  Plain facts for the reference's number: what digits ahead of the end spell is no more than the whole; how a number is written, by its sign.
-/
namespace Go.Proofs.YtdbmnjodkpeobaaGreatDoor
open Go

theorem decFrom_ge : ∀ (l : List UInt8) (acc n : Nat), Lib.decFrom acc l = some n → acc ≤ n
  | [], acc, n, h => by simp only [Lib.decFrom, Option.some.injEq] at h; omega
  | b :: l, acc, n, h => by
    simp only [Lib.decFrom] at h
    split at h
    · have := decFrom_ge l _ n h
      omega
    · cases h
theorem decFrom_app : ∀ (a b : List UInt8) (acc m : Nat), Lib.decFrom acc a = some m → Lib.decFrom acc (a ++ b) = Lib.decFrom m b
  | [], b, acc, m, h => by simp only [Lib.decFrom, Option.some.injEq] at h; subst h; rfl
  | c :: a, b, acc, m, h => by
    simp only [Lib.decFrom, List.cons_append] at h ⊢
    split at h
    · exact decFrom_app a b _ m h
    · cases h
theorem prefix_le (u j m : Nat) (h : Lib.decFrom 0 ((Lib.decDigits u).take j) = some m) : m ≤ u := by
  have e := decFrom_app _ ((Lib.decDigits u).drop j) 0 m h
  rw [List.take_append_drop, dec_val] at e
  exact decFrom_ge _ _ _ e.symm

/-- The text t of digits behind the sign: what is written as an entry's number spells it. -/
def DigR (s t : ByteArray) (neg : Bool) : Prop :=
  ∀ v : Int, -1000000000 ≤ v → v ≤ 1000000000 → s.data.toList = Lib.itoa v → ∃ u : Nat, u ≤ 1000000000 ∧ t.data.toList = Lib.decDigits u ∧ v = if neg = true then -(u : Int) else (u : Int)

theorem digR_plain (s : ByteArray) (h : ∀ r, s.data.toList ≠ 45 :: r) : DigR s s false := by
  intro v h0 h1 e
  rcases int_cases v with ⟨u, rfl⟩ | ⟨u, hu, rfl⟩
  · rw [itoa_nat] at e
    exact ⟨u, by omega, e, by simp⟩
  · rw [itoa_neg' u hu] at e
    exact absurd e (h _)
theorem digR_minus (s t : ByteArray) (h : s.data.toList = 45 :: t.data.toList) : DigR s t true := by
  intro v h0 h1 e
  rcases int_cases v with ⟨u, rfl⟩ | ⟨u, hu, rfl⟩
  · rw [itoa_nat, h] at e
    exact absurd e.symm (dec_head u _)
  · rw [itoa_neg' u hu, h] at e
    exact ⟨u, by omega, (List.cons.inj e).2, by simp⟩

theorem num_bad {s t : ByteArray} {neg : Bool} (hd : DigR s t neg) {j : Nat} (hj : j < t.data.toList.length) (hb : t.data.toList[j].toNat < 48 ∨ 57 < t.data.toList[j].toNat) (v : Int) : NumR s v false := by
  refine ⟨(fun h => by cases h), fun v' a1 a2 e => ?_⟩
  obtain ⟨u, _, ht, _⟩ := hd v' a1 a2 e
  have := dec_digits u t.data.toList[j] (by rw [← ht]; exact List.getElem_mem hj)
  omega
theorem num_great {s t : ByteArray} {neg : Bool} (hd : DigR s t neg) {j m : Nat} (hm : Lib.decFrom 0 (t.data.toList.take j) = some m) (hg : 1099511627776 < m) (v : Int) : NumR s v false := by
  refine ⟨(fun h => by cases h), fun v' a1 a2 e => ?_⟩
  obtain ⟨u, hu, ht, _⟩ := hd v' a1 a2 e
  rw [ht] at hm
  have := prefix_le u j m hm
  omega
theorem num_empty {s t : ByteArray} {neg : Bool} (hd : DigR s t neg) (h0 : t.data.toList = []) (v : Int) : NumR s v false := by
  refine ⟨(fun h => by cases h), fun v' a1 a2 e => ?_⟩
  obtain ⟨u, _, ht, _⟩ := hd v' a1 a2 e
  rw [h0] at ht
  exact absurd ht.symm (dec_ne u)
theorem num_whole {s t : ByteArray} {neg : Bool} (hd : DigR s t neg) {m : Nat} (hm : Lib.decFrom 0 t.data.toList = some m) (hb : m ≤ 10995116277769) (v : Int) (hv : v = if neg = true then -(m : Int) else (m : Int)) :
    NumR s v ((⟨(Lib.itoa v).toArray⟩ : ByteArray).toList == s.toList) := by
  refine ⟨fun h => ⟨(itoaB_eq s v).1 h, ?_⟩, fun v' a1 a2 e => ?_⟩
  · cases neg <;> simp at hv <;> omega
  · obtain ⟨u, _, ht, hv'⟩ := hd v' a1 a2 e
    rw [ht, dec_val] at hm
    cases hm
    have e2 : v = v' := hv.trans hv'.symm
    subst e2
    exact ⟨(itoaB_eq s v).2 e, rfl⟩
end Go.Proofs.YtdbmnjodkpeobaaGreatDoor
