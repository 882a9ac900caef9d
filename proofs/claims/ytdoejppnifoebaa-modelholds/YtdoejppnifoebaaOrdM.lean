/-
  Plain facts on orders: what may be one; its text; reading a number, a mark and a number, a whole text; what is read of a text is the order; the numbers of a text.
-/
import Derived.Test.YtdoejppnifoebaaEntM
namespace Go.Proofs.Ytdoejppnifoebaa
open Go

/-- An order. -/
structure Od where
  id : Int
  item : Int
  qty : Int
  client : Int
  price : Int
  steps : List (Int × Int)

def od0 : Od := ⟨0, 0, 0, 0, 0, []⟩
theorem Od.ext' {a b : Od} (h1 : a.id = b.id) (h2 : a.item = b.item) (h3 : a.qty = b.qty) (h4 : a.client = b.client) (h5 : a.price = b.price) (h6 : a.steps = b.steps) : a = b := by
  cases a; cases b; simp_all

/-! What may be. -/
def oidB (n : Int) : Bool := decide (1 ≤ n ∧ n ≤ 999)
def plcB (n : Int) : Bool := decide (0 ≤ n ∧ n < 8)
def amtB (n : Int) : Bool := decide (1 ≤ n ∧ n ≤ 1000000000)
def svcB (n : Int) : Bool := decide (4 ≤ n ∧ n ≤ 6)
theorem oidB_iff {n : Int} : oidB n = true ↔ 1 ≤ n ∧ n ≤ 999 := by unfold oidB; simp
theorem plcB_iff {n : Int} : plcB n = true ↔ 0 ≤ n ∧ n < 8 := by unfold plcB; simp
theorem amtB_iff {n : Int} : amtB n = true ↔ 1 ≤ n ∧ n ≤ 1000000000 := by unfold amtB; simp
theorem svcB_iff {n : Int} : svcB n = true ↔ 4 ≤ n ∧ n ≤ 6 := by unfold svcB; simp

/-- Which step is a service's. -/
def atF : List (Int × Int) → Int → Int
  | [], _ => -1
  | x :: l, s => if x.1 = s then 0 else if atF l s = -1 then -1 else atF l s + 1

def stAt (l : List (Int × Int)) (i : Nat) : Int × Int := l.getD i (0, 0)
def okAt (l : List (Int × Int)) (i : Nat) : Bool := svcB (stAt l i).1 && amtB (stAt l i).2 && !((l.take i).any fun x => x.1 == (stAt l i).1)
def okTo (l : List (Int × Int)) (n : Nat) : Bool := (List.range n).all (okAt l)
def stepsB (l : List (Int × Int)) : Bool := decide (l.length ≤ 3) && okTo l l.length
def mayO (o : Od) : Bool := oidB o.id && plcB o.item && plcB o.client && amtB o.qty && amtB o.price && stepsB o.steps

theorem okTo_succ (l : List (Int × Int)) (n : Nat) : okTo l (n + 1) = (okTo l n && okAt l n) := by
  unfold okTo
  rw [List.range_succ, List.all_append]; simp
theorem okTo_fail {l : List (Int × Int)} {n m : Nat} (h : okAt l n = false) (hm : n < m) : okTo l m = false := by
  unfold okTo
  rw [List.all_eq_false]
  exact ⟨n, by simpa using hm, by simp [h]⟩
theorem okTo_at {l : List (Int × Int)} {n m : Nat} (h : okTo l m = true) (hm : n < m) : okAt l n = true := by
  unfold okTo at h
  rw [List.all_eq_true] at h
  exact h n (by simpa using hm)

theorem atF_cases (l : List (Int × Int)) (s : Int) : (atF l s = -1 ∧ ∀ x ∈ l, x.1 ≠ s) ∨ ∃ n : Nat, n < l.length ∧ atF l s = n ∧ (stAt l n).1 = s ∧ ∀ x ∈ l.take n, x.1 ≠ s := by
  induction l with
  | nil => exact .inl ⟨rfl, (fun x hx => by cases hx)⟩
  | cons x l ih =>
    unfold atF
    by_cases hx : x.1 = s
    · rw [if_pos hx]
      exact .inr ⟨0, by simp, rfl, hx, (fun y hy => by simp at hy)⟩
    · rw [if_neg hx]
      rcases ih with ⟨e, h⟩ | ⟨n, hn, e, h1, h2⟩
      · rw [if_pos e]
        refine .inl ⟨rfl, fun y hy => ?_⟩
        rcases List.mem_cons.1 hy with rfl | hy
        · exact hx
        · exact h y hy
      · rw [if_neg (by omega)]
        refine .inr ⟨n + 1, by simp; omega, by omega, h1, fun y hy => ?_⟩
        rw [List.take_succ_cons] at hy
        rcases List.mem_cons.1 hy with rfl | hy
        · exact hx
        · exact h2 y hy
theorem stAt_mem {l : List (Int × Int)} {n : Nat} (h : n < l.length) : stAt l n ∈ l := by
  unfold stAt
  simp [List.getD, h]
theorem stAt_get {l : List (Int × Int)} {n : Nat} (h : n < l.length) : stAt l n = l[n] := by
  unfold stAt
  simp [List.getD, h]
/-- A service found first just there. -/
theorem atF_first {l : List (Int × Int)} {n : Nat} (h : n < l.length) : (atF l (stAt l n).1 = n) ↔ ((l.take n).any fun x => x.1 == (stAt l n).1) = false := by
  rw [List.any_eq_false]
  rcases atF_cases l (stAt l n).1 with ⟨e, hno⟩ | ⟨m, hm, e, h1, h2⟩
  · exact absurd rfl (hno _ (stAt_mem h))
  · constructor
    · intro he
      have : m = n := by omega
      subst this
      intro x hx
      simpa using h2 x hx
    · intro hall
      rcases Nat.lt_trichotomy m n with hlt | rfl | hgt
      · have : stAt l m ∈ l.take n := by
          rw [stAt_get hm]
          exact List.mem_take_iff_getElem.2 ⟨m, by omega, rfl⟩
        have := hall _ this
        simp [h1] at this
      · exact e
      · have : stAt l n ∈ l.take m := by
          rw [stAt_get h]
          exact List.mem_take_iff_getElem.2 ⟨n, by omega, rfl⟩
        exact absurd rfl (h2 _ this)
theorem okAt_eq {l : List (Int × Int)} {n : Nat} (h : n < l.length) : okAt l n = (svcB (stAt l n).1 && amtB (stAt l n).2 && (atF l (stAt l n).1 == (n : Int))) := by
  unfold okAt
  congr 1
  rw [Bool.eq_iff_iff]
  simp only [Bool.not_eq_true', beq_iff_eq]
  exact (atF_first h).symm

theorem mayO_parts {o : Od} (h : mayO o = true) : (1 ≤ o.id ∧ o.id ≤ 999) ∧ (0 ≤ o.item ∧ o.item < 8) ∧ (0 ≤ o.client ∧ o.client < 8) ∧ (1 ≤ o.qty ∧ o.qty ≤ 1000000000) ∧ (1 ≤ o.price ∧ o.price ≤ 1000000000) ∧ o.steps.length ≤ 3 ∧ ∀ x ∈ o.steps, (4 ≤ x.1 ∧ x.1 ≤ 6) ∧ (1 ≤ x.2 ∧ x.2 ≤ 1000000000) := by
  unfold mayO stepsB at h
  simp only [Bool.and_eq_true, oidB_iff, plcB_iff, amtB_iff, decide_eq_true_eq] at h
  obtain ⟨⟨⟨⟨⟨h1, h2⟩, h3⟩, h4⟩, h5⟩, h6, h7⟩ := h
  refine ⟨h1, h2, h3, h4, h5, h6, fun x hx => ?_⟩
  obtain ⟨n, hn, rfl⟩ := List.getElem_of_mem hx
  have := okTo_at h7 hn
  unfold okAt at this
  simp only [Bool.and_eq_true, svcB_iff, amtB_iff] at this
  rw [← stAt_get hn]
  exact this.1

def sameO (a b : Od) : Bool := (a.id == b.id) && (a.item == b.item) && (a.qty == b.qty) && (a.client == b.client) && (a.price == b.price) && decide (a.steps = b.steps)
theorem sameO_iff (a b : Od) : sameO a b = true ↔ a = b := by
  unfold sameO
  simp only [Bool.and_eq_true, beq_iff_eq, decide_eq_true_eq]
  constructor
  · rintro ⟨⟨⟨⟨⟨h1, h2⟩, h3⟩, h4⟩, h5⟩, h6⟩
    exact Od.ext' h1 h2 h3 h4 h5 h6
  · rintro rfl
    simp

/-! Texts. -/
def kId : List UInt8 := [35]
def kQty : List UInt8 := [58, 32]
def kItem : List UInt8 := [120]
def kPrice : List UInt8 := [32, 102, 111, 114, 32]
def kClient : List UInt8 := [32, 98, 121, 32]
def kSvc : List UInt8 := [59, 32]
def kN : List UInt8 := [42]
def stepL (x : Int × Int) : List UInt8 := kSvc ++ (Lib.itoa x.1 ++ (kN ++ Lib.itoa x.2))
def stepsL : List (Int × Int) → List UInt8
  | [] => []
  | x :: l => stepL x ++ stepsL l
def headL (o : Od) : List UInt8 := kId ++ (Lib.itoa o.id ++ (kQty ++ (Lib.itoa o.qty ++ (kItem ++ (Lib.itoa o.item ++ (kPrice ++ (Lib.itoa o.price ++ (kClient ++ Lib.itoa o.client))))))))
def textL (o : Od) : List UInt8 := headL o ++ stepsL o.steps
def textV (o : Od) : List UInt8 := if mayO o = true then textL o else []
theorem stepsL_append (l m : List (Int × Int)) : stepsL (l ++ m) = stepsL l ++ stepsL m := by
  induction l with
  | nil => rfl
  | cons x l ih => simp [stepsL, ih]
theorem textL_ne (o : Od) : textL o ≠ [] := by unfold textL headL kId; simp
theorem textV_nil (o : Od) : textV o = [] ↔ mayO o = false := by
  unfold textV
  cases h : mayO o
  · simp
  · simp [textL_ne]

/-- A digit? -/
def digB (c : UInt8) : Bool := decide (48 ≤ c.toNat) && decide (c.toNat ≤ 57)
theorem digB_iff {c : UInt8} : digB c = true ↔ 48 ≤ c.toNat ∧ c.toNat ≤ 57 := by unfold digB; simp
/-- It goes on with no digit. -/
def NoDig (l : List UInt8) : Prop := l = [] ∨ ∃ c r, l = c :: r ∧ digB c = false
theorem digVal {c : UInt8} (h : digB c = true) : Lib.digitVal c = some (c.toNat - 48) := by
  unfold Lib.digitVal
  rw [if_pos (digB_iff.1 h)]

/-! Reading a number: the number, and how many digits. -/
def numGo : List UInt8 → Nat → Nat → Option (Nat × Nat)
  | [], n, d => if d = 0 then none else some (n, d)
  | c :: l, n, d =>
    if digB c = true then
      if d > 0 ∧ n = 0 then none
      else if 10 * n + (c.toNat - 48) ≤ 1000000000 then numGo l (10 * n + (c.toNat - 48)) (d + 1) else none
    else if d = 0 then none else some (n, d)

theorem decFrom_le : ∀ (l : List UInt8) (a v : Nat), Lib.decFrom a l = some v → a ≤ v
  | [], a, v, h => by simp only [Lib.decFrom, Option.some.injEq] at h; omega
  | c :: l, a, v, h => by
    simp only [Lib.decFrom] at h
    split at h
    · have := decFrom_le l _ v h; omega
    · cases h

theorem numGo_fwd (t : List UInt8) (ht : NoDig t) (v : Nat) (hv : v ≤ 1000000000) : ∀ (ds : List UInt8) (n d : Nat), (∀ b ∈ ds, digB b = true) → Lib.decFrom n ds = some v → (ds = [] ∨ n ≠ 0 ∨ (d = 0 ∧ (ds = [48] ∨ ∃ c r, ds = c :: r ∧ c ≠ 48))) → 0 < d + ds.length → numGo (ds ++ t) n d = some (v, d + ds.length)
  | [], n, d, _, h, _, hp => by
    simp only [Lib.decFrom, Option.some.injEq] at h
    subst h
    simp at hp
    rcases ht with rfl | ⟨c, r, rfl, hc⟩
    · simp [numGo]; omega
    · simp [numGo, hc]; omega
  | c :: ds, n, d, hd, h, hz, _ => by
    have hc : digB c = true := hd c (by simp)
    have hcb := digB_iff.1 hc
    simp only [Lib.decFrom, digVal hc] at h
    have hle := decFrom_le _ _ _ h
    have e : n * 10 + (c.toNat - 48) = 10 * n + (c.toNat - 48) := by omega
    rw [e] at h hle
    rw [List.cons_append, numGo, if_pos hc, if_neg (by
      rintro ⟨h1, h2⟩
      rcases hz with hz | hz | ⟨hz, _⟩
      · cases hz
      · exact hz h2
      · omega), if_pos (by omega)]
    rw [numGo_fwd t ht v hv ds _ _ (fun b hb => hd b (by simp [hb])) h ?_ (by omega)]
    · simp; omega
    · rcases hz with hz | hz | ⟨hz, hw | ⟨c', r, hw, hne⟩⟩
      · cases hz
      · exact .inr (.inl (by omega))
      · exact .inl (by simp at hw; exact hw.2)
      · simp at hw
        obtain ⟨rfl, rfl⟩ := hw
        refine .inr (.inl ?_)
        have : c.toNat ≠ 48 := fun e => hne (by apply UInt8.toNat.inj; simpa using e)
        omega

theorem dec_head48 (u : Nat) (h : u ≠ 0) : ∃ c r, Lib.decDigits u = c :: r ∧ c ≠ 48 := by
  induction u using Nat.strongRecOn with
  | ind u ih =>
    rw [Lib.decDigits]
    split
    · rename_i hu
      refine ⟨_, [], rfl, fun e => ?_⟩
      have := digit_ofNat u hu
      rw [e] at this
      simp at this
      omega
    · rename_i hu
      obtain ⟨c, r, e, hc⟩ := ih (u / 10) (by omega) (by omega)
      exact ⟨c, r ++ [_], by rw [e]; rfl, hc⟩

theorem numGo_itoa (n : Nat) (hn : n ≤ 1000000000) (t : List UInt8) (ht : NoDig t) : numGo (Lib.itoa n ++ t) 0 0 = some (n, (Lib.itoa n).length) := by
  rw [itoa_nat]
  have := numGo_fwd t ht n hn (Lib.decDigits n) 0 0 (fun b hb => digB_iff.2 (dec_digits n b hb)) (dec_val n) (by
    by_cases h0 : n = 0
    · subst h0
      exact .inr (.inr ⟨rfl, .inl (by rw [Lib.decDigits_one (by omega)]; rfl)⟩)
    · obtain ⟨c, r, e, hc⟩ := dec_head48 n h0
      exact .inr (.inr ⟨rfl, .inr ⟨c, r, e, hc⟩⟩)) (by
    have := dec_ne n
    cases h : Lib.decDigits n with
    | nil => exact absurd h this
    | cons c r => simp)
  simpa using this

theorem dec_snoc (n c : Nat) (hn : n ≠ 0) (hc : c < 10) : Lib.decDigits (10 * n + c) = Lib.decDigits n ++ [UInt8.ofNat (48 + c)] := by
  rw [Lib.decDigits, dif_neg (by omega)]
  have e1 : (10 * n + c) / 10 = n := by omega
  have e2 : (10 * n + c) % 10 = c := by omega
  rw [e1, e2]

theorem byte_ofNat (c : UInt8) (h : digB c = true) : UInt8.ofNat (48 + (c.toNat - 48)) = c := by
  have := digB_iff.1 h
  rw [show 48 + (c.toNat - 48) = c.toNat by omega]
  simp

theorem numGo_bwd : ∀ (l : List UInt8) (n d v e : Nat), n ≤ 1000000000 → numGo l n d = some (v, e) → (0 < d ∨ n = 0) → ∃ ds, l = ds ++ l.drop ds.length ∧ e = d + ds.length ∧ v ≤ 1000000000 ∧ (if d = 0 then Lib.decDigits v = ds else Lib.decDigits v = Lib.decDigits n ++ ds)
  | [], n, d, v, e, hn, h, _ => by
    simp only [numGo] at h
    split at h
    · cases h
    · rename_i hd
      cases h
      exact ⟨[], rfl, by simp, hn, by rw [if_neg hd]; simp⟩
  | c :: l, n, d, v, e, hn, h, hz => by
    rw [numGo] at h
    by_cases hc : digB c = true
    · rw [if_pos hc] at h
      have hcb := digB_iff.1 hc
      split at h
      · cases h
      rename_i hnz
      split at h
      · rename_i hle
        obtain ⟨ds, h1, h2, h3, h4⟩ := numGo_bwd l _ _ v e hle h (by omega)
        refine ⟨c :: ds, by simpa using h1, by simp; omega, h3, ?_⟩
        rw [if_neg (by omega)] at h4
        by_cases hd : d = 0
        · rw [if_pos hd, h4]
          have hn0 : n = 0 := by omega
          subst hn0
          rw [Nat.mul_zero, Nat.zero_add, Lib.decDigits_one (by omega), byte_ofNat c hc]
          rfl
        · rw [if_neg hd, h4, dec_snoc n _ (by omega) (by omega), byte_ofNat c hc]
          simp
      · cases h
    · rw [if_neg hc] at h
      split at h
      · cases h
      · rename_i hd
        cases h
        exact ⟨[], rfl, by simp, hn, by rw [if_neg hd]; simp⟩

theorem numGo_some {l : List UInt8} {v e : Nat} (h : numGo l 0 0 = some (v, e)) : l = Lib.itoa v ++ l.drop e ∧ v ≤ 1000000000 ∧ e ≤ l.length := by
  obtain ⟨ds, h1, h2, h3, h4⟩ := numGo_bwd l 0 0 v e (by omega) h (.inr rfl)
  simp at h2 h4
  subst h2
  rw [itoa_nat, h4]
  refine ⟨h1, h3, ?_⟩
  rw [h1]; simp

/-! A mark, and a number behind it. -/
def behF (k : List UInt8) (st : List UInt8 × Bool) : Nat × (List UInt8 × Bool) :=
  if st.2 = true ∨ k.isPrefixOf st.1 = false then (0, (st.1, true))
  else match numGo (st.1.drop k.length) 0 0 with
    | none => (0, (st.1.drop k.length, true))
    | some (v, e) => (v, ((st.1.drop k.length).drop e, false))

theorem behF_bad (k : List UInt8) (st : List UInt8 × Bool) (h : st.2 = true) : (behF k st).2.2 = true := by
  unfold behF; rw [if_pos (.inl h)]
theorem behF_ok {k : List UInt8} {st : List UInt8 × Bool} (h : (behF k st).2.2 = false) : st.2 = false ∧ (behF k st).1 ≤ 1000000000 ∧ st.1 = k ++ (Lib.itoa (behF k st).1 ++ (behF k st).2.1) := by
  unfold behF at h ⊢
  by_cases hp : st.2 = true ∨ k.isPrefixOf st.1 = false
  · rw [if_pos hp] at h; simp at h
  · rw [if_neg hp] at h ⊢
    have hp2 := not_or.1 hp
    have hk : k <+: st.1 := by simpa using hp2.2
    obtain ⟨r, hr⟩ := hk
    have hd : st.1.drop k.length = r := by rw [← hr]; simp
    rw [hd] at h ⊢
    cases hn : numGo r 0 0 with
    | none => rw [hn] at h; simp at h
    | some x =>
      obtain ⟨v, e⟩ := x
      obtain ⟨h1, h2, _⟩ := numGo_some hn
      refine ⟨by simpa using hp2.1, h2, ?_⟩
      simp only
      rw [← h1, hr]
theorem behF_fwd (k : List UInt8) (n : Int) (h0 : 0 ≤ n) (h1 : n ≤ 1000000000) (t : List UInt8) (ht : NoDig t) : behF k (k ++ (Lib.itoa n ++ t), false) = (n.toNat, (t, false)) := by
  obtain ⟨u, rfl⟩ : ∃ u : Nat, n = u := ⟨n.toNat, by omega⟩
  unfold behF
  rw [if_neg (by simp [List.isPrefixOf_iff_prefix])]
  simp only [List.drop_left]
  rw [numGo_itoa u (by omega) t ht]
  simp

/-! A whole text. -/
def stLoop : Nat → List (Int × Int) → List UInt8 × Bool → List (Int × Int) × (List UInt8 × Bool)
  | 0, l, st => (l, st)
  | m + 1, l, st =>
    if st.1 = [] ∨ st.2 = true then (l, st)
    else stLoop m (l ++ [(((behF kSvc st).1 : Int), ((behF kN (behF kSvc st).2).1 : Int))]) (behF kN (behF kSvc st).2).2
def scanF (s : List UInt8) : Od × Bool :=
  let r1 := behF kId (s, false)
  let r2 := behF kQty r1.2
  let r3 := behF kItem r2.2
  let r4 := behF kPrice r3.2
  let r5 := behF kClient r4.2
  let q := stLoop 3 [] r5.2
  (⟨r1.1, r3.1, r2.1, r5.1, r4.1, q.1⟩, q.2.1.isEmpty && !q.2.2)

theorem stLoop_bad : ∀ (m : Nat) (l : List (Int × Int)) (st : List UInt8 × Bool), st.2 = true → stLoop m l st = (l, st)
  | 0, _, _, _ => rfl
  | m + 1, l, st, h => by rw [stLoop, if_pos (.inr h)]

/-- What is read so far, behind what was. -/
theorem stLoop_ok : ∀ (m : Nat) (l : List (Int × Int)) (st : List UInt8 × Bool), (stLoop m l st).2.2 = false → (stLoop m l st).2.1 = [] → l.length + m ≤ 3 → st.2 = false ∧ (stLoop m l st).1.length ≤ 3 ∧ ∃ r, (stLoop m l st).1 = l ++ r ∧ st.1 = stepsL r
  | 0, l, st, h, h2, h3 => ⟨h, by simp only [stLoop]; omega, [], by simp [stLoop], h2⟩
  | m + 1, l, st, h, h2, h3 => by
    rw [stLoop] at h h2 ⊢
    by_cases hp : st.1 = [] ∨ st.2 = true
    · rw [if_pos hp] at h h2 ⊢
      exact ⟨h, by simp only; omega, [], by simp, h2⟩
    · rw [if_neg hp] at h h2 ⊢
      obtain ⟨a1, a2, r, a3, a4⟩ := stLoop_ok m _ _ h h2 (by simp; omega)
      obtain ⟨b1, b2, b3⟩ := behF_ok a1
      obtain ⟨c1, c2, c3⟩ := behF_ok b1
      refine ⟨c1, a2, _ :: r, by rw [a3, List.append_assoc]; rfl, ?_⟩
      rw [stepsL, stepL, c3, b3, a4]
      simp

def Nums (o : Od) : Prop := (0 ≤ o.id ∧ 0 ≤ o.item ∧ 0 ≤ o.qty ∧ 0 ≤ o.client ∧ 0 ≤ o.price) ∧ (o.id ≤ 1000000000 ∧ o.item ≤ 1000000000 ∧ o.qty ≤ 1000000000 ∧ o.client ≤ 1000000000 ∧ o.price ≤ 1000000000)

theorem scan_ok {s : List UInt8} (h : (scanF s).2 = true) : s = textL (scanF s).1 := by
  unfold scanF at h ⊢
  simp only [Bool.and_eq_true, List.isEmpty_iff, Bool.not_eq_true'] at h
  obtain ⟨h1, h2⟩ := h
  obtain ⟨a1, a2, r, a3, a4⟩ := stLoop_ok 3 [] _ h2 h1 (by simp)
  obtain ⟨_, _, e5⟩ := behF_ok a1
  obtain ⟨b4, _, e5⟩ := behF_ok a1
  obtain ⟨b3, _, e4⟩ := behF_ok b4
  obtain ⟨b2, _, e3⟩ := behF_ok b3
  obtain ⟨b1, _, e2⟩ := behF_ok b2
  obtain ⟨_, _, e1⟩ := behF_ok b1
  simp only at e1
  unfold textL headL
  simp only [List.nil_append] at a3
  simp only [a3]
  rw [← a4]
  simp only [List.append_assoc]
  rw [← e5, ← e4, ← e3, ← e2, ← e1]

theorem noDig_qty (t : List UInt8) : NoDig (kQty ++ t) := .inr ⟨58, _, rfl, by decide⟩
theorem noDig_item (t : List UInt8) : NoDig (kItem ++ t) := .inr ⟨120, _, rfl, by decide⟩
theorem noDig_price (t : List UInt8) : NoDig (kPrice ++ t) := .inr ⟨32, _, rfl, by decide⟩
theorem noDig_client (t : List UInt8) : NoDig (kClient ++ t) := .inr ⟨32, _, rfl, by decide⟩
theorem noDig_n (t : List UInt8) : NoDig (kN ++ t) := .inr ⟨42, _, rfl, by decide⟩
theorem noDig_steps (l : List (Int × Int)) : NoDig (stepsL l) := by
  cases l with
  | nil => exact .inl rfl
  | cons x l => exact .inr ⟨59, _, rfl, by decide⟩

theorem stLoop_fwd : ∀ (m : Nat) (l r : List (Int × Int)), r.length ≤ m → (∀ x ∈ r, (0 ≤ x.1 ∧ x.1 ≤ 1000000000) ∧ (0 ≤ x.2 ∧ x.2 ≤ 1000000000)) → stLoop m l (stepsL r, false) = (l ++ r, ([], false))
  | m, l, [], _, _ => by cases m <;> simp [stLoop, stepsL]
  | 0, l, x :: r, h, _ => by simp at h
  | m + 1, l, x :: r, h, hx => by
    have hx0 := hx x (by simp)
    have e : stepsL (x :: r) = kSvc ++ (Lib.itoa x.1 ++ (kN ++ (Lib.itoa x.2 ++ stepsL r))) := by simp [stepsL, stepL]
    rw [e, stLoop, if_neg (by simp [kSvc])]
    rw [behF_fwd kSvc x.1 hx0.1.1 hx0.1.2 _ (noDig_n _)]
    simp only
    rw [behF_fwd kN x.2 hx0.2.1 hx0.2.2 _ (noDig_steps r)]
    simp only
    rw [Int.toNat_of_nonneg hx0.1.1, Int.toNat_of_nonneg hx0.2.1]
    rw [stLoop_fwd m _ r (by simpa using h) (fun y hy => hx y (by simp [hy]))]
    simp

theorem scan_text {o : Od} (h : mayO o = true) : scanF (textL o) = (o, true) := by
  obtain ⟨h1, h2, h3, h4, h5, h6, h7⟩ := mayO_parts h
  have e : textL o = kId ++ (Lib.itoa o.id ++ (kQty ++ (Lib.itoa o.qty ++ (kItem ++ (Lib.itoa o.item ++ (kPrice ++ (Lib.itoa o.price ++ (kClient ++ (Lib.itoa o.client ++ stepsL o.steps))))))))) := by
    simp [textL, headL]
  unfold scanF
  rw [e]
  rw [behF_fwd kId o.id (by omega) (by omega) _ (noDig_qty _)]
  simp only
  rw [behF_fwd kQty o.qty (by omega) (by omega) _ (noDig_item _)]
  simp only
  rw [behF_fwd kItem o.item (by omega) (by omega) _ (noDig_price _)]
  simp only
  rw [behF_fwd kPrice o.price (by omega) (by omega) _ (noDig_client _)]
  simp only
  rw [behF_fwd kClient o.client (by omega) (by omega) _ (noDig_steps _)]
  simp only
  rw [stLoop_fwd 3 [] o.steps h6 (fun x hx => by have := h7 x hx; omega)]
  simp only [List.nil_append, List.isEmpty_nil, Bool.not_false, Bool.and_self, Prod.mk.injEq, and_true]
  apply Od.ext' <;> simp <;> omega

theorem text_inj {a b : Od} (ha : mayO a = true) (hb : mayO b = true) (h : textL a = textL b) : a = b := by
  have := scan_text ha
  rw [h, scan_text hb] at this
  exact (congrArg Prod.fst this).symm

/-- What a reader tells of a text. -/
def ParO (s : List UInt8) (o : Od) (e : Int) : Prop := (e = 0 ∧ mayO o = true ∧ s = textL o) ∨ (e = 2 ∧ o = od0 ∧ ∀ o', mayO o' = true → s ≠ textL o')
theorem ParO.uniq {s : List UInt8} {o o' : Od} {e e' : Int} (h : ParO s o e) (h' : ParO s o' e') : o = o' ∧ e = e' := by
  rcases h with ⟨rfl, h1, h2⟩ | ⟨rfl, rfl, h2⟩ <;> rcases h' with ⟨rfl, g1, g2⟩ | ⟨rfl, rfl, g2⟩
  · exact ⟨text_inj h1 g1 (h2.symm.trans g2), rfl⟩
  · exact absurd h2 (g2 _ h1)
  · exact absurd g2 (h2 _ g1)
  · exact ⟨rfl, rfl⟩
theorem parO_scan (s : List UInt8) : ParO s (if ((scanF s).2 && mayO (scanF s).1) = true then (scanF s).1 else od0) (if ((scanF s).2 && mayO (scanF s).1) = true then 0 else 2) := by
  by_cases h : ((scanF s).2 && mayO (scanF s).1) = true
  · rw [if_pos h, if_pos h]
    rw [Bool.and_eq_true] at h
    exact .inl ⟨rfl, h.2, scan_ok h.1⟩
  · rw [if_neg h, if_neg h]
    refine .inr ⟨rfl, rfl, fun o' ho' e => h ?_⟩
    rw [e, scan_text ho']
    simpa using ho'
theorem parO_text {o : Od} (h : mayO o = true) : ParO (textL o) o 0 := .inl ⟨rfl, h, rfl⟩

/-! The numbers of a text, as the reference reads them. -/
def digsA : List UInt8 → Option Nat → List Nat
  | [], none => []
  | [], some n => [n]
  | c :: l, none => if digB c = true then digsA l (some (min (10 * 0 + (c.toNat - 48)) 1099511627776)) else digsA l none
  | c :: l, some n => if digB c = true then digsA l (some (min (10 * n + (c.toNat - 48)) 1099511627776)) else n :: digsA l none

theorem digs_first (c : UInt8) (l : List UInt8) (h : digB c = true) : digsA (c :: l) none = digsA (c :: l) (some 0) := by
  rw [digsA, digsA, if_pos h, if_pos h]
theorem digs_mark (c : UInt8) (l : List UInt8) (h : digB c = false) : digsA (c :: l) none = digsA l none := by
  rw [digsA, if_neg (by simp [h])]
theorem digs_end (l : List UInt8) (n : Nat) (h : NoDig l) : digsA l (some n) = n :: digsA l none := by
  rcases h with rfl | ⟨c, r, rfl, hc⟩
  · rfl
  · rw [digs_mark c r hc, digsA, if_neg (by simp [hc])]

theorem digs_dec (t : List UInt8) (ht : NoDig t) (v : Nat) (hv : v ≤ 1000000000) : ∀ (ds : List UInt8) (n : Nat), (∀ b ∈ ds, digB b = true) → Lib.decFrom n ds = some v → digsA (ds ++ t) (some n) = v :: digsA t none
  | [], n, _, h => by
    simp only [Lib.decFrom, Option.some.injEq] at h
    subst h
    exact digs_end t _ ht
  | c :: ds, n, hd, h => by
    have hc : digB c = true := hd c (by simp)
    simp only [Lib.decFrom, digVal hc] at h
    have hle := decFrom_le _ _ _ h
    have e : n * 10 + (c.toNat - 48) = 10 * n + (c.toNat - 48) := by omega
    rw [e] at h hle
    rw [List.cons_append, digsA, if_pos hc, Nat.min_eq_left (by omega)]
    exact digs_dec t ht v hv ds _ (fun b hb => hd b (by simp [hb])) h
theorem digs_itoa (n : Int) (h0 : 0 ≤ n) (h1 : n ≤ 1000000000) (t : List UInt8) (ht : NoDig t) : digsA (Lib.itoa n ++ t) none = n.toNat :: digsA t none := by
  obtain ⟨u, rfl⟩ : ∃ u : Nat, n = u := ⟨n.toNat, by omega⟩
  rw [itoa_nat]
  have hd : ∀ b ∈ Lib.decDigits u, digB b = true := fun b hb => digB_iff.2 (dec_digits u b hb)
  cases h : Lib.decDigits u with
  | nil => exact absurd h (dec_ne u)
  | cons c r =>
    rw [List.cons_append, digs_first c _ (hd c (by rw [h]; simp)), ← List.cons_append, ← h]
    exact digs_dec t ht u (by omega) _ 0 hd (dec_val u)
theorem digs_marks : ∀ (k t : List UInt8), (∀ b ∈ k, digB b = false) → digsA (k ++ t) none = digsA t none
  | [], _, _ => rfl
  | c :: k, t, h => by
    rw [List.cons_append, digs_mark c _ (h c (by simp))]
    exact digs_marks k t (fun b hb => h b (by simp [hb]))

def pairsN : List (Int × Int) → List Nat
  | [] => []
  | x :: l => x.1.toNat :: x.2.toNat :: pairsN l
def numsN (o : Od) : List Nat := [o.id.toNat, o.qty.toNat, o.item.toNat, o.price.toNat, o.client.toNat] ++ pairsN o.steps
theorem digs_steps : ∀ l : List (Int × Int), (∀ x ∈ l, (0 ≤ x.1 ∧ x.1 ≤ 1000000000) ∧ (0 ≤ x.2 ∧ x.2 ≤ 1000000000)) → digsA (stepsL l) none = pairsN l
  | [], _ => rfl
  | x :: l, h => by
    have hx := h x (by simp)
    have e : stepsL (x :: l) = kSvc ++ (Lib.itoa x.1 ++ (kN ++ (Lib.itoa x.2 ++ stepsL l))) := by simp [stepsL, stepL]
    rw [e, digs_marks _ _ (by decide), digs_itoa _ hx.1.1 hx.1.2 _ (noDig_n _), digs_marks _ _ (by decide), digs_itoa _ hx.2.1 hx.2.2 _ (noDig_steps l), digs_steps l (fun y hy => h y (by simp [hy]))]
    rfl
theorem digs_text {o : Od} (h : mayO o = true) : digsA (textL o) none = numsN o := by
  obtain ⟨h1, h2, h3, h4, h5, h6, h7⟩ := mayO_parts h
  have e : textL o = kId ++ (Lib.itoa o.id ++ (kQty ++ (Lib.itoa o.qty ++ (kItem ++ (Lib.itoa o.item ++ (kPrice ++ (Lib.itoa o.price ++ (kClient ++ (Lib.itoa o.client ++ stepsL o.steps))))))))) := by
    simp [textL, headL]
  rw [e, digs_marks _ _ (by decide), digs_itoa _ (by omega) (by omega) _ (noDig_qty _), digs_marks _ _ (by decide), digs_itoa _ (by omega) (by omega) _ (noDig_item _), digs_marks _ _ (by decide), digs_itoa _ (by omega) (by omega) _ (noDig_price _),
    digs_marks _ _ (by decide), digs_itoa _ (by omega) (by omega) _ (noDig_client _), digs_marks _ _ (by decide), digs_itoa _ (by omega) (by omega) _ (noDig_steps _), digs_steps _ (fun x hx => by have := h7 x hx; omega)]
  rfl

def pairsO : List Nat → List (Int × Int)
  | a :: b :: l => ((a : Int), (b : Int)) :: pairsO l
  | _ => []
/-- The order of a row of numbers. -/
def ofNums (l : List Nat) : Od := ⟨l.getD 0 0, l.getD 2 0, l.getD 1 0, l.getD 4 0, l.getD 3 0, pairsO (l.drop 5)⟩
def lenB (l : List Nat) : Bool := decide (5 ≤ l.length) && decide (l.length ≤ 11) && decide (l.length % 2 = 1)
theorem pairs_back : ∀ l : List (Int × Int), (∀ x ∈ l, 0 ≤ x.1 ∧ 0 ≤ x.2) → pairsO (pairsN l) = l
  | [], _ => rfl
  | x :: l, h => by
    have hx := h x (by simp)
    rw [pairsN, pairsO, pairs_back l (fun y hy => h y (by simp [hy])), Int.toNat_of_nonneg hx.1, Int.toNat_of_nonneg hx.2]
theorem pairsN_len : ∀ l : List (Int × Int), (pairsN l).length = 2 * l.length
  | [] => rfl
  | x :: l => by rw [pairsN]; simp [pairsN_len l]; omega
theorem ofNums_back {o : Od} (h : mayO o = true) : ofNums (numsN o) = o ∧ lenB (numsN o) = true := by
  obtain ⟨h1, h2, h3, h4, h5, h6, h7⟩ := mayO_parts h
  constructor
  · unfold ofNums numsN
    apply Od.ext'
    · show ((o.id.toNat : Nat) : Int) = _; omega
    · show ((o.item.toNat : Nat) : Int) = _; omega
    · show ((o.qty.toNat : Nat) : Int) = _; omega
    · show ((o.client.toNat : Nat) : Int) = _; omega
    · show ((o.price.toNat : Nat) : Int) = _; omega
    · show pairsO (pairsN o.steps) = _
      exact pairs_back _ (fun x hx => by have := h7 x hx; omega)
  · have e : (numsN o).length = 5 + 2 * o.steps.length := by unfold numsN; simp [pairsN_len]; omega
    unfold lenB
    rw [e]
    simp
    omega
/-- What the reference tells of a text. -/
theorem parO_ref (s : List UInt8) (o : Od) (e : Int) (h : (lenB (digsA s none) = true ∧ mayO (ofNums (digsA s none)) = true ∧ textL (ofNums (digsA s none)) = s ∧ o = ofNums (digsA s none) ∧ e = 0) ∨ ((lenB (digsA s none) = false ∨ mayO (ofNums (digsA s none)) = false ∨ textL (ofNums (digsA s none)) ≠ s) ∧ o = od0 ∧ e = 2)) : ParO s o e := by
  rcases h with ⟨_, h2, h3, rfl, rfl⟩ | ⟨h1, rfl, rfl⟩
  · exact .inl ⟨rfl, h2, h3.symm⟩
  · refine .inr ⟨rfl, rfl, fun o' ho' es => ?_⟩
    subst es
    obtain ⟨g1, g2⟩ := ofNums_back ho'
    rw [digs_text ho', g1, g2] at h1
    rcases h1 with h1 | h1 | h1
    · cases h1
    · rw [ho'] at h1; cases h1
    · exact h1 rfl

/-! Sizes. -/
theorem itoa_len10 {n : Int} (h0 : 0 ≤ n) (h1 : n ≤ 1000000000) : (Lib.itoa n).length ≤ 11 := itoa_len (by omega) h1
theorem stepsL_len : ∀ l : List (Int × Int), (∀ x ∈ l, (0 ≤ x.1 ∧ x.1 ≤ 1000000000) ∧ (0 ≤ x.2 ∧ x.2 ≤ 1000000000)) → (stepsL l).length ≤ 25 * l.length
  | [], _ => by simp [stepsL]
  | x :: l, h => by
    have hx := h x (by simp)
    have a1 := itoa_len10 hx.1.1 hx.1.2
    have a2 := itoa_len10 hx.2.1 hx.2.2
    have a3 := stepsL_len l (fun y hy => h y (by simp [hy]))
    simp [stepsL, stepL, kSvc, kN]
    omega
theorem textL_len {o : Od} (h : mayO o = true) : (textL o).length ≤ 143 := by
  obtain ⟨h1, h2, h3, h4, h5, h6, h7⟩ := mayO_parts h
  have a1 := itoa_len10 (n := o.id) (by omega) (by omega)
  have a2 := itoa_len10 (n := o.item) (by omega) (by omega)
  have a3 := itoa_len10 (n := o.qty) (by omega) (by omega)
  have a4 := itoa_len10 (n := o.client) (by omega) (by omega)
  have a5 := itoa_len10 (n := o.price) (by omega) (by omega)
  have a6 := stepsL_len o.steps (fun x hx => by have := h7 x hx; omega)
  unfold textL headL kId kQty kItem kPrice kClient
  simp
  omega

/-! A text as bytes. -/
def byB (l : List UInt8) : ByteArray := ⟨l.toArray⟩
theorem byB_size (l : List UInt8) : (byB l).size = l.length := by simp [byB, ByteArray.size]
theorem byB_list (l : List UInt8) : (byB l).toList = l := by rw [ByteArray.toList_eq]; simp [byB]
theorem byB_data (l : List UInt8) : (byB l).data.toList = l := by simp [byB]
theorem byB_of (s : ByteArray) : byB s.data.toList = s := bytes_ext (by simp [byB])
theorem byB_inj {a b : List UInt8} (h : byB a = byB b) : a = b := by rw [← byB_data a, h, byB_data]
theorem byB_append (a b : List UInt8) : byB a ++ byB b = byB (a ++ b) := bytes_ext (by simp [byB])
theorem byB_drop (l : List UInt8) (d : Nat) : (byB l).extract d (byB l).size = byB (l.drop d) := by
  apply bytes_ext
  rw [byB_size]
  simp [byB, ByteArray.data_extract]
  exact List.take_of_length_le (by simp)
theorem byB_take (l : List UInt8) (d : Nat) : (byB l).extract 0 d = byB (l.take d) := by
  apply bytes_ext
  simp [byB, ByteArray.data_extract]
theorem byB_get (l : List UInt8) (d : Nat) (h : d < (byB l).size) : (byB l)[d] = l[d]'(by rwa [byB_size] at h) := by
  show (byB l).data[d] = _
  simp [byB]
end Go.Proofs.Ytdoejppnifoebaa
