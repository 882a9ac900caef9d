/-
  Own texts put together: Glob, Later, Chk, Clone.
-/
import Derived.Test.YtdbmnjodkpeobaaGreatDoorRows
import Derived.Test.YtdbmnjodkpeobaaGreatDoorLib
import Derived.WalkKit
import Derived.Below
import Derived.Lib.LaidTab
import Derived.Stop.LaidErr
import Derived.MakeChecks
import Derived.ProofKit
import Derived.Deep.QuietTactic
import Derived.BigQuiet
import Derived.WalkLawsBesides
import Derived.Test.YtdbmnjodkpeobaaGreatDoorBd0
import Derived.OpenShut
import Derived.Laws.IdiomStrings
import Derived.Lib.Strings
import Derived.Shelf.LaysM
import Derived.Shelf.Strconv.Clone
/-
  What the package-level variables of the library hold, as far as strconv and strings read them; that it stays where memory is only added.
-/
namespace Go.Proofs.YtdbmnjodkpeobaaGreatDoor
open Go.RowKit

def Gl (w : World) : Prop :=
  Lib.TabIs Tryz.prog w "internal/strconv.uint64pow10" .u64 Lib.pow10Tab ∧
  (∃ tp p, w.var? Tryz.prog "strconv.ErrSyntax" = some #[.iface tp p]) ∧
  (∃ tp p, w.var? Tryz.prog "strconv.ErrRange" = some #[.iface tp p]) ∧
  ∃ m, w.cell? ⟨0, 0, none⟩ = some (.int .i64 m)

theorem var_on {w w' : World} {n : String} {cs : Array Value} (h : w.var? Tryz.prog n = some cs) (hb : Below w.heap.size w w') : w'.var? Tryz.prog n = some cs := by
  unfold World.var? at h ⊢
  cases hg : Tryz.prog.globalNamed n with
  | none => rw [hg] at h; cases h
  | some g =>
    rw [hg] at h
    simp only [Option.bind_some] at h ⊢
    by_cases hlt : g < w.heap.size
    · rw [hb.block g hlt]; exact h
    · rw [Array.getElem?_eq_none (by omega)] at h; cases h

theorem cell_lt {w : World} {b o : Nat} {v : Value} (h : w.cell? ⟨b, o, none⟩ = some v) : b < w.heap.size := by
  by_cases hlt : b < w.heap.size
  · exact hlt
  · have e : w.heap[b]? = none := Array.getElem?_eq_none (by omega)
    unfold World.cell? at h
    simp [e] at h

theorem Gl.on {w w' : World} (h : Gl w) (hb : Below w.heap.size w w') : Gl w' := by
  obtain ⟨h1, ⟨t2, p2, h2⟩, ⟨t3, p3, h3⟩, m, h4⟩ := h
  refine ⟨var_on h1 hb, ⟨t2, p2, var_on h2 hb⟩, ⟨t3, p3, var_on h3 hb⟩, m, ?_⟩
  rw [hb.cell (p := ⟨0, 0, none⟩) (cell_lt h4)]
  exact h4

theorem star : "*" ++ "errors.errorString" = "*errors.errorString" := by decide
theorem rowErr (u : TypeId) (h : Tryz.prog.typeName? 3 u = some "*errors.errorString") : u = 171 :=
  typeName_ptr_named (nm := "errors.errorString") (by rw [star]; kernel_rfl) (by kernel_rfl) (by decide) u (by rw [star]; exact h)

theorem gl_laid {W : World} {d1 d2 d4 d7 : DataW Unit}
    (hh : ([("math/bits.deBruijn32tab", d1), ("math/bits.deBruijn64tab", d2), ("internal/strconv.uint64pow10", Rows.laid_internal_strconv_uint64pow10), ("unicode/utf8.acceptRanges", d4), ("strconv.ErrRange", Rows.laid_strconv_ErrRange), ("strconv.ErrSyntax", Rows.laid_strconv_ErrSyntax), ("unicode/utf8.first", d7)].all fun x => x.2.handleName?.isNone) = true)
    (h : laidMetH Tryz.prog [("math/bits.deBruijn32tab", d1), ("math/bits.deBruijn64tab", d2), ("internal/strconv.uint64pow10", Rows.laid_internal_strconv_uint64pow10), ("unicode/utf8.acceptRanges", d4), ("strconv.ErrRange", Rows.laid_strconv_ErrRange), ("strconv.ErrSyntax", Rows.laid_strconv_ErrSyntax), ("unicode/utf8.first", d7)] W)
    (hs : W.ShapedOpen Tryz.prog) : Gl W := by
  rw [MakeChecks.laidMetH_plain _ _ _ hh] at h
  have hp := h.tail.tail
  have hr := hp.tail.tail
  have hy := hr.tail
  have t1 : Lib.TabIs Tryz.prog W "internal/strconv.uint64pow10" .u64 Lib.pow10Tab := by
    have e : (Rows.laid_internal_strconv_uint64pow10 : DataW Unit) = Lib.tabData .u64 Lib.pow10Tab := by kernel_rfl
    rw [e] at hp
    exact Lib.tabIs_of_head (g := 1) (t := 151) (e := 51) (n := 20) (by kernel_rfl) (by kernel_rfl) (by kernel_rfl) (by kernel_rfl) (by kernel_rfl) (by kernel_rfl) hp
  obtain ⟨a0, s0, hv0, -, -, -⟩ := laid_sentinel hr (g := 3) (ti := 122) (tp := 171) (te := 173) (ts := 9) (by kernel_rfl) (by kernel_rfl) Tryz.underlying122 rowErr Tryz.underlying171 Tryz.underlying173 rfl rfl Tryz.underlying9 (by kernel_rfl) (by kernel_rfl)
  obtain ⟨a1, s1, hv1, -, -, -⟩ := laid_sentinel hy (g := 2) (ti := 122) (tp := 171) (te := 173) (ts := 9) (by kernel_rfl) (by kernel_rfl) Tryz.underlying122 rowErr Tryz.underlying171 Tryz.underlying173 rfl rfl Tryz.underlying9 (by kernel_rfl) (by kernel_rfl)
  exact ⟨t1, ⟨_, _, hv1⟩, ⟨_, _, hv0⟩, Tryz.laysM146.s1_3 W hs⟩
end Go.Proofs.YtdbmnjodkpeobaaGreatDoor
/-
  Regions that draw their order and hold calls which make memory: one walk in the order of the text, in every world that has grown out of the first one.
-/
namespace Go.Proofs.YtdbmnjodkpeobaaGreatDoor
open Go.RowKit

/-- A world in which all that lay in w lies as it did. -/
def Later (w : World) : Type := { u : World // Below w.heap.size w u }
def Later.w {w : World} (u : Later w) : World := u.1
theorem Later.below {w : World} (u : Later w) : Below w.heap.size w u.w := u.2
def Later.drew {w : World} (u : Later w) : Later w := ⟨u.w.drew, u.below.drew⟩
def Later.now (w : World) : Later w := ⟨w, Below.refl _ _⟩
theorem Later.cell {w : World} {a : Addr} {v : Value} (h : w.cell? a = some v) (u : Later w) : u.w.cell? a = some v :=
  (u.below.cell (World.block_lt_of_cell? _ _ h)).trans h

theorem region_later {P : Program} {id : Nat} {Q : Exit → Act → World → Prop} {a : Act} {w : World} {l : List Oper} (hm : P.follows .mixedOrders = true) (hB : Region.lexB .any l.toArray = true)
    (h : wpQuiet P l.toArray (fun w' => ∃ u : Later w, w' = u.w) (fun a' => ∀ u : Later w, Q .normal a' u.w) l a) : (Code.region id l.toArray true).wp P Q a w := by
  refine wp_region_quiet (C := fun w' => ∃ u : Later w, w' = u.w) hm hB ⟨(Later.now w).drew, rfl⟩ ?_
  have e : (fun a' => ∀ w', (∃ u : Later w, w' = u.w) → Q .normal a' w') = (fun a' => ∀ u : Later w, Q .normal a' u.w) := by
    funext a'
    apply propext
    exact ⟨fun h u => h _ ⟨u, rfl⟩, fun h w' ⟨u, hu⟩ => hu ▸ h u⟩
  rw [e]
  simpa using h

theorem calls_later {P : Program} {f : FuncId} {args : Array Value} {w : World} {v : Value} (u : Later w) (h : Calls P f args u.w fun e w' => e = .returned v ∧ Below u.w.heap.size u.w w') :
    Calls P f args u.w fun e w' => e = .returned v ∧ ∃ u' : Later w, w' = u'.w :=
  h.mono fun _ w' ⟨he, hb⟩ => ⟨he, ⟨w', u.below.trans (hb.mono u.below.size)⟩, rfl⟩
end Go.Proofs.YtdbmnjodkpeobaaGreatDoor
/-
  Contracts of package check's remainder, letter, Letters and of the reference's Letters: the two letters of a text are those of the number wsum of its bytes, modulo 673; memory that was there stays.
-/
namespace Go.Proofs.YtdbmnjodkpeobaaGreatDoor
open Go.ChangeShapes Go.WideShapes Go.ChangeAt Go.RowKit

/-- The weighted sum of a text's bytes: each byte weighs three times as much as the one ahead of it. -/
def wsum : List UInt8 → Nat
  | [] => 0
  | b :: l => b.toNat + 3 * wsum l

theorem wsum_append (l m : List UInt8) : wsum (l ++ m) = wsum l + 3 ^ l.length * wsum m := by
  induction l with
  | nil => simp [wsum]
  | cons b l ih => simp only [List.cons_append, wsum, ih, List.length_cons, Nat.pow_succ]; rw [Nat.mul_add, Nat.mul_comm (3 ^ l.length) 3, Nat.mul_assoc]; omega

theorem wsum_snoc (l : List UInt8) (b : UInt8) : wsum (l ++ [b]) = wsum l + b.toNat * 3 ^ l.length := by
  rw [wsum_append]; simp [wsum, Nat.mul_comm]

def num (s : ByteArray) : Nat := wsum s.data.toList % 673
theorem num_lt (s : ByteArray) : num s < 673 := Nat.mod_lt _ (by decide)

def let0 (n : Nat) : UInt8 := UInt8.ofNat (97 + n / 26)
def let1 (n : Nat) : UInt8 := UInt8.ofNat (97 + n % 26)
def lets (s : ByteArray) : ByteArray := ⟨#[let0 (num s), let1 (num s)]⟩

theorem take_snoc (s : ByteArray) (k : Nat) (h : k < s.size) : s.data.toList.take (k + 1) = s.data.toList.take k ++ [s[k]] := by
  rw [List.take_succ_eq_append_getElem (by simpa using h)]; rfl

/-- One round of the loop over the bytes. -/
theorem wstep (s : ByteArray) (k : Nat) (h : k < s.size) :
    (((wsum (s.data.toList.take k) % 673 : Nat) : Int) + (s[k].toNat : Int) * ((3 ^ k % 673 : Nat) : Int)).tmod 673 = ((wsum (s.data.toList.take (k + 1)) % 673 : Nat) : Int) := by
  rw [take_snoc s k h, wsum_snoc]
  have hl : (s.data.toList.take k).length = k := by rw [List.length_take]; exact Nat.min_eq_left (by rw [← Lib.size_eq]; omega)
  rw [hl]
  have e : ((wsum (s.data.toList.take k) % 673 : Nat) : Int) + (s[k].toNat : Int) * ((3 ^ k % 673 : Nat) : Int) = ((wsum (s.data.toList.take k) % 673 + s[k].toNat * (3 ^ k % 673) : Nat) : Int) := by
    rw [Int.natCast_add, Int.natCast_mul]
  rw [e]
  show Int.tmod _ ((673 : Nat) : Int) = _
  rw [← Int.ofNat_tmod]
  congr 1
  rw [Nat.add_mod, Nat.mod_mod, Nat.mul_mod, Nat.mod_mod, ← Nat.mul_mod, ← Nat.add_mod]

theorem wpow (k : Nat) : (((3 ^ k % 673 : Nat) : Int) * 3).tmod 673 = ((3 ^ (k + 1) % 673 : Nat) : Int) := by
  have e : ((3 ^ k % 673 : Nat) : Int) * 3 = ((3 ^ k % 673 * 3 : Nat) : Int) := by rw [Int.natCast_mul]; rfl
  rw [e]
  show Int.tmod _ ((673 : Nat) : Int) = _
  rw [← Int.ofNat_tmod]
  congr 1
  rw [Nat.pow_succ, Nat.mul_mod, Nat.mod_mod, ← Nat.mul_mod]

theorem wfit (b x y : Nat) (hb : b < 256) (hx : x < 673) (hy : y < 673) :
    0 ≤ (b : Int) * (y : Int) ∧ (b : Int) * (y : Int) ≤ 171360 ∧ wrap64 (b : Int) = b ∧ wrap64 ((b : Int) * (y : Int)) = b * y ∧ wrap64 ((x : Int) + (b : Int) * (y : Int)) = x + b * y := by
  have h0 : 0 ≤ (b : Int) * (y : Int) := Int.mul_nonneg (by omega) (by omega)
  have h1 : (b : Int) * (y : Int) ≤ 255 * 672 := Int.mul_le_mul (by omega) (by omega) (by omega) (by omega)
  obtain ⟨p, hp⟩ : ∃ p : Int, p = (b : Int) * (y : Int) := ⟨_, rfl⟩
  rw [← hp] at h0 h1 ⊢
  exact ⟨h0, by omega, IntWalk.wrap64_in _ (by omega), IntWalk.wrap64_in _ (by omega), IntWalk.wrap64_in _ (by omega)⟩

set_option maxHeartbeats 400000 in
theorem remainder_any (s : ByteArray) (w : World) (hs : s.size ≤ maxLen) :
    Calls Tryz.prog 89 #[.string s] w fun e w' => e = .returned (.int .i64 (num s)) ∧ w = w' := by
  unfold maxLen at hs
  go_enter Tryz.func89, Tryz.ntmps89
  go_wp2
  go_loop [3, 4, 8] (fun n wt i => ∃ k : Nat, k ≤ s.size ∧ i = .int .i64 k ∧ n = .int .i64 ((wsum (s.data.toList.take k) % 673 : Nat) : Int) ∧ wt = .int .i64 ((3 ^ k % 673 : Nat) : Int)) (fun _ _ i => s.size - (intOf i).toNat)
  case atStart => exact ⟨0, Nat.zero_le _, rfl, rfl, rfl⟩
  case round =>
    obtain ⟨k, hk, rfl, rfl, rfl⟩ := hrel
    by_cases hlt : k < s.size
    · have HS : Hid _ := wstep s k hlt
      have HP : Hid _ := wpow k
      obtain ⟨x, hx⟩ : ∃ x : Nat, x = wsum (s.data.toList.take k) % 673 := ⟨_, rfl⟩
      obtain ⟨y, hy⟩ : ∃ y : Nat, y = 3 ^ k % 673 := ⟨_, rfl⟩
      rw [← hx, ← hy] at HS
      rw [← hy] at HP
      rw [← hx, ← hy]
      have hx1 : x < 673 := by omega
      have hy1 : y < 673 := by omega
      obtain ⟨hp0, hp1, hw1, hw2, hw3⟩ := wfit s[k].toNat x y s[k].toNat_lt hx1 hy1
      clear hx hy
      go_wp2
      go_round
      case rel => exact ⟨k + 1, by omega, by go_num, by rw [← HS.out, Int.tmod_eq_emod_of_nonneg (by omega)], by rw [← HP.out, Int.tmod_eq_emod_of_nonneg (by omega)]⟩
      case measure => simp [intOf]; omega
    · go_wp2
      go_ret
      exact ⟨ret_int (by rw [List.take_of_length_le (by rw [← Lib.size_eq]; omega)]; rfl), rfl⟩

theorem letter_any (n : Int) (w : World) (h0 : 0 ≤ n) (h1 : n ≤ 25) :
    Calls Tryz.prog 90 #[.int .i64 n] w fun e w' => e = .returned (.int .u8 (97 + n)) ∧ w = w' := by
  go_enter Tryz.func90, Tryz.ntmps90
  go_wp2
  go_ret
  exact ⟨rfl, rfl⟩

theorem conv_two (w : World) (x y : UInt8) :
    (convert 115 9 (.slice (some ⟨w.heap.size, 0, none⟩) 2 2)).run Tryz.prog (w.alloc (.cells #[.int .u8 (x.toNat : Int), .int .u8 (y.toNat : Int)] 5)) = .ok (.string ⟨#[x, y]⟩) (w.alloc (.cells #[.int .u8 (x.toNat : Int), .int .u8 (y.toNat : Int)] 5)) := by
  refine run_convert_bytes_back (P := Tryz.prog) (w.alloc (.cells #[.int .u8 (x.toNat : Int), .int .u8 (y.toNat : Int)] 5)) 115 9 5 ⟨w.heap.size, 0, none⟩ 2 [x, y] Tryz.underlying115 Tryz.underlying5 Tryz.underlying9 ?_
  intro j hj
  match j, hj with
  | 0, _ => simp [Addr.add]
  | 1, _ => simp [Addr.add]

theorem let0_nat (n : Nat) (h : n < 673) : ((let0 n).toNat : Int) = 97 + (n : Int) / 26 := by
  unfold let0; simp; omega
theorem let1_nat (n : Nat) : ((let1 n).toNat : Int) = 97 + (n : Int) % 26 := by
  unfold let1; simp; omega

theorem letters_any (s : ByteArray) (w : World) (hs : s.size ≤ maxLen) :
    Calls Tryz.prog 81 #[.string s] w fun e w' => e = .returned (.string (lets s)) ∧ Below w.heap.size w w' := by
  have hn := num_lt s
  have hc := conv_two w (let0 (num s)) (let1 (num s))
  rw [let0_nat _ hn, let1_nat] at hc
  go_enter Tryz.func81, Tryz.ntmps81
  go_wp2_with (first | (go_at_call 89; refine (remainder_any _ _ hs).mono ?_; rintro e w' ⟨rfl, rfl⟩) | (go_at_call 90; refine (letter_any _ _ (by omega) (by omega)).mono ?_; rintro e w' ⟨rfl, rfl⟩))
  go_ret
  exact ⟨rfl, (Below.refl _ _).alloc (Nat.le_refl _) _⟩

set_option maxHeartbeats 400000 in
theorem ref_letters_any (s : ByteArray) (w : World) (hs : s.size ≤ maxLen) :
    Calls Tryz.prog 85 #[.string s] w fun e w' => e = .returned (.string (lets s)) ∧ Below w.heap.size w w' := by
  have hn := num_lt s
  have hc := conv_two w (let0 (num s)) (let1 (num s))
  rw [let0_nat _ hn, let1_nat] at hc
  unfold maxLen at hs
  go_enter Tryz.func85, Tryz.ntmps85
  go_wp2
  go_loop [3, 4, 8] (fun n wt i => ∃ k : Nat, k ≤ s.size ∧ i = .int .i64 k ∧ n = .int .i64 ((wsum (s.data.toList.take k) % 673 : Nat) : Int) ∧ wt = .int .i64 ((3 ^ k % 673 : Nat) : Int)) (fun _ _ i => s.size - (intOf i).toNat)
  case atStart => exact ⟨0, Nat.zero_le _, rfl, rfl, rfl⟩
  case round =>
    obtain ⟨k, hk, rfl, rfl, rfl⟩ := hrel
    by_cases hlt : k < s.size
    · have HS : Hid _ := wstep s k hlt
      have HP : Hid _ := wpow k
      obtain ⟨x, hx⟩ : ∃ x : Nat, x = wsum (s.data.toList.take k) % 673 := ⟨_, rfl⟩
      obtain ⟨y, hy⟩ : ∃ y : Nat, y = 3 ^ k % 673 := ⟨_, rfl⟩
      rw [← hx, ← hy] at HS
      rw [← hy] at HP
      rw [← hx, ← hy]
      have hx1 : x < 673 := by omega
      have hy1 : y < 673 := by omega
      obtain ⟨hp0, hp1, hw1, hw2, hw3⟩ := wfit s[k].toNat x y s[k].toNat_lt hx1 hy1
      clear hx hy
      go_wp2
      go_round
      case rel => exact ⟨k + 1, by omega, by go_num, by rw [← HS.out, Int.tmod_eq_emod_of_nonneg (by omega)], by rw [← HP.out, Int.tmod_eq_emod_of_nonneg (by omega)]⟩
      case measure => simp [intOf]; omega
    · have e : wsum (s.data.toList.take k) % 673 = num s := by rw [List.take_of_length_le (by rw [← Lib.size_eq]; omega)]; rfl
      rw [e]
      clear e
      go_wp2
      go_ret
      exact ⟨rfl, (Below.refl _ _).alloc (Nat.le_refl _) _⟩
end Go.Proofs.YtdbmnjodkpeobaaGreatDoor
/-
  The library's contract of internal/stringslite.Clone laid at this program, and strings.Clone by it: the same bytes; memory that was there stays.
-/
namespace Go.Proofs.YtdbmnjodkpeobaaGreatDoor
open Go.Shelf Go.RowKit
def cloneRen : Go.Shelf.Ren := ⟨fun | 316 => 74 | n => n, fun | 9 => 9 | 3 => 3 | 4 => 4 | 37 => 115 | 0 => 0 | 127 => 116 | 5 => 5 | n => n, fun | n => n⟩
theorem cloneLays : Go.Proofs.LaysM.n316 Tryz.prog cloneRen := {
  mixed := by kernel_rfl
  f316 := Tryz.func74.trans (congrArg some (by kernel_rfl))
  t0 := Tryz.underlying0
  a0 := Tryz.isAgg0
  z0 := Tryz.sizeOf0
  v0 := Tryz.zeroValue0
  t3 := Tryz.underlying3
  a3 := Tryz.isAgg3
  z3 := Tryz.sizeOf3
  v3 := Tryz.zeroValue3
  t4 := Tryz.underlying4
  a4 := Tryz.isAgg4
  z4 := Tryz.sizeOf4
  v4 := Tryz.zeroValue4
  t9 := Tryz.underlying9
  a9 := Tryz.isAgg9
  z9 := Tryz.sizeOf9
  v9 := Tryz.zeroValue9
  t37 := Tryz.underlying115
  a37 := Tryz.isAgg115
  z37 := Tryz.sizeOf115
  v37 := Tryz.zeroValue115
  t127 := Tryz.underlying116
  a127 := Tryz.isAgg116
  z127 := Tryz.sizeOf116
  v127 := Tryz.zeroValue116
  t5 := Tryz.underlying5
  a5 := Tryz.isAgg5
  z5 := Tryz.sizeOf5
  v5 := Tryz.zeroValue5
  i0 := by kernel_rfl
  i3 := by kernel_rfl
  i4 := by kernel_rfl
  i5 := by kernel_rfl
  i9 := by kernel_rfl
  i37 := by kernel_rfl
  i127 := by kernel_rfl }
theorem slite_clone_any (s : ByteArray) (w : World) (hlim : s.size ≤ 281474976710656) :
    Calls Tryz.prog 74 #[.string s] w fun e w' => e = .returned (.string s) ∧ Below w.heap.size w w' := Any.stringslite_Clone cloneLays s w hlim
theorem clone_any (s : ByteArray) (w : World) (hlim : s.size ≤ 281474976710656) :
    Calls Tryz.prog 57 #[.string s] w fun e w' => e = .returned (.string s) ∧ Below w.heap.size w w' := by
  go_enter Tryz.func57, Tryz.ntmps57
  go_wp2_with (go_at_call 74; refine (slite_clone_any _ _ hlim).mono ?_; rintro e w1 ⟨rfl, hb1⟩)
  go_ret
  exact ⟨rfl, hb1⟩
end Go.Proofs.YtdbmnjodkpeobaaGreatDoor
