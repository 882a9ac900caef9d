/-
  Own texts put together: EntN, EntL.
-/
import Derived.Test.YtijfcickgicncaaGreatDoorSgjlpkfn
import Derived.Lib.AppendIntMem
import Derived.Lib.AtoiErrMem
import Derived.Shelf.Strconv.ErrVarAll
import Derived.Deep.RegionWith
/-
  Contracts: strconv.Itoa, strconv.Atoi, strings.Split off the shelf, in any world in which the library's variables hold what they do; entry.number.
-/
namespace Go.Proofs.YtijfcickgicncaaGreatDoor
open Go.ChangeShapes Go.WideShapes Go.ChangeAt Go.RowKit

theorem itoa_any (n : Int) (w : World) (h0 : -9223372036854775808 ≤ n) (h1 : n ≤ 9223372036854775807) (hg : Gl w) :
    Calls Tryz.prog 181 #[.int .i64 n] w fun e w' => e = .returned (.string ⟨(Lib.itoa n).toArray⟩) ∧ Below w.heap.size w w' :=
  (Tryz.strconv_Itoa n h0 h1 w hg.1).mono fun e w' ⟨h, k, os, e2⟩ => ⟨h, by subst e2; exact Lib.below_grow _ w (Nat.le_refl _) k os⟩

theorem atoi_any (s : ByteArray) (w : World) (hs : s.size ≤ 281474976710656) (hg : Gl w) :
    Calls Tryz.prog 241 #[.string s] w fun e w' => Below w.heap.size w w' ∧
      ((∃ v, Lib.atoiAll s.data.toList = .ok v ∧ e = .returned (.tuple #[.int .i64 v, .nilIface])) ∨
       ((∀ v, Lib.atoiAll s.data.toList ≠ .ok v) ∧ ∃ v N, e = .returned (.tuple #[.int .i64 v, .iface 270 (.pointer (some ⟨N, 0, none⟩))]))) := by
  obtain ⟨_, ⟨t2, p2, h2⟩, ⟨t3, p3, h3⟩, _⟩ := hg
  cases h : Lib.atoiAll s.data.toList with
  | ok v =>
    refine (Tryz.strconv_Atoi_ok s (by omega) v h w).mono ?_
    rintro e w' ⟨rfl, hw⟩
    refine ⟨?_, .inl ⟨v, rfl, rfl⟩⟩
    rcases hw with rfl | ⟨t, rfl⟩
    · exact Below.refl _ _
    · exact Lib.bytesWorld_below _ _ _
  | range =>
    refine (Any.strconv_Atoi_range_var Tryz.laysC172 s hs h t3 p3 w h3).mono ?_
    rintro e w' ⟨N, rfl, _, _, hb⟩
    exact ⟨hb, .inr ⟨(fun v hv => by cases hv), _, N, rfl⟩⟩
  | _ =>
    refine (Any.strconv_Atoi_syntax_var Tryz.laysC172 s hs h t2 p2 w h2).mono ?_
    rintro e w' ⟨N, rfl, _, _, hb⟩
    exact ⟨hb, .inr ⟨(fun v hv => by cases hv), _, N, rfl⟩⟩

theorem split_any (s : ByteArray) (w : World) (hs : s.size < 4294967281) (hg : Gl w) :
    Calls Tryz.prog 193 #[.string s, .string ⟨#[32]⟩] w fun e w' =>
      e = .returned (.slice (some ⟨w.heap.size, 0, none⟩) (cutB s).length (cutB s).length) ∧ w.alloc (.cells ((cutB s).map Value.string).toArray 9) = w' := by
  obtain ⟨m, hm⟩ := hg.mx
  refine (Any.strings_Split { Tryz.laysM146 with } Tryz.laysM146.i9 s ⟨#[32]⟩ m w hs hm (by decide)).mono ?_
  rintro e w' ⟨rfl, rfl⟩
  rw [cutB_len]
  exact ⟨rfl, rfl⟩

/-- What a number's reader says: told, it is how the number is written; and whatever an entry may hold is told. -/
def NumR (s : ByteArray) (v : Int) (b : Bool) : Prop :=
  (b = true → s.data.toList = Lib.itoa v ∧ -9223372036854775808 ≤ v ∧ v ≤ 9223372036854775807) ∧
  ∀ v', -1000000000 ≤ v' → v' ≤ 1000000000 → s.data.toList = Lib.itoa v' → b = true ∧ v = v'

theorem itoaB_eq (s : ByteArray) (v : Int) : ((⟨(Lib.itoa v).toArray⟩ : ByteArray).toList == s.toList) = true ↔ s.data.toList = Lib.itoa v := by
  rw [ByteArray.toList_eq, ByteArray.toList_eq, beq_iff_eq]
  exact eq_comm

theorem number_any (s : ByteArray) (w : World) (hs : s.size ≤ 281474976710656) (hg : Gl w) :
    Calls Tryz.prog 212 #[.string s] w fun e w' => ∃ v b, e = .returned (.tuple #[.int .i64 v, .bool b]) ∧ NumR s v b ∧ Below w.heap.size w w' := by
  have HG : Hid (Gl w) := hg
  have HS : Hid (s.size ≤ 281474976710656) := hs
  clear hg hs
  go_enter Tryz.func212, Tryz.ntmps212
  go_wp2_with fail
  refine (atoi_any s _ HS.out HG.out).mono ?_
  rintro e w1 ⟨hb1, ⟨v, hv, rfl⟩ | ⟨hno, v, N, rfl⟩⟩
  · obtain ⟨hv0, hv1⟩ := Lib.atoiAll_bounds hv
    obtain ⟨t, ht⟩ : ∃ t : ByteArray, (⟨(Lib.itoa v).toArray⟩ : ByteArray) = t := ⟨_, rfl⟩
    have HV : Hid (-9223372036854775808 ≤ v ∧ v ≤ 9223372036854775807) := ⟨hv0, hv1⟩
    have HT : Hid ((t.toList == s.toList) = true ↔ s.data.toList = Lib.itoa v) := by rw [← ht]; exact itoaB_eq s v
    have HO : Hid (Lib.atoiAll s.data.toList = .ok v) := hv
    have H1 : Hid (Below w.heap.size w w1) := hb1
    have HTT : Hid _ := ht
    clear hv0 hv1 hv hb1 ht
    cases hq : (t.toList == s.toList)
    · go_wp2_with (first
        | (go_at_call 181; refine (itoa_any _ _ HV.out.1 HV.out.2 (HG.out.on H1.out)).mono ?_; rintro e w2 ⟨rfl, hb2⟩; rw [HTT.out]))
      go_ret2
      refine ⟨_, _, rfl, ⟨(fun h => by cases h), fun v' a1 a2 a3 => ?_⟩, H1.out.trans (hb2.mono H1.out.size)⟩
      have e1 := atoi_itoa a1 a2
      rw [← a3, HO.out] at e1
      cases e1
      exact absurd (HT.out.2 a3) (by rw [hq]; decide)
    · go_wp2_with (first
        | (go_at_call 181; refine (itoa_any _ _ HV.out.1 HV.out.2 (HG.out.on H1.out)).mono ?_; rintro e w2 ⟨rfl, hb2⟩; rw [HTT.out]))
      go_ret2
      refine ⟨_, _, rfl, ⟨fun _ => ⟨HT.out.1 hq, HV.out⟩, fun v' a1 a2 a3 => ⟨rfl, ?_⟩⟩, H1.out.trans (hb2.mono H1.out.size)⟩
      exact itoa_inj ((HT.out.1 hq).symm.trans a3)
  · have HN : Hid _ := hno
    have H1 : Hid (Below w.heap.size w w1) := hb1
    clear hno hb1
    go_wp2
    go_ret2
    refine ⟨_, _, rfl, ⟨(fun h => by cases h), fun v' a1 a2 a3 => ?_⟩, H1.out⟩
    have e1 := atoi_itoa a1 a2
    rw [← a3] at e1
    exact absurd e1 (HN.out v')
end Go.Proofs.YtijfcickgicncaaGreatDoor
/-
  Contracts: the reference's Line: the signed text of an entry that may be, or a refusal.
-/
namespace Go.Proofs.YtijfcickgicncaaGreatDoor
open Go.ChangeShapes Go.WideShapes Go.ChangeAt Go.RowKit

def lineV (k : ByteArray) (id : Int) (l : List Int) : ByteArray := if mayB k id l = true then sign (txt k id l) else ⟨#[]⟩
def lineE (k : ByteArray) (id : Int) (l : List Int) : Int := if mayB k id l = true then 0 else 1

theorem txt_nil (k : ByteArray) (id : Int) : txt k id [] = k ++ ⟨#[32]⟩ ++ ⟨(Lib.itoa id).toArray⟩ := by
  apply bytes_ext
  show Lib.join [k.data.toList, Lib.itoa id] [32] = _
  rw [Lib.join_cons]
  simp [Lib.joinTail]
theorem txt_snoc (k : ByteArray) (id : Int) (l : List Int) (n : Int) : txt k id (l ++ [n]) = txt k id l ++ (⟨#[32]⟩ ++ ⟨(Lib.itoa n).toArray⟩) := by
  apply bytes_ext
  show Lib.join (wordsL k id (l ++ [n])) [32] = _
  have e : (txt k id l ++ (⟨#[32]⟩ ++ ⟨(Lib.itoa n).toArray⟩)).data.toList = Lib.join (wordsL k id l) [32] ++ (32 :: Lib.itoa n) := by simp [txt]
  rw [e]
  simp [wordsL, Lib.join_cons, Lib.joinTail]
theorem may_take {k : ByteArray} {id : Int} {l : List Int} (h : mayB k id l = true) (n : Nat) : mayB k id (l.take n) = true := by
  unfold mayB numsB at h ⊢
  simp only [Bool.and_eq_true, decide_eq_true_eq, List.all_eq_true] at h ⊢
  exact ⟨h.1, by have := h.2.1; simp; omega, fun x hx => h.2.2 x (List.mem_of_mem_take hx)⟩

theorem itoaB_size {n : Int} (h0 : -1000000000 ≤ n) (h1 : n ≤ 1000000000) : (⟨(Lib.itoa n).toArray⟩ : ByteArray).size ≤ 11 := by
  have := itoa_len h0 h1
  simpa [ByteArray.size] using this

set_option maxHeartbeats 1000000 in
theorem ref_line_any (k : ByteArray) (id : Int) (a : Option Addr) (l : List Int) (c : Nat) (w : World) (hk : k.size ≤ maxLen) (ha : Ints w a l) (hl : l.length ≤ 9223372036854775807) (hg : Gl w) :
    Calls Tryz.prog 154 #[.agg #[.string k, .int .i64 id, .slice a l.length c]] w fun e w' => e = .returned (.tuple #[.string (lineV k id l), .int .i64 (lineE k id l)]) ∧ Below w.heap.size w w' := by
  have HI : Hid (Ints w a l) := ha
  have HB : Hid (Below w.heap.size w (w.alloc (.cells #[.string k, .int .i64 id, .slice a l.length c] 93))) := (Below.refl _ _).alloc (Nat.le_refl _) _
  have HL : Hid (l.length ≤ 9223372036854775807) := hl
  have HK : Hid (k.size ≤ maxLen) := hk
  have HG : Hid (Gl w) := hg
  clear ha hl hk hg
  have HM := ref_may_any k id a l c (w.alloc (.cells #[.string k, .int .i64 id, .slice a l.length c] 93)) HK.out (HI.out.below HB.out) HL.out
  unfold lineV lineE
  cases hm : mayB k id l
  · rw [hm] at HM
    go_enter Tryz.func154, Tryz.ntmps154
    go_wp2_with (first
      | (go_at_call 168; refine HM.mono ?_; rintro e w1 ⟨rfl, hb1⟩))
    go_ret2
    exact ⟨rfl, bel_on' HB.out hb1⟩
  · rw [hm] at HM
    obtain ⟨_, hk8, _, hi0, hi1, hl4, hn⟩ := may_parts hm
    have HMB : Hid (mayB k id l = true) := hm
    have HN : Hid _ := hn
    clear hn hm
    go_enter Tryz.func154, Tryz.ntmps154
    have b0 : (w.alloc (.cells #[.string k, .int .i64 id, .slice a l.length c] 93)).cell? ⟨w.heap.size, 0, none⟩ = some (.string k) := by simp
    have b1 : (w.alloc (.cells #[.string k, .int .i64 id, .slice a l.length c] 93)).cell? ⟨w.heap.size, 1, none⟩ = some (.int .i64 id) := by simp
    have b2 : (w.alloc (.cells #[.string k, .int .i64 id, .slice a l.length c] 93)).cell? ⟨w.heap.size, 2, none⟩ = some (.slice a l.length c) := by simp
    have B0 : Hid _ := b0
    have B1 : Hid _ := b1
    have B2 : Hid _ := b2
    clear b0 b1 b2
    go_wp2_with (first
      | (go_at_call 168; refine HM.mono ?_; rintro e w1 ⟨rfl, hb1⟩; have c0 := (hb1.cell (p := ⟨w.heap.size, 0, none⟩) (by simp)).trans B0.out; have c1 := (hb1.cell (p := ⟨w.heap.size, 1, none⟩) (by simp)).trans B1.out; have c2 := (hb1.cell (p := ⟨w.heap.size, 2, none⟩) (by simp)).trans B2.out))
    have H1 : Hid (Below w.heap.size w w1) := bel_on' HB.out hb1
    clear HM hb1
    have hne : Nonempty (Later w1) := ⟨Later.now w1⟩
    have l0 := Later.cell c0
    have l1 := Later.cell c1
    have HG1 : Hid (Gl w1) := HG.out.on H1.out
    obtain ⟨y, hy⟩ : ∃ y : ByteArray, (⟨(Lib.itoa id).toArray⟩ : ByteArray) = y := ⟨_, rfl⟩
    have hys : y.size ≤ 11 := by rw [← hy]; exact itoaB_size (by omega) (by omega)
    have HY : Hid _ := hy
    clear hy
    have ci : ∀ u : Later w1, Calls Tryz.prog 181 #[.int .i64 id] u.w fun e w' => e = .returned (.string y) ∧ ∃ u' : Later w1, w' = u'.w := fun u => calls_later u (by rw [← HY.out]; exact itoa_any id u.w (by omega) (by omega) (HG1.out.on u.below))
    refine region_later (by kernel_rfl) (by kernel_rfl) ?_
    repeat (first | go_big_quiet_step (first | (go_at_call 181; exact ci _)) | quiet_step (first | (go_at_call 181; exact ci _)))
    refine wpQuiet_nil ?_
    intro u
    have c3 := Later.cell c2 u
    have HB3 : Hid (Below w.heap.size w u.w) := bel_on' H1.out u.below
    clear l0 l1 ci HG1 c0 c1 c2 hne
    generalize u.w = w3 at c3 HB3 ⊢
    have HT : Hid (k ++ ⟨#[32]⟩ ++ y = txt k id (l.take 0)) := by show _ = _; rw [List.take_zero, txt_nil, HY.out]
    clear HY B0 B1 B2
    go_wp2
    go_loopw [4, 20] (fun s i wr => ∃ n : Nat, n ≤ l.length ∧ i = .int .i64 n ∧ s = .string (txt k id (l.take n)) ∧ Hid (Below w.heap.size w wr)) (fun _ i _ => l.length - (intOf i).toNat)
    case atStart => exact ⟨0, Nat.zero_le _, rfl, congrArg Value.string HT.out, HB3⟩
    case round =>
      obtain ⟨n, hnl, rfl, rfl, HR⟩ := hrel
      by_cases hlt : n < l.length
      · rcases HI.out.below HR.out with h | ⟨b, off, rfl, hc⟩
        · subst h; simp at hlt
        have hx := hc n hlt
        clear hc
        obtain ⟨x, ex⟩ : ∃ x, x = l.getD n 0 := ⟨_, rfl⟩
        rw [← ex] at hx
        have hg : l[n] = x := by rw [ex]; simp [List.getD, hlt]
        have hxb := HN.out x (by rw [← hg]; exact List.getElem_mem hlt)
        obtain ⟨z, hz⟩ : ∃ z : ByteArray, (⟨(Lib.itoa x).toArray⟩ : ByteArray) = z := ⟨_, rfl⟩
        have hzs : z.size ≤ 11 := by rw [← hz]; exact itoaB_size hxb.1 hxb.2
        obtain ⟨X, hX⟩ : ∃ X : ByteArray, txt k id (l.take n) = X := ⟨_, rfl⟩
        have hXs : X.size ≤ 60 := by rw [← hX]; exact txt_size (may_take HMB.out n)
        have HS : Hid (X ++ (⟨#[32]⟩ ++ z) = txt k id (l.take (n + 1))) := by
          show _ = _
          rw [List.take_succ_eq_append_getElem hlt, txt_snoc, hX, hg, hz]
        rw [hX]
        have HZ : Hid ((⟨(Lib.itoa x).toArray⟩ : ByteArray) = z) := hz
        have hx0 := hxb.1
        have hx1 := hxb.2
        clear ex hg hz hX hxb
        go_wp2_with (first
          | (go_at_call 181; refine (itoa_any _ _ (by omega) (by omega) (HG.out.on HR.out)).mono ?_; rintro e w4 ⟨rfl, hb4⟩; rw [HZ.out]))
        go_roundw
        case rel => exact ⟨n + 1, by omega, by go_num, congrArg Value.string HS.out, bel_on' HR.out hb4⟩
        case measure => simp [intOf]; omega
      · have HF : Hid (txt k id (l.take n) = txt k id l) := by show _ = _; rw [List.take_of_length_le (by omega)]
        rw [HF.out]
        have hXs : (txt k id l).size ≤ 140737488355328 := by have := txt_size HMB.out; omega
        have HXS : Hid _ := hXs
        clear hXs
        go_wp2_with (first
          | (go_at_call 182; refine (ref_sign_any _ _ HXS.out).mono ?_; rintro e w4 ⟨rfl, hb4⟩))
        go_ret2
        exact ⟨rfl, bel_on' HR.out hb4⟩
end Go.Proofs.YtijfcickgicncaaGreatDoor
