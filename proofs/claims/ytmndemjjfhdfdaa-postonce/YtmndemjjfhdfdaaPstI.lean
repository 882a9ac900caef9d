/-
  Contracts of post's each: an iterator over a row of messages, with their places.
-/
import Derived.Test.YtmndemjjfhdfdaaPstT
import Derived.Test.YtmndemjjfhdfdaaRg2
namespace Go.Proofs.Ytmndemjjfhdfdaa
open Go.ChangeShapes Go.WideShapes Go.ChangeAt Go.RowKit Go.Shelf

def encM (x : Mg × Nat) : Array Value := #[.int .i64 x.2, .agg #[.int .i64 x.1.k, .int .i64 x.1.fr, .int .i64 x.1.to, .int .i64 x.1.id, .int .i64 x.1.st, .int .i64 x.1.a, .int .i64 x.1.b]]
theorem each_any (a : Option Addr) (n c : Nat) (w : World) :
    Calls Try.prog 26 #[.slice a n c] w fun e w' => e = .returned (.func (.func 28) #[] #[.pointer (some ⟨w.heap.size, 0, none⟩)]) ∧ w' = w.alloc (.cells #[.slice a n c] 30) := by
  go_enter Try.func26, Try.ntmps26
  go_wp2
  go_ret
  exact ⟨rfl, rfl⟩
theorem zip_pre {L : List Mg} {j : Nat} {m : Mg} (h : L[j]? = some m) : L.zipIdx.take j ++ [(m, j)] = L.zipIdx.take (j + 1) := by
  have h1 : L.zipIdx[j]? = some (m, j) := by rw [List.getElem?_zipIdx, h]; simp
  obtain ⟨hlt, e⟩ := List.getElem?_eq_some_iff.1 h1
  rw [List.take_succ_eq_append_getElem hlt, e]

set_option maxRecDepth 100000 in
set_option maxHeartbeats 2000000 in
theorem each_seq {F : Nat → Obj → Prop} {w : World} {Bi c : Nat} {a : Option Addr} {L : List Mg} (hbi : w.heap[Bi]? = some (.cells #[.slice a L.length c] 30 (0, 0))) (hm : Mgs w a L) (hl : L.length ≤ 9223372036854775807)
    (hF : ∀ ad, a = some ad → (∀ o, ¬ F ad.block o) ∧ ad.block < w.heap.size) (hFi : ∀ o, ¬ F Bi o) :
    Rg2.SeqA Try.prog F 28 #[.pointer (some ⟨Bi, 0, none⟩)] encM L.zipIdx w := by
  intro l J Jx W hW hwl hlW hJ hJx hY h0
  have hb : W.heap[Bi]? = some (.cells #[.slice a L.length c] 30 (0, 0)) := (hW.block _ (Array.getElem?_eq_some_iff.1 hbi).1).trans hbi
  have hBl : Bi < w.heap.size := (Array.getElem?_eq_some_iff.1 hbi).1
  have c0 : W.cell? ⟨Bi, 0, none⟩ = some (.slice a L.length c) := by rw [cell_of hb]; rfl
  have HEA := hide (hm.below hW)
  have HBX := hide hb
  have HKE : Hid (∀ ad, a = some ad → ∀ o, ¬ (F ad.block o ∨ ad.block = l)) := fun ad e o h4 => h4.elim ((hF ad e).1 o) (fun e2 => by have := (hF ad e).2; omega)
  have HKB : Hid (∀ o, ¬ (F Bi o ∨ Bi = l)) := fun o h4 => h4.elim (hFi o) (fun e => by omega)
  refine callsIn_wide.2 ((callsIn_wide (n := 5)).1 ?_)
  have HY : Hid (∀ pre x W1, J pre W1 → pre ++ [x] <+: L.zipIdx → YieldAt Fence.wide 4 Try.prog l (encM x) W1 fun e W' => Rg.Kept (fun k o => F k o ∨ k = l) W1 W' ∧ ((e = .returned (.bool true) ∧ J (pre ++ [x]) W') ∨ (e = .returned (.bool false) ∧ Jx (pre ++ [x]) W'))) := fun pre x W1 h1 h2 => Rg.yield_any0 (hY pre x W1 h1 h2)
  have HJ0 := hide h0
  have HJO := hide hJ
  clear hY hJ hJx h0 hW hm hb hbi hF hFi
  have HLN : Hid (L.zipIdx.length = L.length) := List.length_zipIdx
  obtain ⟨n, hn⟩ : ∃ n, L.length = n := ⟨_, rfl⟩
  rw [hn] at c0 hl HBX HLN
  have HN := hide hn
  clear hn
  have hny : ∀ (u : World) (b : Nat), (binOp BinOp.eql 60 (.func (.yield b) #[] #[]) .nilFunc).run Try.prog u = .ok (.bool false) u := fun _ _ => by kernel_rfl
  refine callsIn_of_wp Try.func28 rfl trivial ?_ rfl
  simp only [Try.ntmps28, List.size_toArray, List.length_cons, List.length_nil, Nat.reduceAdd, Nat.reduceSub, Array.replicate_succ, Array.replicate_zero, List.push_toArray, List.append_toArray, List.nil_append, List.cons_append]
  gi_wp2
  gi_loopw [9] (fun i wr => ∃ j : Nat, i = .int .i64 j ∧ j ≤ n ∧ Hid (J (L.zipIdx.take j) wr) ∧ Hid (Mgs wr a L)) (fun i _ => n - (Go.RowKit.intOf i).toNat)
  case atStart => exact ⟨0, rfl, Nat.zero_le _, HJ0, HEA⟩
  case round =>
    obtain ⟨j, rfl, hj, HJ, HV⟩ := hrel
    clear c0 HJ0 HEA HBX
    by_cases hlt : j < n
    · have hkl : j < L.length := by have := HN.out; omega
      obtain ⟨m, hm⟩ : ∃ m, L[j]? = some m := ⟨_, List.getElem?_eq_getElem hkl⟩
      obtain ⟨ba, oa, rfl, p0, p1, p2, p3, p4, p5, p6⟩ := HV.out.get hm
      have hpre := zip_pre hm
      have hbw : Below wr.heap.size wr (wr.alloc (.cells #[.int .i64 m.k, .int .i64 m.fr, .int .i64 m.to, .int .i64 m.id, .int .i64 m.st, .int .i64 m.a, .int .i64 m.b] 35)) := bel_al (Below.refl _ _) _
      obtain ⟨fn, tmps, assign, body, hy, hR⟩ := HY.out (L.zipIdx.take j) (m, j) (wr.alloc (.cells #[.int .i64 m.k, .int .i64 m.fr, .int .i64 m.to, .int .i64 m.id, .int .i64 m.st, .int .i64 m.a, .int .i64 m.b] 35)) (Rg.own_grows HJO.out HJ.out hbw) (by rw [hpre]; exact List.take_prefix _ _)
      rw [hpre] at hR
      have HPE := hide hpre
      have HBW := hide hbw
      clear hpre hm hkl hbw
      unfold encM at hy
      dsimp only at hy
      have q1 : (j : Int) < (n : Int) := by omega
      gi_wp2
      refine hR.mono ?_
      rintro e W3 ⟨hk3, (⟨rfl, hJ3⟩ | ⟨rfl, hJ3⟩)⟩
      · have HJ3 := hide hJ3
        have HV3 := hide (HV.out.kept ((Rg.Kept.of_below HBW.out).trans hk3) (fun _ => HKE.out))
        clear hJ3 hk3 hR
        gi_wp2
        go_roundw
        case rel => exact ⟨j + 1, by go_num, by omega, HJ3, HV3⟩
        case measure => simp [Go.RowKit.intOf]; omega
      · have HJ3 := hide hJ3
        clear hJ3 hk3 hR
        gi_wp2
        refine bodyPost_ret (results_none rfl _ _ _) rfl ?_
        exact ⟨⟨_, rfl⟩, .inr ⟨_, by rw [← HPE.out]; simp, List.take_prefix _ _, HJ3.out⟩⟩
    · have q1 : ¬ (j : Int) < (n : Int) := by omega
      have HJ3 : Hid (J L.zipIdx wr) := by
        have := HJ.out
        rwa [List.take_of_length_le (by have := HLN.out; omega)] at this
      gi_wp2
      go_end0
      exact ⟨⟨_, rfl⟩, .inl HJ3.out⟩
end Go.Proofs.Ytmndemjjfhdfdaa
