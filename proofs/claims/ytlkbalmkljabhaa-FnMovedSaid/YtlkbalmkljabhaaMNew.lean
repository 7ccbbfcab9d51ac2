/-
  NewMemory: both sides, and its law.
-/
import Derived.Test.YtlkbalmkljabhaaMGrown
import Derived.Test.YtlkbalmkljabhaaMSt
namespace Go.Proofs.Ytlkbalmkljabhaa
open Go.ChangeShapes Go.WideShapes Go.ChangeAt Go.RowKit

theorem newS_no (p m : Int) (h : ¬ (0 ≤ m ∧ m ≤ 8 ∧ 0 ≤ p ∧ p ≤ m)) (w : World) :
    Calls Try.prog 86 #[.int .i64 p, .int .i64 m] w fun e w' => e = .returned (.tuple #[.agg #[.int .i64 0, .string ⟨#[]⟩], .bool false]) ∧ Below w.heap.size w w' := by
  by_cases h1 : 0 ≤ m ∧ m ≤ 8
  · have I1 := fun w => in_eq m 0 8 true (by simp [Hid, h1]) w
    have I2 := fun w => in_eq p 0 m false (by simp [Hid]; omega) w
    clear h h1
    go_enter Try.func86, Try.ntmps86
    go_wp2_with fail
    refine (I1 _).mono ?_
    rintro e w' ⟨rfl, hw⟩
    obtain rfl := hw.symm
    go_wp2_with fail
    refine (I2 _).mono ?_
    rintro e w' ⟨rfl, hw⟩
    obtain rfl := hw.symm
    go_wp2
    refine bodyPost_ret (v := .tuple #[.agg #[.int .i64 0, .string ⟨#[]⟩], .bool false]) (by simp [results, Try.results86, go_sem]) rfl ⟨rfl, ?_⟩
    (repeat (first | refine Below.alloc ?_ (by first | (simp; done) | (simp; omega)) _ | refine Below.setCell ?_ (by first | (simp; done) | (simp; omega)) _ | refine bel_dN ?_ _ | refine Below.drew ?_ | exact Below.refl _ _))
  · have I1 := fun w => in_eq m 0 8 false (by simp [Hid]; omega) w
    clear h h1
    go_enter Try.func86, Try.ntmps86
    go_wp2_with fail
    refine (I1 _).mono ?_
    rintro e w' ⟨rfl, hw⟩
    obtain rfl := hw.symm
    go_wp2
    refine bodyPost_ret (v := .tuple #[.agg #[.int .i64 0, .string ⟨#[]⟩], .bool false]) (by simp [results, Try.results86, go_sem]) rfl ⟨rfl, ?_⟩
    (repeat (first | refine Below.alloc ?_ (by first | (simp; done) | (simp; omega)) _ | refine Below.setCell ?_ (by first | (simp; done) | (simp; omega)) _ | refine bel_dN ?_ _ | refine Below.drew ?_ | exact Below.refl _ _))

theorem newS_yes (p m : Nat) (h : m ≤ 8) (h1 : p ≤ m) (w : World) :
    Calls Try.prog 86 #[.int .i64 (p : Int), .int .i64 (m : Int)] w fun e w' => e = .returned (.tuple #[.agg #[.int .i64 (m : Int), .string (zeros (p * 256))], .bool true]) ∧ Below w.heap.size w w' := by
  have I1 := fun w => in_eq (m : Int) 0 8 true (by simp [Hid]; omega) w
  have I2 := fun w => in_eq (p : Int) 0 m true (by simp [Hid]; omega) w
  obtain ⟨n, hn⟩ : ∃ n, p * 256 = n := ⟨_, rfl⟩
  have v : wrap64 ((p : Int) * 256) = (n : Int) := by unfold wrap64; omega
  have hmk := madeU8 n (by omega)
  rw [hn]
  obtain ⟨g, hg⟩ : ∃ g, w.heap.size = g := ⟨_, rfl⟩
  have hct := fun W h => madeTold W (g + 1) n h
  obtain ⟨R, hR⟩ : ∃ R, madeCells (Value.int .u8 0).cells n = R := ⟨_, rfl⟩
  rw [hR] at hmk hct
  have hct1 := hct ((w.alloc (.cells #[.int .i64 0, .string ⟨#[]⟩] 40)).alloc (.cells R 5)) (by
    have e : (w.alloc (.cells #[.int .i64 0, .string ⟨#[]⟩] 40)).heap.size = g + 1 := by simp; omega
    rw [← e]; exact heap_alloc_new _ _)
  clear h h1 hn hct hR
  go_enter Try.func86, Try.ntmps86
  go_wp2_with fail
  refine (I1 _).mono ?_
  rintro e w' ⟨rfl, hw⟩
  obtain rfl := hw.symm
  go_wp2_with fail
  refine (I2 _).mono ?_
  rintro e w' ⟨rfl, hw⟩
  obtain rfl := hw.symm
  go_wp2
  refine bodyPost_ret (v := .tuple #[.agg #[.int .i64 (m : Int), .string (zeros n)], .bool true]) (by simp [results, Try.results86, go_sem, ← hg]) rfl ⟨rfl, ?_⟩
  (repeat (first | refine Below.alloc ?_ (by first | (simp; done) | (simp; omega)) _ | refine Below.setCell ?_ (by first | (simp; done) | (simp; omega)) _ | refine bel_dN ?_ _ | refine Below.drew ?_ | exact Below.refl _ _))

end Go.Proofs.Ytlkbalmkljabhaa
