/-
  NewMemory: both sides, and its law.
-/
import Derived.Test.YtalmgodakdjjcaaMGrown
import Derived.Test.YtalmgodakdjjcaaMSt
namespace Go.Proofs.Ytalmgodakdjjcaa
open Go.ChangeShapes Go.WideShapes Go.ChangeAt Go.RowKit

theorem newS_no (p m : Int) (h : ¬ (0 ≤ m ∧ m ≤ 8 ∧ 0 ≤ p ∧ p ≤ m)) (w : World) :
    Calls Try.prog 23 #[.int .i64 p, .int .i64 m] w fun e w' => e = .returned (.tuple #[.agg #[.int .i64 0, .string ⟨#[]⟩], .bool false]) ∧ Below w.heap.size w w' := by
  by_cases h1 : 0 ≤ m ∧ m ≤ 8
  · have I1 := fun w => in_eq m 0 8 true (by simp [Hid, h1]) w
    have I2 := fun w => in_eq p 0 m false (by simp [Hid]; omega) w
    clear h h1
    go_enter Try.func23, Try.ntmps23
    go_wp2_with fail
    refine (I1 _).mono ?_
    rintro e w' ⟨rfl, hw⟩
    obtain rfl := hw.symm
    go_wp2_with fail
    refine (I2 _).mono ?_
    rintro e w' ⟨rfl, hw⟩
    obtain rfl := hw.symm
    go_wp2
    refine bodyPost_ret (v := .tuple #[.agg #[.int .i64 0, .string ⟨#[]⟩], .bool false]) (by simp [results, Try.results23, go_sem]) rfl ⟨rfl, ?_⟩
    (repeat (first | refine Below.alloc ?_ (by first | (simp; done) | (simp; omega)) _ | refine Below.setCell ?_ (by first | (simp; done) | (simp; omega)) _ | refine bel_dN ?_ _ | refine Below.drew ?_ | exact Below.refl _ _))
  · have I1 := fun w => in_eq m 0 8 false (by simp [Hid]; omega) w
    clear h h1
    go_enter Try.func23, Try.ntmps23
    go_wp2_with fail
    refine (I1 _).mono ?_
    rintro e w' ⟨rfl, hw⟩
    obtain rfl := hw.symm
    go_wp2
    refine bodyPost_ret (v := .tuple #[.agg #[.int .i64 0, .string ⟨#[]⟩], .bool false]) (by simp [results, Try.results23, go_sem]) rfl ⟨rfl, ?_⟩
    (repeat (first | refine Below.alloc ?_ (by first | (simp; done) | (simp; omega)) _ | refine Below.setCell ?_ (by first | (simp; done) | (simp; omega)) _ | refine bel_dN ?_ _ | refine Below.drew ?_ | exact Below.refl _ _))

theorem newS_yes (p m : Nat) (h : m ≤ 8) (h1 : p ≤ m) (w : World) :
    Calls Try.prog 23 #[.int .i64 (p : Int), .int .i64 (m : Int)] w fun e w' => e = .returned (.tuple #[.agg #[.int .i64 (m : Int), .string (zeros (p * 256))], .bool true]) ∧ Below w.heap.size w w' := by
  have I1 := fun w => in_eq (m : Int) 0 8 true (by simp [Hid]; omega) w
  have I2 := fun w => in_eq (p : Int) 0 m true (by simp [Hid]; omega) w
  obtain ⟨n, hn⟩ : ∃ n, p * 256 = n := ⟨_, rfl⟩
  have v : wrap64 ((p : Int) * 256) = (n : Int) := by unfold wrap64; omega
  have hmk := madeU8 n (by omega)
  rw [hn]
  obtain ⟨g, hg⟩ : ∃ g, w.heap.size = g := ⟨_, rfl⟩
  have hct := fun W h => madeTold W (g + 1) n h
  obtain ⟨R, hR⟩ : ∃ R, madeCells (Value.int .u8 0).cells n = R := ⟨_, rfl⟩
  rw [hR] at hmk hct
  have hct1 := hct ((w.alloc (.cells #[.int .i64 0, .string ⟨#[]⟩] 24)).alloc (.cells R 5)) (by
    have e : (w.alloc (.cells #[.int .i64 0, .string ⟨#[]⟩] 24)).heap.size = g + 1 := by simp; omega
    rw [← e]; exact heap_alloc_new _ _)
  clear h h1 hn hct hR
  go_enter Try.func23, Try.ntmps23
  go_wp2_with fail
  refine (I1 _).mono ?_
  rintro e w' ⟨rfl, hw⟩
  obtain rfl := hw.symm
  go_wp2_with fail
  refine (I2 _).mono ?_
  rintro e w' ⟨rfl, hw⟩
  obtain rfl := hw.symm
  go_wp2
  refine bodyPost_ret (v := .tuple #[.agg #[.int .i64 (m : Int), .string (zeros n)], .bool true]) (by simp [results, Try.results23, go_sem, ← hg]) rfl ⟨rfl, ?_⟩
  (repeat (first | refine Below.alloc ?_ (by first | (simp; done) | (simp; omega)) _ | refine Below.setCell ?_ (by first | (simp; done) | (simp; omega)) _ | refine bel_dN ?_ _ | refine Below.drew ?_ | exact Below.refl _ _))

theorem newI_no (p m : Int) (h : ¬ (0 ≤ m ∧ m ≤ 8 ∧ 0 ≤ p ∧ p ≤ m)) (w : World) :
    Calls Try.prog 24 #[.int .i64 p, .int .i64 m] w fun e w' => e = .returned (.tuple #[.agg #[.int .i64 0, .string ⟨#[]⟩], .bool false]) ∧ Below w.heap.size w w' := by
  by_cases h1 : 8 < m
  · clear h
    go_enter Try.func24, Try.ntmps24
    go_wp2
    refine bodyPost_ret (v := .tuple #[.agg #[.int .i64 0, .string ⟨#[]⟩], .bool false]) (by simp [results, Try.results24, go_sem]) rfl ⟨rfl, ?_⟩
    (repeat (first | refine Below.alloc ?_ (by first | (simp; done) | (simp; omega)) _ | refine Below.setCell ?_ (by first | (simp; done) | (simp; omega)) _ | refine bel_dN ?_ _ | refine Below.drew ?_ | exact Below.refl _ _))
  · by_cases h2 : p < 0
    · clear h
      go_enter Try.func24, Try.ntmps24
      go_wp2
      refine bodyPost_ret (v := .tuple #[.agg #[.int .i64 0, .string ⟨#[]⟩], .bool false]) (by simp [results, Try.results24, go_sem]) rfl ⟨rfl, ?_⟩
      (repeat (first | refine Below.alloc ?_ (by first | (simp; done) | (simp; omega)) _ | refine Below.setCell ?_ (by first | (simp; done) | (simp; omega)) _ | refine bel_dN ?_ _ | refine Below.drew ?_ | exact Below.refl _ _))
    · have h3 : m < p := by omega
      clear h
      go_enter Try.func24, Try.ntmps24
      go_wp2
      refine bodyPost_ret (v := .tuple #[.agg #[.int .i64 0, .string ⟨#[]⟩], .bool false]) (by simp [results, Try.results24, go_sem]) rfl ⟨rfl, ?_⟩
      (repeat (first | refine Below.alloc ?_ (by first | (simp; done) | (simp; omega)) _ | refine Below.setCell ?_ (by first | (simp; done) | (simp; omega)) _ | refine bel_dN ?_ _ | refine Below.drew ?_ | exact Below.refl _ _))

theorem newI_yes (p m : Nat) (h : m ≤ 8) (h1 : p ≤ m) (w : World) :
    Calls Try.prog 24 #[.int .i64 (p : Int), .int .i64 (m : Int)] w fun e w' => e = .returned (.tuple #[.agg #[.int .i64 (m : Int), .string (zeros (p * 256))], .bool true]) ∧ Below w.heap.size w w' := by
  have GR := grownM (m : Int) ⟨#[]⟩ p (by show 0 + _ ≤ _; omega)
  rw [show (⟨#[]⟩ : ByteArray) ++ zeros (p * 256) = zeros (p * 256) by apply ByteArray.ext; simp [ByteArray.data_append]] at GR
  generalize zeros (p * 256) = X at *
  obtain ⟨q, hq⟩ : ∃ q : Int, (p : Int) = q := ⟨_, rfl⟩
  obtain ⟨M, hM⟩ : ∃ M : Int, (m : Int) = M := ⟨_, rfl⟩
  rw [hq, hM] at GR ⊢
  have k1 : ¬ 8 < M := by omega
  have k2 : ¬ q < 0 := by omega
  have k3 : ¬ M < q := by omega
  clear h h1 hq hM
  obtain ⟨g, hgs⟩ : ∃ g, w.heap.size = g := ⟨_, rfl⟩
  go_enter Try.func24, Try.ntmps24
  go_wp2_with fail
  refine (GR _).mono ?_
  rintro e w1 ⟨rfl, B1⟩
  have hs := B1.size
  simp at hs
  have hB : Hid (Below w.heap.size w w1) := by unfold Hid; ((repeat (first | refine bel_alloc ?_ _ | refine bel_dN ?_ _ | refine Below.drew ?_ | refine Below.setCell ?_ (by first | (simp; done) | (simp; omega)) _)); refine bel_step ?_ B1; (repeat (first | refine bel_alloc ?_ _ | refine bel_dN ?_ _ | refine Below.drew ?_ | refine Below.setCell ?_ (by first | (simp; done) | (simp; omega)) _)); exact Below.refl _ _)
  have q0 : w1.cell? ⟨g, 0, none⟩ = some (.int .i64 0) := keepCell B1 (by simp; omega) (by rw [← hgs]; simp)
  have q1 : w1.cell? ⟨g, 1, none⟩ = some (.string ⟨#[]⟩) := keepCell B1 (by simp; omega) (by rw [← hgs]; simp)
  have z0 : w1.frozen? ⟨g, 0, none⟩ = false := keepFree B1 (by simp; omega) (by rw [← hgs]; simp)
  have z1 : w1.frozen? ⟨g, 1, none⟩ = false := keepFree B1 (by simp; omega) (by rw [← hgs]; simp)
  clear B1 GR
  go_wp2
  refine bodyPost_ret (v := .tuple #[.agg #[.int .i64 M, .string X], .bool true]) (by simp [results, Try.results24, go_sem, q0, q1]) rfl ⟨rfl, ?_⟩
  refine Below.setCell (Below.setCell hB.out ?_ _) ?_ _ <;> simp <;> omega

theorem newBoth (p m : Int) : ∃ M D r, (∀ w, Calls Try.prog 23 #[.int .i64 p, .int .i64 m] w fun e w' => e = .returned (.tuple #[.agg #[.int .i64 M, .string D], .bool r]) ∧ Below w.heap.size w w') ∧
    (∀ w, Calls Try.prog 24 #[.int .i64 p, .int .i64 m] w fun e w' => e = .returned (.tuple #[.agg #[.int .i64 M, .string D], .bool r]) ∧ Below w.heap.size w w') := by
  by_cases h : 0 ≤ m ∧ m ≤ 8 ∧ 0 ≤ p ∧ p ≤ m
  · obtain ⟨m, rfl⟩ : ∃ k : Nat, m = (k : Int) := ⟨m.toNat, by omega⟩
    obtain ⟨p, rfl⟩ : ∃ k : Nat, p = (k : Int) := ⟨p.toNat, by omega⟩
    exact ⟨_, _, _, newS_yes p m (by omega) (by omega), newI_yes p m (by omega) (by omega)⟩
  · exact ⟨_, _, _, newS_no p m h, newI_no p m h⟩

theorem newMemory_walk (a0 a1 : Int) (_w0 : (Lit.int .i64 a0).wf = true) (_w1 : (Lit.int .i64 a1).wf = true) (w : World) :
    Calls Try.prog 5 #[.int .i64 a0, .int .i64 a1] w fun e w' => e = .returned (.bool true) ∧ Below w.heap.size w w' := by
  obtain ⟨M, D, r, S, I⟩ := newBoth a0 a1
  have E := eqMemory M D
  clear _w0 _w1
  obtain ⟨g, hgs⟩ : ∃ g, w.heap.size = g := ⟨_, rfl⟩
  go_enter Try.func5, Try.ntmps5
  go_wp2_with fail
  refine (S _).mono ?_
  rintro e w1 ⟨rfl, B1⟩
  clear S
  go_wp2_with fail
  refine (I _).mono ?_
  rintro e w2 ⟨rfl, B2⟩
  clear I
  have hs := B2.size
  simp at hs
  have hl : w1.heap.size < w2.heap.size := by omega
  have q0 : w2.cell? ⟨w1.heap.size, 0, none⟩ = some (.int .i64 M) := keepCell B2 (by simp) (by simp)
  have q1 : w2.cell? ⟨w1.heap.size, 1, none⟩ = some (.string D) := keepCell B2 (by simp) (by simp)
  go_wp2_with fail
  refine (E _).mono ?_
  rintro e w3 ⟨rfl, B3⟩
  clear E q0 q1
  go_wp2
  go_ret
  refine ⟨rfl, ?_⟩
  ((repeat (first | refine bel_alloc ?_ _ | refine bel_dN ?_ _ | refine Below.drew ?_ | refine Below.setCell ?_ (by first | (simp; done) | (simp; omega)) _)); refine bel_step ?_ B3; (repeat (first | refine bel_alloc ?_ _ | refine bel_dN ?_ _ | refine Below.drew ?_ | refine Below.setCell ?_ (by first | (simp; done) | (simp; omega)) _)); refine bel_step ?_ B2; (repeat (first | refine bel_alloc ?_ _ | refine bel_dN ?_ _ | refine Below.drew ?_ | refine Below.setCell ?_ (by first | (simp; done) | (simp; omega)) _)); refine bel_step ?_ B1; (repeat (first | refine bel_alloc ?_ _ | refine bel_dN ?_ _ | refine Below.drew ?_ | refine Below.setCell ?_ (by first | (simp; done) | (simp; omega)) _)); exact Below.refl _ _)

end Go.Proofs.Ytalmgodakdjjcaa
