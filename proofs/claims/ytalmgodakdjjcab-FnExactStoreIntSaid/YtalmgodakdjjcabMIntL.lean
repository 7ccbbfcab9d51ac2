/-
  The law on numbers loaded. (Made by a generator.)
-/
import Derived.Test.YtalmgodakdjjcabMInt
namespace Go.Proofs.Ytalmgodakdjjcab
open Go.ChangeShapes Go.WideShapes Go.ChangeAt Go.RowKit Go.PlainAid

theorem loadIntI_no (M : Int) (D : ByteArray) (a n : Int) (sg : Bool) (c : Int) (hc : c ≠ 0)
    (NC : ∀ w, Calls Try.prog 21 #[.agg #[.int .i64 M, .string D], .int .i64 a, .int .i64 n] w fun e w' => e = .returned (.int .i64 c) ∧ Below w.heap.size w w') (w : World) :
    Calls Try.prog 10 #[.agg #[.int .i64 M, .string D], .int .i64 a, .int .i64 n, .bool sg] w fun e w' => e = .returned (.tuple #[.int .u64 0, .int .i64 c]) ∧ Below w.heap.size w w' := by
  have k : (c == 0) = false := by simp [hc]
  clear hc
  go_enter Try.func10, Try.ntmps10
  go_wp2_with fail
  refine (NC _).mono ?_
  rintro e w1 ⟨rfl, B1⟩
  go_wp2
  go_ret2
  refine ⟨rfl, ?_⟩
  ((repeat (first | refine bel_alloc ?_ _ | refine bel_dN ?_ _ | refine Below.drew ?_ | refine Below.setCell ?_ (by first | (simp; done) | (simp; omega)) _)); refine bel_step ?_ B1; (repeat (first | refine bel_alloc ?_ _ | refine bel_dN ?_ _ | refine Below.drew ?_ | refine Below.setCell ?_ (by first | (simp; done) | (simp; omega)) _)); exact Below.refl _ _)

theorem loadIntS_size (M : Int) (D : ByteArray) (a n : Int) (sg : Bool)
    (LZ : ∀ w, Calls Try.prog 18 #[.int .i64 n] w fun e w' => e = .returned (.bool false) ∧ w' = w) (w : World) :
    Calls Try.prog 8 #[.agg #[.int .i64 M, .string D], .int .i64 a, .int .i64 n, .bool sg] w fun e w' => e = .returned (.tuple #[.int .u64 0, .int .i64 1]) ∧ Below w.heap.size w w' := by
  go_enter Try.func8, Try.ntmps8
  go_wp2_with fail
  refine (LZ _).mono ?_
  rintro e w' ⟨rfl, hw⟩
  obtain rfl := hw.symm
  go_wp2
  go_ret2
  refine ⟨rfl, ?_⟩
  (repeat (first | refine Below.alloc ?_ (by first | (simp; done) | (simp; omega)) _ | refine Below.setCell ?_ (by first | (simp; done) | (simp; omega)) _ | refine bel_dN ?_ _ | refine Below.drew ?_ | exact Below.refl _ _))

theorem loadIntS_no (M : Int) (D : ByteArray) (a n : Int) (sg : Bool) (c : Int) (hc : c ≠ 0)
    (LZ : ∀ w, Calls Try.prog 18 #[.int .i64 n] w fun e w' => e = .returned (.bool true) ∧ w' = w)
    (LB : ∀ w, Calls Try.prog 19 #[.agg #[.int .i64 M, .string D], .int .i64 a, .int .i64 n] w fun e w' => e = .returned (.tuple #[.string ⟨#[]⟩, .int .i64 c]) ∧ Below w.heap.size w w') (w : World) :
    Calls Try.prog 8 #[.agg #[.int .i64 M, .string D], .int .i64 a, .int .i64 n, .bool sg] w fun e w' => e = .returned (.tuple #[.int .u64 0, .int .i64 c]) ∧ Below w.heap.size w w' := by
  have k : (c == 0) = false := by simp [hc]
  clear hc
  go_enter Try.func8, Try.ntmps8
  go_wp2_with fail
  refine (LZ _).mono ?_
  rintro e w' ⟨rfl, hw⟩
  obtain rfl := hw.symm
  clear LZ
  go_wp2_with fail
  refine (LB _).mono ?_
  rintro e w1 ⟨rfl, B1⟩
  go_wp2
  go_ret2
  refine ⟨rfl, ?_⟩
  ((repeat (first | refine bel_alloc ?_ _ | refine bel_dN ?_ _ | refine Below.drew ?_ | refine Below.setCell ?_ (by first | (simp; done) | (simp; omega)) _)); refine bel_step ?_ B1; (repeat (first | refine bel_alloc ?_ _ | refine bel_dN ?_ _ | refine Below.drew ?_ | refine Below.setCell ?_ (by first | (simp; done) | (simp; omega)) _)); exact Below.refl _ _)

/-- A code of nought: a good memory, and bytes within. -/
theorem code1_zero {M : Int} {D : ByteArray} {a n : Int} (hc : codeOf (good M D) D.size [(a, n)] = 0) : good M D = true ∧ 0 ≤ a ∧ 0 ≤ n ∧ n ≤ (D.size : Int) - a := by
  have hg : good M D = true := by
    cases hG : good M D
    · rw [hG] at hc; cases hc
    · rfl
  rw [hg] at hc
  have h0 : ¬ (a < 0 ∨ n < 0) := fun h => by rw [code1_none _ _ _ h] at hc; cases hc
  have h1 : ¬ (D.size : Int) - a < n := fun h => by rw [code1_out _ _ _ (by omega) (by omega) h] at hc; cases hc
  exact ⟨hg, by omega, by omega, by omega⟩

theorem loadIntBoth (M : Int) (D : ByteArray) (h : D.size ≤ 1048576) (a n : Int) (sg : Bool) (ha : a ≤ 9223372036854775807) :
    ∃ r c, (∀ w, Calls Try.prog 8 #[.agg #[.int .i64 M, .string D], .int .i64 a, .int .i64 n, .bool sg] w fun e w' => e = .returned (.tuple #[.int .u64 r, .int .i64 c]) ∧ Below w.heap.size w w') ∧
      (∀ w, Calls Try.prog 10 #[.agg #[.int .i64 M, .string D], .int .i64 a, .int .i64 n, .bool sg] w fun e w' => e = .returned (.tuple #[.int .u64 r, .int .i64 c]) ∧ Below w.heap.size w w') := by
  by_cases hn : n = 1 ∨ n = 2 ∨ n = 4 ∨ n = 8
  · rcases hn with rfl | rfl | rfl | rfl
    · by_cases hc : codeOf (good M D) D.size [(a, 1)] = 0
      · obtain ⟨hg, h0, _, h1⟩ := code1_zero hc
        obtain ⟨a, rfl⟩ : ∃ k : Nat, a = (k : Int) := ⟨a.toNat, by omega⟩
        exact ⟨_, _, loadIntS1 M D h a hg (by omega) sg, loadIntI1 M D h a hg (by omega) sg⟩
      · exact ⟨_, _, loadIntS_no M D a 1 sg _ hc l5Size1 (loadS M D h a 1 ha (by omega) _ _ rfl (fun h => absurd h hc) (fun _ => rfl)), loadIntI_no M D a 1 sg _ hc (numberCode1 M D h a ha)⟩
    · by_cases hc : codeOf (good M D) D.size [(a, 2)] = 0
      · obtain ⟨hg, h0, _, h1⟩ := code1_zero hc
        obtain ⟨a, rfl⟩ : ∃ k : Nat, a = (k : Int) := ⟨a.toNat, by omega⟩
        exact ⟨_, _, loadIntS2 M D h a hg (by omega) sg, loadIntI2 M D h a hg (by omega) sg⟩
      · exact ⟨_, _, loadIntS_no M D a 2 sg _ hc l5Size2 (loadS M D h a 2 ha (by omega) _ _ rfl (fun h => absurd h hc) (fun _ => rfl)), loadIntI_no M D a 2 sg _ hc (numberCode2 M D h a ha)⟩
    · by_cases hc : codeOf (good M D) D.size [(a, 4)] = 0
      · obtain ⟨hg, h0, _, h1⟩ := code1_zero hc
        obtain ⟨a, rfl⟩ : ∃ k : Nat, a = (k : Int) := ⟨a.toNat, by omega⟩
        exact ⟨_, _, loadIntS4 M D h a hg (by omega) sg, loadIntI4 M D h a hg (by omega) sg⟩
      · exact ⟨_, _, loadIntS_no M D a 4 sg _ hc l5Size4 (loadS M D h a 4 ha (by omega) _ _ rfl (fun h => absurd h hc) (fun _ => rfl)), loadIntI_no M D a 4 sg _ hc (numberCode4 M D h a ha)⟩
    · by_cases hc : codeOf (good M D) D.size [(a, 8)] = 0
      · obtain ⟨hg, h0, _, h1⟩ := code1_zero hc
        obtain ⟨a, rfl⟩ : ∃ k : Nat, a = (k : Int) := ⟨a.toNat, by omega⟩
        exact ⟨_, _, loadIntS8 M D h a hg (by omega) sg, loadIntI8 M D h a hg (by omega) sg⟩
      · exact ⟨_, _, loadIntS_no M D a 8 sg _ hc l5Size8 (loadS M D h a 8 ha (by omega) _ _ rfl (fun h => absurd h hc) (fun _ => rfl)), loadIntI_no M D a 8 sg _ hc (numberCode8 M D h a ha)⟩
  · have h1 : n ≠ 1 := fun e => hn (Or.inl e)
    have h2 : n ≠ 2 := fun e => hn (Or.inr (Or.inl e))
    have h4 : n ≠ 4 := fun e => hn (Or.inr (Or.inr (Or.inl e)))
    have h8 : n ≠ 8 := fun e => hn (Or.inr (Or.inr (Or.inr e)))
    exact ⟨_, _, loadIntS_size M D a n sg (l5Size_no n h1 h2 h4 h8), loadIntI_no M D a n sg 1 (by decide) (numberCode_no M D a n h1 h2 h4 h8)⟩

theorem loadInt_walk (M : Int) (D : ByteArray) (a1 : Int) (a2 : Int) (a3 : Bool) (_wm : (Lit.int .i64 M).wf = true) (wb : D.size ≤ maxLen) (wa1 : (Lit.int .i64 a1).wf = true) (_wa2 : (Lit.int .i64 a2).wf = true) (w : World) :
    Calls Try.prog 3 #[.agg #[.int .i64 M, .string D], .int .i64 a1, .int .i64 a2, .bool a3] w fun e w' => e = .returned (.bool true) ∧ Below w.heap.size w w' := by
  unfold maxLen at wb
  clear _wm
  have hyp1 := bounds_i64 wa1
  clear wa1 _wa2
  obtain ⟨g, hgs⟩ : ∃ g, w.heap.size = g := ⟨_, rfl⟩
  by_cases h : D.size ≤ 1048576
  · have Z := szMemory_yes M D h
    obtain ⟨X, c, S, I⟩ := loadIntBoth M D h a1 a2 a3 hyp1.2
    have T := toMemory M D
    have k : ¬ 1048576 - (D.size : Int) < 0 := by omega
    generalize (1048576 - (D.size : Int)) = n at *
    clear h wb
    try clear hyp1
    try clear hyp2
    try clear hyp3
    go_enter Try.func3, Try.ntmps3
    go_wp2_with fail
    refine (Z _).mono ?_
    rintro e w1 ⟨rfl, B1⟩
    have h1 := B1.size
    simp at h1
    have q0 : w1.cell? ⟨g, 0, none⟩ = some (.int .i64 M) := keepCell B1 (by simp; omega) (by rw [← hgs]; simp)
    have q1 : w1.cell? ⟨g, 1, none⟩ = some (.string D) := keepCell B1 (by simp; omega) (by rw [← hgs]; simp)
    have hB : Hid (Below w.heap.size w w1) := by unfold Hid; ((repeat (first | refine bel_alloc ?_ _ | refine bel_dN ?_ _ | refine Below.drew ?_ | refine Below.setCell ?_ (by first | (simp; done) | (simp; omega)) _)); refine bel_step ?_ B1; (repeat (first | refine bel_alloc ?_ _ | refine bel_dN ?_ _ | refine Below.drew ?_ | refine Below.setCell ?_ (by first | (simp; done) | (simp; omega)) _)); exact Below.refl _ _)
    clear Z B1
    go_wp2_with fail
    refine (T _).mono ?_
    rintro e w2 ⟨rfl, B2⟩
    have h2 := B2.size
    replace q0 := keepCell B2 (by omega) q0
    replace q1 := keepCell B2 (by omega) q1
    replace hB : Hid (Below w.heap.size w w2) := bel_step hB.out B2
    clear B2
    go_wp2_with fail
    refine (S _).mono ?_
    rintro e w3 ⟨rfl, B3⟩
    have h3 := B3.size
    replace q0 := keepCell B3 (by omega) q0
    replace q1 := keepCell B3 (by omega) q1
    have hg3 : g < w3.heap.size := by omega
    replace hB : Hid (Below w.heap.size w w3) := bel_step hB.out B3
    clear B3 S h1 h2 h3
    go_wp2_with fail
    refine (T _).mono ?_
    rintro e w4 ⟨rfl, B4⟩
    replace hB : Hid (Below w.heap.size w w4) := bel_step hB.out B4
    clear B4 T q0 q1
    go_wp2_with fail
    refine (I _).mono ?_
    rintro e w5 ⟨rfl, B5⟩
    replace hB : Hid (Below w.heap.size w w5) := bel_step hB.out B5
    clear B5 I
    go_wp2
    go_ret
    exact ⟨rfl, by first | exact hB.out | (rw [← hgs]; exact hB.out)⟩
  · have Z := szMemory_no M D (by omega) wb
    clear h wb
    go_enter Try.func3, Try.ntmps3
    go_wp2_with fail
    refine (Z _).mono ?_
    rintro e w1 ⟨rfl, B1⟩
    have hB : Hid (Below w.heap.size w w1) := by unfold Hid; ((repeat (first | refine bel_alloc ?_ _ | refine bel_dN ?_ _ | refine Below.drew ?_ | refine Below.setCell ?_ (by first | (simp; done) | (simp; omega)) _)); refine bel_step ?_ B1; (repeat (first | refine bel_alloc ?_ _ | refine bel_dN ?_ _ | refine Below.drew ?_ | refine Below.setCell ?_ (by first | (simp; done) | (simp; omega)) _)); exact Below.refl _ _)
    clear B1
    go_wp2
    go_ret
    exact ⟨rfl, by first | exact hB.out | (rw [← hgs]; exact hB.out)⟩

end Go.Proofs.Ytalmgodakdjjcab
