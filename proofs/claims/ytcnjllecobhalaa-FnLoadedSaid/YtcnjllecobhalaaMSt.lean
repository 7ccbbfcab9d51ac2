/-
  StoreBytes: both sides.
-/
import Derived.Test.YtcnjllecobhalaaMLoad
import Derived.Test.YtcnjllecobhalaaKeep
namespace Go.Proofs.Ytcnjllecobhalaa
open Go.ChangeShapes Go.WideShapes Go.ChangeAt Go.RowKit

/-- What a refusal tells of a memory. -/
def kept (M : Int) (D : ByteArray) : Int × ByteArray := if good M D = true then (M, D) else (0, ⟨#[]⟩)
theorem asItWas (M : Int) (D : ByteArray) (h : D.size ≤ 1048576) (w : World) :
    Calls Try.prog 74 #[.agg #[.int .i64 M, .string D]] w fun e w' => e = .returned (.agg #[.int .i64 (kept M D).1, .string (kept M D).2]) ∧ Below w.heap.size w w' := by
  cases hg : good M D
  · simp only [kept, hg]; exact asItWas_no M D h hg w
  · simp only [kept, hg]; exact asItWas_yes M D h hg w


/-- Cells of a block that later worlds keep. -/
theorem storeI_no (M : Int) (D : ByteArray) (h : D.size ≤ 1048576) (a : Int) (s : ByteArray) (ha : a ≤ 9223372036854775807) (c : Int) (hc : codeOf (good M D) D.size [(a, (s.size : Int))] = c) (h0 : c ≠ 0) (w : World) :
    Calls Try.prog 31 #[.agg #[.int .i64 M, .string D], .int .i64 a, .string s] w fun e w' => e = .returned (.tuple #[.agg #[.int .i64 (kept M D).1, .string (kept M D).2], .int .i64 c]) ∧ Below w.heap.size w w' := by
  have SP := fun b w h1 h2 h3 => spans1 M D h b a s.size w h1 h2 h3 ha
  rw [hc] at SP
  have AW := asItWas M D h
  generalize (kept M D).1 = M' at *
  generalize (kept M D).2 = D' at *
  have k : (c == 0) = false := by simp [h0]
  clear hc h0
  obtain ⟨g, hgs⟩ : ∃ g, w.heap.size = g := ⟨_, rfl⟩
  go_enter Try.func31, Try.ntmps31
  go_wp2_with fail
  refine (SP (g + 2) _ (by simp; omega) (newCell (by simp; omega) rfl) (newCell (by simp; omega) rfl)).mono ?_
  rintro e w1 ⟨rfl, B1⟩
  have hs := B1.size
  simp at hs
  have hB : Hid (Below w.heap.size w w1) := by unfold Hid; ((repeat (first | refine bel_alloc ?_ _ | refine bel_dN ?_ _ | refine Below.drew ?_ | refine Below.setCell ?_ (by first | (simp; done) | (simp; omega)) _)); refine bel_step ?_ B1; (repeat (first | refine bel_alloc ?_ _ | refine bel_dN ?_ _ | refine Below.drew ?_ | refine Below.setCell ?_ (by first | (simp; done) | (simp; omega)) _)); exact Below.refl _ _)
  have p0 : w1.cell? ⟨g, 0, none⟩ = some (.int .i64 M) := keepCell B1 (by simp; omega) (pastCell (by simp; omega) (by rw [← hgs]; simp))
  have p1 : w1.cell? ⟨g, 1, none⟩ = some (.string D) := keepCell B1 (by simp; omega) (pastCell (by simp; omega) (by rw [← hgs]; simp))
  have q0 : w1.cell? ⟨g + 1, 0, none⟩ = some (.int .i64 0) := keepCell B1 (by simp; omega) (pastCell (by simp; omega) (by rw [← hgs]; simp))
  have q1 : w1.cell? ⟨g + 1, 1, none⟩ = some (.string ⟨#[]⟩) := keepCell B1 (by simp; omega) (pastCell (by simp; omega) (by rw [← hgs]; simp))
  have z0 : w1.frozen? ⟨g + 1, 0, none⟩ = false := keepFree B1 (by simp; omega) (pastFree (by simp; omega) (by rw [← hgs]; simp))
  have z1 : w1.frozen? ⟨g + 1, 1, none⟩ = false := keepFree B1 (by simp; omega) (pastFree (by simp; omega) (by rw [← hgs]; simp))
  clear B1 SP
  go_wp2_with fail
  refine (AW _).mono ?_
  rintro e w2 ⟨rfl, B2⟩
  have hs2 := B2.size
  replace q0 := keepCell B2 (by omega) q0
  replace q1 := keepCell B2 (by omega) q1
  replace z0 := keepFree B2 (by omega) z0
  replace z1 := keepFree B2 (by omega) z1
  have hB2 : Hid (Below w.heap.size w w2) := bel_step hB.out B2
  clear AW B2 p0 p1
  go_wp2
  refine bodyPost_ret (v := .tuple #[.agg #[.int .i64 M', .string D'], .int .i64 c]) (by simp [results, Try.results31, go_sem, q0, q1]) rfl ⟨rfl, ?_⟩
  refine Below.setCell (Below.setCell hB2.out ?_ _) ?_ _ <;> simp <;> omega

theorem storeI_yes (M : Int) (D : ByteArray) (h : D.size ≤ 1048576) (a : Nat) (s : ByteArray) (hg : good M D = true) (hf : a + s.size ≤ D.size) (w : World) :
    Calls Try.prog 31 #[.agg #[.int .i64 M, .string D], .int .i64 (a : Int), .string s] w fun e w' => e = .returned (.tuple #[.agg #[.int .i64 M, .string (laidOver D a s)], .int .i64 0]) ∧ Below w.heap.size w w' := by
  have SP := fun b w h1 h2 h3 => spans1 M D h b (a : Int) s.size w h1 h2 h3 (by omega)
  rw [hg, code1_in _ _ _ (by omega) (by omega) (by omega)] at SP
  have ST := stored M D h a s hf
  generalize laidOver D a s = X at *
  clear hf hg h
  obtain ⟨g, hgs⟩ : ∃ g, w.heap.size = g := ⟨_, rfl⟩
  go_enter Try.func31, Try.ntmps31
  go_wp2_with fail
  refine (SP (g + 2) _ (by simp; omega) (newCell (by simp; omega) rfl) (newCell (by simp; omega) rfl)).mono ?_
  rintro e w1 ⟨rfl, B1⟩
  have hs := B1.size
  simp at hs
  have hB : Hid (Below w.heap.size w w1) := by unfold Hid; ((repeat (first | refine bel_alloc ?_ _ | refine bel_dN ?_ _ | refine Below.drew ?_ | refine Below.setCell ?_ (by first | (simp; done) | (simp; omega)) _)); refine bel_step ?_ B1; (repeat (first | refine bel_alloc ?_ _ | refine bel_dN ?_ _ | refine Below.drew ?_ | refine Below.setCell ?_ (by first | (simp; done) | (simp; omega)) _)); exact Below.refl _ _)
  have p0 : w1.cell? ⟨g, 0, none⟩ = some (.int .i64 M) := keepCell B1 (by simp; omega) (pastCell (by simp; omega) (by rw [← hgs]; simp))
  have p1 : w1.cell? ⟨g, 1, none⟩ = some (.string D) := keepCell B1 (by simp; omega) (pastCell (by simp; omega) (by rw [← hgs]; simp))
  have q0 : w1.cell? ⟨g + 1, 0, none⟩ = some (.int .i64 0) := keepCell B1 (by simp; omega) (pastCell (by simp; omega) (by rw [← hgs]; simp))
  have q1 : w1.cell? ⟨g + 1, 1, none⟩ = some (.string ⟨#[]⟩) := keepCell B1 (by simp; omega) (pastCell (by simp; omega) (by rw [← hgs]; simp))
  have z0 : w1.frozen? ⟨g + 1, 0, none⟩ = false := keepFree B1 (by simp; omega) (pastFree (by simp; omega) (by rw [← hgs]; simp))
  have z1 : w1.frozen? ⟨g + 1, 1, none⟩ = false := keepFree B1 (by simp; omega) (pastFree (by simp; omega) (by rw [← hgs]; simp))
  clear B1 SP
  go_wp2_with fail
  refine (ST _).mono ?_
  rintro e w2 ⟨rfl, B2⟩
  have hs2 := B2.size
  replace q0 := keepCell B2 (by omega) q0
  replace q1 := keepCell B2 (by omega) q1
  replace z0 := keepFree B2 (by omega) z0
  replace z1 := keepFree B2 (by omega) z1
  have hB2 : Hid (Below w.heap.size w w2) := bel_step hB.out B2
  clear ST B2 p0 p1
  go_wp2
  refine bodyPost_ret (v := .tuple #[.agg #[.int .i64 M, .string X], .int .i64 0]) (by simp [results, Try.results31, go_sem, q0, q1]) rfl ⟨rfl, ?_⟩
  refine Below.setCell (Below.setCell hB2.out ?_ _) ?_ _ <;> simp <;> omega

theorem storeS (M : Int) (D : ByteArray) (h : D.size ≤ 1048576) (a : Int) (s : ByteArray) (hs0 : s.size ≤ 1048576) (ha : a ≤ 9223372036854775807) (c : Int) (hc : codeOf (good M D) D.size [(a, (s.size : Int))] = c) (M' : Int) (D' : ByteArray)
    (h1 : c = 0 → M' = M ∧ laidOver D a.toNat s = D') (h2 : c ≠ 0 → kept M D = (M', D')) (w : World) :
    Calls Try.prog 32 #[.agg #[.int .i64 M, .string D], .int .i64 a, .string s] w fun e w' => e = .returned (.tuple #[.agg #[.int .i64 M', .string D'], .int .i64 c]) ∧ Below w.heap.size w w' := by
  have HG := mGoodS M D h
  unfold kept at h2
  generalize good M D = G at *
  obtain ⟨g, hgs⟩ : ∃ g, w.heap.size = g := ⟨_, rfl⟩
  cases G
  · obtain rfl : c = 1 := hc.symm
    obtain ⟨rfl, rfl⟩ : 0 = M' ∧ ⟨#[]⟩ = D' := by have := h2 (by decide); simpa using this
    clear h1 h2 hc
    go_enter Try.func32, Try.ntmps32
    go_wp2_with fail
    refine (HG _).mono ?_
    rintro e w1 ⟨rfl, B1⟩
    have hs := B1.size
    simp at hs
    have hB : Hid (Below w.heap.size w w1) := by unfold Hid; ((repeat (first | refine bel_alloc ?_ _ | refine bel_dN ?_ _ | refine Below.drew ?_ | refine Below.setCell ?_ (by first | (simp; done) | (simp; omega)) _)); refine bel_step ?_ B1; (repeat (first | refine bel_alloc ?_ _ | refine bel_dN ?_ _ | refine Below.drew ?_ | refine Below.setCell ?_ (by first | (simp; done) | (simp; omega)) _)); exact Below.refl _ _)
    have p0 : w1.cell? ⟨g, 0, none⟩ = some (.int .i64 M) := keepCell B1 (by simp; omega) (by rw [← hgs]; simp)
    have p1 : w1.cell? ⟨g, 1, none⟩ = some (.string D) := keepCell B1 (by simp; omega) (by rw [← hgs]; simp)
    have q0 : w1.cell? ⟨g + 1, 0, none⟩ = some (.int .i64 0) := keepCell B1 (by simp; omega) (by rw [← hgs]; simp)
    have q1 : w1.cell? ⟨g + 1, 1, none⟩ = some (.string ⟨#[]⟩) := keepCell B1 (by simp; omega) (by rw [← hgs]; simp)
    have z0 : w1.frozen? ⟨g + 1, 0, none⟩ = false := keepFree B1 (by simp; omega) (by rw [← hgs]; simp)
    have z1 : w1.frozen? ⟨g + 1, 1, none⟩ = false := keepFree B1 (by simp; omega) (by rw [← hgs]; simp)
    clear B1 HG
    go_wp2
    refine bodyPost_ret (v := .tuple #[.agg #[.int .i64 0, .string ⟨#[]⟩], .int .i64 1]) (by simp [results, Try.results32, go_sem, q0, q1]) rfl ⟨rfl, ?_⟩
    refine Below.setCell (Below.setCell hB.out ?_ _) ?_ _ <;> simp <;> omega
  · by_cases k1 : a < 0
    · rw [code1_none _ _ _ (Or.inl k1)] at hc
      subst hc
      obtain ⟨rfl, rfl⟩ : M = M' ∧ D = D' := by have := h2 (by decide); simpa using this
      clear h1 h2
      go_enter Try.func32, Try.ntmps32
      go_wp2_with fail
      refine (HG _).mono ?_
      rintro e w1 ⟨rfl, B1⟩
      have hs := B1.size
      simp at hs
      have hB : Hid (Below w.heap.size w w1) := by unfold Hid; ((repeat (first | refine bel_alloc ?_ _ | refine bel_dN ?_ _ | refine Below.drew ?_ | refine Below.setCell ?_ (by first | (simp; done) | (simp; omega)) _)); refine bel_step ?_ B1; (repeat (first | refine bel_alloc ?_ _ | refine bel_dN ?_ _ | refine Below.drew ?_ | refine Below.setCell ?_ (by first | (simp; done) | (simp; omega)) _)); exact Below.refl _ _)
      have p0 : w1.cell? ⟨g, 0, none⟩ = some (.int .i64 M) := keepCell B1 (by simp; omega) (by rw [← hgs]; simp)
      have p1 : w1.cell? ⟨g, 1, none⟩ = some (.string D) := keepCell B1 (by simp; omega) (by rw [← hgs]; simp)
      have q0 : w1.cell? ⟨g + 1, 0, none⟩ = some (.int .i64 0) := keepCell B1 (by simp; omega) (by rw [← hgs]; simp)
      have q1 : w1.cell? ⟨g + 1, 1, none⟩ = some (.string ⟨#[]⟩) := keepCell B1 (by simp; omega) (by rw [← hgs]; simp)
      have z0 : w1.frozen? ⟨g + 1, 0, none⟩ = false := keepFree B1 (by simp; omega) (by rw [← hgs]; simp)
      have z1 : w1.frozen? ⟨g + 1, 1, none⟩ = false := keepFree B1 (by simp; omega) (by rw [← hgs]; simp)
      clear B1 HG
      go_wp2
      refine bodyPost_ret (v := .tuple #[.agg #[.int .i64 M, .string D], .int .i64 1]) (by simp [results, Try.results32, go_sem, q0, q1]) rfl ⟨rfl, ?_⟩
      refine Below.setCell (Below.setCell hB.out ?_ _) ?_ _ <;> simp <;> omega
    · have IN := l5Inside M D _ rfl (by omega) a s.size (by omega) ha (by omega)
      by_cases k3 : (s.size : Int) ≤ (D.size : Int) - a
      · rw [code1_in _ _ _ (by omega) (by omega) k3] at hc
        subst hc
        obtain ⟨rfl, hX⟩ := h1 rfl
        rw [decide_eq_true k3] at IN
        obtain ⟨a, rfl⟩ : ∃ k : Nat, a = (k : Int) := ⟨a.toNat, by omega⟩
        simp only [Int.toNat_natCast] at hX
        have ST := l5Store M' D h a s (by omega)
        rw [hX] at ST
        clear hX h1 h2 k3 ha h hs0
        go_enter Try.func32, Try.ntmps32
        go_wp2_with fail
        refine (HG _).mono ?_
        rintro e w1 ⟨rfl, B1⟩
        have hs := B1.size
        simp at hs
        have hB : Hid (Below w.heap.size w w1) := by unfold Hid; ((repeat (first | refine bel_alloc ?_ _ | refine bel_dN ?_ _ | refine Below.drew ?_ | refine Below.setCell ?_ (by first | (simp; done) | (simp; omega)) _)); refine bel_step ?_ B1; (repeat (first | refine bel_alloc ?_ _ | refine bel_dN ?_ _ | refine Below.drew ?_ | refine Below.setCell ?_ (by first | (simp; done) | (simp; omega)) _)); exact Below.refl _ _)
        have p0 : w1.cell? ⟨g, 0, none⟩ = some (.int .i64 M') := keepCell B1 (by simp; omega) (by rw [← hgs]; simp)
        have p1 : w1.cell? ⟨g, 1, none⟩ = some (.string D) := keepCell B1 (by simp; omega) (by rw [← hgs]; simp)
        have q0 : w1.cell? ⟨g + 1, 0, none⟩ = some (.int .i64 0) := keepCell B1 (by simp; omega) (by rw [← hgs]; simp)
        have q1 : w1.cell? ⟨g + 1, 1, none⟩ = some (.string ⟨#[]⟩) := keepCell B1 (by simp; omega) (by rw [← hgs]; simp)
        have z0 : w1.frozen? ⟨g + 1, 0, none⟩ = false := keepFree B1 (by simp; omega) (by rw [← hgs]; simp)
        have z1 : w1.frozen? ⟨g + 1, 1, none⟩ = false := keepFree B1 (by simp; omega) (by rw [← hgs]; simp)
        clear B1 HG
        go_wp2_with fail
        refine (IN _).mono ?_
        rintro e w2 ⟨rfl, B2⟩
        have hw2 := B2.size
        replace p0 := keepCell B2 (by omega) p0
        replace p1 := keepCell B2 (by omega) p1
        replace q0 := keepCell B2 (by omega) q0
        replace q1 := keepCell B2 (by omega) q1
        replace z0 := keepFree B2 (by omega) z0
        replace z1 := keepFree B2 (by omega) z1
        replace hB : Hid (Below w.heap.size w w2) := bel_step hB.out B2
        clear IN B2
        go_wp2_with fail
        refine (ST _).mono ?_
        rintro e w3 ⟨rfl, B3⟩
        have hw3 := B3.size
        replace q0 := keepCell B3 (by omega) q0
        replace q1 := keepCell B3 (by omega) q1
        replace z0 := keepFree B3 (by omega) z0
        replace z1 := keepFree B3 (by omega) z1
        replace hB : Hid (Below w.heap.size w w3) := bel_step hB.out B3
        clear ST B3
        go_wp2
        refine bodyPost_ret (v := .tuple #[.agg #[.int .i64 M', .string D'], .int .i64 0]) (by simp [results, Try.results32, go_sem, q0, q1]) rfl ⟨rfl, ?_⟩
        refine Below.setCell (Below.setCell hB.out ?_ _) ?_ _ <;> simp <;> omega
      · rw [code1_out _ _ _ (by omega) (by omega) (by omega)] at hc
        subst hc
        obtain ⟨rfl, rfl⟩ : M = M' ∧ D = D' := by have := h2 (by decide); simpa using this
        rw [decide_eq_false k3] at IN
        clear h1 h2 k3
        go_enter Try.func32, Try.ntmps32
        go_wp2_with fail
        refine (HG _).mono ?_
        rintro e w1 ⟨rfl, B1⟩
        have hs := B1.size
        simp at hs
        have hB : Hid (Below w.heap.size w w1) := by unfold Hid; ((repeat (first | refine bel_alloc ?_ _ | refine bel_dN ?_ _ | refine Below.drew ?_ | refine Below.setCell ?_ (by first | (simp; done) | (simp; omega)) _)); refine bel_step ?_ B1; (repeat (first | refine bel_alloc ?_ _ | refine bel_dN ?_ _ | refine Below.drew ?_ | refine Below.setCell ?_ (by first | (simp; done) | (simp; omega)) _)); exact Below.refl _ _)
        have p0 : w1.cell? ⟨g, 0, none⟩ = some (.int .i64 M) := keepCell B1 (by simp; omega) (by rw [← hgs]; simp)
        have p1 : w1.cell? ⟨g, 1, none⟩ = some (.string D) := keepCell B1 (by simp; omega) (by rw [← hgs]; simp)
        have q0 : w1.cell? ⟨g + 1, 0, none⟩ = some (.int .i64 0) := keepCell B1 (by simp; omega) (by rw [← hgs]; simp)
        have q1 : w1.cell? ⟨g + 1, 1, none⟩ = some (.string ⟨#[]⟩) := keepCell B1 (by simp; omega) (by rw [← hgs]; simp)
        have z0 : w1.frozen? ⟨g + 1, 0, none⟩ = false := keepFree B1 (by simp; omega) (by rw [← hgs]; simp)
        have z1 : w1.frozen? ⟨g + 1, 1, none⟩ = false := keepFree B1 (by simp; omega) (by rw [← hgs]; simp)
        clear B1 HG
        go_wp2_with fail
        refine (IN _).mono ?_
        rintro e w2 ⟨rfl, B2⟩
        have hw2 := B2.size
        replace p0 := keepCell B2 (by omega) p0
        replace p1 := keepCell B2 (by omega) p1
        replace q0 := keepCell B2 (by omega) q0
        replace q1 := keepCell B2 (by omega) q1
        replace z0 := keepFree B2 (by omega) z0
        replace z1 := keepFree B2 (by omega) z1
        replace hB : Hid (Below w.heap.size w w2) := bel_step hB.out B2
        clear IN B2
        go_wp2
        refine bodyPost_ret (v := .tuple #[.agg #[.int .i64 M, .string D], .int .i64 2]) (by simp [results, Try.results32, go_sem, q0, q1]) rfl ⟨rfl, ?_⟩
        refine Below.setCell (Below.setCell hB.out ?_ _) ?_ _ <;> simp <;> omega

theorem storeBoth (M : Int) (D : ByteArray) (h : D.size ≤ 1048576) (a : Int) (s : ByteArray) (hs0 : s.size ≤ 1048576) (ha : a ≤ 9223372036854775807) :
    ∃ M' D' c, (∀ w, Calls Try.prog 32 #[.agg #[.int .i64 M, .string D], .int .i64 a, .string s] w fun e w' => e = .returned (.tuple #[.agg #[.int .i64 M', .string D'], .int .i64 c]) ∧ Below w.heap.size w w') ∧
      (∀ w, Calls Try.prog 31 #[.agg #[.int .i64 M, .string D], .int .i64 a, .string s] w fun e w' => e = .returned (.tuple #[.agg #[.int .i64 M', .string D'], .int .i64 c]) ∧ Below w.heap.size w w') := by
  by_cases hc : codeOf (good M D) D.size [(a, (s.size : Int))] = 0
  · refine ⟨M, laidOver D a.toNat s, 0, fun w => storeS M D h a s hs0 ha 0 hc _ _ (fun _ => ⟨rfl, rfl⟩) (fun h => absurd rfl h) w, fun w => ?_⟩
    have hg : good M D = true := by
      cases hG : good M D
      · rw [hG] at hc; cases hc
      · rfl
    rw [hg] at hc
    have h0 : ¬ (a < 0 ∨ (s.size : Int) < 0) := fun h => by rw [code1_none _ _ _ h] at hc; cases hc
    have h1 : ¬ (D.size : Int) - a < (s.size : Int) := fun h => by rw [code1_out _ _ _ (by omega) (by omega) h] at hc; cases hc
    obtain ⟨a, rfl⟩ : ∃ k : Nat, a = (k : Int) := ⟨a.toNat, by omega⟩
    simp only [Int.toNat_natCast]
    exact storeI_yes M D h a s hg (by omega) w
  · exact ⟨_, _, _, fun w => storeS M D h a s hs0 ha _ rfl _ _ (fun h => absurd h hc) (fun _ => rfl) w, fun w => storeI_no M D h a s ha _ rfl hc w⟩

end Go.Proofs.Ytcnjllecobhalaa
