/-
  StoreBytes: both sides.
-/
import Derived.Test.YtlkbalmkljabhaaMLoad
import Derived.Test.YtlkbalmkljabhaaKeep
namespace Go.Proofs.Ytlkbalmkljabhaa
open Go.ChangeShapes Go.WideShapes Go.ChangeAt Go.RowKit

/-- What a refusal tells of a memory. -/
def kept (M : Int) (D : ByteArray) : Int × ByteArray := if good M D = true then (M, D) else (0, ⟨#[]⟩)
theorem asItWas (M : Int) (D : ByteArray) (h : D.size ≤ 1048576) (w : World) :
    Calls Try.prog 56 #[.agg #[.int .i64 M, .string D]] w fun e w' => e = .returned (.agg #[.int .i64 (kept M D).1, .string (kept M D).2]) ∧ Below w.heap.size w w' := by
  cases hg : good M D
  · simp only [kept, hg]; exact asItWas_no M D h hg w
  · simp only [kept, hg]; exact asItWas_yes M D h hg w

theorem storeS (M : Int) (D : ByteArray) (h : D.size ≤ 1048576) (a : Int) (s : ByteArray) (hs0 : s.size ≤ 1048576) (ha : a ≤ 9223372036854775807) (c : Int) (hc : codeOf (good M D) D.size [(a, (s.size : Int))] = c) (M' : Int) (D' : ByteArray)
    (h1 : c = 0 → M' = M ∧ laidOver D a.toNat s = D') (h2 : c ≠ 0 → kept M D = (M', D')) (w : World) :
    Calls Try.prog 87 #[.agg #[.int .i64 M, .string D], .int .i64 a, .string s] w fun e w' => e = .returned (.tuple #[.agg #[.int .i64 M', .string D'], .int .i64 c]) ∧ Below w.heap.size w w' := by
  have HG := mGoodS M D h
  unfold kept at h2
  generalize good M D = G at *
  obtain ⟨g, hgs⟩ : ∃ g, w.heap.size = g := ⟨_, rfl⟩
  cases G
  · obtain rfl : c = 1 := hc.symm
    obtain ⟨rfl, rfl⟩ : 0 = M' ∧ ⟨#[]⟩ = D' := by have := h2 (by decide); simpa using this
    clear h1 h2 hc
    go_enter Try.func87, Try.ntmps87
    go_wp2_with fail
    refine (HG _).mono ?_
    rintro e w1 ⟨rfl, B1⟩
    have hs := B1.size
    simp at hs
    have hB : Hid (Below w.heap.size w w1) := by unfold Hid; ((repeat (first | refine bel_alloc ?_ _ | refine bel_dN ?_ _ | refine Below.drew ?_ | refine Below.setCell ?_ (by first | (simp; done) | (simp; omega)) _)); refine bel_step ?_ B1; (repeat (first | refine bel_alloc ?_ _ | refine bel_dN ?_ _ | refine Below.drew ?_ | refine Below.setCell ?_ (by first | (simp; done) | (simp; omega)) _)); exact Below.refl _ _)
    have p0 : w1.cell? ⟨g, 0, none⟩ = some (.int .i64 M) := keepCell B1 (by simp; omega) (by rw [← hgs]; simp)
    have p1 : w1.cell? ⟨g, 1, none⟩ = some (.string D) := keepCell B1 (by simp; omega) (by rw [← hgs]; simp)
    have q0 : w1.cell? ⟨g + 1, 0, none⟩ = some (.int .i64 0) := keepCell B1 (by simp; omega) (by rw [← hgs]; simp)
    have q1 : w1.cell? ⟨g + 1, 1, none⟩ = some (.string ⟨#[]⟩) := keepCell B1 (by simp; omega) (by rw [← hgs]; simp)
    have z0 : w1.frozen? ⟨g + 1, 0, none⟩ = false := keepFree B1 (by simp; omega) (by rw [← hgs]; simp)
    have z1 : w1.frozen? ⟨g + 1, 1, none⟩ = false := keepFree B1 (by simp; omega) (by rw [← hgs]; simp)
    clear B1 HG
    go_wp2
    refine bodyPost_ret (v := .tuple #[.agg #[.int .i64 0, .string ⟨#[]⟩], .int .i64 1]) (by simp [results, Try.results87, go_sem, q0, q1]) rfl ⟨rfl, ?_⟩
    refine Below.setCell (Below.setCell hB.out ?_ _) ?_ _ <;> simp <;> omega
  · by_cases k1 : a < 0
    · rw [code1_none _ _ _ (Or.inl k1)] at hc
      subst hc
      obtain ⟨rfl, rfl⟩ : M = M' ∧ D = D' := by have := h2 (by decide); simpa using this
      clear h1 h2
      go_enter Try.func87, Try.ntmps87
      go_wp2_with fail
      refine (HG _).mono ?_
      rintro e w1 ⟨rfl, B1⟩
      have hs := B1.size
      simp at hs
      have hB : Hid (Below w.heap.size w w1) := by unfold Hid; ((repeat (first | refine bel_alloc ?_ _ | refine bel_dN ?_ _ | refine Below.drew ?_ | refine Below.setCell ?_ (by first | (simp; done) | (simp; omega)) _)); refine bel_step ?_ B1; (repeat (first | refine bel_alloc ?_ _ | refine bel_dN ?_ _ | refine Below.drew ?_ | refine Below.setCell ?_ (by first | (simp; done) | (simp; omega)) _)); exact Below.refl _ _)
      have p0 : w1.cell? ⟨g, 0, none⟩ = some (.int .i64 M) := keepCell B1 (by simp; omega) (by rw [← hgs]; simp)
      have p1 : w1.cell? ⟨g, 1, none⟩ = some (.string D) := keepCell B1 (by simp; omega) (by rw [← hgs]; simp)
      have q0 : w1.cell? ⟨g + 1, 0, none⟩ = some (.int .i64 0) := keepCell B1 (by simp; omega) (by rw [← hgs]; simp)
      have q1 : w1.cell? ⟨g + 1, 1, none⟩ = some (.string ⟨#[]⟩) := keepCell B1 (by simp; omega) (by rw [← hgs]; simp)
      have z0 : w1.frozen? ⟨g + 1, 0, none⟩ = false := keepFree B1 (by simp; omega) (by rw [← hgs]; simp)
      have z1 : w1.frozen? ⟨g + 1, 1, none⟩ = false := keepFree B1 (by simp; omega) (by rw [← hgs]; simp)
      clear B1 HG
      go_wp2
      refine bodyPost_ret (v := .tuple #[.agg #[.int .i64 M, .string D], .int .i64 1]) (by simp [results, Try.results87, go_sem, q0, q1]) rfl ⟨rfl, ?_⟩
      refine Below.setCell (Below.setCell hB.out ?_ _) ?_ _ <;> simp <;> omega
    · have IN := l5Inside M D _ rfl (by omega) a s.size (by omega) ha (by omega)
      by_cases k3 : (s.size : Int) ≤ (D.size : Int) - a
      · rw [code1_in _ _ _ (by omega) (by omega) k3] at hc
        subst hc
        obtain ⟨rfl, hX⟩ := h1 rfl
        rw [decide_eq_true k3] at IN
        obtain ⟨a, rfl⟩ : ∃ k : Nat, a = (k : Int) := ⟨a.toNat, by omega⟩
        simp only [Int.toNat_natCast] at hX
        have ST := l5Store M' D h a s (by omega)
        rw [hX] at ST
        clear hX h1 h2 k3 ha h hs0
        go_enter Try.func87, Try.ntmps87
        go_wp2_with fail
        refine (HG _).mono ?_
        rintro e w1 ⟨rfl, B1⟩
        have hs := B1.size
        simp at hs
        have hB : Hid (Below w.heap.size w w1) := by unfold Hid; ((repeat (first | refine bel_alloc ?_ _ | refine bel_dN ?_ _ | refine Below.drew ?_ | refine Below.setCell ?_ (by first | (simp; done) | (simp; omega)) _)); refine bel_step ?_ B1; (repeat (first | refine bel_alloc ?_ _ | refine bel_dN ?_ _ | refine Below.drew ?_ | refine Below.setCell ?_ (by first | (simp; done) | (simp; omega)) _)); exact Below.refl _ _)
        have p0 : w1.cell? ⟨g, 0, none⟩ = some (.int .i64 M') := keepCell B1 (by simp; omega) (by rw [← hgs]; simp)
        have p1 : w1.cell? ⟨g, 1, none⟩ = some (.string D) := keepCell B1 (by simp; omega) (by rw [← hgs]; simp)
        have q0 : w1.cell? ⟨g + 1, 0, none⟩ = some (.int .i64 0) := keepCell B1 (by simp; omega) (by rw [← hgs]; simp)
        have q1 : w1.cell? ⟨g + 1, 1, none⟩ = some (.string ⟨#[]⟩) := keepCell B1 (by simp; omega) (by rw [← hgs]; simp)
        have z0 : w1.frozen? ⟨g + 1, 0, none⟩ = false := keepFree B1 (by simp; omega) (by rw [← hgs]; simp)
        have z1 : w1.frozen? ⟨g + 1, 1, none⟩ = false := keepFree B1 (by simp; omega) (by rw [← hgs]; simp)
        clear B1 HG
        go_wp2_with fail
        refine (IN _).mono ?_
        rintro e w2 ⟨rfl, B2⟩
        have hw2 := B2.size
        replace p0 := keepCell B2 (by omega) p0
        replace p1 := keepCell B2 (by omega) p1
        replace q0 := keepCell B2 (by omega) q0
        replace q1 := keepCell B2 (by omega) q1
        replace z0 := keepFree B2 (by omega) z0
        replace z1 := keepFree B2 (by omega) z1
        replace hB : Hid (Below w.heap.size w w2) := bel_step hB.out B2
        clear IN B2
        go_wp2_with fail
        refine (ST _).mono ?_
        rintro e w3 ⟨rfl, B3⟩
        have hw3 := B3.size
        replace q0 := keepCell B3 (by omega) q0
        replace q1 := keepCell B3 (by omega) q1
        replace z0 := keepFree B3 (by omega) z0
        replace z1 := keepFree B3 (by omega) z1
        replace hB : Hid (Below w.heap.size w w3) := bel_step hB.out B3
        clear ST B3
        go_wp2
        refine bodyPost_ret (v := .tuple #[.agg #[.int .i64 M', .string D'], .int .i64 0]) (by simp [results, Try.results87, go_sem, q0, q1]) rfl ⟨rfl, ?_⟩
        refine Below.setCell (Below.setCell hB.out ?_ _) ?_ _ <;> simp <;> omega
      · rw [code1_out _ _ _ (by omega) (by omega) (by omega)] at hc
        subst hc
        obtain ⟨rfl, rfl⟩ : M = M' ∧ D = D' := by have := h2 (by decide); simpa using this
        rw [decide_eq_false k3] at IN
        clear h1 h2 k3
        go_enter Try.func87, Try.ntmps87
        go_wp2_with fail
        refine (HG _).mono ?_
        rintro e w1 ⟨rfl, B1⟩
        have hs := B1.size
        simp at hs
        have hB : Hid (Below w.heap.size w w1) := by unfold Hid; ((repeat (first | refine bel_alloc ?_ _ | refine bel_dN ?_ _ | refine Below.drew ?_ | refine Below.setCell ?_ (by first | (simp; done) | (simp; omega)) _)); refine bel_step ?_ B1; (repeat (first | refine bel_alloc ?_ _ | refine bel_dN ?_ _ | refine Below.drew ?_ | refine Below.setCell ?_ (by first | (simp; done) | (simp; omega)) _)); exact Below.refl _ _)
        have p0 : w1.cell? ⟨g, 0, none⟩ = some (.int .i64 M) := keepCell B1 (by simp; omega) (by rw [← hgs]; simp)
        have p1 : w1.cell? ⟨g, 1, none⟩ = some (.string D) := keepCell B1 (by simp; omega) (by rw [← hgs]; simp)
        have q0 : w1.cell? ⟨g + 1, 0, none⟩ = some (.int .i64 0) := keepCell B1 (by simp; omega) (by rw [← hgs]; simp)
        have q1 : w1.cell? ⟨g + 1, 1, none⟩ = some (.string ⟨#[]⟩) := keepCell B1 (by simp; omega) (by rw [← hgs]; simp)
        have z0 : w1.frozen? ⟨g + 1, 0, none⟩ = false := keepFree B1 (by simp; omega) (by rw [← hgs]; simp)
        have z1 : w1.frozen? ⟨g + 1, 1, none⟩ = false := keepFree B1 (by simp; omega) (by rw [← hgs]; simp)
        clear B1 HG
        go_wp2_with fail
        refine (IN _).mono ?_
        rintro e w2 ⟨rfl, B2⟩
        have hw2 := B2.size
        replace p0 := keepCell B2 (by omega) p0
        replace p1 := keepCell B2 (by omega) p1
        replace q0 := keepCell B2 (by omega) q0
        replace q1 := keepCell B2 (by omega) q1
        replace z0 := keepFree B2 (by omega) z0
        replace z1 := keepFree B2 (by omega) z1
        replace hB : Hid (Below w.heap.size w w2) := bel_step hB.out B2
        clear IN B2
        go_wp2
        refine bodyPost_ret (v := .tuple #[.agg #[.int .i64 M, .string D], .int .i64 2]) (by simp [results, Try.results87, go_sem, q0, q1]) rfl ⟨rfl, ?_⟩
        refine Below.setCell (Below.setCell hB.out ?_ _) ?_ _ <;> simp <;> omega

end Go.Proofs.Ytlkbalmkljabhaa
