/-
  What a half is in parts of 2 to the -24.
-/
import Derived.Test.YtnimlkobcginjaaFParts
import Derived.Test.YtnimlkobcginjaaFValB
namespace Go.Proofs.Ytnimlkobcginjaa
open Go.RowKit

theorem two_resE {fn : Func} {a b : Tmp} (h : fn.results = #[.tmp a, .tmp b]) (tmps : Array Value) (P : Program) (w : World) :
    (results fn tmps).run P w = .ok (.tuple #[tmps.getD a undef, tmps.getD b undef]) w := by
  simp [results, h]
theorem w64_ok (x : Int) (h0 : -4611686018427387904 ≤ x) (h1 : x ≤ 4611686018427387904) : wrap64 x = x := by unfold wrap64; omega
theorem i64_ok (x : Int) (h0 : -4611686018427387904 ≤ x) (h1 : x ≤ 4611686018427387904) : IntKind.i64.wrap x = x := by rw [IntKind.wrap_i64]; omega
theorem u64_ok (x : Int) (h0 : 0 ≤ x) (h1 : x ≤ 4611686018427387904) : IntKind.u64.wrap x = x := by rw [IntKind.wrap_u64]; omega
theorem half_room (M E : Nat) (hM : M < 2048) (hE : E ≤ 29) : (M : Int) * 2 ^ E ≤ 4611686018427387904 ∧ 0 ≤ (M : Int) * 2 ^ E := by
  have hp : 2 ^ E ≤ 2 ^ 29 := Nat.pow_le_pow_right (by omega) hE
  have hb : M * 2 ^ E ≤ 2048 * 2 ^ 29 := Nat.mul_le_mul (by omega) hp
  rw [show (M : Int) * 2 ^ E = ((M * 2 ^ E : Nat) : Int) by simp]
  generalize M * 2 ^ E = Z at *
  omega
theorem half_bounds (a : Int) : 0 ≤ vm16 a ∧ vm16 a < 2048 ∧ -24 ≤ ve16 a ∧ ve16 a ≤ 5 ∨ cl16 a ≠ 0 := by
  unfold vm16 ve16 cl16
  by_cases h : a / 1024 % 32 = 31
  · refine Or.inr ?_
    rw [if_pos h]
    by_cases h3 : a % 1024 = 0 <;> simp [h3]
  · rw [if_neg h, if_neg h]
    refine Or.inl ?_
    by_cases h2 : a / 1024 % 32 = 0
    · rw [if_pos h2, if_pos h2]; omega
    · rw [if_neg h2, if_neg h2]; omega

/-- What a half is, in parts of 2 to the -24. -/
def exa (a : Int) : Int := if (a / 32768 % 2 == 1) = true then -(vm16 a * 2 ^ (ve16 a + 24).toNat) else vm16 a * 2 ^ (ve16 a + 24).toNat

set_option maxHeartbeats 400000 in
theorem exactYes (a : Int) (h0 : 0 ≤ a) (h1 : a ≤ 4294967295) (hc : cl16 a = 0) (w : World) :
    Calls Try.prog 32 #[.int .u32 a] w fun e w' => e = .returned (.tuple #[.int .i64 (exa a), .bool true]) ∧ Below w.heap.size w w' := by
  have SP := specParts16 a h0 h1
  obtain ⟨m0, m1, e0, e1⟩ : 0 ≤ vm16 a ∧ vm16 a < 2048 ∧ -24 ≤ ve16 a ∧ ve16 a ≤ 5 := by
    rcases half_bounds a with h | h
    · exact h
    · exact absurd hc h
  unfold exa
  rw [hc] at SP
  unfold partsOf at SP
  rw [if_pos rfl] at SP
  clear hc h0 h1
  generalize (a / 32768 % 2 == 1) = s at *
  generalize vm16 a = m at *
  generalize ve16 a = e at *
  obtain ⟨E, hE⟩ : ∃ E : Nat, (e + 24).toNat = E := ⟨_, rfl⟩
  rw [hE]
  have hE29 : E ≤ 29 := by omega
  have hEe : e + 24 = (E : Int) := by omega
  obtain ⟨M, rfl⟩ := Int.eq_ofNat_of_zero_le m0
  obtain ⟨z1, z0⟩ := half_room M E (by omega) hE29
  have b0 : (M : Int) ≤ 4611686018427387904 := by omega
  have b1 : (E : Int) ≤ 4611686018427387904 := by omega
  have v4 : min E 64 = E := by omega
  have v2 : wrap64 (e + 24) = (E : Int) := by rw [hEe]; exact w64_ok _ (by omega) b1
  clear hEe hE e0 e1 hE29
  have v1 : IntKind.i64.wrap (M : Int) = (M : Int) := i64_ok _ (Int.le_trans (by decide) m0) b0
  have v1' : wrap64 (M : Int) = (M : Int) := w64_ok _ (Int.le_trans (by decide) m0) b0
  have v3 : IntKind.u64.wrap (E : Int) = (E : Int) := u64_ok _ (Int.natCast_nonneg E) b1
  have v5 : wrap64 ((M : Int) * 2 ^ E) = (M : Int) * 2 ^ E := w64_ok _ (Int.le_trans (by decide) z0) z1
  have v5' : IntKind.i64.wrap ((M : Int) * 2 ^ E) = (M : Int) * 2 ^ E := i64_ok _ (Int.le_trans (by decide) z0) z1
  have v6 : wrap64 (-((M : Int) * 2 ^ E)) = -((M : Int) * 2 ^ E) := w64_ok _ (Int.neg_le_neg z1) (Int.le_trans (Int.neg_le_neg z0) (by decide))
  clear z0 z1 b0 b1 m0 m1
  cases s
  · rw [if_neg (by decide)]
    go_enter Try.func32, Try.ntmps32
    go_wp2_with fail
    refine (SP _).mono ?_
    rintro e' w1 ⟨rfl, B1⟩
    go_wp2
    refine bodyPost_ret (two_resE Try.results32 _ _ _) rfl ⟨rfl, ?_⟩
    ((repeat (first | refine bel_alloc ?_ _ | refine bel_dN ?_ _ | refine Below.drew ?_ | refine Below.setCell ?_ (by first | (simp; done) | (simp; omega)) _)); refine bel_step ?_ B1; (repeat (first | refine bel_alloc ?_ _ | refine bel_dN ?_ _ | refine Below.drew ?_ | refine Below.setCell ?_ (by first | (simp; done) | (simp; omega)) _)); exact Below.refl _ _)
  · rw [if_pos rfl]
    go_enter Try.func32, Try.ntmps32
    go_wp2_with fail
    refine (SP _).mono ?_
    rintro e' w1 ⟨rfl, B1⟩
    go_wp2
    refine bodyPost_ret (two_resE Try.results32 _ _ _) rfl ⟨congrArg (fun z => Ending.returned (.tuple #[.int .i64 z, .bool true])) v6, ?_⟩
    ((repeat (first | refine bel_alloc ?_ _ | refine bel_dN ?_ _ | refine Below.drew ?_ | refine Below.setCell ?_ (by first | (simp; done) | (simp; omega)) _)); refine bel_step ?_ B1; (repeat (first | refine bel_alloc ?_ _ | refine bel_dN ?_ _ | refine Below.drew ?_ | refine Below.setCell ?_ (by first | (simp; done) | (simp; omega)) _)); exact Below.refl _ _)

theorem exactNo (a : Int) (h0 : 0 ≤ a) (h1 : a ≤ 4294967295) (hc : cl16 a ≠ 0) (w : World) :
    Calls Try.prog 32 #[.int .u32 a] w fun e w' => e = .returned (.tuple #[.int .i64 0, .bool false]) ∧ Below w.heap.size w w' := by
  have SP := specParts16 a h0 h1
  unfold partsOf at SP
  rw [if_neg hc] at SP
  clear hc h0 h1
  go_enter Try.func32, Try.ntmps32
  go_wp2_with fail
  refine (SP _).mono ?_
  rintro e' w1 ⟨rfl, B1⟩
  go_wp2
  refine bodyPost_ret (two_resE Try.results32 _ _ _) rfl ⟨rfl, ?_⟩
  ((repeat (first | refine bel_alloc ?_ _ | refine bel_dN ?_ _ | refine Below.drew ?_ | refine Below.setCell ?_ (by first | (simp; done) | (simp; omega)) _)); refine bel_step ?_ B1; (repeat (first | refine bel_alloc ?_ _ | refine bel_dN ?_ _ | refine Below.drew ?_ | refine Below.setCell ?_ (by first | (simp; done) | (simp; omega)) _)); exact Below.refl _ _)

end Go.Proofs.Ytnimlkobcginjaa
