/-
  The program's root: whatever the guess is.
-/
import Derived.Test.YteniijmnpgdpcaaFSqM
import Derived.Test.YteniijmnpgdpcaaBel
import Derived.Laws.Externs
import Derived.Laws.Cover2
import Derived.Deep.DeepCutAuto
namespace Go.Proofs.Yteniijmnpgdpcaa
open Go.RowKit

theorem sqrtRun (x : Nat) (w : World) : ∃ (v : Nat) (w' : World), (callFunc 71 #[.float .f64 x]).run Try.prog w = .ok (.value (.float .f64 v)) w' ∧ Below w.heap.size w w' := by
  rw [run_callFunc_extern Try.func71 (by kernel_rfl) (by kernel_rfl) (by kernel_rfl) (e := Extern.MathSqrt.sqrt) (by kernel_rfl)]
  change ∃ (v : Nat) (w' : World), ((Sem.run Try.prog (match FloatKind.f64.format.sqrt x with | some r => pure (Value.float .f64 r) | none => do pure (Value.float .f64 (← choose (.nanBits .f64 x x)))) w).andThen fun v w' => Result.ok (Next.value v) w') = .ok (.value (.float .f64 v)) w' ∧ Below w.heap.size w w'
  cases h : FloatKind.f64.format.sqrt x with
  | some r => exact ⟨r, w, by simp, Below.refl _ _⟩
  | none => exact ⟨_, w.drew, by simp [Question.forced]; rfl, (Below.refl _ _).drew⟩

theorem mathSqrt (x : Nat) (w : World) :
    Calls Try.prog 69 #[.float .f64 x] w fun e w' => (∃ v : Nat, e = .returned (.float .f64 v)) ∧ Below w.heap.size w w' := by
  obtain ⟨v, w', hr, hb⟩ := sqrtRun x w
  go_enter Try.func69, Try.ntmps69
  go_wp2
  go_ret
  exact ⟨⟨v, rfl⟩, hb⟩

theorem f2iRun (b : Nat) (w : World) : ∃ (G : Nat) (w' : World), (convert 81 36 (.float .f64 b)).run Try.prog w = .ok (.int .u64 (G : Int)) w' ∧ Below w.heap.size w w' ∧ G < 18446744073709551616 := by
  have e : (convert 81 36 (.float .f64 b)).run Try.prog w = (Conv.floatToInt .f64 b .u64).run Try.prog w := by
    simp [convert, run_underlying Try.underlying81, run_underlying Try.underlying36]
  rw [e]
  have any : ∃ (G : Nat) (w' : World), Sem.run Try.prog (do pure (Value.int .u64 (IntKind.u64.wrap (← choose (.floatToInt .f64 b .u64))))) w = .ok (.int .u64 (G : Int)) w' ∧ Below w.heap.size w w' ∧ G < 18446744073709551616 := by
    refine ⟨((Question.floatToInt .f64 b .u64).cut (w.tape w.drawn (.floatToInt .f64 b .u64))) % 18446744073709551616, w.drew, ?_, (Below.refl _ _).drew, Nat.mod_lt _ (by decide)⟩
    simp [Question.forced, IntKind.wrap_u64]
  unfold Conv.floatToInt
  dsimp only
  split
  · split
    · rename_i n _ h
      have h0 : 0 ≤ n := Int.le_trans (by decide) h.1
      have h1 : n ≤ 18446744073709551615 := Int.le_trans h.2 (by decide)
      obtain ⟨k, rfl⟩ := Int.eq_ofNat_of_zero_le h0
      exact ⟨k, w, by simp, Below.refl _ _, by omega⟩
    · exact any
  · exact any

set_option maxRecDepth 100000 in
theorem rootGuess (m : Nat) (w : World) :
    Calls Try.prog 64 #[.int .u64 (m : Int)] w fun e w' => (∃ G : Nat, 1 ≤ G ∧ G < 18446744073709551616 ∧ e = .returned (.int .u64 (G : Int))) ∧ Below w.heap.size w w' := by
  go_enter Try.func64, Try.ntmps64
  go_wp2_with fail
  refine (mathSqrt _ _).mono ?_
  rintro e' w1 ⟨⟨v, rfl⟩, B1⟩
  obtain ⟨G, w2, hr, hb, hG⟩ := f2iRun v w1
  go_wp2
  all_goals go_ret
  all_goals first
    | exact ⟨⟨1, by omega, by omega, rfl⟩, bel_step B1 hb⟩
    | exact ⟨⟨G, by omega, by omega, rfl⟩, bel_step B1 hb⟩

theorem rootStep (m x : Nat) (hx : x ≠ 0) (hroom : x + m / x < 18446744073709551616) (w : World) :
    Calls Try.prog 63 #[.int .u64 (m : Int), .int .u64 (x : Int)] w fun e w' => e = .returned (.int .u64 (((x + m / x) / 2 : Nat) : Int)) ∧ w' = w := by
  obtain ⟨q, hq⟩ : ∃ q, m / x = q := ⟨_, rfl⟩
  rw [hq] at hroom
  have v1 : (m : Int) / (x : Int) = (q : Int) := by rw [← hq]; simp
  have v2 : IntKind.u64.wrap (q : Int) = (q : Int) := by rw [IntKind.wrap_u64]; omega
  have v3 : IntKind.u64.wrap ((x : Int) + (q : Int)) = (x : Int) + (q : Int) := by rw [IntKind.wrap_u64]; omega
  have v4 : ((x : Int) + (q : Int)).tdiv 2 = (((x + q) / 2 : Nat) : Int) := by rw [Int.tdiv_eq_ediv_of_nonneg (by omega)]; omega
  obtain ⟨z, hz⟩ : ∃ z, (x + q) / 2 = z := ⟨_, rfl⟩
  rw [hz] at v4
  have v5 : IntKind.u64.wrap (z : Int) = (z : Int) := by rw [IntKind.wrap_u64]; omega
  rw [hq, hz]
  clear hq hroom hz
  go_enter Try.func63, Try.ntmps63
  go_wp2
  go_ret
  exact ⟨rfl, rfl⟩

theorem wholeRoot (m : Nat) (h0 : m ≠ 0) (hm : m < 1152921504606846976) (w : World) :
    Calls Try.prog 43 #[.int .u64 (m : Int)] w fun e w' => (∃ s : Nat, s * s ≤ m ∧ m < (s + 1) * (s + 1) ∧ e = .returned (.int .u64 (s : Int))) ∧ Below w.heap.size w w' := by
  obtain ⟨s, hs1, hs2⟩ := root_ex m
  have hs0 : 1 ≤ s := root_up m s 1 (by omega) hs2
  have RS : Hid (∀ x : Nat, 1 ≤ x → x < 18446744073709551616 → ∀ w, Calls Try.prog 63 #[.int .u64 (m : Int), .int .u64 (x : Int)] w fun e w' => e = .returned (.int .u64 (((x + m / x) / 2 : Nat) : Int)) ∧ w' = w) := fun x h1 h2 w => rootStep m x (by omega) (step_room m x h1 hm h2) w
  have ST : Hid (∀ x : Nat, 1 ≤ x → x < 18446744073709551616 → s ≤ (x + m / x) / 2 ∧ (x + m / x) / 2 < 18446744073709551616) := fun x h1 h2 => ⟨step_ge m x s h1 hs1, by have := step_room m x h1 hm h2; omega⟩
  have SL : Hid (∀ x : Nat, s < x → (x + m / x) / 2 < x) := fun x h => step_lt m x s h hs2
  have HS : Hid (s * s ≤ m ∧ m < (s + 1) * (s + 1)) := ⟨hs1, hs2⟩
  clear hs1 hs2 hm h0
  go_enter Try.func43, Try.ntmps43
  go_wp2_with fail
  refine (rootGuess m _).mono ?_
  rintro e' w1 ⟨⟨G, g1, g2, rfl⟩, B1⟩
  go_wp2_with fail
  refine (RS.out G g1 g2 _).mono ?_
  rintro e' w2 ⟨rfl, hw2⟩
  obtain rfl := hw2
  obtain ⟨i1, i2⟩ := ST.out G g1 g2
  obtain ⟨x0, hx0⟩ : ∃ x0, (G + m / G) / 2 = x0 := ⟨_, rfl⟩
  rw [hx0] at i1 i2 ⊢
  clear hx0
  go_wp2
  go_loopw [3] (fun x wr => ∃ k : Nat, Hid (s ≤ k ∧ k < 18446744073709551616) ∧ x = .int .u64 (k : Int) ∧ wr = w2) (fun x _ => (intOf x).toNat)
  case atStart => exact ⟨x0, ⟨i1, i2⟩, rfl, rfl⟩
  case round =>
    obtain ⟨k, hk, rfl, hwr⟩ := hrel
    obtain rfl := hwr
    obtain ⟨j1, j2⟩ := hk.out
    go_wp2_with fail
    refine (RS.out k (by omega) j2 _).mono ?_
    rintro e' w3 ⟨rfl, hw3⟩
    obtain rfl := hw3
    obtain ⟨n1, n2⟩ := ST.out k (by omega) j2
    have SLk := SL.out k
    obtain ⟨x1, hx1⟩ : ∃ x1, (k + m / k) / 2 = x1 := ⟨_, rfl⟩
    rw [hx1] at n1 n2 SLk ⊢
    clear hx1
    by_cases hlt : k ≤ x1
    · have hks : k = s := by
        rcases Nat.lt_or_ge s k with h | h
        · have := SLk h; omega
        · omega
      have hge : (k : Int) ≤ (x1 : Int) := by omega
      have HK : Hid (k = s) := hks
      clear hks hlt
      go_wp2
      go_ret
      exact ⟨⟨k, by rw [HK.out]; exact HS.out.1, by rw [HK.out]; exact HS.out.2, rfl⟩, B1⟩
    · have hge : ¬ (k : Int) ≤ (x1 : Int) := by omega
      go_wp2
      go_roundw
      case rel => exact ⟨x1, ⟨n1, n2⟩, rfl, by trivial⟩
      case measure => simp only [intOf]; omega

end Go.Proofs.Yteniijmnpgdpcaa
