/-
  What the calls of the law on stored and loaded memories answer.
-/
import Derived.Test.YtcnjllecobhalaaFLoadM
namespace Go.Proofs.Ytcnjllecobhalaa
open Go.ChangeShapes Go.WideShapes Go.ChangeAt Go.RowKit

theorem storeAll (M : Int) (D : ByteArray) (h : D.size ≤ 1048576) (a : Int) (s : ByteArray) (hs0 : s.size ≤ 1048576) (ha : a ≤ 9223372036854775807) :
    (∃ M' D' c, c ≠ 0 ∧ (∀ w, Calls Try.prog 32 #[.agg #[.int .i64 M, .string D], .int .i64 a, .string s] w fun e w' => e = .returned (.tuple #[.agg #[.int .i64 M', .string D'], .int .i64 c]) ∧ Below w.heap.size w w') ∧
      (∀ w, Calls Try.prog 31 #[.agg #[.int .i64 M, .string D], .int .i64 a, .string s] w fun e w' => e = .returned (.tuple #[.agg #[.int .i64 M', .string D'], .int .i64 c]) ∧ Below w.heap.size w w')) ∨
    (∃ k : Nat, a = (k : Int) ∧ k + s.size ≤ D.size ∧ (∀ w, Calls Try.prog 32 #[.agg #[.int .i64 M, .string D], .int .i64 (k : Int), .string s] w fun e w' => e = .returned (.tuple #[.agg #[.int .i64 M, .string (laidOver D k s)], .int .i64 0]) ∧ Below w.heap.size w w') ∧
      (∀ w, Calls Try.prog 31 #[.agg #[.int .i64 M, .string D], .int .i64 (k : Int), .string s] w fun e w' => e = .returned (.tuple #[.agg #[.int .i64 M, .string (laidOver D k s)], .int .i64 0]) ∧ Below w.heap.size w w') ∧
      (∀ w, Calls Try.prog 33 #[.agg #[.int .i64 M, .string (laidOver D k s)], .int .i64 (k : Int), .int .i64 (s.size : Int)] w fun e w' => e = .returned (.tuple #[.string s, .int .i64 0]) ∧ Below w.heap.size w w')) := by
  by_cases hc : codeOf (good M D) D.size [(a, (s.size : Int))] = 0
  · right
    obtain ⟨hg, h0, _, h1⟩ := code1_zero hc
    obtain ⟨k, rfl⟩ : ∃ k : Nat, a = (k : Int) := ⟨a.toNat, by omega⟩
    have hf : k + s.size ≤ D.size := by omega
    have hz := size_laidOver D k s hf
    have S := storeS M D h (k : Int) s hs0 ha 0 hc M (laidOver D k s) (fun _ => ⟨rfl, rfl⟩) (fun h => absurd rfl h)
    have L := loadI_yes M (laidOver D k s) (by omega) k s.size ((good_same hz).trans hg) (by omega)
    rw [lo_mid D k s hf] at L
    exact ⟨k, rfl, hf, S, storeI_yes M D h k s hg hf, L⟩
  · exact .inl ⟨_, _, _, hc, storeS M D h a s hs0 ha _ rfl _ _ (fun h => absurd h hc) (fun _ => rfl), storeI_no M D h a s ha _ rfl hc⟩

/-- What is known of a number of n bytes that is stored and loaded again. -/
def IntAll (M : Int) (D : ByteArray) (a n : Int) (x : Nat) : Prop :=
    (∃ M' D' c, c ≠ 0 ∧ (∀ w, Calls Try.prog 36 #[.agg #[.int .i64 M, .string D], .int .i64 a, .int .i64 n, .int .u64 (x : Int)] w fun e w' => e = .returned (.tuple #[.agg #[.int .i64 M', .string D'], .int .i64 c]) ∧ Below w.heap.size w w') ∧
      (∀ w, Calls Try.prog 35 #[.agg #[.int .i64 M, .string D], .int .i64 a, .int .i64 n, .int .u64 (x : Int)] w fun e w' => e = .returned (.tuple #[.agg #[.int .i64 M', .string D'], .int .i64 c]) ∧ Below w.heap.size w w')) ∨
    (∃ (D' : ByteArray) (nn : Nat), n = (nn : Int) ∧ (nn = 1 ∨ nn = 2 ∨ nn = 4 ∨ nn = 8) ∧ (∀ w, Calls Try.prog 36 #[.agg #[.int .i64 M, .string D], .int .i64 a, .int .i64 n, .int .u64 (x : Int)] w fun e w' => e = .returned (.tuple #[.agg #[.int .i64 M, .string D'], .int .i64 0]) ∧ Below w.heap.size w w') ∧
      (∀ w, Calls Try.prog 35 #[.agg #[.int .i64 M, .string D], .int .i64 a, .int .i64 n, .int .u64 (x : Int)] w fun e w' => e = .returned (.tuple #[.agg #[.int .i64 M, .string D'], .int .i64 0]) ∧ Below w.heap.size w w') ∧
      (∀ w, Calls Try.prog 37 #[.agg #[.int .i64 M, .string D'], .int .i64 a, .int .i64 n, .bool false] w fun e w' => e = .returned (.tuple #[.int .u64 ((x % 2 ^ (8 * nn) : Nat) : Int), .int .i64 0]) ∧ Below w.heap.size w w') ∧
      (∀ w, Calls Try.prog 37 #[.agg #[.int .i64 M, .string D'], .int .i64 a, .int .i64 n, .bool true] w fun e w' => e = .returned (.tuple #[.int .u64 (sgn nn ((x % 2 ^ (8 * nn) : Nat) : Int)), .int .i64 0]) ∧ Below w.heap.size w w'))

theorem intYes (M : Int) (D : ByteArray) (h : D.size ≤ 1048576) (a : Int) (n x : Nat) (ha : a ≤ 9223372036854775807) (hn : n ≤ 8) (hs4 : n = 1 ∨ n = 2 ∨ n = 4 ∨ n = 8)
    (LZ : ∀ w, Calls Try.prog 82 #[.int .i64 (n : Int)] w fun e w' => e = .returned (.bool true) ∧ w' = w)
    (NC : ∀ w, Calls Try.prog 80 #[.agg #[.int .i64 M, .string D], .int .i64 a, .int .i64 (n : Int)] w fun e w' => e = .returned (.int .i64 (codeOf (good M D) D.size [(a, (n : Int))])) ∧ Below w.heap.size w w')
    (LI : ∀ (D' : ByteArray), D'.size ≤ 1048576 → ∀ (k : Nat), good M D' = true → k + n ≤ D'.size → ∀ (sg : Bool) w, Calls Try.prog 37 #[.agg #[.int .i64 M, .string D'], .int .i64 (k : Int), .int .i64 (n : Int), .bool sg] w fun e w' => e = .returned (.tuple #[.int .u64 (if sg = true then sgn n (leN (D'.extract k (k + n)) n : Int) else (leN (D'.extract k (k + n)) n : Int)), .int .i64 0]) ∧ Below w.heap.size w w') :
    IntAll M D a (n : Int) x := by
  have hs : (⟨(leB x n).toArray⟩ : ByteArray).size = n := by show (leB x n).toArray.size = n; simp [leB_len]
  have HG := mGoodS M D h
  cases hg : good M D
  · rw [hg] at HG NC
    rw [code1_bad] at NC
    have hk : kept M D = (0, ⟨#[]⟩) := by simp [kept, hg]
    have I := storeIntI_no M D h a n x 1 (by decide) NC
    rw [hk] at I
    exact .inl ⟨_, _, 1, by decide, storeIntS_bad M D a n x HG, I⟩
  · rw [hg] at HG
    by_cases hc : codeOf (good M D) D.size [(a, (n : Int))] = 0
    · rw [hc] at NC
      have S := storeS M D h a ⟨(leB x n).toArray⟩ (by omega) ha 0 (by rw [hs]; exact hc) M _ (fun _ => ⟨rfl, rfl⟩) (fun h => absurd rfl h)
      obtain ⟨_, h0, _, h1⟩ := code1_zero hc
      obtain ⟨a, rfl⟩ : ∃ k : Nat, a = (k : Int) := ⟨a.toNat, by omega⟩
      simp only [Int.toNat_natCast] at S
      have hf : a + (⟨(leB x n).toArray⟩ : ByteArray).size ≤ D.size := by omega
      have hz := size_laidOver D a ⟨(leB x n).toArray⟩ hf
      have L := LI (laidOver D a ⟨(leB x n).toArray⟩) (by omega) a ((good_same hz).trans hg) (by omega)
      have hm := lo_mid D a ⟨(leB x n).toArray⟩ hf
      rw [hs] at hm
      rw [hm, leN_leB x n n (Nat.le_refl _)] at L
      exact .inr ⟨_, n, rfl, hs4, storeIntS_yes M D a n x hn _ _ _ HG LZ S, storeIntI_yes M D h a n x hn (by omega) NC, L false, L true⟩
    · have S := storeS M D h a ⟨(leB x n).toArray⟩ (by omega) ha _ (by rw [hs]) _ _ (fun h => absurd h hc) (fun _ => rfl)
      exact .inl ⟨_, _, _, hc, storeIntS_yes M D a n x hn _ _ _ HG LZ S, storeIntI_no M D h a n x _ hc NC⟩

theorem intAll (M : Int) (D : ByteArray) (h : D.size ≤ 1048576) (a n : Int) (x : Nat) (ha : a ≤ 9223372036854775807) : IntAll M D a n x := by
  by_cases hn : n = 1 ∨ n = 2 ∨ n = 4 ∨ n = 8
  · rcases hn with rfl | rfl | rfl | rfl
    · exact intYes M D h a 1 x ha (by omega) (by omega) l5Size1 (numberCode1 M D h a ha) (fun D' h' k => loadIntI1 M D' h' k)
    · exact intYes M D h a 2 x ha (by omega) (by omega) l5Size2 (numberCode2 M D h a ha) (fun D' h' k => loadIntI2 M D' h' k)
    · exact intYes M D h a 4 x ha (by omega) (by omega) l5Size4 (numberCode4 M D h a ha) (fun D' h' k => loadIntI4 M D' h' k)
    · exact intYes M D h a 8 x ha (by omega) (by omega) l5Size8 (numberCode8 M D h a ha) (fun D' h' k => loadIntI8 M D' h' k)
  · have h1 : n ≠ 1 := fun e => hn (Or.inl e)
    have h2 : n ≠ 2 := fun e => hn (Or.inr (Or.inl e))
    have h4 : n ≠ 4 := fun e => hn (Or.inr (Or.inr (Or.inl e)))
    have h8 : n ≠ 8 := fun e => hn (Or.inr (Or.inr (Or.inr e)))
    have HG := mGoodS M D h
    have I := storeIntI_no M D h a n x 1 (by decide) (numberCode_no M D a n h1 h2 h4 h8)
    cases hg : good M D
    · rw [hg] at HG
      have hk : kept M D = (0, ⟨#[]⟩) := by simp [kept, hg]
      rw [hk] at I
      exact .inl ⟨_, _, 1, by decide, storeIntS_bad M D a n x HG, I⟩
    · rw [hg] at HG
      have hk : kept M D = (M, D) := by simp [kept, hg]
      rw [hk] at I
      exact .inl ⟨_, _, 1, by decide, storeIntS_size M D a n x HG (l5Size_no n h1 h2 h4 h8), I⟩

end Go.Proofs.Ytcnjllecobhalaa
