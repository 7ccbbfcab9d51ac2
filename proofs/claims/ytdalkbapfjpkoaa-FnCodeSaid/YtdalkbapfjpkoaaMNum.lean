/-
  Numbers in bytes, the lowest first: both sides.
-/
import Derived.Test.YtdalkbapfjpkoaaMMade
import Derived.Test.YtdalkbapfjpkoaaIOrs
import Derived.PlainAid
namespace Go.Proofs.Ytdalkbapfjpkoaa
open Go.ChangeShapes Go.WideShapes Go.ChangeAt Go.RowKit Go.PlainAid

/-- The first k bytes as a number, the lowest first. -/
def leN (s : ByteArray) : Nat → Nat
  | 0 => 0
  | k + 1 => leN s k + (bt s k).toNat * 2 ^ (8 * k)
theorem leN_lt (s : ByteArray) : ∀ k, leN s k < 2 ^ (8 * k)
  | 0 => by simp [leN]
  | k + 1 => by
    have h := leN_lt s k
    have hb := bt_le s k
    have h0 := bt_nonneg s k
    have e : 2 ^ (8 * (k + 1)) = 256 * 2 ^ (8 * k) := by rw [show 8 * (k + 1) = 8 + 8 * k by omega, Nat.pow_add]
    have h2 : (bt s k).toNat ≤ 255 := by omega
    have h3 : (bt s k).toNat * 2 ^ (8 * k) ≤ 255 * 2 ^ (8 * k) := Nat.mul_le_mul_right _ h2
    show leN s k + _ < _
    omega
theorem leN_le (s : ByteArray) (k : Nat) (h : k ≤ 8) : leN s k < 18446744073709551616 := by
  have h1 := leN_lt s k
  have h2 : 2 ^ (8 * k) ≤ 2 ^ 64 := Nat.pow_le_pow_right (by omega) (by omega)
  omega
theorem or_le (s : ByteArray) (k : Nat) (h : k < 8) : bits .or .u64 (leN s k : Int) (IntKind.u64.wrap (bt s k * 2 ^ (8 * k))) = (leN s (k + 1) : Int) := by
  have h1 := leN_lt s k
  have h0 := bt_nonneg s k
  obtain ⟨b, hb⟩ : ∃ b : Nat, bt s k = b := ⟨(bt s k).toNat, by omega⟩
  have h3 := leN_le s (k + 1) (by omega)
  have e : leN s (k + 1) = leN s k + b * 2 ^ (8 * k) := by show _ + (bt s k).toNat * _ = _; rw [hb]; rfl
  have e2 : IntKind.u64.wrap (bt s k * 2 ^ (8 * k)) = ((b * 2 ^ (8 * k) : Nat) : Int) := by
    rw [hb, IntKind.wrap_u64]
    have : ((b : Int) * 2 ^ (8 * k)) = ((b * 2 ^ (8 * k) : Nat) : Int) := by simp
    rw [this]
    omega
  rw [e2, or_comm', or_nat _ _ (by omega) (by omega), e]
  have e3 := (Nat.two_pow_add_eq_or_of_lt (i := 8 * k) (b := leN s k) h1 b).symm
  rw [Nat.mul_comm b, e3]
  omega

theorem numberOf (s : ByteArray) (h : s.size ≤ 8) (w : World) :
    Calls Try.prog 53 #[.string s] w fun e w' => e = .returned (.int .u64 (leN s s.size : Int)) ∧ w' = w := by
  go_enter Try.func53, Try.ntmps53
  go_wp2
  go_loop [3, 7] (fun x i => ∃ k : Nat, k ≤ s.size ∧ i = .int .i64 k ∧ x = .int .u64 (leN s k : Int)) (fun _ i => s.size - (intOf i).toNat)
  case atStart => exact ⟨0, by omega, rfl, rfl⟩
  case round =>
    obtain ⟨k, hk, rfl, rfl⟩ := hrel
    by_cases hlt : k < s.size
    · have e := get_bt s k hlt
      have hO := or_le s k (by omega)
      have hw : IntKind.u64.wrap (bt s k) = bt s k := by have h0 := bt_nonneg s k; have h1 := bt_le s k; rw [IntKind.wrap_u64]; omega
      go_wp2
      go_round
      case rel => exact ⟨k + 1, by omega, by go_num, by rw [← hO]⟩
      case measure => simp [intOf]; omega
    · go_wp2
      go_ret
      obtain rfl : k = s.size := by omega
      exact ⟨rfl, rfl⟩

theorem or_low (x b : Nat) (hx : x < 72057594037927936) (hb : b < 256) : bits .or .u64 (IntKind.u64.wrap ((x : Int) * 256)) (b : Int) = ((x * 256 + b : Nat) : Int) := by
  have e : IntKind.u64.wrap ((x : Int) * 256) = ((256 * x : Nat) : Int) := by rw [IntKind.wrap_u64]; omega
  have e3 := (Nat.two_pow_add_eq_or_of_lt (i := 8) (b := b) hb x).symm
  rw [e, or_nat _ _ (by omega) (by omega)]
  rw [show 256 * x = 2 ^ 8 * x by rfl, e3]
  omega

/-- A number's bytes, the lowest first. -/
def leB (x n : Nat) : List UInt8 := (List.range n).map fun i => UInt8.ofNat (x / 2 ^ (8 * i))
theorem leB_len (x n : Nat) : (leB x n).length = n := by simp [leB]
/-- The row of n bytes of which k are written. -/
def leRow (x n k : Nat) : Array Value := ((List.range n).map fun i => if i < k then Value.int .u8 (((UInt8.ofNat (x / 2 ^ (8 * i))).toNat : Nat) : Int) else .int .u8 0).toArray
theorem leRow_at (x n k j : Nat) (h : j < n) : (leRow x n k)[j]? = some (if j < k then Value.int .u8 (((UInt8.ofNat (x / 2 ^ (8 * j))).toNat : Nat) : Int) else .int .u8 0) := by
  simp [leRow, h]
theorem leRow_zero (x n : Nat) : madeCells (Value.int .u8 0).cells n = leRow x n 0 := by
  apply Array.ext'
  rw [made_list]
  apply List.ext_getElem?
  intro j
  by_cases h : j < n
  · simp [leRow, h]
  · simp [leRow, h]
theorem leRow_set (x n k : Nat) : (leRow x n k).setIfInBounds k (.int .u8 (((UInt8.ofNat (x / 2 ^ (8 * k))).toNat : Nat) : Int)) = leRow x n (k + 1) := by
  apply Array.ext'
  apply List.ext_getElem?
  intro j
  by_cases h : j < n
  · by_cases hjk : k = j
    · subst hjk; simp [leRow, h]
    · have h1 : (j < k + 1) = (j < k) := by apply propext; omega
      simp [leRow, h, hjk, h1]
  · simp [leRow, h]

theorem u8_of (x k : Nat) : (x : Int) / 2 ^ (8 * k) % 256 = (((UInt8.ofNat (x / 2 ^ (8 * k))).toNat : Nat) : Int) := by
  have e : ((x : Int) / 2 ^ (8 * k)) = ((x / 2 ^ (8 * k) : Nat) : Int) := by simp
  rw [e]
  simp

/-- A row of a number's bytes told as a string. -/
theorem leTold (W : World) (g x n : Nat) (hr : W.heap[g]? = some (.cells (leRow x n n) 5 (0, 0))) :
    (convert 22 9 (.slice (some ⟨g, 0, none⟩) n n)).run Try.prog W = .ok (.string ⟨(leB x n).toArray⟩) W := by
  have H := run_convert_bytes_back (P := Try.prog) W 22 9 5 ⟨g, 0, none⟩ n (leB x n) Try.underlying22 Try.underlying5 Try.underlying9 (fun j hj => by
    rw [Addr.add_lit, Nat.zero_add]
    rw [leB_len] at hj
    have := leRow_at x n n j hj
    rw [if_pos hj] at this
    simp [World.cell?, hr, this, leB])
  rw [leB_len] at H
  exact H

theorem numberBytes (x n : Nat) (h : n ≤ 8) (w : World) :
    Calls Try.prog 29 #[.int .u64 (x : Int), .int .i64 (n : Int)] w fun e w' => e = .returned (.string ⟨(leB x n).toArray⟩) ∧ Below w.heap.size w w' := by
  obtain ⟨g, hg⟩ : ∃ g, w.heap.size = g := ⟨_, rfl⟩
  have hmk := madeU8 n (by omega)
  rw [leRow_zero x n] at hmk
  have hct := fun W => leTold W g x n
  have HC : Hid (∀ W : World, W.heap[g]? = some (.cells (leRow x n n) 5 (0, 0)) → (convert 22 9 (.slice (some ⟨g, 0, none⟩) n n)).run Try.prog W = .ok (.string ⟨(leB x n).toArray⟩) W) := hct
  clear hct
  generalize (⟨(leB x n).toArray⟩ : ByteArray) = X at *
  go_enter Try.func29, Try.ntmps29
  go_wp2
  go_loopw [11] (fun i wr => ∃ k : Nat, k ≤ n ∧ i = .int .i64 k ∧ wr.heap[g]? = some (.cells (leRow x n k) 5 (0, 0)) ∧ Below w.heap.size w wr) (fun i _ => n - (intOf i).toNat)
  case atStart => exact ⟨0, by omega, rfl, by rw [← hg]; exact heap_alloc_new _ _, by (repeat (first | refine Below.alloc ?_ (by first | (simp; done) | (simp; omega)) _ | refine Below.setCell ?_ (by first | (simp; done) | (simp; omega)) _ | refine bel_dN ?_ _ | refine Below.drew ?_ | exact Below.refl _ _))⟩
  case round =>
    obtain ⟨k, hk, rfl, hr, hb⟩ := hrel
    by_cases hlt : k < n
    · have hc : wr.cell? ⟨g, k, none⟩ = some (.int .u8 0) := by
        have := leRow_at x n k k hlt
        rw [if_neg (by omega)] at this
        simp [World.cell?, hr, this]
      have hf : wr.frozen? ⟨g, k, none⟩ = false := by simp [World.frozen?, hr]
      go_wp2
      go_roundw
      case rel =>
        refine ⟨k + 1, by omega, by go_num, ?_, Below.setCell hb (by simp; omega) _⟩
        rw [setCell_eq_setRow wr g k _ 5 (0, 0) _ hr, u8_of x k, leRow_set]
        exact setRow_heap wr g _ _ 5 (0, 0) hr
      case measure => simp [intOf]; omega
    · obtain rfl : k = n := by omega
      have hct := HC.out wr hr
      go_wp2
      go_ret
      exact ⟨rfl, hb⟩

theorem l5Bytes (x n : Nat) (h : n ≤ 8) (w : World) :
    Calls Try.prog 37 #[.int .u64 (x : Int), .int .i64 (n : Int)] w fun e w' => e = .returned (.string ⟨(leB x n).toArray⟩) ∧ Below w.heap.size w w' := by
  obtain ⟨g, hg⟩ : ∃ g, w.heap.size = g := ⟨_, rfl⟩
  have hmk := madeU8 n (by omega)
  rw [leRow_zero x n] at hmk
  have hct := fun W => leTold W g x n
  have HC : Hid (∀ W : World, W.heap[g]? = some (.cells (leRow x n n) 5 (0, 0)) → (convert 22 9 (.slice (some ⟨g, 0, none⟩) n n)).run Try.prog W = .ok (.string ⟨(leB x n).toArray⟩) W) := hct
  clear hct
  generalize (⟨(leB x n).toArray⟩ : ByteArray) = X at *
  go_enter Try.func37, Try.ntmps37
  go_wp2
  go_loopw [11] (fun i wr => ∃ k : Nat, k ≤ n ∧ i = .int .i64 k ∧ wr.heap[g]? = some (.cells (leRow x n k) 5 (0, 0)) ∧ Below w.heap.size w wr) (fun i _ => n - (intOf i).toNat)
  case atStart => exact ⟨0, by omega, rfl, by rw [← hg]; exact heap_alloc_new _ _, by (repeat (first | refine Below.alloc ?_ (by first | (simp; done) | (simp; omega)) _ | refine Below.setCell ?_ (by first | (simp; done) | (simp; omega)) _ | refine bel_dN ?_ _ | refine Below.drew ?_ | exact Below.refl _ _))⟩
  case round =>
    obtain ⟨k, hk, rfl, hr, hb⟩ := hrel
    by_cases hlt : k < n
    · have hc : wr.cell? ⟨g, k, none⟩ = some (.int .u8 0) := by
        have := leRow_at x n k k hlt
        rw [if_neg (by omega)] at this
        simp [World.cell?, hr, this]
      have hf : wr.frozen? ⟨g, k, none⟩ = false := by simp [World.frozen?, hr]
      go_wp2
      go_roundw
      case rel =>
        refine ⟨k + 1, by omega, by go_num, ?_, Below.setCell hb (by simp; omega) _⟩
        rw [setCell_eq_setRow wr g k _ 5 (0, 0) _ hr, u8_of x k, leRow_set]
        exact setRow_heap wr g _ _ 5 (0, 0) hr
      case measure => simp [intOf]; omega
    · obtain rfl : k = n := by omega
      have hct := HC.out wr hr
      go_wp2
      go_ret
      exact ⟨rfl, hb⟩

end Go.Proofs.Ytdalkbapfjpkoaa
