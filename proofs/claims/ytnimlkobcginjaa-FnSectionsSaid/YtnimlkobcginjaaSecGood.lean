/-
  The walks of the two functions that ask whether sections are good.
-/
import Derived.Test.YtnimlkobcginjaaSecBase
import Derived.Test.YtnimlkobcginjaaIn
import Derived.Deep.QuietTactic
import Derived.BigQuiet
namespace Go.Proofs.Ytnimlkobcginjaa
open Go.ChangeShapes Go.WideShapes Go.ChangeAt Go.RowKit

/-- Rising from p on, each Id at most 20, each Body of at most 1000 bytes. -/
def secOk : Int → List (Int × ByteArray) → Bool
  | _, [] => true
  | p, x :: r => decide (p < x.1 ∧ x.1 ≤ 20 ∧ x.2.size ≤ 1000) && secOk x.1 r
def secGood (L : List (Int × ByteArray)) : Bool := decide (L.length ≤ 20) && secOk (-1) L
theorem secOk_drop (L : List (Int × ByteArray)) (p : Int) (k : Nat) (h : k < L.length) : secOk p (L.drop k) = (decide (p < L[k].1 ∧ L[k].1 ≤ 20 ∧ L[k].2.size ≤ 1000) && secOk L[k].1 (L.drop (k + 1))) := by
  rw [List.drop_eq_getElem_cons h]; rfl

set_option maxRecDepth 100000 in
set_option maxHeartbeats 1600000 in
theorem implGood (a : Option Addr) (b off cap : Nat) (L : List (Int × ByteArray)) (w : World) (ha : Hid (L ≠ [] → a = some ⟨b, off, none⟩ ∧ b < w.heap.size)) (hL : secAt w b off L) (hlen : L.length ≤ 1048576) (hsz : ∀ i (h : i < L.length), L[i].2.size ≤ 1048576) :
    Calls Try.prog 61 #[.slice a L.length cap] w fun e w' => e = .returned (.bool (secGood L)) ∧ Below w.heap.size w w' := by
  by_cases h20 : L.length ≤ 20
  · have hg : Hid (secGood L = secOk (-1) L) := by unfold Hid secGood; simp [h20]
    go_enter Try.func61, Try.ntmps61
    go_wp2
    go_loopw [3, 11] (fun p i wr => ∃ (k : Nat) (q : Int), k ≤ L.length ∧ i = .int .i64 k ∧ p = .int .i64 q ∧ Hid (secOk q (L.drop k) = secOk (-1) L) ∧ Below w.heap.size w wr) (fun _ i _ => L.length - (intOf i).toNat)
    case atStart => exact ⟨0, -1, by omega, rfl, rfl, rfl, Below.refl _ _⟩
    case round =>
      obtain ⟨k, q, hk, rfl, rfl, hq, hnx⟩ := hrel
      by_cases hlt : k < L.length
      · obtain ⟨rfl, hb⟩ := ha.out (fun h => by simp [h] at hlt)
        have hc := hL k hlt
        have hs1 := hsz k hlt
        have hd := secOk_drop L q k hlt
        obtain ⟨x, hx⟩ : ∃ x, x = L[k] := ⟨_, rfl⟩
        rw [← hx] at hc hs1 hd
        obtain ⟨id, s⟩ := x
        clear hx
        simp only at hc hs1 hd
        have HD : Hid (secOk q (L.drop k) = (decide (q < id ∧ id ≤ 20 ∧ s.size ≤ 1000) && secOk id (L.drop (k + 1)))) := hd
        clear hd
        have hc0 : wr.cell? ⟨b, off + k * 2, none⟩ = some (.int .i64 id) := (hnx.cell (by exact hb)).trans hc.1
        have hc1 : wr.cell? ⟨b, off + k * 2 + 1, none⟩ = some (.string s) := (hnx.cell (by exact hb)).trans hc.2
        clear hc
        have hbel : ∀ o, Below w.heap.size w (wr.alloc o) := fun o => hnx.alloc hnx.size o
        by_cases g1 : q < id
        · by_cases g2 : id ≤ 20
          · by_cases g3 : s.size ≤ 1000
            · go_wp2
              go_roundw
              case rel =>
                have h1 := HD.out
                rw [hq.out] at h1
                rw [decide_eq_true (by exact ⟨g1, g2, g3⟩), Bool.true_and] at h1
                exact ⟨k + 1, id, by omega, by go_num, rfl, h1.symm, hbel _⟩
              case measure => simp [intOf]; omega
            · have g3' : (1000 : Int) < s.size := by omega
              go_wp2
              go_ret
              have h1 := HD.out
              rw [hq.out, decide_eq_false (by omega), Bool.false_and] at h1
              exact ⟨by rw [hg.out, h1]; rfl, hbel _⟩
          · go_wp2
            go_ret
            have h1 := HD.out
            rw [hq.out, decide_eq_false (by omega), Bool.false_and] at h1
            exact ⟨by rw [hg.out, h1]; rfl, hbel _⟩
        · go_wp2
          go_ret
          have h1 := HD.out
          rw [hq.out, decide_eq_false (by omega), Bool.false_and] at h1
          exact ⟨by rw [hg.out, h1]; rfl, hbel _⟩
      · go_wp2
        go_ret
        have h1 := hq.out
        rw [List.drop_of_length_le (by omega)] at h1
        exact ⟨by rw [hg.out, ← h1]; rfl, hnx⟩
  · have hg : secGood L = false := by unfold secGood; simp [h20]
    rw [hg]
    go_enter Try.func61, Try.ntmps61
    go_wp2
    go_ret
    exact ⟨rfl, Below.refl _ _⟩

set_option maxRecDepth 100000 in
set_option maxHeartbeats 3200000 in
theorem specGood (a : Option Addr) (b off cap : Nat) (L : List (Int × ByteArray)) (w : World) (ha : Hid (L ≠ [] → a = some ⟨b, off, none⟩ ∧ b < w.heap.size)) (hL : secAt w b off L) (hlen : L.length ≤ 1048576) (hsz : ∀ i (h : i < L.length), L[i].2.size ≤ 1048576) :
    Calls Try.prog 62 #[.slice a L.length cap] w fun e w' => e = .returned (.bool (secGood L)) ∧ Below w.heap.size w w' := by
  go_enter Try.func62, Try.ntmps62
  go_wp2
  go_loopw [7] (fun i wr => ∃ (k : Nat) (q : Int), k ≤ L.length ∧ i = .int .i64 k ∧ Hid (secOk q (L.drop k) = secOk (-1) L ∧ (k = 0 → q = -1) ∧ ∀ j, k = j + 1 → 0 ≤ q ∧ w.cell? ⟨b, off + j * 2, none⟩ = some (.int .i64 q)) ∧ Below w.heap.size w wr) (fun i _ => L.length - (intOf i).toNat)
  case atStart => exact ⟨0, -1, by omega, rfl, ⟨rfl, fun _ => rfl, fun j h => absurd h (by omega)⟩, Below.refl _ _⟩
  case round =>
    obtain ⟨k, q, hk, rfl, hq, hnx⟩ := hrel
    by_cases hlt : k < L.length
    · obtain ⟨rfl, hb⟩ := ha.out (fun h => by simp [h] at hlt)
      have hc := hL k hlt
      have hs1 := hsz k hlt
      have hd := secOk_drop L q k hlt
      obtain ⟨x, hx⟩ : ∃ x, x = L[k] := ⟨_, rfl⟩
      rw [← hx] at hc hs1 hd
      obtain ⟨id, s⟩ := x
      clear hx
      simp only at hc hs1 hd
      have HD : Hid (secOk q (L.drop k) = (decide (q < id ∧ id ≤ 20 ∧ s.size ≤ 1000) && secOk id (L.drop (k + 1)))) := hd
      clear hd
      have HC : Hid (w.cell? ⟨b, off + k * 2, none⟩ = some (.int .i64 id)) := hc.1
      have hc0 : wr.cell? ⟨b, off + k * 2, none⟩ = some (.int .i64 id) := (hnx.cell (by exact hb)).trans hc.1
      have hc1 : wr.cell? ⟨b, off + k * 2 + 1, none⟩ = some (.string s) := (hnx.cell (by exact hb)).trans hc.2
      clear hc
      have hbel : ∀ o, Below w.heap.size w (wr.alloc o) := fun o => hnx.alloc hnx.size o
      by_cases g1 : 0 ≤ id ∧ id ≤ 20
      · have HI : Hid (∀ w : World, Calls Try.prog 57 #[.int .i64 id, .int .i64 0, .int .i64 20] w fun e w' => e = .returned (.bool true) ∧ w' = w) := in_yes id 0 20 g1.1 g1.2
        by_cases g3 : s.size ≤ 1000
        · have g3' : ¬ (1000 : Int) < s.size := by omega
          have g3b : decide ((1000 : Int) < s.size) = false := by simpa using g3'
          rcases Nat.eq_zero_or_pos k with rfl | hk0
          · have hz0 : wr.cell? ⟨b, off, none⟩ = some (.int .i64 id) := by simpa using hc0
            have hz1 : wr.cell? ⟨b, off + 1, none⟩ = some (.string s) := by simpa using hc1
            clear hc0 hc1
            go_wp2
            go_quiet ((go_at_call 57; exact Calls.quiet_of_same (HI.out _)))
            go_wp2
            go_roundw
            case rel =>
              obtain ⟨h1, h2, _⟩ := hq.out
              have h3 := HD.out
              rw [h1, h2 (by first | rfl | trivial), decide_eq_true (by omega), Bool.true_and] at h3
              exact ⟨1, id, by omega, by go_num, ⟨h3.symm, fun h => absurd h (by omega), fun j hj => by obtain rfl : j = 0 := (by omega); exact ⟨g1.1, HC.out⟩⟩, below_drewN (hbel _) _⟩
            case measure => simp [intOf]; omega
          · obtain ⟨j, rfl⟩ : ∃ j, k = j + 1 := ⟨k - 1, by omega⟩
            have hprev : wr.cell? ⟨b, off + j * 2, none⟩ = some (.int .i64 q) := (hnx.cell (by exact hb)).trans (hq.out.2.2 j rfl).2
            have hwr : IntKind.i64.wrap (j : Int) = j := IntWalk.i64_in _ ⟨by omega, by omega⟩
            have hbl : b < wr.heap.size := Nat.lt_of_lt_of_le hb hnx.size
            have hq0 := (hq.out.2.2 j rfl).1
            by_cases g4 : q < id
            · have g4b : decide (id ≤ q) = false := by simp; omega
              go_wp2
              go_quiet ((go_at_call 57; exact Calls.quiet_of_same (HI.out _)))
              go_wp2
              go_roundw
              case rel =>
                obtain ⟨h1, _, _⟩ := hq.out
                have h3 := HD.out
                rw [h1, decide_eq_true (by omega), Bool.true_and] at h3
                exact ⟨j + 1 + 1, id, by omega, by go_num, ⟨h3.symm, fun h => absurd h (by omega), fun i hi => by obtain rfl : i = j + 1 := (by omega); exact ⟨g1.1, HC.out⟩⟩, below_drewN (hbel _) _⟩
              case measure => simp [intOf]; omega
            · have g4b : decide (id ≤ q) = true := by simp; omega
              go_wp2
              go_quiet ((go_at_call 57; exact Calls.quiet_of_same (HI.out _)))
              go_wp2
              go_ret
              obtain ⟨h1, _, _⟩ := hq.out
              have h3 := HD.out
              rw [h1, decide_eq_false (by omega), Bool.false_and] at h3
              exact ⟨by unfold secGood; rw [h3, Bool.and_false]; rfl, below_drewN (hbel _) _⟩
        · have g3b : decide ((1000 : Int) < s.size) = true := by simp; omega
          go_wp2
          go_quiet ((go_at_call 57; exact Calls.quiet_of_same (HI.out _)))
          go_wp2
          go_ret
          obtain ⟨h1, _, _⟩ := hq.out
          have h3 := HD.out
          rw [h1, decide_eq_false (by omega), Bool.false_and] at h3
          exact ⟨by unfold secGood; rw [h3, Bool.and_false]; rfl, below_drewN (hbel _) _⟩
      · have HI : Hid (∀ w : World, Calls Try.prog 57 #[.int .i64 id, .int .i64 0, .int .i64 20] w fun e w' => e = .returned (.bool false) ∧ w' = w) := in_no id 0 20 (by omega)
        go_wp2
        go_quiet ((go_at_call 57; exact Calls.quiet_of_same (HI.out _)))
        go_wp2
        go_ret
        obtain ⟨h1, h2, h4⟩ := hq.out
        have hq1 : -1 ≤ q := by
          rcases Nat.eq_zero_or_pos k with hk0 | hk0
          · have := h2 hk0; omega
          · have := (h4 (k - 1) (by omega)).1; omega
        have h3 := HD.out
        rw [h1, decide_eq_false (by omega), Bool.false_and] at h3
        exact ⟨by unfold secGood; rw [h3, Bool.and_false]; rfl, below_drewN (hbel _) _⟩
    · have hg : decide ((L.length : Int) ≤ 20) = decide (L.length ≤ 20) := by simp; omega
      go_wp2
      go_ret
      have h1 := hq.out.1
      rw [List.drop_of_length_le (by omega)] at h1
      exact ⟨by unfold secGood; rw [← h1, ← hg]; simp [secOk], hnx⟩

end Go.Proofs.Ytnimlkobcginjaa
