/-
  A point from the front of a text of UTF-8: what it is, and the walk of the specification's function.
-/
import Derived.Test.YtljnciclbjcinaaGreatDoorEnc
import Derived.PlainAid
import Derived.Deep.RegionWith
namespace Go.Proofs.YtljnciclbjcinaaGreatDoor
open Go.ChangeShapes Go.WideShapes Go.ChangeAt Go.RowKit Go.PlainAid

/-- How many bytes the first one asks for, and what it bears. -/
def ldN (b : Int) : Nat := if 240 ≤ b then 4 else if 224 ≤ b then 3 else if 192 ≤ b then 2 else 1
def ldP (b : Int) : Int := if 240 ≤ b then b % 8 else if 224 ≤ b then b % 16 else if 192 ≤ b then b % 32 else b
/-- What the first k bytes bear. -/
def accP (t : ByteArray) : Nat → Int
  | 0 => 0
  | 1 => ldP (bt t 0)
  | k + 2 => accP t (k + 1) * 64 + bt t (k + 1) % 64
theorem accP_one (t : ByteArray) : accP t 1 = ldP (bt t 0) := rfl
theorem accP_more (t : ByteArray) (k : Nat) (h : 1 ≤ k) : accP t (k + 1) = accP t k * 64 + bt t k % 64 := by
  obtain ⟨j, rfl⟩ : ∃ j, k = j + 1 := ⟨k - 1, by omega⟩
  rfl
theorem ldP_in (b : Int) (h0 : 0 ≤ b) (h1 : b ≤ 255) : 0 ≤ ldP b ∧ ldP b < 256 := by unfold ldP; repeat' split <;> omega
theorem accP_in (t : ByteArray) (k : Nat) (h : k ≤ 4) : 0 ≤ accP t k ∧ accP t k < 67108864 := by
  have hb := fun j => bt_nonneg t j
  have h1 := ldP_in (bt t 0) (hb 0) (bt_le t 0)
  have e1 : accP t 1 = ldP (bt t 0) := rfl
  have e2 : accP t 2 = accP t 1 * 64 + bt t 1 % 64 := rfl
  have e3 : accP t 3 = accP t 2 * 64 + bt t 2 % 64 := rfl
  have e4 : accP t 4 = accP t 3 * 64 + bt t 3 % 64 := rfl
  match k, h with
  | 0, _ => exact ⟨by show (0 : Int) ≤ 0; omega, by show (0 : Int) < _; omega⟩
  | 1, _ => omega
  | 2, _ => omega
  | 3, _ => omega
  | 4, _ => omega
theorem acc4 (t : ByteArray) (h : 240 ≤ bt t 0) : accP t 4 < 2097152 := by
  have e0 : ldP (bt t 0) = bt t 0 % 8 := by unfold ldP; rw [if_pos h]
  have e1 : accP t 1 = ldP (bt t 0) := rfl
  have e2 : accP t 2 = accP t 1 * 64 + bt t 1 % 64 := rfl
  have e3 : accP t 3 = accP t 2 * 64 + bt t 2 % 64 := rfl
  have e4 : accP t 4 = accP t 3 * 64 + bt t 3 % 64 := rfl
  omega
theorem acc3 (t : ByteArray) (h0 : ¬ 240 ≤ bt t 0) (h : 224 ≤ bt t 0) : accP t 3 < 2097152 := by
  have e0 : ldP (bt t 0) = bt t 0 % 16 := by unfold ldP; rw [if_neg h0, if_pos h]
  have e1 : accP t 1 = ldP (bt t 0) := rfl
  have e2 : accP t 2 = accP t 1 * 64 + bt t 1 % 64 := rfl
  have e3 : accP t 3 = accP t 2 * 64 + bt t 2 % 64 := rfl
  omega
theorem acc2 (t : ByteArray) : accP t 2 < 2097152 := by
  have h1 := ldP_in (bt t 0) (bt_nonneg t 0) (bt_le t 0)
  have e1 : accP t 1 = ldP (bt t 0) := rfl
  have e2 : accP t 2 = accP t 1 * 64 + bt t 1 % 64 := rfl
  omega
theorem acc1 (t : ByteArray) : accP t 1 < 2097152 := by
  have h1 := ldP_in (bt t 0) (bt_nonneg t 0) (bt_le t 0)
  have e1 : accP t 1 = ldP (bt t 0) := rfl
  omega
/-- What these bytes bear is told by them. -/
def same8 (t : ByteArray) (n : Nat) : Bool := (u8b (accP t n).toNat == (t.extract 0 n).toList)
/-- The point at the front, and how many bytes it has: none where there is none. -/
def one8 (t : ByteArray) : Int × Nat := if t.size < ldN (bt t 0) then (0, 0) else if same8 t (ldN (bt t 0)) = true then (accP t (ldN (bt t 0)), ldN (bt t 0)) else (0, 0)
theorem ibelow {a b c : World} (h : Below a.heap.size a b) (k : Below b.heap.size b c) : Below a.heap.size a c := h.trans (k.mono h.size)
theorem join6 (p x : Int) (h0 : 0 ≤ p) (h1 : p < 67108864) (h2 : 0 ≤ x) (h3 : x < 64) : bits .or .i64 (p * 64) x = p * 64 + x := by
  obtain ⟨a, rfl⟩ := Int.eq_ofNat_of_zero_le h0
  obtain ⟨b, rfl⟩ := Int.eq_ofNat_of_zero_le h2
  have h := i64_join 6 a b (by omega) (by omega)
  rw [show (((2 ^ 6 * a : Nat)) : Int) = (a : Int) * 64 by omega] at h
  rw [h]; omega
theorem and7 (n : Int) : bits .and .i64 n 7 = n % 8 := i64_mask 3 (by omega) n
theorem and15 (n : Int) : bits .and .i64 n 15 = n % 16 := i64_mask 4 (by omega) n
theorem and31 (n : Int) : bits .and .i64 n 31 = n % 32 := i64_mask 5 (by omega) n
theorem u8and63 (x : Int) (h0 : 0 ≤ x) (h1 : x ≤ 255) : bits .and .u8 x 63 = x % 64 := by
  obtain ⟨a, rfl⟩ := Int.eq_ofNat_of_zero_le h0
  have h := u8_and_nat a 63 (by omega) (by omega)
  rw [show a &&& 63 = a % 64 from Nat.and_two_pow_sub_one_eq_mod a 6] at h
  exact h.trans (by omega)
theorem specUtf8s (p : Nat) (hp : p < 2097152) (w : World) :
    Calls Tryz.prog 106 #[.int .i64 p] w fun e w' => ∃ N, e = .returned (.slice (some ⟨N, 0, none⟩) (u8b p).length (u8b p).length) ∧ (∀ W : World, W.heap = w'.heap → (convert 67 9 (.slice (some ⟨N, 0, none⟩) (u8b p).length (u8b p).length)).run Tryz.prog W = .ok (.string ⟨(u8b p).toArray⟩) W) ∧ Below w.heap.size w w' := by
  refine (specUtf8 p hp w).mono ?_
  rintro e w' ⟨rfl, rfl⟩
  refine ⟨_, rfl, fun W hW => ?_, (Below.refl _ _).alloc (Nat.le_refl _) _⟩
  refine run_convert_bytes_back (P := Tryz.prog) _ 67 9 5 ⟨w.heap.size, 0, none⟩ (u8b p).length (u8b p) Tryz.underlying67 Tryz.underlying5 Tryz.underlying9 fun j hj => ?_
  have hc := cells_new w (u8b p) j (.int .u8 ((u8b p)[j].toNat : Int)) (by simp [bv, hj])
  rw [Addr.add_lit] at hc ⊢
  rw [← hc]
  simp [World.cell?, hW]

set_option maxRecDepth 100000 in
set_option maxHeartbeats 1600000 in
theorem specOne (t : ByteArray) (h0 : 0 < t.size) (hsz : t.size ≤ 1048576) (w : World) :
    Calls Tryz.prog 87 #[.string t] w fun e w' => e = .returned (.tuple #[.int .i64 (one8 t).1, .int .i64 (one8 t).2]) ∧ Below w.heap.size w w' := by
  have hb := get_bt t 0 h0
  have hb0 := bt_nonneg t 0
  have hb1 := bt_le t 0
  by_cases g4 : 240 ≤ bt t 0
  · have hn : ldN (bt t 0) = 4 := by unfold ldN; rw [if_pos g4]
    have hp : ldP (bt t 0) = bt t 0 % 8 := by unfold ldP; rw [if_pos g4]
    have hm := and7 (bt t 0)
    have hlt2 := acc4 t g4
    have H1 : Hid (one8 t = if t.size < 4 then (0, 0) else if same8 t 4 = true then (accP t 4, 4) else (0, 0)) := by unfold Hid one8; rw [hn]
    have HA : Hid (accP t 1 = bt t 0 % 8) := hp
    clear hn hp
    by_cases hs : t.size < 4
    · have HR : Hid (one8 t = (0, 0)) := by unfold Hid; rw [H1.out, if_pos hs]
      have hs' : (t.size : Int) < 4 := by omega
      clear H1 hs
      go_enter Tryz.func87, Tryz.ntmps87
      go_wp2
      go_ret2
      exact ⟨by rw [HR.out]; rfl, Below.refl _ _⟩
    · have HR : Hid (one8 t = if same8 t 4 = true then (accP t 4, 4) else (0, 0)) := by unfold Hid; rw [H1.out, if_neg hs]
      have hs' : ¬ ((t.size : Int) < 4) := by omega
      have hs2 : 4 ≤ t.size := by omega
      clear H1 hs
      go_enter Tryz.func87, Tryz.ntmps87
      go_wp2
      go_loop [5, 6] (fun p i => ∃ k : Nat, 1 ≤ k ∧ k ≤ 4 ∧ i = .int .i64 k ∧ p = .int .i64 (accP t k)) (fun _ i => 4 - (intOf i).toNat)
      case atStart => exact ⟨1, by omega, by omega, rfl, by rw [HA.out]; try rfl⟩
      case round =>
        obtain ⟨k, hk1, hk, rfl, rfl⟩ := hrel
        by_cases hlt : k < 4
        · have hkb := get_bt t k (by omega)
          have hq := accP_in t k (by omega)
          have hm2 := u8and63 (bt t k) (bt_nonneg t k) (bt_le t k)
          have hj := join6 (accP t k) (bt t k % 64) hq.1 hq.2 (by omega) (by omega)
          have hM : Hid (accP t (k + 1) = accP t k * 64 + bt t k % 64) := accP_more t k hk1
          have hlt' : (k : Int) < 4 := by omega
          have hks : (k : Int) < t.size := by omega
          go_wp2
          go_round
          case rel => exact ⟨k + 1, by omega, by omega, by go_num, by rw [hM.out]⟩
          case measure => simp [intOf]; omega
        · obtain rfl : k = 4 := by omega
          have hq := accP_in t 4 (by omega)
          obtain ⟨a, ha⟩ : ∃ a : Nat, accP t 4 = a := ⟨(accP t 4).toNat, by omega⟩
          have hc : same8 t 4 = (u8b a == (t.extract 0 4).toList) := by unfold same8; rw [ha, Int.toNat_natCast]
          rw [ha] at HR hlt2 ⊢
          have HU := specUtf8s a (by omega)
          obtain ⟨l, hl⟩ : ∃ l, l = u8b a := ⟨_, rfl⟩
          rw [← hl] at HU hc
          clear hl ha hq hlt2
          rcases he : same8 t 4 with _ | _
          · rw [he] at hc
            have HR2 : Hid (one8 t = (0, 0)) := by unfold Hid; rw [HR.out, he]; rfl
            have hc2 := hc.symm
            clear hc he HR
            go_wp2
            go_region_with (go_at_call 106; refine (HU _).mono ?_; rintro e w1 ⟨N, rfl, hcv, hb2⟩; have v0 := hcv w1 rfl; have v1 := hcv w1.drew rfl; have v2 := hcv w1.drew.drew rfl; clear hcv)
            all_goals
              go_wp2
              go_ret2
              exact ⟨by rw [HR2.out]; rfl, by repeat (first | exact hb2 | exact ibelow (Below.refl _ _).drew hb2 | exact ibelow (Below.refl _ _).drew.drew hb2 | exact ibelow (Below.refl _ _).drew.drew.drew hb2 | exact ibelow (Below.refl _ _).drew.drew.drew.drew hb2 | apply Below.drew)⟩
          · rw [he] at hc
            have HR2 : Hid (one8 t = ((a : Int), 4)) := by unfold Hid; rw [HR.out, he]; rfl
            have hc2 := hc.symm
            clear hc he HR
            go_wp2
            go_region_with (go_at_call 106; refine (HU _).mono ?_; rintro e w1 ⟨N, rfl, hcv, hb2⟩; have v0 := hcv w1 rfl; have v1 := hcv w1.drew rfl; have v2 := hcv w1.drew.drew rfl; clear hcv)
            all_goals
              go_wp2
              go_ret2
              exact ⟨by rw [HR2.out]; rfl, by repeat (first | exact hb2 | exact ibelow (Below.refl _ _).drew hb2 | exact ibelow (Below.refl _ _).drew.drew hb2 | exact ibelow (Below.refl _ _).drew.drew.drew hb2 | exact ibelow (Below.refl _ _).drew.drew.drew.drew hb2 | apply Below.drew)⟩
  · by_cases g3 : 224 ≤ bt t 0
    · have hn : ldN (bt t 0) = 3 := by unfold ldN; rw [if_neg g4, if_pos g3]
      have hp : ldP (bt t 0) = bt t 0 % 16 := by unfold ldP; rw [if_neg g4, if_pos g3]
      have hm := and15 (bt t 0)
      have hlt2 := acc3 t g4 g3
      have H1 : Hid (one8 t = if t.size < 3 then (0, 0) else if same8 t 3 = true then (accP t 3, 3) else (0, 0)) := by unfold Hid one8; rw [hn]
      have HA : Hid (accP t 1 = bt t 0 % 16) := hp
      clear hn hp
      by_cases hs : t.size < 3
      · have HR : Hid (one8 t = (0, 0)) := by unfold Hid; rw [H1.out, if_pos hs]
        have hs' : (t.size : Int) < 3 := by omega
        clear H1 hs
        go_enter Tryz.func87, Tryz.ntmps87
        go_wp2
        go_ret2
        exact ⟨by rw [HR.out]; rfl, Below.refl _ _⟩
      · have HR : Hid (one8 t = if same8 t 3 = true then (accP t 3, 3) else (0, 0)) := by unfold Hid; rw [H1.out, if_neg hs]
        have hs' : ¬ ((t.size : Int) < 3) := by omega
        have hs2 : 3 ≤ t.size := by omega
        clear H1 hs
        go_enter Tryz.func87, Tryz.ntmps87
        go_wp2
        go_loop [5, 6] (fun p i => ∃ k : Nat, 1 ≤ k ∧ k ≤ 3 ∧ i = .int .i64 k ∧ p = .int .i64 (accP t k)) (fun _ i => 3 - (intOf i).toNat)
        case atStart => exact ⟨1, by omega, by omega, rfl, by rw [HA.out]; try rfl⟩
        case round =>
          obtain ⟨k, hk1, hk, rfl, rfl⟩ := hrel
          by_cases hlt : k < 3
          · have hkb := get_bt t k (by omega)
            have hq := accP_in t k (by omega)
            have hm2 := u8and63 (bt t k) (bt_nonneg t k) (bt_le t k)
            have hj := join6 (accP t k) (bt t k % 64) hq.1 hq.2 (by omega) (by omega)
            have hM : Hid (accP t (k + 1) = accP t k * 64 + bt t k % 64) := accP_more t k hk1
            have hlt' : (k : Int) < 3 := by omega
            have hks : (k : Int) < t.size := by omega
            go_wp2
            go_round
            case rel => exact ⟨k + 1, by omega, by omega, by go_num, by rw [hM.out]⟩
            case measure => simp [intOf]; omega
          · obtain rfl : k = 3 := by omega
            have hq := accP_in t 3 (by omega)
            obtain ⟨a, ha⟩ : ∃ a : Nat, accP t 3 = a := ⟨(accP t 3).toNat, by omega⟩
            have hc : same8 t 3 = (u8b a == (t.extract 0 3).toList) := by unfold same8; rw [ha, Int.toNat_natCast]
            rw [ha] at HR hlt2 ⊢
            have HU := specUtf8s a (by omega)
            obtain ⟨l, hl⟩ : ∃ l, l = u8b a := ⟨_, rfl⟩
            rw [← hl] at HU hc
            clear hl ha hq hlt2
            rcases he : same8 t 3 with _ | _
            · rw [he] at hc
              have HR2 : Hid (one8 t = (0, 0)) := by unfold Hid; rw [HR.out, he]; rfl
              have hc2 := hc.symm
              clear hc he HR
              go_wp2
              go_region_with (go_at_call 106; refine (HU _).mono ?_; rintro e w1 ⟨N, rfl, hcv, hb2⟩; have v0 := hcv w1 rfl; have v1 := hcv w1.drew rfl; have v2 := hcv w1.drew.drew rfl; clear hcv)
              all_goals
                go_wp2
                go_ret2
                exact ⟨by rw [HR2.out]; rfl, by repeat (first | exact hb2 | exact ibelow (Below.refl _ _).drew hb2 | exact ibelow (Below.refl _ _).drew.drew hb2 | exact ibelow (Below.refl _ _).drew.drew.drew hb2 | exact ibelow (Below.refl _ _).drew.drew.drew.drew hb2 | apply Below.drew)⟩
            · rw [he] at hc
              have HR2 : Hid (one8 t = ((a : Int), 3)) := by unfold Hid; rw [HR.out, he]; rfl
              have hc2 := hc.symm
              clear hc he HR
              go_wp2
              go_region_with (go_at_call 106; refine (HU _).mono ?_; rintro e w1 ⟨N, rfl, hcv, hb2⟩; have v0 := hcv w1 rfl; have v1 := hcv w1.drew rfl; have v2 := hcv w1.drew.drew rfl; clear hcv)
              all_goals
                go_wp2
                go_ret2
                exact ⟨by rw [HR2.out]; rfl, by repeat (first | exact hb2 | exact ibelow (Below.refl _ _).drew hb2 | exact ibelow (Below.refl _ _).drew.drew hb2 | exact ibelow (Below.refl _ _).drew.drew.drew hb2 | exact ibelow (Below.refl _ _).drew.drew.drew.drew hb2 | apply Below.drew)⟩
    · by_cases g2 : 192 ≤ bt t 0
      · have hn : ldN (bt t 0) = 2 := by unfold ldN; rw [if_neg g4, if_neg g3, if_pos g2]
        have hp : ldP (bt t 0) = bt t 0 % 32 := by unfold ldP; rw [if_neg g4, if_neg g3, if_pos g2]
        have hm := and31 (bt t 0)
        have hlt2 := acc2 t
        have H1 : Hid (one8 t = if t.size < 2 then (0, 0) else if same8 t 2 = true then (accP t 2, 2) else (0, 0)) := by unfold Hid one8; rw [hn]
        have HA : Hid (accP t 1 = bt t 0 % 32) := hp
        clear hn hp
        by_cases hs : t.size < 2
        · have HR : Hid (one8 t = (0, 0)) := by unfold Hid; rw [H1.out, if_pos hs]
          have hs' : (t.size : Int) < 2 := by omega
          clear H1 hs
          go_enter Tryz.func87, Tryz.ntmps87
          go_wp2
          go_ret2
          exact ⟨by rw [HR.out]; rfl, Below.refl _ _⟩
        · have HR : Hid (one8 t = if same8 t 2 = true then (accP t 2, 2) else (0, 0)) := by unfold Hid; rw [H1.out, if_neg hs]
          have hs' : ¬ ((t.size : Int) < 2) := by omega
          have hs2 : 2 ≤ t.size := by omega
          clear H1 hs
          go_enter Tryz.func87, Tryz.ntmps87
          go_wp2
          go_loop [5, 6] (fun p i => ∃ k : Nat, 1 ≤ k ∧ k ≤ 2 ∧ i = .int .i64 k ∧ p = .int .i64 (accP t k)) (fun _ i => 2 - (intOf i).toNat)
          case atStart => exact ⟨1, by omega, by omega, rfl, by rw [HA.out]; try rfl⟩
          case round =>
            obtain ⟨k, hk1, hk, rfl, rfl⟩ := hrel
            by_cases hlt : k < 2
            · have hkb := get_bt t k (by omega)
              have hq := accP_in t k (by omega)
              have hm2 := u8and63 (bt t k) (bt_nonneg t k) (bt_le t k)
              have hj := join6 (accP t k) (bt t k % 64) hq.1 hq.2 (by omega) (by omega)
              have hM : Hid (accP t (k + 1) = accP t k * 64 + bt t k % 64) := accP_more t k hk1
              have hlt' : (k : Int) < 2 := by omega
              have hks : (k : Int) < t.size := by omega
              go_wp2
              go_round
              case rel => exact ⟨k + 1, by omega, by omega, by go_num, by rw [hM.out]⟩
              case measure => simp [intOf]; omega
            · obtain rfl : k = 2 := by omega
              have hq := accP_in t 2 (by omega)
              obtain ⟨a, ha⟩ : ∃ a : Nat, accP t 2 = a := ⟨(accP t 2).toNat, by omega⟩
              have hc : same8 t 2 = (u8b a == (t.extract 0 2).toList) := by unfold same8; rw [ha, Int.toNat_natCast]
              rw [ha] at HR hlt2 ⊢
              have HU := specUtf8s a (by omega)
              obtain ⟨l, hl⟩ : ∃ l, l = u8b a := ⟨_, rfl⟩
              rw [← hl] at HU hc
              clear hl ha hq hlt2
              rcases he : same8 t 2 with _ | _
              · rw [he] at hc
                have HR2 : Hid (one8 t = (0, 0)) := by unfold Hid; rw [HR.out, he]; rfl
                have hc2 := hc.symm
                clear hc he HR
                go_wp2
                go_region_with (go_at_call 106; refine (HU _).mono ?_; rintro e w1 ⟨N, rfl, hcv, hb2⟩; have v0 := hcv w1 rfl; have v1 := hcv w1.drew rfl; have v2 := hcv w1.drew.drew rfl; clear hcv)
                all_goals
                  go_wp2
                  go_ret2
                  exact ⟨by rw [HR2.out]; rfl, by repeat (first | exact hb2 | exact ibelow (Below.refl _ _).drew hb2 | exact ibelow (Below.refl _ _).drew.drew hb2 | exact ibelow (Below.refl _ _).drew.drew.drew hb2 | exact ibelow (Below.refl _ _).drew.drew.drew.drew hb2 | apply Below.drew)⟩
              · rw [he] at hc
                have HR2 : Hid (one8 t = ((a : Int), 2)) := by unfold Hid; rw [HR.out, he]; rfl
                have hc2 := hc.symm
                clear hc he HR
                go_wp2
                go_region_with (go_at_call 106; refine (HU _).mono ?_; rintro e w1 ⟨N, rfl, hcv, hb2⟩; have v0 := hcv w1 rfl; have v1 := hcv w1.drew rfl; have v2 := hcv w1.drew.drew rfl; clear hcv)
                all_goals
                  go_wp2
                  go_ret2
                  exact ⟨by rw [HR2.out]; rfl, by repeat (first | exact hb2 | exact ibelow (Below.refl _ _).drew hb2 | exact ibelow (Below.refl _ _).drew.drew hb2 | exact ibelow (Below.refl _ _).drew.drew.drew hb2 | exact ibelow (Below.refl _ _).drew.drew.drew.drew hb2 | apply Below.drew)⟩
      · have hn : ldN (bt t 0) = 1 := by unfold ldN; rw [if_neg g4, if_neg g3, if_neg g2]
        have hp : ldP (bt t 0) = bt t 0  := by unfold ldP; rw [if_neg g4, if_neg g3, if_neg g2]
        have hlt2 := acc1 t
        have H1 : Hid (one8 t = if t.size < 1 then (0, 0) else if same8 t 1 = true then (accP t 1, 1) else (0, 0)) := by unfold Hid one8; rw [hn]
        have HA : Hid (accP t 1 = bt t 0 ) := hp
        clear hn hp
        have hs : ¬ t.size < 1 := by omega
        have HR : Hid (one8 t = if same8 t 1 = true then (accP t 1, 1) else (0, 0)) := by unfold Hid; rw [H1.out, if_neg hs]
        have hs' : ¬ ((t.size : Int) < 1) := by omega
        have hs2 : 1 ≤ t.size := by omega
        clear H1 hs
        go_enter Tryz.func87, Tryz.ntmps87
        go_wp2
        go_loop [5, 6] (fun p i => ∃ k : Nat, 1 ≤ k ∧ k ≤ 1 ∧ i = .int .i64 k ∧ p = .int .i64 (accP t k)) (fun _ i => 1 - (intOf i).toNat)
        case atStart => exact ⟨1, by omega, by omega, rfl, by rw [HA.out]; try rfl⟩
        case round =>
          obtain ⟨k, hk1, hk, rfl, rfl⟩ := hrel
          by_cases hlt : k < 1
          · have hkb := get_bt t k (by omega)
            have hq := accP_in t k (by omega)
            have hm2 := u8and63 (bt t k) (bt_nonneg t k) (bt_le t k)
            have hj := join6 (accP t k) (bt t k % 64) hq.1 hq.2 (by omega) (by omega)
            have hM : Hid (accP t (k + 1) = accP t k * 64 + bt t k % 64) := accP_more t k hk1
            have hlt' : (k : Int) < 1 := by omega
            have hks : (k : Int) < t.size := by omega
            go_wp2
            go_round
            case rel => exact ⟨k + 1, by omega, by omega, by go_num, by rw [hM.out]⟩
            case measure => simp [intOf]; omega
          · obtain rfl : k = 1 := by omega
            have hq := accP_in t 1 (by omega)
            obtain ⟨a, ha⟩ : ∃ a : Nat, accP t 1 = a := ⟨(accP t 1).toNat, by omega⟩
            have hc : same8 t 1 = (u8b a == (t.extract 0 1).toList) := by unfold same8; rw [ha, Int.toNat_natCast]
            rw [ha] at HR hlt2 ⊢
            have HU := specUtf8s a (by omega)
            obtain ⟨l, hl⟩ : ∃ l, l = u8b a := ⟨_, rfl⟩
            rw [← hl] at HU hc
            clear hl ha hq hlt2
            rcases he : same8 t 1 with _ | _
            · rw [he] at hc
              have HR2 : Hid (one8 t = (0, 0)) := by unfold Hid; rw [HR.out, he]; rfl
              have hc2 := hc.symm
              clear hc he HR
              go_wp2
              go_region_with (go_at_call 106; refine (HU _).mono ?_; rintro e w1 ⟨N, rfl, hcv, hb2⟩; have v0 := hcv w1 rfl; have v1 := hcv w1.drew rfl; have v2 := hcv w1.drew.drew rfl; clear hcv)
              all_goals
                go_wp2
                go_ret2
                exact ⟨by rw [HR2.out]; rfl, by repeat (first | exact hb2 | exact ibelow (Below.refl _ _).drew hb2 | exact ibelow (Below.refl _ _).drew.drew hb2 | exact ibelow (Below.refl _ _).drew.drew.drew hb2 | exact ibelow (Below.refl _ _).drew.drew.drew.drew hb2 | apply Below.drew)⟩
            · rw [he] at hc
              have HR2 : Hid (one8 t = ((a : Int), 1)) := by unfold Hid; rw [HR.out, he]; rfl
              have hc2 := hc.symm
              clear hc he HR
              go_wp2
              go_region_with (go_at_call 106; refine (HU _).mono ?_; rintro e w1 ⟨N, rfl, hcv, hb2⟩; have v0 := hcv w1 rfl; have v1 := hcv w1.drew rfl; have v2 := hcv w1.drew.drew rfl; clear hcv)
              all_goals
                go_wp2
                go_ret2
                exact ⟨by rw [HR2.out]; rfl, by repeat (first | exact hb2 | exact ibelow (Below.refl _ _).drew hb2 | exact ibelow (Below.refl _ _).drew.drew hb2 | exact ibelow (Below.refl _ _).drew.drew.drew hb2 | exact ibelow (Below.refl _ _).drew.drew.drew.drew hb2 | apply Below.drew)⟩

end Go.Proofs.YtljnciclbjcinaaGreatDoor
