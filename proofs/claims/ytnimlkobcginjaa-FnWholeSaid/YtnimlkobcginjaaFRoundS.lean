/-
  FRound: spec's whole.
-/
import Derived.Test.YtnimlkobcginjaaFRoundT
namespace Go.Proofs.Ytnimlkobcginjaa
open Go.RowKit

/-- Which side of the half. -/
def sideOf (m T : Nat) : Int := if 2 * (m % 2 ^ T) < 2 ^ T then -1 else if 2 ^ T < 2 * (m % 2 ^ T) then 1 else 0

theorem side_is (m T : Nat) : sideOf m T = -1 ∨ sideOf m T = 1 ∨ sideOf m T = 0 := by
  unfold sideOf; split
  · exact Or.inl rfl
  · split
    · exact Or.inr (Or.inl rfl)
    · exact Or.inr (Or.inr rfl)

theorem nsh_side (m T : Nat) : nsh m T false = if sideOf m T = 1 ∨ (sideOf m T = 0 ∧ m / 2 ^ T % 2 = 1) then m / 2 ^ T + 1 else m / 2 ^ T := by
  unfold nsh sideOf
  generalize m % 2 ^ T = L
  generalize m / 2 ^ T = K
  generalize 2 ^ T = P
  rcases Nat.lt_trichotomy (2 * L) P with h | h | h
  · rw [if_pos h, if_neg (by omega), if_neg (by omega)]
  · rw [if_neg (by omega : ¬ 2 * L < P), if_neg (by omega : ¬ P < 2 * L)]
    by_cases hk : K % 2 = 1
    · rw [if_pos (by omega), if_pos (by omega)]
    · rw [if_neg (by simp; omega), if_neg (by omega)]
  · rw [if_neg (by omega : ¬ 2 * L < P), if_pos h, if_pos (by omega), if_pos (by omega)]

set_option maxRecDepth 100000 in
set_option maxHeartbeats 2000000 in
theorem wholeSpec16 (mode e : Int) (s : Bool) (m T : Nat) (he : e = -(T : Int)) (hT : 1 ≤ T) (hT2 : T ≤ 2000) (hm : m < 1073741824) (hm0 : m ≠ 0) (h1 : 1 ≤ mode) (h4 : mode ≤ 4) (r : Int)
    (RR : Hid (∀ w, Calls Try.prog 92 #[(.agg #[.int .u64 5, .int .u64 10]), .bool s, .int .u64 ((wh mode s m T : Nat) : Int), .int .i64 0, .bool false] w fun x w' => x = .returned (.int .u32 r) ∧ Below w.heap.size w w')) (w : World) :
    Calls Try.prog 81 #[(.agg #[.int .u64 5, .int .u64 10]), .int .i64 mode, .agg #[.bool s, .bool false, .bool false, .int .u64 (m : Int), .int .i64 e]] w fun x w' => x = .returned (.int .u32 r) ∧ Below w.heap.size w w' := by
  obtain ⟨W, hW⟩ : ∃ W, (w.alloc (.cells #[.int .u64 5, .int .u64 10] 97)).alloc (.cells #[.bool s, .bool false, .bool false, .int .u64 (m : Int), .int .i64 e] 107) = W := ⟨_, rfl⟩
  have H : Hid (Below w.heap.size w W) := by unfold Hid; rw [← hW]; (repeat (first | refine Below.alloc ?_ (by first | (simp; done) | (simp; omega)) _ | refine Below.setCell ?_ (by first | (simp; done) | (simp; omega)) _ | refine bel_dN ?_ _ | refine Below.drew ?_ | exact Below.refl _ _))
  obtain ⟨g, hg⟩ : ∃ g, w.heap.size = g := ⟨_, rfl⟩
  have c0 : W.cell? ⟨g, 0, none⟩ = some (.int .u64 5) := by rw [← hW, ← hg]; simp
  have c1 : W.cell? ⟨g, 1, none⟩ = some (.int .u64 10) := by rw [← hW, ← hg]; simp
  have d0 : W.cell? ⟨g + 1, 0, none⟩ = some (.bool s) := by rw [← hW, ← hg]; simp
  have d1 : W.cell? ⟨g + 1, 1, none⟩ = some (.bool false) := by rw [← hW, ← hg]; simp
  have d2 : W.cell? ⟨g + 1, 2, none⟩ = some (.bool false) := by rw [← hW, ← hg]; simp
  have d3 : W.cell? ⟨g + 1, 3, none⟩ = some (.int .u64 (m : Int)) := by rw [← hW, ← hg]; simp
  have d4 : W.cell? ⟨g + 1, 4, none⟩ = some (.int .i64 e) := by rw [← hW, ← hg]; simp
  obtain ⟨K, hK⟩ : ∃ K, m / 2 ^ T = K := ⟨_, rfl⟩
  obtain ⟨L, hL⟩ : ∃ L, m % 2 ^ T = L := ⟨_, rfl⟩
  obtain ⟨sd, hsd⟩ : ∃ sd, sideOf m T = sd := ⟨_, rfl⟩
  obtain ⟨Wn, hWn⟩ : ∃ Wn, wh mode s m T = Wn := ⟨_, rfl⟩
  rw [hWn] at RR
  have km : ((m : Int) == 0) = false := by simp; omega
  have ke : ¬ (0 : Int) ≤ e := by omega
  have v1 : wrap64 (-e) = T := by unfold wrap64; omega
  have v2 : IntKind.u64.wrap (T : Int) = T := by rw [IntKind.wrap_u64]; omega
  have hKm : K ≤ m := by rw [← hK]; exact Nat.div_le_self _ _
  have HH : Hid (1 ≤ T ∧ T ≤ 2000 ∧ m < 1073741824 ∧ m / 2 ^ T = K ∧ m % 2 ^ T = L ∧ sideOf m T = sd ∧ wh mode s m T = Wn ∧ 1 ≤ mode ∧ mode ≤ 4 ∧ K ≤ m) := ⟨hT, hT2, hm, hK, hL, hsd, hWn, h1, h4, hKm⟩
  clear hT hT2 hm hm0 h1 h4 hK hL hsd hWn hKm he
  go_enter Try.func81, Try.ntmps81
  go_upto_if 47 with fail
  clear hW
  go_cut [8, 9, 10] (fun s8 s9 s10 wx => s8 = .int .u64 (L : Int) ∧ s9 = .int .u64 (K : Int) ∧ s10 = .int .i64 sd ∧ wx = W)
  case first =>
    obtain ⟨a1, a2, a3, a4, a5, a6, a7, a8, a9, a10⟩ := HH.out
    by_cases h60 : (T : Int) < 60
    · obtain ⟨Hh, hH⟩ : ∃ Hh : Nat, 2 ^ (T - 1) = Hh := ⟨_, rfl⟩
      have e2 : 2 ^ T = 2 * Hh := by rw [← hH, ← Nat.pow_succ', show (T - 1).succ = T by omega]
      have e64 : (2 : Nat) ^ T ≤ 2 ^ 60 := Nat.pow_le_pow_right (by omega) (by omega)
      have e63 : (2 : Nat) ^ 60 = 1152921504606846976 := by decide
      rw [e63] at e64
      have t4 : min T 64 = T := by omega
      have f1' : (m : Int) / 2 ^ T = (K : Int) := by rw [← a4]; simp
      obtain ⟨Z, hZ⟩ : ∃ Z : Int, (2 : Int) ^ T = Z := ⟨_, rfl⟩
      have hZn : Z = ((2 ^ T : Nat) : Int) := by rw [← hZ]; simp
      have f1 : (m : Int) / Z = (K : Int) := by rw [← hZ]; exact f1'
      have f2 : IntKind.u64.wrap Z = Z := by rw [IntKind.wrap_u64]; omega
      have f3 : IntKind.u64.wrap (Z - 1) = Z - 1 := by have := Nat.two_pow_pos T; rw [IntKind.wrap_u64]; omega
      have f4 : bits .and .u64 (m : Int) (Z - 1) = (L : Int) := by
        rw [← hZ, low64 T (by omega) (m : Int) (by omega) (by omega), ← a5]; simp
      have g6 : IntKind.u64.wrap ((T : Int) - 1) = (T : Int) - 1 := by rw [IntKind.wrap_u64]; omega
      have g3 : ((T : Int) - 1).toNat = T - 1 := by omega
      have g5 : 0 ≤ (T : Int) - 1 := by omega
      have g4 : min (T - 1) 64 = T - 1 := by omega
      have g7 : (2 : Int) ^ (T - 1) = (Hh : Int) := by rw [← hH]; simp
      have g8 : IntKind.u64.wrap (Hh : Int) = Hh := by rw [IntKind.wrap_u64]; omega
      unfold sideOf at a6
      rw [a5, e2] at a6
      have HS : Hid ((if 2 * L < 2 * Hh then (-1 : Int) else if 2 * Hh < 2 * L then 1 else 0) = sd) := a6
      clear a1 a2 a3 a4 a5 a6 a7 a8 a9 a10 hH e2 e64 e63 hZn f1'
      rcases Nat.lt_trichotomy L Hh with h | h | h
      · have c1 : (L : Int) < Hh := by omega
        have hv : Hid ((-1 : Int) = sd) := by have := HS.out; rw [if_pos (by omega)] at this; exact this
        clear h
        go_wp2
        go_meet
        exact ⟨rfl, rfl, by rw [← hv.out], rfl⟩
      · subst h
        have hv : Hid ((0 : Int) = sd) := by have := HS.out; rw [if_neg (by omega), if_neg (by omega)] at this; exact this
        go_wp2
        go_meet
        exact ⟨rfl, rfl, by rw [← hv.out], rfl⟩
      · have c1 : (Hh : Int) < L := by omega
        have hv : Hid ((1 : Int) = sd) := by have := HS.out; rw [if_neg (by omega), if_pos (by omega)] at this; exact this
        clear h
        go_wp2
        go_meet
        exact ⟨rfl, rfl, by rw [← hv.out], rfl⟩
    · have p60 : (2 : Nat) ^ 60 ≤ 2 ^ T := Nat.pow_le_pow_right (by omega) (by omega)
      have e63 : (2 : Nat) ^ 60 = 1152921504606846976 := by decide
      have hK0 : K = 0 := by rw [← a4]; exact Nat.div_eq_of_lt (by omega)
      have hLm : L = m := by rw [← a5]; exact Nat.mod_eq_of_lt (by omega)
      have hv : Hid ((-1 : Int) = sd) := by
        unfold sideOf at a6
        rw [a5, hLm, if_pos (by omega)] at a6
        exact a6
      clear a1 a2 a3 a4 a5 a6 a7 a8 a9 a10 p60 e63
      subst hK0
      subst hLm
      go_wp2
      go_meet
      exact ⟨rfl, rfl, by rw [← hv.out], rfl⟩
  case rest =>
    obtain ⟨rfl, rfl, rfl, hwc⟩ := hcut
    obtain rfl := hwc.symm
    clear hwc
    obtain ⟨a1, a2, a3, a4, a5, a6, a7, a8, a9, a10⟩ := HH.out
    have hK1 : IntKind.u64.wrap ((K : Int) + 1) = (K : Int) + 1 := by rw [IntKind.wrap_u64]; omega
    have hK2 : bits .and .u64 (K : Int) 1 = (K : Int) % 2 := low64 1 (by omega) (K : Int) (by omega) (by omega)
    have HW : Hid (mode = 4 → (Wn = if sd = 1 ∨ (sd = 0 ∧ K % 2 = 1) then K + 1 else K)) := fun h => by rw [← a7, h]; unfold wh; rw [if_pos rfl, nsh_side, a6, a4]
    have HV : Hid (mode ≠ 4 → (Wn = if ((mode = 1 ∧ s = false) ∨ (mode = 2 ∧ s = true)) ∧ L ≠ 0 then K + 1 else K)) := fun h => by rw [← a7]; unfold wh; rw [if_neg h, a4, a5]
    have hsd : Hid (sd = -1 ∨ sd = 1 ∨ sd = 0) := by unfold Hid; rw [← a6]; exact side_is m T
    have hmd : Hid (mode = 1 ∨ mode = 2 ∨ mode = 3 ∨ mode = 4) := by unfold Hid; omega
    clear a1 a2 a3 a4 a5 a6 a7 a8 a9 a10 HH
    have go : ∀ (x : Int), x = (Wn : Int) → ∀ w, Calls Try.prog 92 #[(.agg #[.int .u64 5, .int .u64 10]), .bool s, .int .u64 x, .int .i64 0, .bool false] w fun x w' => x = .returned (.int .u32 r) ∧ Below w.heap.size w w' := fun x hx w => by rw [hx]; exact RR.out w
    clear RR
    rcases hmd.out with rfl | rfl | rfl | rfl
    · have hv := HV.out (by omega)
      clear HV HW hmd
      cases s
      · by_cases hL : L = 0
        · rw [if_neg (by omega)] at hv
          have G := go (K : Int) (by omega)
          subst hL
          clear hv go
          go_wp2_with fail
          refine (G _).mono ?_
          rintro x w2 ⟨rfl, B2⟩
          go_wp2
          go_ret
          exact ⟨rfl, bel_step H.out B2⟩
        · rw [if_pos ⟨Or.inl ⟨rfl, rfl⟩, hL⟩] at hv
          have G := go ((K : Int) + 1) (by omega)
          have c1 : ((L : Int) != 0) = true := by simp [hL]
          clear hv go hL
          go_wp2_with fail
          refine (G _).mono ?_
          rintro x w2 ⟨rfl, B2⟩
          go_wp2
          go_ret
          exact ⟨rfl, bel_step H.out B2⟩
      · rw [if_neg (by simp)] at hv
        have G := go (K : Int) (by omega)
        obtain ⟨lb, hlb⟩ : ∃ lb, ((L : Int) != 0) = lb := ⟨_, rfl⟩
        clear hv go
        cases lb
        · go_wp2_with fail
          refine (G _).mono ?_
          rintro x w2 ⟨rfl, B2⟩
          go_wp2
          go_ret
          exact ⟨rfl, bel_step H.out B2⟩
        · go_wp2_with fail
          refine (G _).mono ?_
          rintro x w2 ⟨rfl, B2⟩
          go_wp2
          go_ret
          exact ⟨rfl, bel_step H.out B2⟩
    · have hv := HV.out (by omega)
      clear HV HW hmd
      cases s
      · rw [if_neg (by simp)] at hv
        have G := go (K : Int) (by omega)
        obtain ⟨lb, hlb⟩ : ∃ lb, ((L : Int) != 0) = lb := ⟨_, rfl⟩
        clear hv go
        cases lb
        · go_wp2_with fail
          refine (G _).mono ?_
          rintro x w2 ⟨rfl, B2⟩
          go_wp2
          go_ret
          exact ⟨rfl, bel_step H.out B2⟩
        · go_wp2_with fail
          refine (G _).mono ?_
          rintro x w2 ⟨rfl, B2⟩
          go_wp2
          go_ret
          exact ⟨rfl, bel_step H.out B2⟩
      · by_cases hL : L = 0
        · rw [if_neg (by omega)] at hv
          have G := go (K : Int) (by omega)
          subst hL
          clear hv go
          go_wp2_with fail
          refine (G _).mono ?_
          rintro x w2 ⟨rfl, B2⟩
          go_wp2
          go_ret
          exact ⟨rfl, bel_step H.out B2⟩
        · rw [if_pos ⟨Or.inr ⟨rfl, rfl⟩, hL⟩] at hv
          have G := go ((K : Int) + 1) (by omega)
          have c1 : ((L : Int) != 0) = true := by simp [hL]
          clear hv go hL
          go_wp2_with fail
          refine (G _).mono ?_
          rintro x w2 ⟨rfl, B2⟩
          go_wp2
          go_ret
          exact ⟨rfl, bel_step H.out B2⟩
    · have hv := HV.out (by omega)
      rw [if_neg (by omega)] at hv
      have G := go (K : Int) (by omega)
      clear HV HW hmd hv go
      go_wp2_with fail
      refine (G _).mono ?_
      rintro x w2 ⟨rfl, B2⟩
      go_wp2
      go_ret
      exact ⟨rfl, bel_step H.out B2⟩
    · have hv := HW.out rfl
      clear HV HW hmd
      rcases hsd.out with rfl | rfl | rfl
      · rw [if_neg (by omega)] at hv
        have G := go (K : Int) (by omega)
        clear hv go hsd
        go_wp2_with fail
        refine (G _).mono ?_
        rintro x w2 ⟨rfl, B2⟩
        go_wp2
        go_ret
        exact ⟨rfl, bel_step H.out B2⟩
      · rw [if_pos (by omega)] at hv
        have G := go ((K : Int) + 1) (by omega)
        clear hv go hsd
        go_wp2_with fail
        refine (G _).mono ?_
        rintro x w2 ⟨rfl, B2⟩
        go_wp2
        go_ret
        exact ⟨rfl, bel_step H.out B2⟩
      · by_cases hk : K % 2 = 1
        · rw [if_pos (by omega)] at hv
          have G := go ((K : Int) + 1) (by omega)
          have c1 : ((K : Int) % 2 == 1) = true := by simp; omega
          clear hv go hsd hk
          go_wp2_with fail
          refine (G _).mono ?_
          rintro x w2 ⟨rfl, B2⟩
          go_wp2
          go_ret
          exact ⟨rfl, bel_step H.out B2⟩
        · rw [if_neg (by omega)] at hv
          have G := go (K : Int) (by omega)
          have c1 : ((K : Int) % 2 == 1) = false := by simp; omega
          clear hv go hsd hk
          go_wp2_with fail
          refine (G _).mono ?_
          rintro x w2 ⟨rfl, B2⟩
          go_wp2
          go_ret
          exact ⟨rfl, bel_step H.out B2⟩

set_option maxRecDepth 100000 in
set_option maxHeartbeats 2000000 in
theorem wholeSpec32 (mode e : Int) (s : Bool) (m T : Nat) (he : e = -(T : Int)) (hT : 1 ≤ T) (hT2 : T ≤ 2000) (hm : m < 1073741824) (hm0 : m ≠ 0) (h1 : 1 ≤ mode) (h4 : mode ≤ 4) (r : Int)
    (RR : Hid (∀ w, Calls Try.prog 92 #[(.agg #[.int .u64 8, .int .u64 23]), .bool s, .int .u64 ((wh mode s m T : Nat) : Int), .int .i64 0, .bool false] w fun x w' => x = .returned (.int .u32 r) ∧ Below w.heap.size w w')) (w : World) :
    Calls Try.prog 81 #[(.agg #[.int .u64 8, .int .u64 23]), .int .i64 mode, .agg #[.bool s, .bool false, .bool false, .int .u64 (m : Int), .int .i64 e]] w fun x w' => x = .returned (.int .u32 r) ∧ Below w.heap.size w w' := by
  obtain ⟨W, hW⟩ : ∃ W, (w.alloc (.cells #[.int .u64 8, .int .u64 23] 97)).alloc (.cells #[.bool s, .bool false, .bool false, .int .u64 (m : Int), .int .i64 e] 107) = W := ⟨_, rfl⟩
  have H : Hid (Below w.heap.size w W) := by unfold Hid; rw [← hW]; (repeat (first | refine Below.alloc ?_ (by first | (simp; done) | (simp; omega)) _ | refine Below.setCell ?_ (by first | (simp; done) | (simp; omega)) _ | refine bel_dN ?_ _ | refine Below.drew ?_ | exact Below.refl _ _))
  obtain ⟨g, hg⟩ : ∃ g, w.heap.size = g := ⟨_, rfl⟩
  have c0 : W.cell? ⟨g, 0, none⟩ = some (.int .u64 8) := by rw [← hW, ← hg]; simp
  have c1 : W.cell? ⟨g, 1, none⟩ = some (.int .u64 23) := by rw [← hW, ← hg]; simp
  have d0 : W.cell? ⟨g + 1, 0, none⟩ = some (.bool s) := by rw [← hW, ← hg]; simp
  have d1 : W.cell? ⟨g + 1, 1, none⟩ = some (.bool false) := by rw [← hW, ← hg]; simp
  have d2 : W.cell? ⟨g + 1, 2, none⟩ = some (.bool false) := by rw [← hW, ← hg]; simp
  have d3 : W.cell? ⟨g + 1, 3, none⟩ = some (.int .u64 (m : Int)) := by rw [← hW, ← hg]; simp
  have d4 : W.cell? ⟨g + 1, 4, none⟩ = some (.int .i64 e) := by rw [← hW, ← hg]; simp
  obtain ⟨K, hK⟩ : ∃ K, m / 2 ^ T = K := ⟨_, rfl⟩
  obtain ⟨L, hL⟩ : ∃ L, m % 2 ^ T = L := ⟨_, rfl⟩
  obtain ⟨sd, hsd⟩ : ∃ sd, sideOf m T = sd := ⟨_, rfl⟩
  obtain ⟨Wn, hWn⟩ : ∃ Wn, wh mode s m T = Wn := ⟨_, rfl⟩
  rw [hWn] at RR
  have km : ((m : Int) == 0) = false := by simp; omega
  have ke : ¬ (0 : Int) ≤ e := by omega
  have v1 : wrap64 (-e) = T := by unfold wrap64; omega
  have v2 : IntKind.u64.wrap (T : Int) = T := by rw [IntKind.wrap_u64]; omega
  have hKm : K ≤ m := by rw [← hK]; exact Nat.div_le_self _ _
  have HH : Hid (1 ≤ T ∧ T ≤ 2000 ∧ m < 1073741824 ∧ m / 2 ^ T = K ∧ m % 2 ^ T = L ∧ sideOf m T = sd ∧ wh mode s m T = Wn ∧ 1 ≤ mode ∧ mode ≤ 4 ∧ K ≤ m) := ⟨hT, hT2, hm, hK, hL, hsd, hWn, h1, h4, hKm⟩
  clear hT hT2 hm hm0 h1 h4 hK hL hsd hWn hKm he
  go_enter Try.func81, Try.ntmps81
  go_upto_if 47 with fail
  clear hW
  go_cut [8, 9, 10] (fun s8 s9 s10 wx => s8 = .int .u64 (L : Int) ∧ s9 = .int .u64 (K : Int) ∧ s10 = .int .i64 sd ∧ wx = W)
  case first =>
    obtain ⟨a1, a2, a3, a4, a5, a6, a7, a8, a9, a10⟩ := HH.out
    by_cases h60 : (T : Int) < 60
    · obtain ⟨Hh, hH⟩ : ∃ Hh : Nat, 2 ^ (T - 1) = Hh := ⟨_, rfl⟩
      have e2 : 2 ^ T = 2 * Hh := by rw [← hH, ← Nat.pow_succ', show (T - 1).succ = T by omega]
      have e64 : (2 : Nat) ^ T ≤ 2 ^ 60 := Nat.pow_le_pow_right (by omega) (by omega)
      have e63 : (2 : Nat) ^ 60 = 1152921504606846976 := by decide
      rw [e63] at e64
      have t4 : min T 64 = T := by omega
      have f1' : (m : Int) / 2 ^ T = (K : Int) := by rw [← a4]; simp
      obtain ⟨Z, hZ⟩ : ∃ Z : Int, (2 : Int) ^ T = Z := ⟨_, rfl⟩
      have hZn : Z = ((2 ^ T : Nat) : Int) := by rw [← hZ]; simp
      have f1 : (m : Int) / Z = (K : Int) := by rw [← hZ]; exact f1'
      have f2 : IntKind.u64.wrap Z = Z := by rw [IntKind.wrap_u64]; omega
      have f3 : IntKind.u64.wrap (Z - 1) = Z - 1 := by have := Nat.two_pow_pos T; rw [IntKind.wrap_u64]; omega
      have f4 : bits .and .u64 (m : Int) (Z - 1) = (L : Int) := by
        rw [← hZ, low64 T (by omega) (m : Int) (by omega) (by omega), ← a5]; simp
      have g6 : IntKind.u64.wrap ((T : Int) - 1) = (T : Int) - 1 := by rw [IntKind.wrap_u64]; omega
      have g3 : ((T : Int) - 1).toNat = T - 1 := by omega
      have g5 : 0 ≤ (T : Int) - 1 := by omega
      have g4 : min (T - 1) 64 = T - 1 := by omega
      have g7 : (2 : Int) ^ (T - 1) = (Hh : Int) := by rw [← hH]; simp
      have g8 : IntKind.u64.wrap (Hh : Int) = Hh := by rw [IntKind.wrap_u64]; omega
      unfold sideOf at a6
      rw [a5, e2] at a6
      have HS : Hid ((if 2 * L < 2 * Hh then (-1 : Int) else if 2 * Hh < 2 * L then 1 else 0) = sd) := a6
      clear a1 a2 a3 a4 a5 a6 a7 a8 a9 a10 hH e2 e64 e63 hZn f1'
      rcases Nat.lt_trichotomy L Hh with h | h | h
      · have c1 : (L : Int) < Hh := by omega
        have hv : Hid ((-1 : Int) = sd) := by have := HS.out; rw [if_pos (by omega)] at this; exact this
        clear h
        go_wp2
        go_meet
        exact ⟨rfl, rfl, by rw [← hv.out], rfl⟩
      · subst h
        have hv : Hid ((0 : Int) = sd) := by have := HS.out; rw [if_neg (by omega), if_neg (by omega)] at this; exact this
        go_wp2
        go_meet
        exact ⟨rfl, rfl, by rw [← hv.out], rfl⟩
      · have c1 : (Hh : Int) < L := by omega
        have hv : Hid ((1 : Int) = sd) := by have := HS.out; rw [if_neg (by omega), if_pos (by omega)] at this; exact this
        clear h
        go_wp2
        go_meet
        exact ⟨rfl, rfl, by rw [← hv.out], rfl⟩
    · have p60 : (2 : Nat) ^ 60 ≤ 2 ^ T := Nat.pow_le_pow_right (by omega) (by omega)
      have e63 : (2 : Nat) ^ 60 = 1152921504606846976 := by decide
      have hK0 : K = 0 := by rw [← a4]; exact Nat.div_eq_of_lt (by omega)
      have hLm : L = m := by rw [← a5]; exact Nat.mod_eq_of_lt (by omega)
      have hv : Hid ((-1 : Int) = sd) := by
        unfold sideOf at a6
        rw [a5, hLm, if_pos (by omega)] at a6
        exact a6
      clear a1 a2 a3 a4 a5 a6 a7 a8 a9 a10 p60 e63
      subst hK0
      subst hLm
      go_wp2
      go_meet
      exact ⟨rfl, rfl, by rw [← hv.out], rfl⟩
  case rest =>
    obtain ⟨rfl, rfl, rfl, hwc⟩ := hcut
    obtain rfl := hwc.symm
    clear hwc
    obtain ⟨a1, a2, a3, a4, a5, a6, a7, a8, a9, a10⟩ := HH.out
    have hK1 : IntKind.u64.wrap ((K : Int) + 1) = (K : Int) + 1 := by rw [IntKind.wrap_u64]; omega
    have hK2 : bits .and .u64 (K : Int) 1 = (K : Int) % 2 := low64 1 (by omega) (K : Int) (by omega) (by omega)
    have HW : Hid (mode = 4 → (Wn = if sd = 1 ∨ (sd = 0 ∧ K % 2 = 1) then K + 1 else K)) := fun h => by rw [← a7, h]; unfold wh; rw [if_pos rfl, nsh_side, a6, a4]
    have HV : Hid (mode ≠ 4 → (Wn = if ((mode = 1 ∧ s = false) ∨ (mode = 2 ∧ s = true)) ∧ L ≠ 0 then K + 1 else K)) := fun h => by rw [← a7]; unfold wh; rw [if_neg h, a4, a5]
    have hsd : Hid (sd = -1 ∨ sd = 1 ∨ sd = 0) := by unfold Hid; rw [← a6]; exact side_is m T
    have hmd : Hid (mode = 1 ∨ mode = 2 ∨ mode = 3 ∨ mode = 4) := by unfold Hid; omega
    clear a1 a2 a3 a4 a5 a6 a7 a8 a9 a10 HH
    have go : ∀ (x : Int), x = (Wn : Int) → ∀ w, Calls Try.prog 92 #[(.agg #[.int .u64 8, .int .u64 23]), .bool s, .int .u64 x, .int .i64 0, .bool false] w fun x w' => x = .returned (.int .u32 r) ∧ Below w.heap.size w w' := fun x hx w => by rw [hx]; exact RR.out w
    clear RR
    rcases hmd.out with rfl | rfl | rfl | rfl
    · have hv := HV.out (by omega)
      clear HV HW hmd
      cases s
      · by_cases hL : L = 0
        · rw [if_neg (by omega)] at hv
          have G := go (K : Int) (by omega)
          subst hL
          clear hv go
          go_wp2_with fail
          refine (G _).mono ?_
          rintro x w2 ⟨rfl, B2⟩
          go_wp2
          go_ret
          exact ⟨rfl, bel_step H.out B2⟩
        · rw [if_pos ⟨Or.inl ⟨rfl, rfl⟩, hL⟩] at hv
          have G := go ((K : Int) + 1) (by omega)
          have c1 : ((L : Int) != 0) = true := by simp [hL]
          clear hv go hL
          go_wp2_with fail
          refine (G _).mono ?_
          rintro x w2 ⟨rfl, B2⟩
          go_wp2
          go_ret
          exact ⟨rfl, bel_step H.out B2⟩
      · rw [if_neg (by simp)] at hv
        have G := go (K : Int) (by omega)
        obtain ⟨lb, hlb⟩ : ∃ lb, ((L : Int) != 0) = lb := ⟨_, rfl⟩
        clear hv go
        cases lb
        · go_wp2_with fail
          refine (G _).mono ?_
          rintro x w2 ⟨rfl, B2⟩
          go_wp2
          go_ret
          exact ⟨rfl, bel_step H.out B2⟩
        · go_wp2_with fail
          refine (G _).mono ?_
          rintro x w2 ⟨rfl, B2⟩
          go_wp2
          go_ret
          exact ⟨rfl, bel_step H.out B2⟩
    · have hv := HV.out (by omega)
      clear HV HW hmd
      cases s
      · rw [if_neg (by simp)] at hv
        have G := go (K : Int) (by omega)
        obtain ⟨lb, hlb⟩ : ∃ lb, ((L : Int) != 0) = lb := ⟨_, rfl⟩
        clear hv go
        cases lb
        · go_wp2_with fail
          refine (G _).mono ?_
          rintro x w2 ⟨rfl, B2⟩
          go_wp2
          go_ret
          exact ⟨rfl, bel_step H.out B2⟩
        · go_wp2_with fail
          refine (G _).mono ?_
          rintro x w2 ⟨rfl, B2⟩
          go_wp2
          go_ret
          exact ⟨rfl, bel_step H.out B2⟩
      · by_cases hL : L = 0
        · rw [if_neg (by omega)] at hv
          have G := go (K : Int) (by omega)
          subst hL
          clear hv go
          go_wp2_with fail
          refine (G _).mono ?_
          rintro x w2 ⟨rfl, B2⟩
          go_wp2
          go_ret
          exact ⟨rfl, bel_step H.out B2⟩
        · rw [if_pos ⟨Or.inr ⟨rfl, rfl⟩, hL⟩] at hv
          have G := go ((K : Int) + 1) (by omega)
          have c1 : ((L : Int) != 0) = true := by simp [hL]
          clear hv go hL
          go_wp2_with fail
          refine (G _).mono ?_
          rintro x w2 ⟨rfl, B2⟩
          go_wp2
          go_ret
          exact ⟨rfl, bel_step H.out B2⟩
    · have hv := HV.out (by omega)
      rw [if_neg (by omega)] at hv
      have G := go (K : Int) (by omega)
      clear HV HW hmd hv go
      go_wp2_with fail
      refine (G _).mono ?_
      rintro x w2 ⟨rfl, B2⟩
      go_wp2
      go_ret
      exact ⟨rfl, bel_step H.out B2⟩
    · have hv := HW.out rfl
      clear HV HW hmd
      rcases hsd.out with rfl | rfl | rfl
      · rw [if_neg (by omega)] at hv
        have G := go (K : Int) (by omega)
        clear hv go hsd
        go_wp2_with fail
        refine (G _).mono ?_
        rintro x w2 ⟨rfl, B2⟩
        go_wp2
        go_ret
        exact ⟨rfl, bel_step H.out B2⟩
      · rw [if_pos (by omega)] at hv
        have G := go ((K : Int) + 1) (by omega)
        clear hv go hsd
        go_wp2_with fail
        refine (G _).mono ?_
        rintro x w2 ⟨rfl, B2⟩
        go_wp2
        go_ret
        exact ⟨rfl, bel_step H.out B2⟩
      · by_cases hk : K % 2 = 1
        · rw [if_pos (by omega)] at hv
          have G := go ((K : Int) + 1) (by omega)
          have c1 : ((K : Int) % 2 == 1) = true := by simp; omega
          clear hv go hsd hk
          go_wp2_with fail
          refine (G _).mono ?_
          rintro x w2 ⟨rfl, B2⟩
          go_wp2
          go_ret
          exact ⟨rfl, bel_step H.out B2⟩
        · rw [if_neg (by omega)] at hv
          have G := go (K : Int) (by omega)
          have c1 : ((K : Int) % 2 == 1) = false := by simp; omega
          clear hv go hsd hk
          go_wp2_with fail
          refine (G _).mono ?_
          rintro x w2 ⟨rfl, B2⟩
          go_wp2
          go_ret
          exact ⟨rfl, bel_step H.out B2⟩

end Go.Proofs.Ytnimlkobcginjaa
