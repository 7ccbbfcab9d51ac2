/-
  Rounding: impl's.
-/
import Derived.Test.YtnimlkobcginjaaFRndA
namespace Go.Proofs.Ytnimlkobcginjaa
open Go.RowKit

theorem Keeps.more {W w : World} (h : Keeps W w) : Keeps W w.drew := h.step (Below.refl _ _).drew

theorem rndZero16 (neg : Bool) (e : Int) (more : Bool) (w : World) :
    Calls Try.prog 79 #[(.agg #[.int .i64 10, .int .i64 15, .int .u32 31]), .bool neg, .int .u64 0, .int .i64 e, .bool more] w fun e w' => e = .returned (.int .u32 (neg.toNat * 32768)) ∧ Below w.heap.size w w' := by
  go_enter Try.func79, Try.ntmps79
  go_wp2_with (go_at_call 102; refine (zero16 neg _).mono ?_; rintro e w1 ⟨rfl, B1⟩)
  go_ret
  refine ⟨rfl, bel_step ?_ B1⟩
  (repeat (first | refine Below.alloc ?_ (by first | (simp; done) | (simp; omega)) _ | refine Below.setCell ?_ (by first | (simp; done) | (simp; omega)) _ | refine bel_dN ?_ _ | refine Below.drew ?_ | exact Below.refl _ _))

theorem rndZero32 (neg : Bool) (e : Int) (more : Bool) (w : World) :
    Calls Try.prog 79 #[(.agg #[.int .i64 23, .int .i64 127, .int .u32 255]), .bool neg, .int .u64 0, .int .i64 e, .bool more] w fun e w' => e = .returned (.int .u32 (neg.toNat * 2147483648)) ∧ Below w.heap.size w w' := by
  go_enter Try.func79, Try.ntmps79
  go_wp2_with (go_at_call 102; refine (zero32 neg _).mono ?_; rintro e w1 ⟨rfl, B1⟩)
  go_ret
  refine ⟨rfl, bel_step ?_ B1⟩
  (repeat (first | refine Below.alloc ?_ (by first | (simp; done) | (simp; omega)) _ | refine Below.setCell ?_ (by first | (simp; done) | (simp; omega)) _ | refine bel_dN ?_ _ | refine Below.drew ?_ | exact Below.refl _ _))

set_option maxHeartbeats 1000000 in
theorem rndUp16 (neg : Bool) (m n T kept : Nat) (e l : Int) (more : Bool) (hm0 : ((m : Int) == 0) = false) (LN : Hid (∀ w, Calls Try.prog 87 #[.int .u64 (m : Int)] w fun e w' => e = .returned (.int .i64 (n : Int)) ∧ w' = w))
    (NS : Hid (∀ w, Calls Try.prog 103 #[.int .u64 (m : Int), .int .i64 (T : Int), .bool more] w fun e w' => e = .returned (.int .u64 (kept : Int)) ∧ Below w.heap.size w w'))
    (hmw : IntKind.u64.wrap (m : Int) = m) (he0 : -2000 ≤ e) (he1 : e ≤ 2000) (hn : n ≤ 64) (hl : max (e + n - 10 - 1) (-24) = l) (hT : l - e = T) (hlt : e < l) (hk : kept ≤ 4 * 1024) (w : World) :
    Calls Try.prog 79 #[(.agg #[.int .i64 10, .int .i64 15, .int .u32 31]), .bool neg, .int .u64 (m : Int), .int .i64 e, .bool more] w fun e w' => e = .returned (.int .u32 (neg.toNat * 32768 + min ((l - (-24)) * 1024 + kept) 31744)) ∧ Below w.heap.size w w' := by
  obtain ⟨W, hW⟩ : ∃ W, w.alloc (.cells #[.int .i64 10, .int .i64 15, .int .u32 31] 84) = W := ⟨_, rfl⟩
  have H : Hid (Below w.heap.size w W) := by unfold Hid; rw [← hW]; (repeat (first | refine Below.alloc ?_ (by first | (simp; done) | (simp; omega)) _ | refine Below.setCell ?_ (by first | (simp; done) | (simp; omega)) _ | refine bel_dN ?_ _ | refine Below.drew ?_ | exact Below.refl _ _))
  have hs : W.heap.size = w.heap.size + 1 := by rw [← hW]; simp
  obtain ⟨g, hg⟩ : ∃ g, w.heap.size = g := ⟨_, rfl⟩
  have k0 : ∀ w, Keeps W w → w.cell? ⟨g, 0, none⟩ = some (.int .i64 10) := fun w h => h.cell (by omega) (by rw [← hW, ← hg]; simp)
  have k1 : ∀ w, Keeps W w → w.cell? ⟨g, 1, none⟩ = some (.int .i64 15) := fun w h => h.cell (by omega) (by rw [← hW, ← hg]; simp)
  have k2 : ∀ w, Keeps W w → w.cell? ⟨g, 2, none⟩ = some (.int .u32 31) := fun w h => h.cell (by omega) (by rw [← hW, ← hg]; simp)
  have v1 : IntKind.i64.wrap (e + n) = e + n := by rw [IntKind.wrap_i64]; omega
  have v2 : IntKind.i64.wrap (e + n - 10) = e + n - 10 := by rw [IntKind.wrap_i64]; omega
  have v3 : IntKind.i64.wrap (e + n - 10 - 1) = e + n - 10 - 1 := by rw [IntKind.wrap_i64]; omega
  have l0 : (-24) ≤ l := by omega
  have l1 : l ≤ 2100 := by omega
  obtain ⟨D, hD⟩ : ∃ D, l - (-24) = D := ⟨_, rfl⟩
  have d1 : IntKind.i64.wrap (l - (-24)) = D := by rw [IntKind.wrap_i64]; omega
  have d2 : IntKind.i64.wrap (l + 24) = D := by rw [IntKind.wrap_i64]; omega
  have d3 : IntKind.u64.wrap D = D := by rw [IntKind.wrap_u64]; omega
  have d4 : IntKind.u64.wrap (D * 1024) = D * 1024 := by rw [IntKind.wrap_u64]; omega
  obtain ⟨t, ht⟩ : ∃ t, D * 1024 + (kept : Int) = t := ⟨_, rfl⟩
  have d5 : IntKind.u64.wrap (D * 1024 + (kept : Int)) = t := by rw [IntKind.wrap_u64]; omega
  rw [hD, ht]
  obtain ⟨R, hR⟩ : ∃ R, min t 31744 = R := ⟨_, rfl⟩
  rw [hR]
  have HR : Hid (min t 31744 = R) := hR
  clear hR
  have t0 : 0 ≤ t := by omega
  have Z := zero16 neg
  have I := infinite16 neg
  have I0 := infinite16 false
  rw [show ((false.toNat : Int) * 32768 + 31744) = 31744 by decide] at I0
  obtain ⟨_, b1, b2⟩ := bool_u32 neg
  generalize (neg.toNat : Int) = N at *
  have hor : t < 31744 → bits .or .u32 (N * 32768) t = N * 32768 + t := fun h => orJoin 15 N t b1 t0 (by omega) (by omega)
  have hwt : t < 31744 → IntKind.u32.wrap t = t := fun h => by rw [wr_u32]; omega
  have u1 : wrap64 (e - l) = e - l := by unfold wrap64; omega
  have u2 : max (e - l) 0 = 0 := by omega
  have u3 : wrap64 (l - e) = T := by unfold wrap64; omega
  clear he0 he1 hn hk l0 l1 hT hD ht b1 b2
  go_enter Try.func79, Try.ntmps79
  go_wp2_with fail
  clear hW
  refine region_q (C := Keeps W) (by kernel_rfl) (by kernel_rfl) (Keeps.drew W) ?_
  (iterate 12
    (apply wpQuiet_go _ (by rfl)
     · intro wq hq
       go_simp
       first
         | (go_at_call 87; exact qsame hq (LN.out _))
         | (go_at_call 97; exact qcall hq (least16 _))
         | exact rfl
     simp only [Act.put, List.setIfInBounds_toArray, List.set_cons_succ, List.set_cons_zero]))
  refine wpQuiet_nil ?_
  intro w1 hk1
  have q0 := k0 _ hk1
  have q1 := k1 _ hk1
  have q2 := k2 _ hk1
  clear v1 v2 v3 hl
  go_wp2_with fail
  refine (NS.out _).mono ?_
  rintro e' w2 ⟨rfl, B2⟩
  have hk2 := hk1.step B2
  clear q0 q1 q2 u1 u2 u3 hk1 B2 NS LN
  go_wp2_with fail
  refine region_q (C := Keeps W) (by kernel_rfl) (by kernel_rfl) hk2.more ?_
  (iterate 11
    (apply wpQuiet_go _ (by rfl)
     · intro wq hq
       go_simp
       first
         | (go_at_call 97; exact qcall hq (least16 _))
         | exact rfl
     simp only [Act.put, List.setIfInBounds_toArray, List.set_cons_succ, List.set_cons_zero]))
  refine wpQuiet_nil ?_
  clear hlt
  intro w3 hk3
  have H3 : Hid (Below w.heap.size w w3) := bel_step H.out hk3.below
  have r0 := k0 _ hk3
  have r1 := k1 _ hk3
  have r2 := k2 _ hk3
  clear d1 d2 d3 d4 d5
  go_wp2_with fail
  refine (I0 _).mono ?_
  rintro e' w4 ⟨rfl, B4⟩
  have hk4 := hk3.step B4
  have s0 := k0 _ hk4
  have s1 := k1 _ hk4
  have s2 := k2 _ hk4
  have H4 : Hid (Below w.heap.size w w4) := bel_step H3.out B4
  clear r0 r1 r2 k0 k1 k2 hk3 hk4 B4 H3 I0
  by_cases hi : 31744 ≤ t
  · go_wp2_with fail
    refine (I _).mono ?_
    rintro e' w5 ⟨rfl, B5⟩
    go_wp2
    go_ret
    exact ⟨congrArg (fun z => Ending.returned (.int .u32 z)) (by have := HR.out; omega), bel_step H4.out B5⟩
  · have hi' : t < 31744 := by omega
    have o1 := hor hi'
    have o2 := hwt hi'
    clear hor hwt
    go_wp2_with fail
    refine (Z _).mono ?_
    rintro e' w5 ⟨rfl, B5⟩
    go_wp2
    go_ret
    exact ⟨congrArg (fun z => Ending.returned (.int .u32 z)) (by have := HR.out; omega), bel_step H4.out B5⟩

set_option maxHeartbeats 1000000 in
theorem rndUp32 (neg : Bool) (m n T kept : Nat) (e l : Int) (more : Bool) (hm0 : ((m : Int) == 0) = false) (LN : Hid (∀ w, Calls Try.prog 87 #[.int .u64 (m : Int)] w fun e w' => e = .returned (.int .i64 (n : Int)) ∧ w' = w))
    (NS : Hid (∀ w, Calls Try.prog 103 #[.int .u64 (m : Int), .int .i64 (T : Int), .bool more] w fun e w' => e = .returned (.int .u64 (kept : Int)) ∧ Below w.heap.size w w'))
    (hmw : IntKind.u64.wrap (m : Int) = m) (he0 : -2000 ≤ e) (he1 : e ≤ 2000) (hn : n ≤ 64) (hl : max (e + n - 23 - 1) (-149) = l) (hT : l - e = T) (hlt : e < l) (hk : kept ≤ 4 * 8388608) (w : World) :
    Calls Try.prog 79 #[(.agg #[.int .i64 23, .int .i64 127, .int .u32 255]), .bool neg, .int .u64 (m : Int), .int .i64 e, .bool more] w fun e w' => e = .returned (.int .u32 (neg.toNat * 2147483648 + min ((l - (-149)) * 8388608 + kept) 2139095040)) ∧ Below w.heap.size w w' := by
  obtain ⟨W, hW⟩ : ∃ W, w.alloc (.cells #[.int .i64 23, .int .i64 127, .int .u32 255] 84) = W := ⟨_, rfl⟩
  have H : Hid (Below w.heap.size w W) := by unfold Hid; rw [← hW]; (repeat (first | refine Below.alloc ?_ (by first | (simp; done) | (simp; omega)) _ | refine Below.setCell ?_ (by first | (simp; done) | (simp; omega)) _ | refine bel_dN ?_ _ | refine Below.drew ?_ | exact Below.refl _ _))
  have hs : W.heap.size = w.heap.size + 1 := by rw [← hW]; simp
  obtain ⟨g, hg⟩ : ∃ g, w.heap.size = g := ⟨_, rfl⟩
  have k0 : ∀ w, Keeps W w → w.cell? ⟨g, 0, none⟩ = some (.int .i64 23) := fun w h => h.cell (by omega) (by rw [← hW, ← hg]; simp)
  have k1 : ∀ w, Keeps W w → w.cell? ⟨g, 1, none⟩ = some (.int .i64 127) := fun w h => h.cell (by omega) (by rw [← hW, ← hg]; simp)
  have k2 : ∀ w, Keeps W w → w.cell? ⟨g, 2, none⟩ = some (.int .u32 255) := fun w h => h.cell (by omega) (by rw [← hW, ← hg]; simp)
  have v1 : IntKind.i64.wrap (e + n) = e + n := by rw [IntKind.wrap_i64]; omega
  have v2 : IntKind.i64.wrap (e + n - 23) = e + n - 23 := by rw [IntKind.wrap_i64]; omega
  have v3 : IntKind.i64.wrap (e + n - 23 - 1) = e + n - 23 - 1 := by rw [IntKind.wrap_i64]; omega
  have l0 : (-149) ≤ l := by omega
  have l1 : l ≤ 2100 := by omega
  obtain ⟨D, hD⟩ : ∃ D, l - (-149) = D := ⟨_, rfl⟩
  have d1 : IntKind.i64.wrap (l - (-149)) = D := by rw [IntKind.wrap_i64]; omega
  have d2 : IntKind.i64.wrap (l + 149) = D := by rw [IntKind.wrap_i64]; omega
  have d3 : IntKind.u64.wrap D = D := by rw [IntKind.wrap_u64]; omega
  have d4 : IntKind.u64.wrap (D * 8388608) = D * 8388608 := by rw [IntKind.wrap_u64]; omega
  obtain ⟨t, ht⟩ : ∃ t, D * 8388608 + (kept : Int) = t := ⟨_, rfl⟩
  have d5 : IntKind.u64.wrap (D * 8388608 + (kept : Int)) = t := by rw [IntKind.wrap_u64]; omega
  rw [hD, ht]
  obtain ⟨R, hR⟩ : ∃ R, min t 2139095040 = R := ⟨_, rfl⟩
  rw [hR]
  have HR : Hid (min t 2139095040 = R) := hR
  clear hR
  have t0 : 0 ≤ t := by omega
  have Z := zero32 neg
  have I := infinite32 neg
  have I0 := infinite32 false
  rw [show ((false.toNat : Int) * 2147483648 + 2139095040) = 2139095040 by decide] at I0
  obtain ⟨_, b1, b2⟩ := bool_u32 neg
  generalize (neg.toNat : Int) = N at *
  have hor : t < 2139095040 → bits .or .u32 (N * 2147483648) t = N * 2147483648 + t := fun h => orJoin 31 N t b1 t0 (by omega) (by omega)
  have hwt : t < 2139095040 → IntKind.u32.wrap t = t := fun h => by rw [wr_u32]; omega
  have u1 : wrap64 (e - l) = e - l := by unfold wrap64; omega
  have u2 : max (e - l) 0 = 0 := by omega
  have u3 : wrap64 (l - e) = T := by unfold wrap64; omega
  clear he0 he1 hn hk l0 l1 hT hD ht b1 b2
  go_enter Try.func79, Try.ntmps79
  go_wp2_with fail
  clear hW
  refine region_q (C := Keeps W) (by kernel_rfl) (by kernel_rfl) (Keeps.drew W) ?_
  (iterate 12
    (apply wpQuiet_go _ (by rfl)
     · intro wq hq
       go_simp
       first
         | (go_at_call 87; exact qsame hq (LN.out _))
         | (go_at_call 97; exact qcall hq (least32 _))
         | exact rfl
     simp only [Act.put, List.setIfInBounds_toArray, List.set_cons_succ, List.set_cons_zero]))
  refine wpQuiet_nil ?_
  intro w1 hk1
  have q0 := k0 _ hk1
  have q1 := k1 _ hk1
  have q2 := k2 _ hk1
  clear v1 v2 v3 hl
  go_wp2_with fail
  refine (NS.out _).mono ?_
  rintro e' w2 ⟨rfl, B2⟩
  have hk2 := hk1.step B2
  clear q0 q1 q2 u1 u2 u3 hk1 B2 NS LN
  go_wp2_with fail
  refine region_q (C := Keeps W) (by kernel_rfl) (by kernel_rfl) hk2.more ?_
  (iterate 11
    (apply wpQuiet_go _ (by rfl)
     · intro wq hq
       go_simp
       first
         | (go_at_call 97; exact qcall hq (least32 _))
         | exact rfl
     simp only [Act.put, List.setIfInBounds_toArray, List.set_cons_succ, List.set_cons_zero]))
  refine wpQuiet_nil ?_
  clear hlt
  intro w3 hk3
  have H3 : Hid (Below w.heap.size w w3) := bel_step H.out hk3.below
  have r0 := k0 _ hk3
  have r1 := k1 _ hk3
  have r2 := k2 _ hk3
  clear d1 d2 d3 d4 d5
  go_wp2_with fail
  refine (I0 _).mono ?_
  rintro e' w4 ⟨rfl, B4⟩
  have hk4 := hk3.step B4
  have s0 := k0 _ hk4
  have s1 := k1 _ hk4
  have s2 := k2 _ hk4
  have H4 : Hid (Below w.heap.size w w4) := bel_step H3.out B4
  clear r0 r1 r2 k0 k1 k2 hk3 hk4 B4 H3 I0
  by_cases hi : 2139095040 ≤ t
  · go_wp2_with fail
    refine (I _).mono ?_
    rintro e' w5 ⟨rfl, B5⟩
    go_wp2
    go_ret
    exact ⟨congrArg (fun z => Ending.returned (.int .u32 z)) (by have := HR.out; omega), bel_step H4.out B5⟩
  · have hi' : t < 2139095040 := by omega
    have o1 := hor hi'
    have o2 := hwt hi'
    clear hor hwt
    go_wp2_with fail
    refine (Z _).mono ?_
    rintro e' w5 ⟨rfl, B5⟩
    go_wp2
    go_ret
    exact ⟨congrArg (fun z => Ending.returned (.int .u32 z)) (by have := HR.out; omega), bel_step H4.out B5⟩

set_option maxHeartbeats 1000000 in
theorem rndEx16 (neg : Bool) (m n T kept : Nat) (e l : Int) (more : Bool) (hm0 : ((m : Int) == 0) = false) (LN : Hid (∀ w, Calls Try.prog 87 #[.int .u64 (m : Int)] w fun e w' => e = .returned (.int .i64 (n : Int)) ∧ w' = w))
    (hmw : IntKind.u64.wrap ((m : Int) * 2 ^ T) = kept) (he0 : -2000 ≤ e) (he1 : e ≤ 2000) (hn : n ≤ 64) (hl : max (e + n - 10 - 1) (-24) = l) (hT : e - l = T) (hlt : ¬ e < l) (hTm : min T 64 = T) (hk : kept ≤ 4 * 1024) (w : World) :
    Calls Try.prog 79 #[(.agg #[.int .i64 10, .int .i64 15, .int .u32 31]), .bool neg, .int .u64 (m : Int), .int .i64 e, .bool more] w fun e w' => e = .returned (.int .u32 (neg.toNat * 32768 + min ((l - (-24)) * 1024 + kept) 31744)) ∧ Below w.heap.size w w' := by
  obtain ⟨W, hW⟩ : ∃ W, w.alloc (.cells #[.int .i64 10, .int .i64 15, .int .u32 31] 84) = W := ⟨_, rfl⟩
  have H : Hid (Below w.heap.size w W) := by unfold Hid; rw [← hW]; (repeat (first | refine Below.alloc ?_ (by first | (simp; done) | (simp; omega)) _ | refine Below.setCell ?_ (by first | (simp; done) | (simp; omega)) _ | refine bel_dN ?_ _ | refine Below.drew ?_ | exact Below.refl _ _))
  have hs : W.heap.size = w.heap.size + 1 := by rw [← hW]; simp
  obtain ⟨g, hg⟩ : ∃ g, w.heap.size = g := ⟨_, rfl⟩
  have k0 : ∀ w, Keeps W w → w.cell? ⟨g, 0, none⟩ = some (.int .i64 10) := fun w h => h.cell (by omega) (by rw [← hW, ← hg]; simp)
  have k1 : ∀ w, Keeps W w → w.cell? ⟨g, 1, none⟩ = some (.int .i64 15) := fun w h => h.cell (by omega) (by rw [← hW, ← hg]; simp)
  have k2 : ∀ w, Keeps W w → w.cell? ⟨g, 2, none⟩ = some (.int .u32 31) := fun w h => h.cell (by omega) (by rw [← hW, ← hg]; simp)
  have v1 : IntKind.i64.wrap (e + n) = e + n := by rw [IntKind.wrap_i64]; omega
  have v2 : IntKind.i64.wrap (e + n - 10) = e + n - 10 := by rw [IntKind.wrap_i64]; omega
  have v3 : IntKind.i64.wrap (e + n - 10 - 1) = e + n - 10 - 1 := by rw [IntKind.wrap_i64]; omega
  have l0 : (-24) ≤ l := by omega
  have l1 : l ≤ 2100 := by omega
  obtain ⟨D, hD⟩ : ∃ D, l - (-24) = D := ⟨_, rfl⟩
  have d1 : IntKind.i64.wrap (l - (-24)) = D := by rw [IntKind.wrap_i64]; omega
  have d2 : IntKind.i64.wrap (l + 24) = D := by rw [IntKind.wrap_i64]; omega
  have d3 : IntKind.u64.wrap D = D := by rw [IntKind.wrap_u64]; omega
  have d4 : IntKind.u64.wrap (D * 1024) = D * 1024 := by rw [IntKind.wrap_u64]; omega
  obtain ⟨t, ht⟩ : ∃ t, D * 1024 + (kept : Int) = t := ⟨_, rfl⟩
  have d5 : IntKind.u64.wrap (D * 1024 + (kept : Int)) = t := by rw [IntKind.wrap_u64]; omega
  rw [hD, ht]
  obtain ⟨R, hR⟩ : ∃ R, min t 31744 = R := ⟨_, rfl⟩
  rw [hR]
  have HR : Hid (min t 31744 = R) := hR
  clear hR
  have t0 : 0 ≤ t := by omega
  have Z := zero16 neg
  have I := infinite16 neg
  have I0 := infinite16 false
  rw [show ((false.toNat : Int) * 32768 + 31744) = 31744 by decide] at I0
  obtain ⟨_, b1, b2⟩ := bool_u32 neg
  generalize (neg.toNat : Int) = N at *
  have hor : t < 31744 → bits .or .u32 (N * 32768) t = N * 32768 + t := fun h => orJoin 15 N t b1 t0 (by omega) (by omega)
  have hwt : t < 31744 → IntKind.u32.wrap t = t := fun h => by rw [wr_u32]; omega
  have u1 : wrap64 (e - l) = T := by unfold wrap64; omega
  have u2 : max (T : Int) 0 = T := by omega
  clear he0 he1 hn hk l0 l1 hT hD ht b1 b2
  go_enter Try.func79, Try.ntmps79
  go_wp2_with fail
  clear hW
  refine region_q (C := Keeps W) (by kernel_rfl) (by kernel_rfl) (Keeps.drew W) ?_
  (iterate 12
    (apply wpQuiet_go _ (by rfl)
     · intro wq hq
       go_simp
       first
         | (go_at_call 87; exact qsame hq (LN.out _))
         | (go_at_call 97; exact qcall hq (least16 _))
         | exact rfl
     simp only [Act.put, List.setIfInBounds_toArray, List.set_cons_succ, List.set_cons_zero]))
  refine wpQuiet_nil ?_
  intro w1 hk1
  have q0 := k0 _ hk1
  have q1 := k1 _ hk1
  have q2 := k2 _ hk1
  clear v1 v2 v3 hl
  go_wp2_with fail
  clear q0 q1 q2 u1 u2 LN
  refine region_q (C := Keeps W) (by kernel_rfl) (by kernel_rfl) hk1.more ?_
  clear hk1
  (iterate 11
    (apply wpQuiet_go _ (by rfl)
     · intro wq hq
       go_simp
       first
         | (go_at_call 97; exact qcall hq (least16 _))
         | exact rfl
     simp only [Act.put, List.setIfInBounds_toArray, List.set_cons_succ, List.set_cons_zero]))
  refine wpQuiet_nil ?_
  clear hlt
  intro w3 hk3
  have H3 : Hid (Below w.heap.size w w3) := bel_step H.out hk3.below
  have r0 := k0 _ hk3
  have r1 := k1 _ hk3
  have r2 := k2 _ hk3
  clear d1 d2 d3 d4 d5
  go_wp2_with fail
  refine (I0 _).mono ?_
  rintro e' w4 ⟨rfl, B4⟩
  have hk4 := hk3.step B4
  have s0 := k0 _ hk4
  have s1 := k1 _ hk4
  have s2 := k2 _ hk4
  have H4 : Hid (Below w.heap.size w w4) := bel_step H3.out B4
  clear r0 r1 r2 k0 k1 k2 hk3 hk4 B4 H3 I0
  by_cases hi : 31744 ≤ t
  · go_wp2_with fail
    refine (I _).mono ?_
    rintro e' w5 ⟨rfl, B5⟩
    go_wp2
    go_ret
    exact ⟨congrArg (fun z => Ending.returned (.int .u32 z)) (by have := HR.out; omega), bel_step H4.out B5⟩
  · have hi' : t < 31744 := by omega
    have o1 := hor hi'
    have o2 := hwt hi'
    clear hor hwt
    go_wp2_with fail
    refine (Z _).mono ?_
    rintro e' w5 ⟨rfl, B5⟩
    go_wp2
    go_ret
    exact ⟨congrArg (fun z => Ending.returned (.int .u32 z)) (by have := HR.out; omega), bel_step H4.out B5⟩

set_option maxHeartbeats 1000000 in
theorem rndEx32 (neg : Bool) (m n T kept : Nat) (e l : Int) (more : Bool) (hm0 : ((m : Int) == 0) = false) (LN : Hid (∀ w, Calls Try.prog 87 #[.int .u64 (m : Int)] w fun e w' => e = .returned (.int .i64 (n : Int)) ∧ w' = w))
    (hmw : IntKind.u64.wrap ((m : Int) * 2 ^ T) = kept) (he0 : -2000 ≤ e) (he1 : e ≤ 2000) (hn : n ≤ 64) (hl : max (e + n - 23 - 1) (-149) = l) (hT : e - l = T) (hlt : ¬ e < l) (hTm : min T 64 = T) (hk : kept ≤ 4 * 8388608) (w : World) :
    Calls Try.prog 79 #[(.agg #[.int .i64 23, .int .i64 127, .int .u32 255]), .bool neg, .int .u64 (m : Int), .int .i64 e, .bool more] w fun e w' => e = .returned (.int .u32 (neg.toNat * 2147483648 + min ((l - (-149)) * 8388608 + kept) 2139095040)) ∧ Below w.heap.size w w' := by
  obtain ⟨W, hW⟩ : ∃ W, w.alloc (.cells #[.int .i64 23, .int .i64 127, .int .u32 255] 84) = W := ⟨_, rfl⟩
  have H : Hid (Below w.heap.size w W) := by unfold Hid; rw [← hW]; (repeat (first | refine Below.alloc ?_ (by first | (simp; done) | (simp; omega)) _ | refine Below.setCell ?_ (by first | (simp; done) | (simp; omega)) _ | refine bel_dN ?_ _ | refine Below.drew ?_ | exact Below.refl _ _))
  have hs : W.heap.size = w.heap.size + 1 := by rw [← hW]; simp
  obtain ⟨g, hg⟩ : ∃ g, w.heap.size = g := ⟨_, rfl⟩
  have k0 : ∀ w, Keeps W w → w.cell? ⟨g, 0, none⟩ = some (.int .i64 23) := fun w h => h.cell (by omega) (by rw [← hW, ← hg]; simp)
  have k1 : ∀ w, Keeps W w → w.cell? ⟨g, 1, none⟩ = some (.int .i64 127) := fun w h => h.cell (by omega) (by rw [← hW, ← hg]; simp)
  have k2 : ∀ w, Keeps W w → w.cell? ⟨g, 2, none⟩ = some (.int .u32 255) := fun w h => h.cell (by omega) (by rw [← hW, ← hg]; simp)
  have v1 : IntKind.i64.wrap (e + n) = e + n := by rw [IntKind.wrap_i64]; omega
  have v2 : IntKind.i64.wrap (e + n - 23) = e + n - 23 := by rw [IntKind.wrap_i64]; omega
  have v3 : IntKind.i64.wrap (e + n - 23 - 1) = e + n - 23 - 1 := by rw [IntKind.wrap_i64]; omega
  have l0 : (-149) ≤ l := by omega
  have l1 : l ≤ 2100 := by omega
  obtain ⟨D, hD⟩ : ∃ D, l - (-149) = D := ⟨_, rfl⟩
  have d1 : IntKind.i64.wrap (l - (-149)) = D := by rw [IntKind.wrap_i64]; omega
  have d2 : IntKind.i64.wrap (l + 149) = D := by rw [IntKind.wrap_i64]; omega
  have d3 : IntKind.u64.wrap D = D := by rw [IntKind.wrap_u64]; omega
  have d4 : IntKind.u64.wrap (D * 8388608) = D * 8388608 := by rw [IntKind.wrap_u64]; omega
  obtain ⟨t, ht⟩ : ∃ t, D * 8388608 + (kept : Int) = t := ⟨_, rfl⟩
  have d5 : IntKind.u64.wrap (D * 8388608 + (kept : Int)) = t := by rw [IntKind.wrap_u64]; omega
  rw [hD, ht]
  obtain ⟨R, hR⟩ : ∃ R, min t 2139095040 = R := ⟨_, rfl⟩
  rw [hR]
  have HR : Hid (min t 2139095040 = R) := hR
  clear hR
  have t0 : 0 ≤ t := by omega
  have Z := zero32 neg
  have I := infinite32 neg
  have I0 := infinite32 false
  rw [show ((false.toNat : Int) * 2147483648 + 2139095040) = 2139095040 by decide] at I0
  obtain ⟨_, b1, b2⟩ := bool_u32 neg
  generalize (neg.toNat : Int) = N at *
  have hor : t < 2139095040 → bits .or .u32 (N * 2147483648) t = N * 2147483648 + t := fun h => orJoin 31 N t b1 t0 (by omega) (by omega)
  have hwt : t < 2139095040 → IntKind.u32.wrap t = t := fun h => by rw [wr_u32]; omega
  have u1 : wrap64 (e - l) = T := by unfold wrap64; omega
  have u2 : max (T : Int) 0 = T := by omega
  clear he0 he1 hn hk l0 l1 hT hD ht b1 b2
  go_enter Try.func79, Try.ntmps79
  go_wp2_with fail
  clear hW
  refine region_q (C := Keeps W) (by kernel_rfl) (by kernel_rfl) (Keeps.drew W) ?_
  (iterate 12
    (apply wpQuiet_go _ (by rfl)
     · intro wq hq
       go_simp
       first
         | (go_at_call 87; exact qsame hq (LN.out _))
         | (go_at_call 97; exact qcall hq (least32 _))
         | exact rfl
     simp only [Act.put, List.setIfInBounds_toArray, List.set_cons_succ, List.set_cons_zero]))
  refine wpQuiet_nil ?_
  intro w1 hk1
  have q0 := k0 _ hk1
  have q1 := k1 _ hk1
  have q2 := k2 _ hk1
  clear v1 v2 v3 hl
  go_wp2_with fail
  clear q0 q1 q2 u1 u2 LN
  refine region_q (C := Keeps W) (by kernel_rfl) (by kernel_rfl) hk1.more ?_
  clear hk1
  (iterate 11
    (apply wpQuiet_go _ (by rfl)
     · intro wq hq
       go_simp
       first
         | (go_at_call 97; exact qcall hq (least32 _))
         | exact rfl
     simp only [Act.put, List.setIfInBounds_toArray, List.set_cons_succ, List.set_cons_zero]))
  refine wpQuiet_nil ?_
  clear hlt
  intro w3 hk3
  have H3 : Hid (Below w.heap.size w w3) := bel_step H.out hk3.below
  have r0 := k0 _ hk3
  have r1 := k1 _ hk3
  have r2 := k2 _ hk3
  clear d1 d2 d3 d4 d5
  go_wp2_with fail
  refine (I0 _).mono ?_
  rintro e' w4 ⟨rfl, B4⟩
  have hk4 := hk3.step B4
  have s0 := k0 _ hk4
  have s1 := k1 _ hk4
  have s2 := k2 _ hk4
  have H4 : Hid (Below w.heap.size w w4) := bel_step H3.out B4
  clear r0 r1 r2 k0 k1 k2 hk3 hk4 B4 H3 I0
  by_cases hi : 2139095040 ≤ t
  · go_wp2_with fail
    refine (I _).mono ?_
    rintro e' w5 ⟨rfl, B5⟩
    go_wp2
    go_ret
    exact ⟨congrArg (fun z => Ending.returned (.int .u32 z)) (by have := HR.out; omega), bel_step H4.out B5⟩
  · have hi' : t < 2139095040 := by omega
    have o1 := hor hi'
    have o2 := hwt hi'
    clear hor hwt
    go_wp2_with fail
    refine (Z _).mono ?_
    rintro e' w5 ⟨rfl, B5⟩
    go_wp2
    go_ret
    exact ⟨congrArg (fun z => Ending.returned (.int .u32 z)) (by have := HR.out; omega), bel_step H4.out B5⟩

end Go.Proofs.Ytnimlkobcginjaa
