/-
  Floats: the small functions of both sides.
-/
import Derived.Test.YtljnciclbjcinaaGreatDoorRows
import Derived.Test.YtljnciclbjcinaaGreatDoorFBits
import Derived.Test.YtljnciclbjcinaaGreatDoorBel
import Derived.Test.YtljnciclbjcinaaGreatDoorQTail
import Derived.WalkKit
import Derived.Below
import Derived.Outline
import Derived.Laws.Bits64b
import Derived.Lib.BitFns
import Derived.Deep.QuietTactic
namespace Go.Proofs.YtljnciclbjcinaaGreatDoor
open Go.RowKit


theorem formNo (kind : Int) (h1 : kind ≠ 16) (h2 : kind ≠ 32) (w : World) :
    Calls Tryz.prog 121 #[.int .i64 kind] w fun e w' => e = .returned (.tuple #[.agg #[.int .i64 0, .int .i64 0, .int .u32 0], .bool false]) ∧ Below w.heap.size w w' := by
  have k1 : (kind == 16) = false := by simp [h1]
  have k2 : (kind == 32) = false := by simp [h2]
  go_enter Tryz.func121, Tryz.ntmps121
  go_wp2
  refine bodyPost_ret (v := .tuple #[.agg #[.int .i64 0, .int .i64 0, .int .u32 0], .bool false]) (by simp [results, Tryz.results121, go_sem]) rfl ⟨rfl, ?_⟩
  (repeat (first | refine Below.alloc ?_ (by first | (simp; done) | (simp; omega)) _ | refine Below.setCell ?_ (by first | (simp; done) | (simp; omega)) _ | refine bel_dN ?_ _ | refine Below.drew ?_ | exact Below.refl _ _))

theorem form16 (w : World) :
    Calls Tryz.prog 121 #[.int .i64 16] w fun e w' => e = .returned (.tuple #[(.agg #[.int .i64 10, .int .i64 15, .int .u32 31]), .bool true]) ∧ Below w.heap.size w w' := by
  go_enter Tryz.func121, Tryz.ntmps121
  go_wp2
  refine bodyPost_ret (v := .tuple #[(.agg #[.int .i64 10, .int .i64 15, .int .u32 31]), .bool true]) (by simp [results, Tryz.results121, go_sem]) rfl ⟨rfl, ?_⟩
  (repeat (first | refine Below.alloc ?_ (by first | (simp; done) | (simp; omega)) _ | refine Below.setCell ?_ (by first | (simp; done) | (simp; omega)) _ | refine bel_dN ?_ _ | refine Below.drew ?_ | exact Below.refl _ _))

theorem form32 (w : World) :
    Calls Tryz.prog 121 #[.int .i64 32] w fun e w' => e = .returned (.tuple #[(.agg #[.int .i64 23, .int .i64 127, .int .u32 255]), .bool true]) ∧ Below w.heap.size w w' := by
  go_enter Tryz.func121, Tryz.ntmps121
  go_wp2
  refine bodyPost_ret (v := .tuple #[(.agg #[.int .i64 23, .int .i64 127, .int .u32 255]), .bool true]) (by simp [results, Tryz.results121, go_sem]) rfl ⟨rfl, ?_⟩
  (repeat (first | refine Below.alloc ?_ (by first | (simp; done) | (simp; omega)) _ | refine Below.setCell ?_ (by first | (simp; done) | (simp; omega)) _ | refine bel_dN ?_ _ | refine Below.drew ?_ | exact Below.refl _ _))

theorem lenO16 (w : World) : Calls Tryz.prog 168 #[.int .u32 31] w fun e w' => e = .returned (.int .i64 5) ∧ w' = w := by
  have l5 : Lib.len8 31 = 5 := by decide +kernel
  go_enter Tryz.func168, Tryz.ntmps168
  go_wp2
  go_ret
  exact ⟨rfl, rfl⟩

theorem lenO32 (w : World) : Calls Tryz.prog 168 #[.int .u32 255] w fun e w' => e = .returned (.int .i64 8) ∧ w' = w := by
  have l5 : Lib.len8 255 = 8 := by decide +kernel
  go_enter Tryz.func168, Tryz.ntmps168
  go_wp2
  go_ret
  exact ⟨rfl, rfl⟩

theorem signPlace16 (w : World) :
    Calls Tryz.prog 159 #[(.agg #[.int .i64 10, .int .i64 15, .int .u32 31])] w fun e w' => e = .returned (.int .i64 15) ∧ Below w.heap.size w w' := by
  obtain ⟨W, hW⟩ : ∃ W, w.alloc (.cells #[.int .i64 10, .int .i64 15, .int .u32 31] 191) = W := ⟨_, rfl⟩
  have hw1 : IntKind.i64.wrap (10 + 5) = 15 := by rw [IntKind.wrap_i64]; omega
  have hw2 : IntKind.i64.wrap 15 = 15 := by rw [IntKind.wrap_i64]; omega
  have H : Hid (Below w.heap.size w W) := by unfold Hid; rw [← hW]; (repeat (first | refine Below.alloc ?_ (by first | (simp; done) | (simp; omega)) _ | refine Below.setCell ?_ (by first | (simp; done) | (simp; omega)) _ | refine bel_dN ?_ _ | refine Below.drew ?_ | exact Below.refl _ _))
  have hs : W.heap.size = w.heap.size + 1 := by rw [← hW]; simp
  obtain ⟨g, hg⟩ : ∃ g, w.heap.size = g := ⟨_, rfl⟩
  have k0 : ∀ w, Keeps W w → w.cell? ⟨g, 0, none⟩ = some (.int .i64 10) := fun w h => h.cell (by omega) (by rw [← hW, ← hg]; simp)
  have k2 : ∀ w, Keeps W w → w.cell? ⟨g, 2, none⟩ = some (.int .u32 31) := fun w h => h.cell (by omega) (by rw [← hW, ← hg]; simp)
  go_enter Tryz.func159, Tryz.ntmps159
  go_wp2
  refine region_q (C := Keeps W) (by kernel_rfl) (by kernel_rfl) (Keeps.drew W) ?_
  (iterate 7
    (apply wpQuiet_go _ (by rfl)
     · intro wq hq
       go_simp
       first
         | (go_at_call 168; exact qsame hq (lenO16 _))
         | exact rfl
     simp only [Act.put, List.setIfInBounds_toArray, List.set_cons_succ, List.set_cons_zero]))
  refine wpQuiet_nil ?_
  intro w1 hk
  have H1 : Hid (Below w.heap.size w w1) := bel_step H.out hk.below
  clear k0 k2
  go_wp2
  go_ret
  exact ⟨rfl, H1.out⟩

theorem signPlace32 (w : World) :
    Calls Tryz.prog 159 #[(.agg #[.int .i64 23, .int .i64 127, .int .u32 255])] w fun e w' => e = .returned (.int .i64 31) ∧ Below w.heap.size w w' := by
  obtain ⟨W, hW⟩ : ∃ W, w.alloc (.cells #[.int .i64 23, .int .i64 127, .int .u32 255] 191) = W := ⟨_, rfl⟩
  have hw1 : IntKind.i64.wrap (23 + 8) = 31 := by rw [IntKind.wrap_i64]; omega
  have hw2 : IntKind.i64.wrap 31 = 31 := by rw [IntKind.wrap_i64]; omega
  have H : Hid (Below w.heap.size w W) := by unfold Hid; rw [← hW]; (repeat (first | refine Below.alloc ?_ (by first | (simp; done) | (simp; omega)) _ | refine Below.setCell ?_ (by first | (simp; done) | (simp; omega)) _ | refine bel_dN ?_ _ | refine Below.drew ?_ | exact Below.refl _ _))
  have hs : W.heap.size = w.heap.size + 1 := by rw [← hW]; simp
  obtain ⟨g, hg⟩ : ∃ g, w.heap.size = g := ⟨_, rfl⟩
  have k0 : ∀ w, Keeps W w → w.cell? ⟨g, 0, none⟩ = some (.int .i64 23) := fun w h => h.cell (by omega) (by rw [← hW, ← hg]; simp)
  have k2 : ∀ w, Keeps W w → w.cell? ⟨g, 2, none⟩ = some (.int .u32 255) := fun w h => h.cell (by omega) (by rw [← hW, ← hg]; simp)
  go_enter Tryz.func159, Tryz.ntmps159
  go_wp2
  refine region_q (C := Keeps W) (by kernel_rfl) (by kernel_rfl) (Keeps.drew W) ?_
  (iterate 7
    (apply wpQuiet_go _ (by rfl)
     · intro wq hq
       go_simp
       first
         | (go_at_call 168; exact qsame hq (lenO32 _))
         | exact rfl
     simp only [Act.put, List.setIfInBounds_toArray, List.set_cons_succ, List.set_cons_zero]))
  refine wpQuiet_nil ?_
  intro w1 hk
  have H1 : Hid (Below w.heap.size w w1) := bel_step H.out hk.below
  clear k0 k2
  go_wp2
  go_ret
  exact ⟨rfl, H1.out⟩

theorem least16 (w : World) :
    Calls Tryz.prog 144 #[(.agg #[.int .i64 10, .int .i64 15, .int .u32 31])] w fun e w' => e = .returned (.int .i64 (-24)) ∧ Below w.heap.size w w' := by
  go_enter Tryz.func144, Tryz.ntmps144
  go_wp2
  go_ret
  refine ⟨rfl, ?_⟩
  (repeat (first | refine Below.alloc ?_ (by first | (simp; done) | (simp; omega)) _ | refine Below.setCell ?_ (by first | (simp; done) | (simp; omega)) _ | refine bel_dN ?_ _ | refine Below.drew ?_ | exact Below.refl _ _))

theorem least32 (w : World) :
    Calls Tryz.prog 144 #[(.agg #[.int .i64 23, .int .i64 127, .int .u32 255])] w fun e w' => e = .returned (.int .i64 (-149)) ∧ Below w.heap.size w w' := by
  go_enter Tryz.func144, Tryz.ntmps144
  go_wp2
  go_ret
  refine ⟨rfl, ?_⟩
  (repeat (first | refine Below.alloc ?_ (by first | (simp; done) | (simp; omega)) _ | refine Below.setCell ?_ (by first | (simp; done) | (simp; omega)) _ | refine bel_dN ?_ _ | refine Below.drew ?_ | exact Below.refl _ _))

theorem maskF16 (a : Int) (h0 : 0 ≤ a) (h1 : a ≤ 4294967295) : bits .and .u32 (a / 32768) 1 = a / 32768 % 2 ∧ bits .and .u32 (a / 1024) 31 = a / 1024 % 32 ∧ bits .and .u32 a 1023 = a % 1024 :=
  ⟨low32 1 (by omega) (a / 32768) (by omega) (by omega), low32 5 (by omega) (a / 1024) (by omega) (by omega), low32 10 (by omega) a h0 h1⟩

theorem maskF32 (a : Int) (h0 : 0 ≤ a) (h1 : a ≤ 4294967295) : bits .and .u32 (a / 2147483648) 1 = a / 2147483648 % 2 ∧ bits .and .u32 (a / 8388608) 255 = a / 8388608 % 256 ∧ bits .and .u32 a 8388607 = a % 8388608 :=
  ⟨low32 1 (by omega) (a / 2147483648) (by omega) (by omega), low32 8 (by omega) (a / 8388608) (by omega) (by omega), low32 23 (by omega) a h0 h1⟩

theorem split16 (a : Int) (h0 : 0 ≤ a) (h1 : a ≤ 4294967295) (w : World) :
    Calls Tryz.prog 143 #[(.agg #[.int .i64 10, .int .i64 15, .int .u32 31]), .int .u32 a] w fun e w' => e = .returned (.agg #[.int .u32 (a / 32768 % 2), .int .u32 (a / 1024 % 32), .int .u32 (a % 1024)]) ∧ Below w.heap.size w w' := by
  obtain ⟨W, hW⟩ : ∃ W, (w.alloc (.cells #[.int .i64 10, .int .i64 15, .int .u32 31] 191)).alloc (.cells #[.int .u32 0, .int .u32 0, .int .u32 0] 218) = W := ⟨_, rfl⟩
  have H : Hid (Below w.heap.size w W) := by unfold Hid; rw [← hW]; (repeat (first | refine Below.alloc ?_ (by first | (simp; done) | (simp; omega)) _ | refine Below.setCell ?_ (by first | (simp; done) | (simp; omega)) _ | refine bel_dN ?_ _ | refine Below.drew ?_ | exact Below.refl _ _))
  have hs : W.heap.size = w.heap.size + 2 := by rw [← hW]; simp
  obtain ⟨g, hg⟩ : ∃ g, w.heap.size = g := ⟨_, rfl⟩
  have k0 : ∀ w, Keeps W w → w.cell? ⟨g, 0, none⟩ = some (.int .i64 10) := fun w h => h.cell (by omega) (by rw [← hW, ← hg]; simp)
  have k1 : ∀ w, Keeps W w → w.cell? ⟨g, 1, none⟩ = some (.int .i64 15) := fun w h => h.cell (by omega) (by rw [← hW, ← hg]; simp)
  have k2 : ∀ w, Keeps W w → w.cell? ⟨g, 2, none⟩ = some (.int .u32 31) := fun w h => h.cell (by omega) (by rw [← hW, ← hg]; simp)
  have d : ∀ j, j < 3 → W.cell? ⟨g + 1, j, none⟩ = some (.int .u32 0) := fun j hj => by rw [← hW, ← hg]; rcases (by omega : j = 0 ∨ j = 1 ∨ j = 2) with rfl | rfl | rfl <;> simp
  have z : ∀ j, W.frozen? ⟨g + 1, j, none⟩ = false := fun j => by rw [← hW, ← hg]; simp
  obtain ⟨m1, m2, m3⟩ := maskF16 a h0 h1
  have hw1 : IntKind.u32.wrap 1024 = 1024 := by rw [wr_u32]; omega
  have hw2 : IntKind.u32.wrap 1023 = 1023 := by rw [wr_u32]; omega
  go_enter Tryz.func143, Tryz.ntmps143
  go_wp2
  clear hW
  refine region_qtail (C := Keeps W) 19 (by kernel_rfl) (by kernel_rfl) (Keeps.drew W) ?_
  simp only [List.take_succ_cons, List.take_zero, List.drop_succ_cons, List.drop_zero]
  (iterate 19
    (apply wpQuiet_go _ (by rfl)
     · intro wq hq
       go_simp
       first
         | (go_at_call 159; exact qcall hq (signPlace16 _))
         | exact rfl
     simp only [Act.put, List.setIfInBounds_toArray, List.set_cons_succ, List.set_cons_zero]))
  refine wpQuiet_nil ?_
  intro w1 hk
  have e0 := hk.cell (by omega) (d 0 (by omega))
  have e1 := hk.cell (by omega) (d 1 (by omega))
  have e2 := hk.cell (by omega) (d 2 (by omega))
  have f0 := hk.frozen (by omega) (z 0)
  have f1 := hk.frozen (by omega) (z 1)
  have f2 := hk.frozen (by omega) (z 2)
  have H1 : Hid (Below w.heap.size w w1) := bel_step H.out hk.below
  clear k0 k1 k2 d z hk H
  go_wp2
  refine bodyPost_ret (v := .agg #[.int .u32 (a / 32768 % 2), .int .u32 (a / 1024 % 32), .int .u32 (a % 1024)]) (by simp [results, Tryz.results143, go_sem, e0, e1, e2]) rfl ⟨rfl, ?_⟩
  exact ((H1.out.setCell (p := ⟨g + 1, 0, none⟩) (by simp [hg]) _).setCell (p := ⟨g + 1, 1, none⟩) (by simp [hg]) _).setCell (p := ⟨g + 1, 2, none⟩) (by simp [hg]) _

theorem split32 (a : Int) (h0 : 0 ≤ a) (h1 : a ≤ 4294967295) (w : World) :
    Calls Tryz.prog 143 #[(.agg #[.int .i64 23, .int .i64 127, .int .u32 255]), .int .u32 a] w fun e w' => e = .returned (.agg #[.int .u32 (a / 2147483648 % 2), .int .u32 (a / 8388608 % 256), .int .u32 (a % 8388608)]) ∧ Below w.heap.size w w' := by
  obtain ⟨W, hW⟩ : ∃ W, (w.alloc (.cells #[.int .i64 23, .int .i64 127, .int .u32 255] 191)).alloc (.cells #[.int .u32 0, .int .u32 0, .int .u32 0] 218) = W := ⟨_, rfl⟩
  have H : Hid (Below w.heap.size w W) := by unfold Hid; rw [← hW]; (repeat (first | refine Below.alloc ?_ (by first | (simp; done) | (simp; omega)) _ | refine Below.setCell ?_ (by first | (simp; done) | (simp; omega)) _ | refine bel_dN ?_ _ | refine Below.drew ?_ | exact Below.refl _ _))
  have hs : W.heap.size = w.heap.size + 2 := by rw [← hW]; simp
  obtain ⟨g, hg⟩ : ∃ g, w.heap.size = g := ⟨_, rfl⟩
  have k0 : ∀ w, Keeps W w → w.cell? ⟨g, 0, none⟩ = some (.int .i64 23) := fun w h => h.cell (by omega) (by rw [← hW, ← hg]; simp)
  have k1 : ∀ w, Keeps W w → w.cell? ⟨g, 1, none⟩ = some (.int .i64 127) := fun w h => h.cell (by omega) (by rw [← hW, ← hg]; simp)
  have k2 : ∀ w, Keeps W w → w.cell? ⟨g, 2, none⟩ = some (.int .u32 255) := fun w h => h.cell (by omega) (by rw [← hW, ← hg]; simp)
  have d : ∀ j, j < 3 → W.cell? ⟨g + 1, j, none⟩ = some (.int .u32 0) := fun j hj => by rw [← hW, ← hg]; rcases (by omega : j = 0 ∨ j = 1 ∨ j = 2) with rfl | rfl | rfl <;> simp
  have z : ∀ j, W.frozen? ⟨g + 1, j, none⟩ = false := fun j => by rw [← hW, ← hg]; simp
  obtain ⟨m1, m2, m3⟩ := maskF32 a h0 h1
  have hw1 : IntKind.u32.wrap 8388608 = 8388608 := by rw [wr_u32]; omega
  have hw2 : IntKind.u32.wrap 8388607 = 8388607 := by rw [wr_u32]; omega
  go_enter Tryz.func143, Tryz.ntmps143
  go_wp2
  clear hW
  refine region_qtail (C := Keeps W) 19 (by kernel_rfl) (by kernel_rfl) (Keeps.drew W) ?_
  simp only [List.take_succ_cons, List.take_zero, List.drop_succ_cons, List.drop_zero]
  (iterate 19
    (apply wpQuiet_go _ (by rfl)
     · intro wq hq
       go_simp
       first
         | (go_at_call 159; exact qcall hq (signPlace32 _))
         | exact rfl
     simp only [Act.put, List.setIfInBounds_toArray, List.set_cons_succ, List.set_cons_zero]))
  refine wpQuiet_nil ?_
  intro w1 hk
  have e0 := hk.cell (by omega) (d 0 (by omega))
  have e1 := hk.cell (by omega) (d 1 (by omega))
  have e2 := hk.cell (by omega) (d 2 (by omega))
  have f0 := hk.frozen (by omega) (z 0)
  have f1 := hk.frozen (by omega) (z 1)
  have f2 := hk.frozen (by omega) (z 2)
  have H1 : Hid (Below w.heap.size w w1) := bel_step H.out hk.below
  clear k0 k1 k2 d z hk H
  go_wp2
  refine bodyPost_ret (v := .agg #[.int .u32 (a / 2147483648 % 2), .int .u32 (a / 8388608 % 256), .int .u32 (a % 8388608)]) (by simp [results, Tryz.results143, go_sem, e0, e1, e2]) rfl ⟨rfl, ?_⟩
  exact ((H1.out.setCell (p := ⟨g + 1, 0, none⟩) (by simp [hg]) _).setCell (p := ⟨g + 1, 1, none⟩) (by simp [hg]) _).setCell (p := ⟨g + 1, 2, none⟩) (by simp [hg]) _

theorem joined16 (s x f : Int) (s0 : 0 ≤ s) (s1 : s ≤ 1) (x0 : 0 ≤ x) (x1 : x ≤ 31) (f0 : 0 ≤ f) (f1 : f < 1024) :
    IntKind.u32.wrap (s * 32768) = s * 32768 ∧ IntKind.u32.wrap (x * 1024) = x * 1024 ∧ bits .or .u32 (s * 32768) (x * 1024) = s * 32768 + x * 1024 ∧ bits .or .u32 (s * 32768 + x * 1024) f = s * 32768 + x * 1024 + f := by
  refine ⟨by rw [wr_u32]; omega, by rw [wr_u32]; omega, ?_, ?_⟩
  · exact orJoin 15 s (x * 1024) s0 (by omega) (by omega) (by omega)
  · have h := orJoin 10 (s * 32 + x) f (by omega) f0 (by omega) (by omega)
    have e : (s * 32 + x) * (2 : Int) ^ 10 = s * 32768 + x * 1024 := by omega
    rw [e] at h
    exact h

theorem joined32 (s x f : Int) (s0 : 0 ≤ s) (s1 : s ≤ 1) (x0 : 0 ≤ x) (x1 : x ≤ 255) (f0 : 0 ≤ f) (f1 : f < 8388608) :
    IntKind.u32.wrap (s * 2147483648) = s * 2147483648 ∧ IntKind.u32.wrap (x * 8388608) = x * 8388608 ∧ bits .or .u32 (s * 2147483648) (x * 8388608) = s * 2147483648 + x * 8388608 ∧ bits .or .u32 (s * 2147483648 + x * 8388608) f = s * 2147483648 + x * 8388608 + f := by
  refine ⟨by rw [wr_u32]; omega, by rw [wr_u32]; omega, ?_, ?_⟩
  · exact orJoin 31 s (x * 8388608) s0 (by omega) (by omega) (by omega)
  · have h := orJoin 23 (s * 256 + x) f (by omega) f0 (by omega) (by omega)
    have e : (s * 256 + x) * (2 : Int) ^ 23 = s * 2147483648 + x * 8388608 := by omega
    rw [e] at h
    exact h

theorem join16 (s x f : Int) (s0 : 0 ≤ s) (s1 : s ≤ 1) (x0 : 0 ≤ x) (x1 : x ≤ 31) (f0 : 0 ≤ f) (f1 : f < 1024) (w : World) :
    Calls Tryz.prog 145 #[(.agg #[.int .i64 10, .int .i64 15, .int .u32 31]), .agg #[.int .u32 s, .int .u32 x, .int .u32 f]] w fun e w' => e = .returned (.int .u32 (s * 32768 + x * 1024 + f)) ∧ Below w.heap.size w w' := by
  obtain ⟨W, hW⟩ : ∃ W, (w.alloc (.cells #[.int .i64 10, .int .i64 15, .int .u32 31] 191)).alloc (.cells #[.int .u32 s, .int .u32 x, .int .u32 f] 218) = W := ⟨_, rfl⟩
  have H : Hid (Below w.heap.size w W) := by unfold Hid; rw [← hW]; (repeat (first | refine Below.alloc ?_ (by first | (simp; done) | (simp; omega)) _ | refine Below.setCell ?_ (by first | (simp; done) | (simp; omega)) _ | refine bel_dN ?_ _ | refine Below.drew ?_ | exact Below.refl _ _))
  have hs : W.heap.size = w.heap.size + 2 := by rw [← hW]; simp
  obtain ⟨g, hg⟩ : ∃ g, w.heap.size = g := ⟨_, rfl⟩
  have k0 : ∀ w, Keeps W w → w.cell? ⟨g, 0, none⟩ = some (.int .i64 10) := fun w h => h.cell (by omega) (by rw [← hW, ← hg]; simp)
  have k1 : ∀ w, Keeps W w → w.cell? ⟨g, 1, none⟩ = some (.int .i64 15) := fun w h => h.cell (by omega) (by rw [← hW, ← hg]; simp)
  have k2 : ∀ w, Keeps W w → w.cell? ⟨g, 2, none⟩ = some (.int .u32 31) := fun w h => h.cell (by omega) (by rw [← hW, ← hg]; simp)
  have l0 : ∀ w, Keeps W w → w.cell? ⟨g + 1, 0, none⟩ = some (.int .u32 s) := fun w h => h.cell (by omega) (by rw [← hW, ← hg]; simp)
  have l1 : ∀ w, Keeps W w → w.cell? ⟨g + 1, 1, none⟩ = some (.int .u32 x) := fun w h => h.cell (by omega) (by rw [← hW, ← hg]; simp)
  have l2 : ∀ w, Keeps W w → w.cell? ⟨g + 1, 2, none⟩ = some (.int .u32 f) := fun w h => h.cell (by omega) (by rw [← hW, ← hg]; simp)
  obtain ⟨m1, m2, m3, m4⟩ := joined16 s x f s0 s1 x0 x1 f0 f1
  clear s0 s1 x0 x1 f0 f1
  go_enter Tryz.func145, Tryz.ntmps145
  go_wp2
  clear hW
  refine region_q (C := Keeps W) (by kernel_rfl) (by kernel_rfl) (Keeps.drew W) ?_
  (iterate 15
    (apply wpQuiet_go _ (by rfl)
     · intro wq hq
       go_simp
       first
         | (go_at_call 159; exact qcall hq (signPlace16 _))
         | exact rfl
     simp only [Act.put, List.setIfInBounds_toArray, List.set_cons_succ, List.set_cons_zero]))
  refine wpQuiet_nil ?_
  intro w1 hk
  have H1 : Hid (Below w.heap.size w w1) := bel_step H.out hk.below
  clear k0 k1 k2 l0 l1 l2 hk H
  go_wp2
  go_ret
  exact ⟨rfl, H1.out⟩

theorem join32 (s x f : Int) (s0 : 0 ≤ s) (s1 : s ≤ 1) (x0 : 0 ≤ x) (x1 : x ≤ 255) (f0 : 0 ≤ f) (f1 : f < 8388608) (w : World) :
    Calls Tryz.prog 145 #[(.agg #[.int .i64 23, .int .i64 127, .int .u32 255]), .agg #[.int .u32 s, .int .u32 x, .int .u32 f]] w fun e w' => e = .returned (.int .u32 (s * 2147483648 + x * 8388608 + f)) ∧ Below w.heap.size w w' := by
  obtain ⟨W, hW⟩ : ∃ W, (w.alloc (.cells #[.int .i64 23, .int .i64 127, .int .u32 255] 191)).alloc (.cells #[.int .u32 s, .int .u32 x, .int .u32 f] 218) = W := ⟨_, rfl⟩
  have H : Hid (Below w.heap.size w W) := by unfold Hid; rw [← hW]; (repeat (first | refine Below.alloc ?_ (by first | (simp; done) | (simp; omega)) _ | refine Below.setCell ?_ (by first | (simp; done) | (simp; omega)) _ | refine bel_dN ?_ _ | refine Below.drew ?_ | exact Below.refl _ _))
  have hs : W.heap.size = w.heap.size + 2 := by rw [← hW]; simp
  obtain ⟨g, hg⟩ : ∃ g, w.heap.size = g := ⟨_, rfl⟩
  have k0 : ∀ w, Keeps W w → w.cell? ⟨g, 0, none⟩ = some (.int .i64 23) := fun w h => h.cell (by omega) (by rw [← hW, ← hg]; simp)
  have k1 : ∀ w, Keeps W w → w.cell? ⟨g, 1, none⟩ = some (.int .i64 127) := fun w h => h.cell (by omega) (by rw [← hW, ← hg]; simp)
  have k2 : ∀ w, Keeps W w → w.cell? ⟨g, 2, none⟩ = some (.int .u32 255) := fun w h => h.cell (by omega) (by rw [← hW, ← hg]; simp)
  have l0 : ∀ w, Keeps W w → w.cell? ⟨g + 1, 0, none⟩ = some (.int .u32 s) := fun w h => h.cell (by omega) (by rw [← hW, ← hg]; simp)
  have l1 : ∀ w, Keeps W w → w.cell? ⟨g + 1, 1, none⟩ = some (.int .u32 x) := fun w h => h.cell (by omega) (by rw [← hW, ← hg]; simp)
  have l2 : ∀ w, Keeps W w → w.cell? ⟨g + 1, 2, none⟩ = some (.int .u32 f) := fun w h => h.cell (by omega) (by rw [← hW, ← hg]; simp)
  obtain ⟨m1, m2, m3, m4⟩ := joined32 s x f s0 s1 x0 x1 f0 f1
  clear s0 s1 x0 x1 f0 f1
  go_enter Tryz.func145, Tryz.ntmps145
  go_wp2
  clear hW
  refine region_q (C := Keeps W) (by kernel_rfl) (by kernel_rfl) (Keeps.drew W) ?_
  (iterate 15
    (apply wpQuiet_go _ (by rfl)
     · intro wq hq
       go_simp
       first
         | (go_at_call 159; exact qcall hq (signPlace32 _))
         | exact rfl
     simp only [Act.put, List.setIfInBounds_toArray, List.set_cons_succ, List.set_cons_zero]))
  refine wpQuiet_nil ?_
  intro w1 hk
  have H1 : Hid (Below w.heap.size w w1) := bel_step H.out hk.below
  clear k0 k1 k2 l0 l1 l2 hk H
  go_wp2
  go_ret
  exact ⟨rfl, H1.out⟩

theorem bool_u32 (b : Bool) : IntKind.u32.wrap (b.toNat : Int) = b.toNat ∧ 0 ≤ (b.toNat : Int) ∧ (b.toNat : Int) ≤ 1 := by cases b <;> refine ⟨?_, by decide, by decide⟩ <;> rw [wr_u32] <;> decide

theorem noNumber16 (w : World) :
    Calls Tryz.prog 123 #[(.agg #[.int .i64 10, .int .i64 15, .int .u32 31])] w fun e w' => e = .returned (.int .u32 (31744 + 512)) ∧ Below w.heap.size w w' := by
  obtain ⟨W, hW⟩ : ∃ W, w.alloc (.cells #[.int .i64 10, .int .i64 15, .int .u32 31] 191) = W := ⟨_, rfl⟩
  have H : Hid (Below w.heap.size w W) := by unfold Hid; rw [← hW]; (repeat (first | refine Below.alloc ?_ (by first | (simp; done) | (simp; omega)) _ | refine Below.setCell ?_ (by first | (simp; done) | (simp; omega)) _ | refine bel_dN ?_ _ | refine Below.drew ?_ | exact Below.refl _ _))
  have hs : W.heap.size = w.heap.size + 1 := by rw [← hW]; simp
  obtain ⟨g, hg⟩ : ∃ g, w.heap.size = g := ⟨_, rfl⟩
  have k0 : ∀ w, Keeps W w → w.cell? ⟨g, 0, none⟩ = some (.int .i64 10) := fun w h => h.cell (by omega) (by rw [← hW, ← hg]; simp)
  have k1 : ∀ w, Keeps W w → w.cell? ⟨g, 1, none⟩ = some (.int .i64 15) := fun w h => h.cell (by omega) (by rw [← hW, ← hg]; simp)
  have k2 : ∀ w, Keeps W w → w.cell? ⟨g, 2, none⟩ = some (.int .u32 31) := fun w h => h.cell (by omega) (by rw [← hW, ← hg]; simp)
  have J := join16 0 31 512 (by omega) (by omega) (by omega) (by omega) (by omega) (by omega)
  rw [show (0 : Int) * 32768 + 31 * 1024 + 512 = 31744 + 512 by omega] at J
  have v1 : IntKind.i64.wrap 9 = 9 := by rw [IntKind.wrap_i64]; omega
  have v2 : IntKind.u32.wrap 512 = 512 := by rw [wr_u32]; omega
  go_enter Tryz.func123, Tryz.ntmps123
  go_wp2
  clear hW
  refine region_q (C := Keeps W) (by kernel_rfl) (by kernel_rfl) (Keeps.drew W) ?_
  (iterate 10
    (apply wpQuiet_go _ (by rfl)
     · intro wq hq
       go_simp
       first
         | (go_at_call 145; exact qcall hq (J _))
         | exact rfl
     simp only [Act.put, List.setIfInBounds_toArray, List.set_cons_succ, List.set_cons_zero]))
  refine wpQuiet_nil ?_
  intro w1 hk
  have H1 : Hid (Below w.heap.size w w1) := bel_step H.out hk.below
  clear k0 k1 k2 hk H J
  go_wp2
  go_ret
  exact ⟨rfl, H1.out⟩

theorem noNumber32 (w : World) :
    Calls Tryz.prog 123 #[(.agg #[.int .i64 23, .int .i64 127, .int .u32 255])] w fun e w' => e = .returned (.int .u32 (2139095040 + 4194304)) ∧ Below w.heap.size w w' := by
  obtain ⟨W, hW⟩ : ∃ W, w.alloc (.cells #[.int .i64 23, .int .i64 127, .int .u32 255] 191) = W := ⟨_, rfl⟩
  have H : Hid (Below w.heap.size w W) := by unfold Hid; rw [← hW]; (repeat (first | refine Below.alloc ?_ (by first | (simp; done) | (simp; omega)) _ | refine Below.setCell ?_ (by first | (simp; done) | (simp; omega)) _ | refine bel_dN ?_ _ | refine Below.drew ?_ | exact Below.refl _ _))
  have hs : W.heap.size = w.heap.size + 1 := by rw [← hW]; simp
  obtain ⟨g, hg⟩ : ∃ g, w.heap.size = g := ⟨_, rfl⟩
  have k0 : ∀ w, Keeps W w → w.cell? ⟨g, 0, none⟩ = some (.int .i64 23) := fun w h => h.cell (by omega) (by rw [← hW, ← hg]; simp)
  have k1 : ∀ w, Keeps W w → w.cell? ⟨g, 1, none⟩ = some (.int .i64 127) := fun w h => h.cell (by omega) (by rw [← hW, ← hg]; simp)
  have k2 : ∀ w, Keeps W w → w.cell? ⟨g, 2, none⟩ = some (.int .u32 255) := fun w h => h.cell (by omega) (by rw [← hW, ← hg]; simp)
  have J := join32 0 255 4194304 (by omega) (by omega) (by omega) (by omega) (by omega) (by omega)
  rw [show (0 : Int) * 2147483648 + 255 * 8388608 + 4194304 = 2139095040 + 4194304 by omega] at J
  have v1 : IntKind.i64.wrap 22 = 22 := by rw [IntKind.wrap_i64]; omega
  have v2 : IntKind.u32.wrap 4194304 = 4194304 := by rw [wr_u32]; omega
  go_enter Tryz.func123, Tryz.ntmps123
  go_wp2
  clear hW
  refine region_q (C := Keeps W) (by kernel_rfl) (by kernel_rfl) (Keeps.drew W) ?_
  (iterate 10
    (apply wpQuiet_go _ (by rfl)
     · intro wq hq
       go_simp
       first
         | (go_at_call 145; exact qcall hq (J _))
         | exact rfl
     simp only [Act.put, List.setIfInBounds_toArray, List.set_cons_succ, List.set_cons_zero]))
  refine wpQuiet_nil ?_
  intro w1 hk
  have H1 : Hid (Below w.heap.size w w1) := bel_step H.out hk.below
  clear k0 k1 k2 hk H J
  go_wp2
  go_ret
  exact ⟨rfl, H1.out⟩

end Go.Proofs.YtljnciclbjcinaaGreatDoor
