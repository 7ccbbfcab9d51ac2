/-
  Bytes filled: spec's side and the law. (Made by a generator.)
-/
import Derived.Test.YtalmgodakdjjcabMFill
namespace Go.Proofs.Ytalmgodakdjjcab
open Go.ChangeShapes Go.WideShapes Go.ChangeAt Go.RowKit

theorem fillS_bad (M : Int) (D : ByteArray) (a x n : Int)
    (HG : ∀ w, Calls Try.prog 24 #[.agg #[.int .i64 M, .string D]] w fun e w' => e = .returned (.bool false) ∧ Below w.heap.size w w') (w : World) :
    Calls Try.prog 16 #[.agg #[.int .i64 M, .string D], .int .i64 a, .int .i64 x, .int .i64 n] w fun e w' => e = .returned (.tuple #[.agg #[.int .i64 0, .string ⟨#[]⟩], .int .i64 1]) ∧ Below w.heap.size w w' := by
  obtain ⟨g, hgs⟩ : ∃ g, w.heap.size = g := ⟨_, rfl⟩
  go_enter Try.func16, Try.ntmps16
  go_wp2_with fail
  refine (HG _).mono ?_
  rintro e w1 ⟨rfl, B1⟩
  have hw1 := B1.size
  simp at hw1
  have hB : Hid (Below w.heap.size w w1) := by unfold Hid; ((repeat (first | refine bel_alloc ?_ _ | refine bel_dN ?_ _ | refine Below.drew ?_ | refine Below.setCell ?_ (by first | (simp; done) | (simp; omega)) _)); refine bel_step ?_ B1; (repeat (first | refine bel_alloc ?_ _ | refine bel_dN ?_ _ | refine Below.drew ?_ | refine Below.setCell ?_ (by first | (simp; done) | (simp; omega)) _)); exact Below.refl _ _)
  have p0 : w1.cell? ⟨g, 0, none⟩ = some (.int .i64 M) := keepCell B1 (by simp; omega) (by rw [← hgs]; simp)
  have p1 : w1.cell? ⟨g, 1, none⟩ = some (.string D) := keepCell B1 (by simp; omega) (by rw [← hgs]; simp)
  have q0 : w1.cell? ⟨g + 1, 0, none⟩ = some (.int .i64 0) := keepCell B1 (by simp; omega) (by rw [← hgs]; simp)
  have q1 : w1.cell? ⟨g + 1, 1, none⟩ = some (.string ⟨#[]⟩) := keepCell B1 (by simp; omega) (by rw [← hgs]; simp)
  have z0 : w1.frozen? ⟨g + 1, 0, none⟩ = false := keepFree B1 (by simp; omega) (by rw [← hgs]; simp)
  have z1 : w1.frozen? ⟨g + 1, 1, none⟩ = false := keepFree B1 (by simp; omega) (by rw [← hgs]; simp)
  clear B1 HG
  clear p0 p1
  go_wp2
  refine bodyPost_ret (v := .tuple #[.agg #[.int .i64 0, .string ⟨#[]⟩], .int .i64 1]) (by simp [results, Try.results16, go_sem, q0, q1]) rfl ⟨rfl, ?_⟩
  first
    | (refine Below.setCell (Below.setCell hB.out ?_ _) ?_ _ <;> simp <;> omega)
    | (rw [← hgs]; refine Below.setCell (Below.setCell hB.out ?_ _) ?_ _ <;> simp <;> omega)

theorem fillS_at (M : Int) (D : ByteArray) (a x n : Int)
    (HG : ∀ w, Calls Try.prog 24 #[.agg #[.int .i64 M, .string D]] w fun e w' => e = .returned (.bool true) ∧ Below w.heap.size w w') (h : a < 0) (w : World) :
    Calls Try.prog 16 #[.agg #[.int .i64 M, .string D], .int .i64 a, .int .i64 x, .int .i64 n] w fun e w' => e = .returned (.tuple #[.agg #[.int .i64 M, .string D], .int .i64 1]) ∧ Below w.heap.size w w' := by
  obtain ⟨g, hgs⟩ : ∃ g, w.heap.size = g := ⟨_, rfl⟩
  go_enter Try.func16, Try.ntmps16
  go_wp2_with fail
  refine (HG _).mono ?_
  rintro e w1 ⟨rfl, B1⟩
  have hw1 := B1.size
  simp at hw1
  have hB : Hid (Below w.heap.size w w1) := by unfold Hid; ((repeat (first | refine bel_alloc ?_ _ | refine bel_dN ?_ _ | refine Below.drew ?_ | refine Below.setCell ?_ (by first | (simp; done) | (simp; omega)) _)); refine bel_step ?_ B1; (repeat (first | refine bel_alloc ?_ _ | refine bel_dN ?_ _ | refine Below.drew ?_ | refine Below.setCell ?_ (by first | (simp; done) | (simp; omega)) _)); exact Below.refl _ _)
  have p0 : w1.cell? ⟨g, 0, none⟩ = some (.int .i64 M) := keepCell B1 (by simp; omega) (by rw [← hgs]; simp)
  have p1 : w1.cell? ⟨g, 1, none⟩ = some (.string D) := keepCell B1 (by simp; omega) (by rw [← hgs]; simp)
  have q0 : w1.cell? ⟨g + 1, 0, none⟩ = some (.int .i64 0) := keepCell B1 (by simp; omega) (by rw [← hgs]; simp)
  have q1 : w1.cell? ⟨g + 1, 1, none⟩ = some (.string ⟨#[]⟩) := keepCell B1 (by simp; omega) (by rw [← hgs]; simp)
  have z0 : w1.frozen? ⟨g + 1, 0, none⟩ = false := keepFree B1 (by simp; omega) (by rw [← hgs]; simp)
  have z1 : w1.frozen? ⟨g + 1, 1, none⟩ = false := keepFree B1 (by simp; omega) (by rw [← hgs]; simp)
  clear B1 HG
  go_wp2
  refine bodyPost_ret (v := .tuple #[.agg #[.int .i64 M, .string D], .int .i64 1]) (by simp [results, Try.results16, go_sem, q0, q1]) rfl ⟨rfl, ?_⟩
  first
    | (refine Below.setCell (Below.setCell hB.out ?_ _) ?_ _ <;> simp <;> omega)
    | (rw [← hgs]; refine Below.setCell (Below.setCell hB.out ?_ _) ?_ _ <;> simp <;> omega)

theorem fillS_n (M : Int) (D : ByteArray) (a x n : Int)
    (HG : ∀ w, Calls Try.prog 24 #[.agg #[.int .i64 M, .string D]] w fun e w' => e = .returned (.bool true) ∧ Below w.heap.size w w') (h : ¬ a < 0) (h2 : n < 0) (w : World) :
    Calls Try.prog 16 #[.agg #[.int .i64 M, .string D], .int .i64 a, .int .i64 x, .int .i64 n] w fun e w' => e = .returned (.tuple #[.agg #[.int .i64 M, .string D], .int .i64 1]) ∧ Below w.heap.size w w' := by
  obtain ⟨g, hgs⟩ : ∃ g, w.heap.size = g := ⟨_, rfl⟩
  go_enter Try.func16, Try.ntmps16
  go_wp2_with fail
  refine (HG _).mono ?_
  rintro e w1 ⟨rfl, B1⟩
  have hw1 := B1.size
  simp at hw1
  have hB : Hid (Below w.heap.size w w1) := by unfold Hid; ((repeat (first | refine bel_alloc ?_ _ | refine bel_dN ?_ _ | refine Below.drew ?_ | refine Below.setCell ?_ (by first | (simp; done) | (simp; omega)) _)); refine bel_step ?_ B1; (repeat (first | refine bel_alloc ?_ _ | refine bel_dN ?_ _ | refine Below.drew ?_ | refine Below.setCell ?_ (by first | (simp; done) | (simp; omega)) _)); exact Below.refl _ _)
  have p0 : w1.cell? ⟨g, 0, none⟩ = some (.int .i64 M) := keepCell B1 (by simp; omega) (by rw [← hgs]; simp)
  have p1 : w1.cell? ⟨g, 1, none⟩ = some (.string D) := keepCell B1 (by simp; omega) (by rw [← hgs]; simp)
  have q0 : w1.cell? ⟨g + 1, 0, none⟩ = some (.int .i64 0) := keepCell B1 (by simp; omega) (by rw [← hgs]; simp)
  have q1 : w1.cell? ⟨g + 1, 1, none⟩ = some (.string ⟨#[]⟩) := keepCell B1 (by simp; omega) (by rw [← hgs]; simp)
  have z0 : w1.frozen? ⟨g + 1, 0, none⟩ = false := keepFree B1 (by simp; omega) (by rw [← hgs]; simp)
  have z1 : w1.frozen? ⟨g + 1, 1, none⟩ = false := keepFree B1 (by simp; omega) (by rw [← hgs]; simp)
  clear B1 HG
  go_wp2
  refine bodyPost_ret (v := .tuple #[.agg #[.int .i64 M, .string D], .int .i64 1]) (by simp [results, Try.results16, go_sem, q0, q1]) rfl ⟨rfl, ?_⟩
  first
    | (refine Below.setCell (Below.setCell hB.out ?_ _) ?_ _ <;> simp <;> omega)
    | (rw [← hgs]; refine Below.setCell (Below.setCell hB.out ?_ _) ?_ _ <;> simp <;> omega)

theorem fillS_byte (M : Int) (D : ByteArray) (a x n : Int)
    (HG : ∀ w, Calls Try.prog 24 #[.agg #[.int .i64 M, .string D]] w fun e w' => e = .returned (.bool true) ∧ Below w.heap.size w w') (h : ¬ a < 0) (h2 : ¬ n < 0)
    (IX : ∀ w, Calls Try.prog 33 #[.int .i64 x, .int .i64 0, .int .i64 255] w fun e w' => e = .returned (.bool false) ∧ w' = w) (w : World) :
    Calls Try.prog 16 #[.agg #[.int .i64 M, .string D], .int .i64 a, .int .i64 x, .int .i64 n] w fun e w' => e = .returned (.tuple #[.agg #[.int .i64 M, .string D], .int .i64 1]) ∧ Below w.heap.size w w' := by
  obtain ⟨g, hgs⟩ : ∃ g, w.heap.size = g := ⟨_, rfl⟩
  go_enter Try.func16, Try.ntmps16
  go_wp2_with fail
  refine (HG _).mono ?_
  rintro e w1 ⟨rfl, B1⟩
  have hw1 := B1.size
  simp at hw1
  have hB : Hid (Below w.heap.size w w1) := by unfold Hid; ((repeat (first | refine bel_alloc ?_ _ | refine bel_dN ?_ _ | refine Below.drew ?_ | refine Below.setCell ?_ (by first | (simp; done) | (simp; omega)) _)); refine bel_step ?_ B1; (repeat (first | refine bel_alloc ?_ _ | refine bel_dN ?_ _ | refine Below.drew ?_ | refine Below.setCell ?_ (by first | (simp; done) | (simp; omega)) _)); exact Below.refl _ _)
  have p0 : w1.cell? ⟨g, 0, none⟩ = some (.int .i64 M) := keepCell B1 (by simp; omega) (by rw [← hgs]; simp)
  have p1 : w1.cell? ⟨g, 1, none⟩ = some (.string D) := keepCell B1 (by simp; omega) (by rw [← hgs]; simp)
  have q0 : w1.cell? ⟨g + 1, 0, none⟩ = some (.int .i64 0) := keepCell B1 (by simp; omega) (by rw [← hgs]; simp)
  have q1 : w1.cell? ⟨g + 1, 1, none⟩ = some (.string ⟨#[]⟩) := keepCell B1 (by simp; omega) (by rw [← hgs]; simp)
  have z0 : w1.frozen? ⟨g + 1, 0, none⟩ = false := keepFree B1 (by simp; omega) (by rw [← hgs]; simp)
  have z1 : w1.frozen? ⟨g + 1, 1, none⟩ = false := keepFree B1 (by simp; omega) (by rw [← hgs]; simp)
  clear B1 HG
  go_wp2_with fail
  refine (IX _).mono ?_
  rintro e w' ⟨rfl, hw⟩
  obtain rfl := hw.symm
  clear IX
  go_wp2
  refine bodyPost_ret (v := .tuple #[.agg #[.int .i64 M, .string D], .int .i64 1]) (by simp [results, Try.results16, go_sem, q0, q1]) rfl ⟨rfl, ?_⟩
  first
    | (refine Below.setCell (Below.setCell hB.out ?_ _) ?_ _ <;> simp <;> omega)
    | (rw [← hgs]; refine Below.setCell (Below.setCell hB.out ?_ _) ?_ _ <;> simp <;> omega)

theorem fillS_out (M : Int) (D : ByteArray) (a x n : Int)
    (HG : ∀ w, Calls Try.prog 24 #[.agg #[.int .i64 M, .string D]] w fun e w' => e = .returned (.bool true) ∧ Below w.heap.size w w') (h : ¬ a < 0) (h2 : ¬ n < 0)
    (IX : ∀ w, Calls Try.prog 33 #[.int .i64 x, .int .i64 0, .int .i64 255] w fun e w' => e = .returned (.bool true) ∧ w' = w)
    (IN : ∀ w, Calls Try.prog 30 #[.agg #[.int .i64 M, .string D], .int .i64 a, .int .i64 n] w fun e w' => e = .returned (.bool false) ∧ Below w.heap.size w w') (w : World) :
    Calls Try.prog 16 #[.agg #[.int .i64 M, .string D], .int .i64 a, .int .i64 x, .int .i64 n] w fun e w' => e = .returned (.tuple #[.agg #[.int .i64 M, .string D], .int .i64 2]) ∧ Below w.heap.size w w' := by
  obtain ⟨g, hgs⟩ : ∃ g, w.heap.size = g := ⟨_, rfl⟩
  go_enter Try.func16, Try.ntmps16
  go_wp2_with fail
  refine (HG _).mono ?_
  rintro e w1 ⟨rfl, B1⟩
  have hw1 := B1.size
  simp at hw1
  have hB : Hid (Below w.heap.size w w1) := by unfold Hid; ((repeat (first | refine bel_alloc ?_ _ | refine bel_dN ?_ _ | refine Below.drew ?_ | refine Below.setCell ?_ (by first | (simp; done) | (simp; omega)) _)); refine bel_step ?_ B1; (repeat (first | refine bel_alloc ?_ _ | refine bel_dN ?_ _ | refine Below.drew ?_ | refine Below.setCell ?_ (by first | (simp; done) | (simp; omega)) _)); exact Below.refl _ _)
  have p0 : w1.cell? ⟨g, 0, none⟩ = some (.int .i64 M) := keepCell B1 (by simp; omega) (by rw [← hgs]; simp)
  have p1 : w1.cell? ⟨g, 1, none⟩ = some (.string D) := keepCell B1 (by simp; omega) (by rw [← hgs]; simp)
  have q0 : w1.cell? ⟨g + 1, 0, none⟩ = some (.int .i64 0) := keepCell B1 (by simp; omega) (by rw [← hgs]; simp)
  have q1 : w1.cell? ⟨g + 1, 1, none⟩ = some (.string ⟨#[]⟩) := keepCell B1 (by simp; omega) (by rw [← hgs]; simp)
  have z0 : w1.frozen? ⟨g + 1, 0, none⟩ = false := keepFree B1 (by simp; omega) (by rw [← hgs]; simp)
  have z1 : w1.frozen? ⟨g + 1, 1, none⟩ = false := keepFree B1 (by simp; omega) (by rw [← hgs]; simp)
  clear B1 HG
  go_wp2_with fail
  refine (IX _).mono ?_
  rintro e w' ⟨rfl, hw⟩
  obtain rfl := hw.symm
  clear IX
  go_wp2_with fail
  refine (IN _).mono ?_
  rintro e w2 ⟨rfl, B2⟩
  have hw2 := B2.size
  replace p0 := keepCell B2 (by omega) p0
  replace p1 := keepCell B2 (by omega) p1
  replace q0 := keepCell B2 (by omega) q0
  replace q1 := keepCell B2 (by omega) q1
  replace z0 := keepFree B2 (by omega) z0
  replace z1 := keepFree B2 (by omega) z1
  replace hB : Hid (Below w.heap.size w w2) := bel_step hB.out B2
  clear B2 IN
  go_wp2
  refine bodyPost_ret (v := .tuple #[.agg #[.int .i64 M, .string D], .int .i64 2]) (by simp [results, Try.results16, go_sem, q0, q1]) rfl ⟨rfl, ?_⟩
  first
    | (refine Below.setCell (Below.setCell hB.out ?_ _) ?_ _ <;> simp <;> omega)
    | (rw [← hgs]; refine Below.setCell (Below.setCell hB.out ?_ _) ?_ _ <;> simp <;> omega)

theorem fillS_yes (M : Int) (D : ByteArray) (h : D.size ≤ 1048576) (a x n : Nat) (hx : x < 256) (hf : a + n ≤ D.size)
    (HG : ∀ w, Calls Try.prog 24 #[.agg #[.int .i64 M, .string D]] w fun e w' => e = .returned (.bool true) ∧ Below w.heap.size w w')
    (IN : ∀ w, Calls Try.prog 30 #[.agg #[.int .i64 M, .string D], .int .i64 (a : Int), .int .i64 (n : Int)] w fun e w' => e = .returned (.bool true) ∧ Below w.heap.size w w') (w : World) :
    Calls Try.prog 16 #[.agg #[.int .i64 M, .string D], .int .i64 (a : Int), .int .i64 (x : Int), .int .i64 (n : Int)] w fun e w' => e = .returned (.tuple #[.agg #[.int .i64 M, .string (laidOver D a (fillB x n))], .int .i64 0]) ∧ Below w.heap.size w w' := by
  have IX := fun w => in_eq (x : Int) 0 255 true (by simp [Hid]; omega) w
  have ST := l5Store M D h a (fillB x n) (by rw [fillB_size]; omega)
  have MK := madeU8 n (by omega)
  rw [fRow_zero x n] at MK
  have FT := fun W g h => fTold W g x n hx h
  have k1 : ¬ (a : Int) < 0 := by omega
  have k2 : ¬ (n : Int) < 0 := by omega
  have v1 : IntKind.u8.wrap (x : Int) = (x : Int) := by rw [IntKind.wrap_u8]; omega
  have v2 : (x : Int) % 256 = (x : Int) := by omega
  generalize laidOver D a (fillB x n) = Y at *
  generalize fillB x n = Z at *
  have hn8 : n ≤ 1048576 := by omega
  clear hx hf h
  obtain ⟨g, hgs⟩ : ∃ g, w.heap.size = g := ⟨_, rfl⟩
  go_enter Try.func16, Try.ntmps16
  go_wp2_with fail
  refine (HG _).mono ?_
  rintro e w1 ⟨rfl, B1⟩
  have hw1 := B1.size
  simp at hw1
  have hB : Hid (Below w.heap.size w w1) := by unfold Hid; ((repeat (first | refine bel_alloc ?_ _ | refine bel_dN ?_ _ | refine Below.drew ?_ | refine Below.setCell ?_ (by first | (simp; done) | (simp; omega)) _)); refine bel_step ?_ B1; (repeat (first | refine bel_alloc ?_ _ | refine bel_dN ?_ _ | refine Below.drew ?_ | refine Below.setCell ?_ (by first | (simp; done) | (simp; omega)) _)); exact Below.refl _ _)
  have p0 : w1.cell? ⟨g, 0, none⟩ = some (.int .i64 M) := keepCell B1 (by simp; omega) (by rw [← hgs]; simp)
  have p1 : w1.cell? ⟨g, 1, none⟩ = some (.string D) := keepCell B1 (by simp; omega) (by rw [← hgs]; simp)
  have q0 : w1.cell? ⟨g + 1, 0, none⟩ = some (.int .i64 0) := keepCell B1 (by simp; omega) (by rw [← hgs]; simp)
  have q1 : w1.cell? ⟨g + 1, 1, none⟩ = some (.string ⟨#[]⟩) := keepCell B1 (by simp; omega) (by rw [← hgs]; simp)
  have z0 : w1.frozen? ⟨g + 1, 0, none⟩ = false := keepFree B1 (by simp; omega) (by rw [← hgs]; simp)
  have z1 : w1.frozen? ⟨g + 1, 1, none⟩ = false := keepFree B1 (by simp; omega) (by rw [← hgs]; simp)
  clear B1 HG
  go_wp2_with fail
  refine (IX _).mono ?_
  rintro e w' ⟨rfl, hw⟩
  obtain rfl := hw.symm
  clear IX
  go_wp2_with fail
  refine (IN _).mono ?_
  rintro e w2 ⟨rfl, B2⟩
  have hw2 := B2.size
  replace p0 := keepCell B2 (by omega) p0
  replace p1 := keepCell B2 (by omega) p1
  replace q0 := keepCell B2 (by omega) q0
  replace q1 := keepCell B2 (by omega) q1
  replace z0 := keepFree B2 (by omega) z0
  replace z1 := keepFree B2 (by omega) z1
  replace hB : Hid (Below w.heap.size w w2) := bel_step hB.out B2
  clear B2 IN
  obtain ⟨G, hG⟩ : ∃ G, w2.heap.size = G := ⟨_, rfl⟩
  have hmk := MK w2
  rw [hG] at hmk
  have CT : Hid (∀ W : World, W.heap[G]? = some (.cells (fRow x n n) 5 (0, 0)) → (convert 55 9 (.slice (some ⟨G, 0, none⟩) n n)).run Try.prog W = .ok (.string Z) W) := fun W h => FT W G h
  have P0 : Hid (w2.cell? ⟨g, 0, none⟩ = some (.int .i64 M)) := p0
  have P1 : Hid (w2.cell? ⟨g, 1, none⟩ = some (.string D)) := p1
  have Q0 : Hid (w2.cell? ⟨g + 1, 0, none⟩ = some (.int .i64 0)) := q0
  have Q1 : Hid (w2.cell? ⟨g + 1, 1, none⟩ = some (.string ⟨#[]⟩)) := q1
  have Z0 : Hid (w2.frozen? ⟨g + 1, 0, none⟩ = false) := z0
  have Z1 : Hid (w2.frozen? ⟨g + 1, 1, none⟩ = false) := z1
  clear FT MK q0 q1 z0 z1
  have hB0 : Hid (Below w2.heap.size w2 (w2.alloc (.cells (fRow x n 0) 5))) := (Below.refl _ _).alloc (Nat.le_refl _) _
  go_wp2
  go_loopw [38] (fun i wr => ∃ k : Nat, k ≤ n ∧ i = .int .i64 k ∧ wr.heap[G]? = some (.cells (fRow x n k) 5 (0, 0)) ∧ Below w2.heap.size w2 wr) (fun i _ => n - (intOf i).toNat)
  case atStart => exact ⟨0, by omega, rfl, by rw [← hG]; exact heap_alloc_new _ _, hB0.out⟩
  case round =>
    obtain ⟨k, hk, rfl, hr, hb⟩ := hrel
    by_cases hlt : k < n
    · have hc : wr.cell? ⟨G, k, none⟩ = some (.int .u8 0) := by
        have := fRow_at x n k k hlt
        rw [if_neg (by omega)] at this
        simp [World.cell?, hr, this]
      have hf : wr.frozen? ⟨G, k, none⟩ = false := by simp [World.frozen?, hr]
      go_wp2
      go_roundw
      case rel =>
        refine ⟨k + 1, by omega, by go_num, ?_, Below.setCell hb (by simp; omega) _⟩
        rw [setCell_eq_setRow wr G k _ 5 (0, 0) _ hr, fRow_set]
        exact setRow_heap wr G _ _ 5 (0, 0) hr
      case measure => simp [intOf]; omega
    · obtain rfl : k = n := by omega
      have hct := CT.out wr hr
      have hwr := hb.size
      have p0 := keepCell hb (by omega) P0.out
      have p1 := keepCell hb (by omega) P1.out
      have q0 := keepCell hb (by omega) Q0.out
      have q1 := keepCell hb (by omega) Q1.out
      have z0 := keepFree hb (by omega) Z0.out
      have z1 := keepFree hb (by omega) Z1.out
      replace hB : Hid (Below w.heap.size w wr) := bel_step hB.out hb
      clear hb P0 P1 Q0 Q1 Z0 Z1 CT
      go_wp2_with fail
      refine (ST _).mono ?_
      rintro e w4 ⟨rfl, B4⟩
      have hw4 := B4.size
      replace q0 := keepCell B4 (by omega) q0
      replace q1 := keepCell B4 (by omega) q1
      replace z0 := keepFree B4 (by omega) z0
      replace z1 := keepFree B4 (by omega) z1
      replace hB : Hid (Below w.heap.size w w4) := bel_step hB.out B4
      clear B4 ST
      go_wp2
      refine bodyPost_ret (v := .tuple #[.agg #[.int .i64 M, .string Y], .int .i64 0]) (by simp [results, Try.results16, go_sem, q0, q1]) rfl ⟨rfl, ?_⟩
      first
        | (refine Below.setCell (Below.setCell hB.out ?_ _) ?_ _ <;> simp <;> omega)
        | (rw [← hgs]; refine Below.setCell (Below.setCell hB.out ?_ _) ?_ _ <;> simp <;> omega)

theorem fillBoth (M : Int) (D : ByteArray) (h : D.size ≤ 1048576) (a x n : Int) (ha : a ≤ 9223372036854775807) :
    ∃ M' D' c, (∀ w, Calls Try.prog 16 #[.agg #[.int .i64 M, .string D], .int .i64 a, .int .i64 x, .int .i64 n] w fun e w' => e = .returned (.tuple #[.agg #[.int .i64 M', .string D'], .int .i64 c]) ∧ Below w.heap.size w w') ∧
      (∀ w, Calls Try.prog 17 #[.agg #[.int .i64 M, .string D], .int .i64 a, .int .i64 x, .int .i64 n] w fun e w' => e = .returned (.tuple #[.agg #[.int .i64 M', .string D'], .int .i64 c]) ∧ Below w.heap.size w w') := by
  have HG := mGoodS M D h
  cases hg : good M D
  · rw [hg] at HG
    have hk : kept M D = (0, ⟨#[]⟩) := by simp [kept, hg]
    refine ⟨0, ⟨#[]⟩, 1, fillS_bad M D a x n HG, ?_⟩
    by_cases hx : x < 0 ∨ 255 < x
    · have I := fillI_byte M D h a x n hx
      rw [hk] at I
      exact I
    · have I := fillI_no M D h a x n ha (by omega) (by omega) 1 (by rw [hg]; rfl) (by decide)
      rw [hk] at I
      exact I
  · rw [hg] at HG
    have hk : kept M D = (M, D) := by simp [kept, hg]
    by_cases hx : x < 0 ∨ 255 < x
    · have I := fillI_byte M D h a x n hx
      rw [hk] at I
      refine ⟨M, D, 1, ?_, I⟩
      by_cases k1 : a < 0
      · exact fillS_at M D a x n HG k1
      · by_cases k2 : n < 0
        · exact fillS_n M D a x n HG k1 k2
        · exact fillS_byte M D a x n HG k1 k2 (fun w => in_eq x 0 255 false (by simp [Hid]; omega) w)
    · have I := fun c hc hz => fillI_no M D h a x n ha (by omega) (by omega) c hc hz
      rw [hk, hg] at I
      by_cases k1 : a < 0
      · exact ⟨M, D, 1, fillS_at M D a x n HG k1, I 1 (code1_none _ _ _ (Or.inl k1)) (by decide)⟩
      · by_cases k2 : n < 0
        · exact ⟨M, D, 1, fillS_n M D a x n HG k1 k2, I 1 (code1_none _ _ _ (Or.inr k2)) (by decide)⟩
        · have IX := fun w => in_eq x 0 255 true (by simp [Hid]; omega) w
          have IN := l5Inside M D _ rfl (by omega) a n (by omega) ha (by omega)
          by_cases k3 : n ≤ (D.size : Int) - a
          · rw [decide_eq_true k3] at IN
            obtain ⟨a, rfl⟩ : ∃ k : Nat, a = (k : Int) := ⟨a.toNat, by omega⟩
            obtain ⟨x, rfl⟩ : ∃ k : Nat, x = (k : Int) := ⟨x.toNat, by omega⟩
            obtain ⟨n, rfl⟩ : ∃ k : Nat, n = (k : Int) := ⟨n.toNat, by omega⟩
            exact ⟨_, _, _, fillS_yes M D h a x n (by omega) (by omega) HG IN, fillI_yes M D h a x n (by omega) hg (by omega)⟩
          · rw [decide_eq_false k3] at IN
            exact ⟨M, D, 2, fillS_out M D a x n HG k1 k2 IX IN, I 2 (code1_out _ _ _ (by omega) (by omega) (by omega)) (by decide)⟩

theorem fillMemory_walk (M : Int) (D : ByteArray) (a1 : Int) (a2 : Int) (a3 : Int) (_wm : (Lit.int .i64 M).wf = true) (wb : D.size ≤ maxLen) (wa1 : (Lit.int .i64 a1).wf = true) (_wa2 : (Lit.int .i64 a2).wf = true) (_wa3 : (Lit.int .i64 a3).wf = true) (w : World) :
    Calls Try.prog 6 #[.agg #[.int .i64 M, .string D], .int .i64 a1, .int .i64 a2, .int .i64 a3] w fun e w' => e = .returned (.bool true) ∧ Below w.heap.size w w' := by
  unfold maxLen at wb
  clear _wm
  have hyp1 := bounds_i64 wa1
  clear wa1 _wa2 _wa3
  obtain ⟨g, hgs⟩ : ∃ g, w.heap.size = g := ⟨_, rfl⟩
  by_cases h : D.size ≤ 1048576
  · have Z := szMemory_yes M D h
    obtain ⟨M', D', c, S, I⟩ := fillBoth M D h a1 a2 a3 hyp1.2
    have E := eqMemory M' D'
    have T := toMemory M D
    have k : ¬ 1048576 - (D.size : Int) < 0 := by omega
    generalize (1048576 - (D.size : Int)) = n at *
    clear h wb
    try clear hyp1
    try clear hyp2
    try clear hyp3
    go_enter Try.func6, Try.ntmps6
    go_wp2_with fail
    refine (Z _).mono ?_
    rintro e w1 ⟨rfl, B1⟩
    have h1 := B1.size
    simp at h1
    have q0 : w1.cell? ⟨g, 0, none⟩ = some (.int .i64 M) := keepCell B1 (by simp; omega) (by rw [← hgs]; simp)
    have q1 : w1.cell? ⟨g, 1, none⟩ = some (.string D) := keepCell B1 (by simp; omega) (by rw [← hgs]; simp)
    have hB : Hid (Below w.heap.size w w1) := by unfold Hid; ((repeat (first | refine bel_alloc ?_ _ | refine bel_dN ?_ _ | refine Below.drew ?_ | refine Below.setCell ?_ (by first | (simp; done) | (simp; omega)) _)); refine bel_step ?_ B1; (repeat (first | refine bel_alloc ?_ _ | refine bel_dN ?_ _ | refine Below.drew ?_ | refine Below.setCell ?_ (by first | (simp; done) | (simp; omega)) _)); exact Below.refl _ _)
    clear Z B1
    go_wp2_with fail
    refine (T _).mono ?_
    rintro e w2 ⟨rfl, B2⟩
    have h2 := B2.size
    replace q0 := keepCell B2 (by omega) q0
    replace q1 := keepCell B2 (by omega) q1
    replace hB : Hid (Below w.heap.size w w2) := bel_step hB.out B2
    clear B2
    go_wp2_with fail
    refine (S _).mono ?_
    rintro e w3 ⟨rfl, B3⟩
    have h3 := B3.size
    replace q0 := keepCell B3 (by omega) q0
    replace q1 := keepCell B3 (by omega) q1
    have hg3 : g < w3.heap.size := by omega
    replace hB : Hid (Below w.heap.size w w3) := bel_step hB.out B3
    clear B3 S h1 h2 h3
    go_wp2_with fail
    refine (T _).mono ?_
    rintro e w4 ⟨rfl, B4⟩
    have h4 := B4.size
    simp at h4
    have r0 : w4.cell? ⟨w3.heap.size, 0, none⟩ = some (.int .i64 M') := keepCell B4 (by simp) (by simp)
    have r1 : w4.cell? ⟨w3.heap.size, 1, none⟩ = some (.string D') := keepCell B4 (by simp) (by simp)
    replace hB : Hid (Below w.heap.size w w4) := by have := hB.out; unfold Hid; ((repeat (first | refine bel_alloc ?_ _ | refine bel_dN ?_ _ | refine Below.drew ?_ | refine Below.setCell ?_ (by first | (simp; done) | (simp; omega)) _)); refine bel_step ?_ B4; (repeat (first | refine bel_alloc ?_ _ | refine bel_dN ?_ _ | refine Below.drew ?_ | refine Below.setCell ?_ (by first | (simp; done) | (simp; omega)) _)); refine bel_step ?_ this; (repeat (first | refine bel_alloc ?_ _ | refine bel_dN ?_ _ | refine Below.drew ?_ | refine Below.setCell ?_ (by first | (simp; done) | (simp; omega)) _)); exact Below.refl _ _)
    clear B4 T q0 q1
    go_wp2_with fail
    refine (I _).mono ?_
    rintro e w5 ⟨rfl, B5⟩
    have h5 := B5.size
    replace r0 := keepCell B5 (by omega) r0
    replace r1 := keepCell B5 (by omega) r1
    have hl : w3.heap.size < w5.heap.size := by omega
    replace hB : Hid (Below w.heap.size w w5) := bel_step hB.out B5
    clear B5 I h4 h5
    go_wp2_with fail
    refine (E _).mono ?_
    rintro e w6 ⟨rfl, B6⟩
    replace hB : Hid (Below w.heap.size w w6) := by have := hB.out; unfold Hid; ((repeat (first | refine bel_alloc ?_ _ | refine bel_dN ?_ _ | refine Below.drew ?_ | refine Below.setCell ?_ (by first | (simp; done) | (simp; omega)) _)); refine bel_step ?_ B6; (repeat (first | refine bel_alloc ?_ _ | refine bel_dN ?_ _ | refine Below.drew ?_ | refine Below.setCell ?_ (by first | (simp; done) | (simp; omega)) _)); refine bel_step ?_ this; (repeat (first | refine bel_alloc ?_ _ | refine bel_dN ?_ _ | refine Below.drew ?_ | refine Below.setCell ?_ (by first | (simp; done) | (simp; omega)) _)); exact Below.refl _ _)
    clear B6 E r0 r1
    go_wp2
    go_ret
    exact ⟨rfl, by first | exact hB.out | (rw [← hgs]; exact hB.out)⟩
  · have Z := szMemory_no M D (by omega) wb
    clear h wb
    go_enter Try.func6, Try.ntmps6
    go_wp2_with fail
    refine (Z _).mono ?_
    rintro e w1 ⟨rfl, B1⟩
    have hB : Hid (Below w.heap.size w w1) := by unfold Hid; ((repeat (first | refine bel_alloc ?_ _ | refine bel_dN ?_ _ | refine Below.drew ?_ | refine Below.setCell ?_ (by first | (simp; done) | (simp; omega)) _)); refine bel_step ?_ B1; (repeat (first | refine bel_alloc ?_ _ | refine bel_dN ?_ _ | refine Below.drew ?_ | refine Below.setCell ?_ (by first | (simp; done) | (simp; omega)) _)); exact Below.refl _ _)
    clear B1
    go_wp2
    go_ret
    exact ⟨rfl, by first | exact hB.out | (rw [← hgs]; exact hB.out)⟩

end Go.Proofs.Ytalmgodakdjjcab
