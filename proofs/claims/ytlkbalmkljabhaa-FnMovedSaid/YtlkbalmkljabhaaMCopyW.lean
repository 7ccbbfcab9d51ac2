/-
  Bytes copied within a memory: both sides and the law. (Made by a generator.)
-/
import Derived.Test.YtlkbalmkljabhaaMSt
namespace Go.Proofs.Ytlkbalmkljabhaa
open Go.ChangeShapes Go.WideShapes Go.ChangeAt Go.RowKit

theorem spans2 (M : Int) (D : ByteArray) (h : D.size ≤ 1048576) (b : Nat) (a n a' n' : Int) (w : World) (hb : b < w.heap.size) (h0 : w.cell? ⟨b, 0, none⟩ = some (.int .i64 a)) (h1 : w.cell? ⟨b, 1, none⟩ = some (.int .i64 n))
    (h2 : w.cell? ⟨b, 2, none⟩ = some (.int .i64 a')) (h3 : w.cell? ⟨b, 3, none⟩ = some (.int .i64 n')) (ha : a ≤ 9223372036854775807) (ha' : a' ≤ 9223372036854775807) :
    Calls Try.prog 55 #[.agg #[.int .i64 M, .string D], .slice (some ⟨b, 0, none⟩) 2 2] w fun e w' => e = .returned (.int .i64 (codeOf (good M D) D.size [(a, n), (a', n')])) ∧ Below w.heap.size w w' :=
  spansCode M D h b [(a, n), (a', n')] w hb (fun i hi => by
    have : i = 0 ∨ i = 1 := by simp at hi; omega
    rcases this with rfl | rfl
    · exact ⟨h0, h1⟩
    · exact ⟨h2, h3⟩) (by simp) (fun i hi => by
    have : i = 0 ∨ i = 1 := by simp at hi; omega
    rcases this with rfl | rfl
    · exact ha
    · exact ha')

theorem code2_none (N t f n : Int) (h : t < 0 ∨ f < 0 ∨ n < 0) : codeOf true N [(t, n), (f, n)] = 1 := by
  have : spNone (t, n) = true ∨ spNone (f, n) = true := by simp [spNone]; omega
  rcases this with h | h <;> simp [codeOf, h]
theorem code2_out (N t f n : Int) (h0 : 0 ≤ t) (h1 : 0 ≤ f) (h2 : 0 ≤ n) (h : N - t < n ∨ N - f < n) : codeOf true N [(t, n), (f, n)] = 2 := by
  have e1 : spNone (t, n) = false := by simp [spNone]; omega
  have e2 : spNone (f, n) = false := by simp [spNone]; omega
  have e3 : spIn N (t, n) = false ∨ spIn N (f, n) = false := by simp [spIn]; omega
  rcases e3 with h | h <;> simp [codeOf, e1, e2, h]
theorem code2_in (N t f n : Int) (h0 : 0 ≤ t) (h1 : 0 ≤ f) (h2 : 0 ≤ n) (h : n ≤ N - t) (h' : n ≤ N - f) : codeOf true N [(t, n), (f, n)] = 0 := by
  have e1 : spNone (t, n) = false := by simp [spNone]; omega
  have e2 : spNone (f, n) = false := by simp [spNone]; omega
  have e3 : spIn N (t, n) = true := by simp [spIn]; omega
  have e4 : spIn N (f, n) = true := by simp [spIn]; omega
  simp [codeOf, e1, e2, e3, e4]

theorem copyI_no (M : Int) (D : ByteArray) (h : D.size ≤ 1048576) (t f n : Int) (ht : t ≤ 9223372036854775807) (hf : f ≤ 9223372036854775807) (c : Int) (hc : codeOf (good M D) D.size [(t, n), (f, n)] = c) (h0 : c ≠ 0) (w : World) :
    Calls Try.prog 26 #[.agg #[.int .i64 M, .string D], .int .i64 t, .int .i64 f, .int .i64 n] w fun e w' => e = .returned (.tuple #[.agg #[.int .i64 (kept M D).1, .string (kept M D).2], .int .i64 c]) ∧ Below w.heap.size w w' := by
  have SP := fun b w h1 h2 h3 h4 h5 => spans2 M D h b t n f n w h1 h2 h3 h4 h5 ht hf
  rw [hc] at SP
  have AW := asItWas M D h
  generalize (kept M D).1 = M' at *
  generalize (kept M D).2 = D' at *
  have k : (c == 0) = false := by simp [h0]
  clear hc h0 h ht hf
  obtain ⟨g, hgs⟩ : ∃ g, w.heap.size = g := ⟨_, rfl⟩
  go_enter Try.func26, Try.ntmps26
  go_wp2_with fail
  refine (SP (g + 2) _ (by simp; omega) (newCell (by simp; omega) rfl) (newCell (by simp; omega) rfl) (newCell (by simp; omega) rfl) (newCell (by simp; omega) rfl)).mono ?_
  rintro e w1 ⟨rfl, B1⟩
  have hw1 := B1.size
  simp at hw1
  have hB : Hid (Below w.heap.size w w1) := by unfold Hid; ((repeat (first | refine bel_alloc ?_ _ | refine bel_dN ?_ _ | refine Below.drew ?_ | refine Below.setCell ?_ (by first | (simp; done) | (simp; omega)) _)); refine bel_step ?_ B1; (repeat (first | refine bel_alloc ?_ _ | refine bel_dN ?_ _ | refine Below.drew ?_ | refine Below.setCell ?_ (by first | (simp; done) | (simp; omega)) _)); exact Below.refl _ _)
  have p0 : w1.cell? ⟨g, 0, none⟩ = some (.int .i64 M) := keepCell B1 (by simp; omega) (pastCell (by simp; omega) (by rw [← hgs]; simp))
  have p1 : w1.cell? ⟨g, 1, none⟩ = some (.string D) := keepCell B1 (by simp; omega) (pastCell (by simp; omega) (by rw [← hgs]; simp))
  have q0 : w1.cell? ⟨g + 1, 0, none⟩ = some (.int .i64 0) := keepCell B1 (by simp; omega) (pastCell (by simp; omega) (by rw [← hgs]; simp))
  have q1 : w1.cell? ⟨g + 1, 1, none⟩ = some (.string ⟨#[]⟩) := keepCell B1 (by simp; omega) (pastCell (by simp; omega) (by rw [← hgs]; simp))
  have z0 : w1.frozen? ⟨g + 1, 0, none⟩ = false := keepFree B1 (by simp; omega) (pastFree (by simp; omega) (by rw [← hgs]; simp))
  have z1 : w1.frozen? ⟨g + 1, 1, none⟩ = false := keepFree B1 (by simp; omega) (pastFree (by simp; omega) (by rw [← hgs]; simp))
  clear B1 SP
  go_wp2_with fail
  refine (AW _).mono ?_
  rintro e w2 ⟨rfl, B2⟩
  have hw2 := B2.size
  replace q0 := keepCell B2 (by omega) q0
  replace q1 := keepCell B2 (by omega) q1
  replace z0 := keepFree B2 (by omega) z0
  replace z1 := keepFree B2 (by omega) z1
  replace hB : Hid (Below w.heap.size w w2) := bel_step hB.out B2
  clear B2 AW
  clear p0 p1
  go_wp2
  refine bodyPost_ret (v := .tuple #[.agg #[.int .i64 M', .string D'], .int .i64 c]) (by simp [results, Try.results26, go_sem, q0, q1]) rfl ⟨rfl, ?_⟩
  first
    | (refine Below.setCell (Below.setCell hB.out ?_ _) ?_ _ <;> simp <;> omega)
    | (rw [← hgs]; refine Below.setCell (Below.setCell hB.out ?_ _) ?_ _ <;> simp <;> omega)

theorem copyI_yes (M : Int) (D : ByteArray) (h : D.size ≤ 1048576) (t f n : Nat) (hg : good M D = true) (h1 : t + n ≤ D.size) (h2 : f + n ≤ D.size) (w : World) :
    Calls Try.prog 26 #[.agg #[.int .i64 M, .string D], .int .i64 (t : Int), .int .i64 (f : Int), .int .i64 (n : Int)] w fun e w' => e = .returned (.tuple #[.agg #[.int .i64 M, .string (laidOver D t (D.extract f (f + n)))], .int .i64 0]) ∧ Below w.heap.size w w' := by
  have SP := fun b w h1 h2 h3 h4 h5 => spans2 M D h b (t : Int) (n : Int) (f : Int) (n : Int) w h1 h2 h3 h4 h5 (by omega) (by omega)
  rw [hg, code2_in _ _ _ _ (by omega) (by omega) (by omega) (by omega) (by omega)] at SP
  have hsl := slice_mem (P := Try.prog) 9 Try.underlying9 D f n (by omega)
  have v1 : IntKind.i64.wrap ((f : Int) + (n : Int)) = (f : Int) + n := by rw [IntKind.wrap_i64]; omega
  have v2 : wrap64 ((f : Int) + (n : Int)) = (f : Int) + n := by unfold wrap64; omega
  have hXs : (D.extract f (f + n)).size = n := by simp only [ByteArray.size_extract]; omega
  have ST := stored M D h t (D.extract f (f + n)) (by omega)
  generalize laidOver D t (D.extract f (f + n)) = Y at *
  generalize D.extract f (f + n) = X at *
  clear h h1 h2 hg hXs
  obtain ⟨g, hgs⟩ : ∃ g, w.heap.size = g := ⟨_, rfl⟩
  go_enter Try.func26, Try.ntmps26
  go_wp2_with fail
  refine (SP (g + 2) _ (by simp; omega) (newCell (by simp; omega) rfl) (newCell (by simp; omega) rfl) (newCell (by simp; omega) rfl) (newCell (by simp; omega) rfl)).mono ?_
  rintro e w1 ⟨rfl, B1⟩
  have hw1 := B1.size
  simp at hw1
  have hB : Hid (Below w.heap.size w w1) := by unfold Hid; ((repeat (first | refine bel_alloc ?_ _ | refine bel_dN ?_ _ | refine Below.drew ?_ | refine Below.setCell ?_ (by first | (simp; done) | (simp; omega)) _)); refine bel_step ?_ B1; (repeat (first | refine bel_alloc ?_ _ | refine bel_dN ?_ _ | refine Below.drew ?_ | refine Below.setCell ?_ (by first | (simp; done) | (simp; omega)) _)); exact Below.refl _ _)
  have p0 : w1.cell? ⟨g, 0, none⟩ = some (.int .i64 M) := keepCell B1 (by simp; omega) (pastCell (by simp; omega) (by rw [← hgs]; simp))
  have p1 : w1.cell? ⟨g, 1, none⟩ = some (.string D) := keepCell B1 (by simp; omega) (pastCell (by simp; omega) (by rw [← hgs]; simp))
  have q0 : w1.cell? ⟨g + 1, 0, none⟩ = some (.int .i64 0) := keepCell B1 (by simp; omega) (pastCell (by simp; omega) (by rw [← hgs]; simp))
  have q1 : w1.cell? ⟨g + 1, 1, none⟩ = some (.string ⟨#[]⟩) := keepCell B1 (by simp; omega) (pastCell (by simp; omega) (by rw [← hgs]; simp))
  have z0 : w1.frozen? ⟨g + 1, 0, none⟩ = false := keepFree B1 (by simp; omega) (pastFree (by simp; omega) (by rw [← hgs]; simp))
  have z1 : w1.frozen? ⟨g + 1, 1, none⟩ = false := keepFree B1 (by simp; omega) (pastFree (by simp; omega) (by rw [← hgs]; simp))
  clear B1 SP
  have k0 : ∀ w, Keeps w1 w → w.cell? ⟨g, 0, none⟩ = some (.int .i64 M) := fun w h => h.cell (by omega) p0
  have k1 : ∀ w, Keeps w1 w → w.cell? ⟨g, 1, none⟩ = some (.string D) := fun w h => h.cell (by omega) p1
  have k2 : ∀ w, Keeps w1 w → w.cell? ⟨g + 1, 0, none⟩ = some (.int .i64 0) := fun w h => h.cell (by omega) q0
  have k3 : ∀ w, Keeps w1 w → w.cell? ⟨g + 1, 1, none⟩ = some (.string ⟨#[]⟩) := fun w h => h.cell (by omega) q1
  have y0 : ∀ w, Keeps w1 w → w.frozen? ⟨g + 1, 0, none⟩ = false := fun w h => h.frozen (by omega) z0
  have y1 : ∀ w, Keeps w1 w → w.frozen? ⟨g + 1, 1, none⟩ = false := fun w h => h.frozen (by omega) z1
  clear p0 p1 q0 q1 z0 z1
  go_wp2_with fail
  refine region_qtail (C := Keeps w1) 10 (by kernel_rfl) (by kernel_rfl) (Keeps.drew w1) ?_
  (iterate 10
    (apply wpQuiet_go _ (by rfl)
     · intro wq hq
       go_simp
       first
         | (go_at_call 57; exact qcall hq (ST _))
         | exact rfl
     simp only [Act.put, List.setIfInBounds_toArray, List.set_cons_succ, List.set_cons_zero]))
  refine wpQuiet_nil ?_
  intro wz hk
  have q0 := k2 _ hk
  have q1 := k3 _ hk
  have z0 := y0 _ hk
  have z1 := y1 _ hk
  have hb := hk.below
  have hsz := hb.size
  replace hB : Hid (Below w.heap.size w wz) := bel_step hB.out hb
  clear k0 k1 k2 k3 y0 y1 hk hb ST hsl v1 v2
  go_wp2
  refine bodyPost_ret (v := .tuple #[.agg #[.int .i64 M, .string Y], .int .i64 0]) (by simp [results, Try.results26, go_sem, q0, q1]) rfl ⟨rfl, ?_⟩
  first
    | (refine Below.setCell (Below.setCell hB.out ?_ _) ?_ _ <;> simp <;> omega)
    | (rw [← hgs]; refine Below.setCell (Below.setCell hB.out ?_ _) ?_ _ <;> simp <;> omega)

theorem copyS (M : Int) (D : ByteArray) (h : D.size ≤ 1048576) (t f n : Int) (ht : t ≤ 9223372036854775807) (hf : f ≤ 9223372036854775807) (c : Int) (hc : codeOf (good M D) D.size [(t, n), (f, n)] = c) (M' : Int) (D' : ByteArray)
    (h1 : c = 0 → M' = M ∧ laidOver D t.toNat (D.extract f.toNat (f.toNat + n.toNat)) = D') (h2 : c ≠ 0 → kept M D = (M', D')) (w : World) :
    Calls Try.prog 27 #[.agg #[.int .i64 M, .string D], .int .i64 t, .int .i64 f, .int .i64 n] w fun e w' => e = .returned (.tuple #[.agg #[.int .i64 M', .string D'], .int .i64 c]) ∧ Below w.heap.size w w' := by
  have HG := mGoodS M D h
  unfold kept at h2
  generalize good M D = G at *
  obtain ⟨g, hgs⟩ : ∃ g, w.heap.size = g := ⟨_, rfl⟩
  cases G
  · obtain rfl : c = 1 := hc.symm
    obtain ⟨rfl, rfl⟩ : 0 = M' ∧ ⟨#[]⟩ = D' := by have := h2 (by decide); simpa using this
    clear h1 h2 hc
    go_enter Try.func27, Try.ntmps27
    go_wp2_with fail
    refine (HG _).mono ?_
    rintro e w1 ⟨rfl, B1⟩
    have hw1 := B1.size
    simp at hw1
    have hB : Hid (Below w.heap.size w w1) := by unfold Hid; ((repeat (first | refine bel_alloc ?_ _ | refine bel_dN ?_ _ | refine Below.drew ?_ | refine Below.setCell ?_ (by first | (simp; done) | (simp; omega)) _)); refine bel_step ?_ B1; (repeat (first | refine bel_alloc ?_ _ | refine bel_dN ?_ _ | refine Below.drew ?_ | refine Below.setCell ?_ (by first | (simp; done) | (simp; omega)) _)); exact Below.refl _ _)
    have p0 : w1.cell? ⟨g, 0, none⟩ = some (.int .i64 M) := keepCell B1 (by simp; omega) (by rw [← hgs]; simp)
    have p1 : w1.cell? ⟨g, 1, none⟩ = some (.string D) := keepCell B1 (by simp; omega) (by rw [← hgs]; simp)
    have q0 : w1.cell? ⟨g + 1, 0, none⟩ = some (.int .i64 0) := keepCell B1 (by simp; omega) (by rw [← hgs]; simp)
    have q1 : w1.cell? ⟨g + 1, 1, none⟩ = some (.string ⟨#[]⟩) := keepCell B1 (by simp; omega) (by rw [← hgs]; simp)
    have z0 : w1.frozen? ⟨g + 1, 0, none⟩ = false := keepFree B1 (by simp; omega) (by rw [← hgs]; simp)
    have z1 : w1.frozen? ⟨g + 1, 1, none⟩ = false := keepFree B1 (by simp; omega) (by rw [← hgs]; simp)
    clear B1 HG
    clear p0 p1
    go_wp2
    refine bodyPost_ret (v := .tuple #[.agg #[.int .i64 0, .string ⟨#[]⟩], .int .i64 1]) (by simp [results, Try.results27, go_sem, q0, q1]) rfl ⟨rfl, ?_⟩
    first
      | (refine Below.setCell (Below.setCell hB.out ?_ _) ?_ _ <;> simp <;> omega)
      | (rw [← hgs]; refine Below.setCell (Below.setCell hB.out ?_ _) ?_ _ <;> simp <;> omega)
  · by_cases k1 : t < 0
    · rw [code2_none _ _ _ _ (Or.inl k1)] at hc
      subst hc
      obtain ⟨rfl, rfl⟩ : M = M' ∧ D = D' := by have := h2 (by decide); simpa using this
      clear h1 h2
      go_enter Try.func27, Try.ntmps27
      go_wp2_with fail
      refine (HG _).mono ?_
      rintro e w1 ⟨rfl, B1⟩
      have hw1 := B1.size
      simp at hw1
      have hB : Hid (Below w.heap.size w w1) := by unfold Hid; ((repeat (first | refine bel_alloc ?_ _ | refine bel_dN ?_ _ | refine Below.drew ?_ | refine Below.setCell ?_ (by first | (simp; done) | (simp; omega)) _)); refine bel_step ?_ B1; (repeat (first | refine bel_alloc ?_ _ | refine bel_dN ?_ _ | refine Below.drew ?_ | refine Below.setCell ?_ (by first | (simp; done) | (simp; omega)) _)); exact Below.refl _ _)
      have p0 : w1.cell? ⟨g, 0, none⟩ = some (.int .i64 M) := keepCell B1 (by simp; omega) (by rw [← hgs]; simp)
      have p1 : w1.cell? ⟨g, 1, none⟩ = some (.string D) := keepCell B1 (by simp; omega) (by rw [← hgs]; simp)
      have q0 : w1.cell? ⟨g + 1, 0, none⟩ = some (.int .i64 0) := keepCell B1 (by simp; omega) (by rw [← hgs]; simp)
      have q1 : w1.cell? ⟨g + 1, 1, none⟩ = some (.string ⟨#[]⟩) := keepCell B1 (by simp; omega) (by rw [← hgs]; simp)
      have z0 : w1.frozen? ⟨g + 1, 0, none⟩ = false := keepFree B1 (by simp; omega) (by rw [← hgs]; simp)
      have z1 : w1.frozen? ⟨g + 1, 1, none⟩ = false := keepFree B1 (by simp; omega) (by rw [← hgs]; simp)
      clear B1 HG
      go_wp2
      refine bodyPost_ret (v := .tuple #[.agg #[.int .i64 M, .string D], .int .i64 1]) (by simp [results, Try.results27, go_sem, q0, q1]) rfl ⟨rfl, ?_⟩
      first
        | (refine Below.setCell (Below.setCell hB.out ?_ _) ?_ _ <;> simp <;> omega)
        | (rw [← hgs]; refine Below.setCell (Below.setCell hB.out ?_ _) ?_ _ <;> simp <;> omega)
    · by_cases k2 : f < 0
      · rw [code2_none _ _ _ _ (Or.inr (Or.inl k2))] at hc
        subst hc
        obtain ⟨rfl, rfl⟩ : M = M' ∧ D = D' := by have := h2 (by decide); simpa using this
        clear h1 h2
        go_enter Try.func27, Try.ntmps27
        go_wp2_with fail
        refine (HG _).mono ?_
        rintro e w1 ⟨rfl, B1⟩
        have hw1 := B1.size
        simp at hw1
        have hB : Hid (Below w.heap.size w w1) := by unfold Hid; ((repeat (first | refine bel_alloc ?_ _ | refine bel_dN ?_ _ | refine Below.drew ?_ | refine Below.setCell ?_ (by first | (simp; done) | (simp; omega)) _)); refine bel_step ?_ B1; (repeat (first | refine bel_alloc ?_ _ | refine bel_dN ?_ _ | refine Below.drew ?_ | refine Below.setCell ?_ (by first | (simp; done) | (simp; omega)) _)); exact Below.refl _ _)
        have p0 : w1.cell? ⟨g, 0, none⟩ = some (.int .i64 M) := keepCell B1 (by simp; omega) (by rw [← hgs]; simp)
        have p1 : w1.cell? ⟨g, 1, none⟩ = some (.string D) := keepCell B1 (by simp; omega) (by rw [← hgs]; simp)
        have q0 : w1.cell? ⟨g + 1, 0, none⟩ = some (.int .i64 0) := keepCell B1 (by simp; omega) (by rw [← hgs]; simp)
        have q1 : w1.cell? ⟨g + 1, 1, none⟩ = some (.string ⟨#[]⟩) := keepCell B1 (by simp; omega) (by rw [← hgs]; simp)
        have z0 : w1.frozen? ⟨g + 1, 0, none⟩ = false := keepFree B1 (by simp; omega) (by rw [← hgs]; simp)
        have z1 : w1.frozen? ⟨g + 1, 1, none⟩ = false := keepFree B1 (by simp; omega) (by rw [← hgs]; simp)
        clear B1 HG
        go_wp2
        refine bodyPost_ret (v := .tuple #[.agg #[.int .i64 M, .string D], .int .i64 1]) (by simp [results, Try.results27, go_sem, q0, q1]) rfl ⟨rfl, ?_⟩
        first
          | (refine Below.setCell (Below.setCell hB.out ?_ _) ?_ _ <;> simp <;> omega)
          | (rw [← hgs]; refine Below.setCell (Below.setCell hB.out ?_ _) ?_ _ <;> simp <;> omega)
      · by_cases k3 : n < 0
        · rw [code2_none _ _ _ _ (Or.inr (Or.inr k3))] at hc
          subst hc
          obtain ⟨rfl, rfl⟩ : M = M' ∧ D = D' := by have := h2 (by decide); simpa using this
          clear h1 h2
          go_enter Try.func27, Try.ntmps27
          go_wp2_with fail
          refine (HG _).mono ?_
          rintro e w1 ⟨rfl, B1⟩
          have hw1 := B1.size
          simp at hw1
          have hB : Hid (Below w.heap.size w w1) := by unfold Hid; ((repeat (first | refine bel_alloc ?_ _ | refine bel_dN ?_ _ | refine Below.drew ?_ | refine Below.setCell ?_ (by first | (simp; done) | (simp; omega)) _)); refine bel_step ?_ B1; (repeat (first | refine bel_alloc ?_ _ | refine bel_dN ?_ _ | refine Below.drew ?_ | refine Below.setCell ?_ (by first | (simp; done) | (simp; omega)) _)); exact Below.refl _ _)
          have p0 : w1.cell? ⟨g, 0, none⟩ = some (.int .i64 M) := keepCell B1 (by simp; omega) (by rw [← hgs]; simp)
          have p1 : w1.cell? ⟨g, 1, none⟩ = some (.string D) := keepCell B1 (by simp; omega) (by rw [← hgs]; simp)
          have q0 : w1.cell? ⟨g + 1, 0, none⟩ = some (.int .i64 0) := keepCell B1 (by simp; omega) (by rw [← hgs]; simp)
          have q1 : w1.cell? ⟨g + 1, 1, none⟩ = some (.string ⟨#[]⟩) := keepCell B1 (by simp; omega) (by rw [← hgs]; simp)
          have z0 : w1.frozen? ⟨g + 1, 0, none⟩ = false := keepFree B1 (by simp; omega) (by rw [← hgs]; simp)
          have z1 : w1.frozen? ⟨g + 1, 1, none⟩ = false := keepFree B1 (by simp; omega) (by rw [← hgs]; simp)
          clear B1 HG
          go_wp2
          refine bodyPost_ret (v := .tuple #[.agg #[.int .i64 M, .string D], .int .i64 1]) (by simp [results, Try.results27, go_sem, q0, q1]) rfl ⟨rfl, ?_⟩
          first
            | (refine Below.setCell (Below.setCell hB.out ?_ _) ?_ _ <;> simp <;> omega)
            | (rw [← hgs]; refine Below.setCell (Below.setCell hB.out ?_ _) ?_ _ <;> simp <;> omega)
        · have I1 := l5Inside M D _ rfl (by omega) t n (by omega) ht (by omega)
          have I2 := l5Inside M D _ rfl (by omega) f n (by omega) hf (by omega)
          by_cases k4 : n ≤ (D.size : Int) - t
          · rw [decide_eq_true k4] at I1
            by_cases k5 : n ≤ (D.size : Int) - f
            · rw [decide_eq_true k5] at I2
              rw [code2_in _ _ _ _ (by omega) (by omega) (by omega) k4 k5] at hc
              subst hc
              obtain ⟨rfl, hX⟩ := h1 rfl
              obtain ⟨t, rfl⟩ : ∃ k : Nat, t = (k : Int) := ⟨t.toNat, by omega⟩
              obtain ⟨f, rfl⟩ : ∃ k : Nat, f = (k : Int) := ⟨f.toNat, by omega⟩
              obtain ⟨n, rfl⟩ : ∃ k : Nat, n = (k : Int) := ⟨n.toNat, by omega⟩
              simp only [Int.toNat_natCast] at hX
              have hsl := slice_mem (P := Try.prog) 9 Try.underlying9 D f n (by omega)
              have v1 : IntKind.i64.wrap ((f : Int) + (n : Int)) = (f : Int) + n := by rw [IntKind.wrap_i64]; omega
              have v2 : wrap64 ((f : Int) + (n : Int)) = (f : Int) + n := by unfold wrap64; omega
              have hXs : (D.extract f (f + n)).size = n := by simp only [ByteArray.size_extract]; omega
              have ST := l5Store M' D h t (D.extract f (f + n)) (by omega)
              rw [hX] at ST
              generalize D.extract f (f + n) = X at *
              clear h1 h2 hX k4 k5 hXs ht hf h
              go_enter Try.func27, Try.ntmps27
              go_wp2_with fail
              refine (HG _).mono ?_
              rintro e w1 ⟨rfl, B1⟩
              have hw1 := B1.size
              simp at hw1
              have hB : Hid (Below w.heap.size w w1) := by unfold Hid; ((repeat (first | refine bel_alloc ?_ _ | refine bel_dN ?_ _ | refine Below.drew ?_ | refine Below.setCell ?_ (by first | (simp; done) | (simp; omega)) _)); refine bel_step ?_ B1; (repeat (first | refine bel_alloc ?_ _ | refine bel_dN ?_ _ | refine Below.drew ?_ | refine Below.setCell ?_ (by first | (simp; done) | (simp; omega)) _)); exact Below.refl _ _)
              have p0 : w1.cell? ⟨g, 0, none⟩ = some (.int .i64 M') := keepCell B1 (by simp; omega) (by rw [← hgs]; simp)
              have p1 : w1.cell? ⟨g, 1, none⟩ = some (.string D) := keepCell B1 (by simp; omega) (by rw [← hgs]; simp)
              have q0 : w1.cell? ⟨g + 1, 0, none⟩ = some (.int .i64 0) := keepCell B1 (by simp; omega) (by rw [← hgs]; simp)
              have q1 : w1.cell? ⟨g + 1, 1, none⟩ = some (.string ⟨#[]⟩) := keepCell B1 (by simp; omega) (by rw [← hgs]; simp)
              have z0 : w1.frozen? ⟨g + 1, 0, none⟩ = false := keepFree B1 (by simp; omega) (by rw [← hgs]; simp)
              have z1 : w1.frozen? ⟨g + 1, 1, none⟩ = false := keepFree B1 (by simp; omega) (by rw [← hgs]; simp)
              clear B1 HG
              go_wp2_with fail
              refine (I1 _).mono ?_
              rintro e w2 ⟨rfl, B2⟩
              have hw2 := B2.size
              replace p0 := keepCell B2 (by omega) p0
              replace p1 := keepCell B2 (by omega) p1
              replace q0 := keepCell B2 (by omega) q0
              replace q1 := keepCell B2 (by omega) q1
              replace z0 := keepFree B2 (by omega) z0
              replace z1 := keepFree B2 (by omega) z1
              replace hB : Hid (Below w.heap.size w w2) := bel_step hB.out B2
              clear B2 I1
              go_wp2_with fail
              refine (I2 _).mono ?_
              rintro e w3 ⟨rfl, B3⟩
              have hw3 := B3.size
              replace p0 := keepCell B3 (by omega) p0
              replace p1 := keepCell B3 (by omega) p1
              replace q0 := keepCell B3 (by omega) q0
              replace q1 := keepCell B3 (by omega) q1
              replace z0 := keepFree B3 (by omega) z0
              replace z1 := keepFree B3 (by omega) z1
              replace hB : Hid (Below w.heap.size w w3) := bel_step hB.out B3
              clear B3 I2
              have k0 : ∀ w, Keeps w3 w → w.cell? ⟨g, 0, none⟩ = some (.int .i64 M') := fun w h => h.cell (by omega) p0
              have k1 : ∀ w, Keeps w3 w → w.cell? ⟨g, 1, none⟩ = some (.string D) := fun w h => h.cell (by omega) p1
              have k2 : ∀ w, Keeps w3 w → w.cell? ⟨g + 1, 0, none⟩ = some (.int .i64 0) := fun w h => h.cell (by omega) q0
              have k3 : ∀ w, Keeps w3 w → w.cell? ⟨g + 1, 1, none⟩ = some (.string ⟨#[]⟩) := fun w h => h.cell (by omega) q1
              have y0 : ∀ w, Keeps w3 w → w.frozen? ⟨g + 1, 0, none⟩ = false := fun w h => h.frozen (by omega) z0
              have y1 : ∀ w, Keeps w3 w → w.frozen? ⟨g + 1, 1, none⟩ = false := fun w h => h.frozen (by omega) z1
              clear p0 p1 q0 q1 z0 z1
              go_wp2_with fail
              refine region_qtail (C := Keeps w3) 10 (by kernel_rfl) (by kernel_rfl) (Keeps.drew w3) ?_
              (iterate 10
    (apply wpQuiet_go _ (by rfl)
     · intro wq hq
       go_simp
       first
         | (go_at_call 60; exact qcall hq (ST _))
         | exact rfl
     simp only [Act.put, List.setIfInBounds_toArray, List.set_cons_succ, List.set_cons_zero]))
              refine wpQuiet_nil ?_
              intro wz hk
              have q0 := k2 _ hk
              have q1 := k3 _ hk
              have z0 := y0 _ hk
              have z1 := y1 _ hk
              have hb := hk.below
              have hsz := hb.size
              replace hB : Hid (Below w.heap.size w wz) := bel_step hB.out hb
              clear k0 k1 k2 k3 y0 y1 hk hb ST hsl v1 v2
              go_wp2
              refine bodyPost_ret (v := .tuple #[.agg #[.int .i64 M', .string D'], .int .i64 0]) (by simp [results, Try.results27, go_sem, q0, q1]) rfl ⟨rfl, ?_⟩
              first
                | (refine Below.setCell (Below.setCell hB.out ?_ _) ?_ _ <;> simp <;> omega)
                | (rw [← hgs]; refine Below.setCell (Below.setCell hB.out ?_ _) ?_ _ <;> simp <;> omega)
            · rw [decide_eq_false k5] at I2
              rw [code2_out _ _ _ _ (by omega) (by omega) (by omega) (Or.inr (by omega))] at hc
              subst hc
              obtain ⟨rfl, rfl⟩ : M = M' ∧ D = D' := by have := h2 (by decide); simpa using this
              clear h1 h2 k4 k5 ht hf h
              go_enter Try.func27, Try.ntmps27
              go_wp2_with fail
              refine (HG _).mono ?_
              rintro e w1 ⟨rfl, B1⟩
              have hw1 := B1.size
              simp at hw1
              have hB : Hid (Below w.heap.size w w1) := by unfold Hid; ((repeat (first | refine bel_alloc ?_ _ | refine bel_dN ?_ _ | refine Below.drew ?_ | refine Below.setCell ?_ (by first | (simp; done) | (simp; omega)) _)); refine bel_step ?_ B1; (repeat (first | refine bel_alloc ?_ _ | refine bel_dN ?_ _ | refine Below.drew ?_ | refine Below.setCell ?_ (by first | (simp; done) | (simp; omega)) _)); exact Below.refl _ _)
              have p0 : w1.cell? ⟨g, 0, none⟩ = some (.int .i64 M) := keepCell B1 (by simp; omega) (by rw [← hgs]; simp)
              have p1 : w1.cell? ⟨g, 1, none⟩ = some (.string D) := keepCell B1 (by simp; omega) (by rw [← hgs]; simp)
              have q0 : w1.cell? ⟨g + 1, 0, none⟩ = some (.int .i64 0) := keepCell B1 (by simp; omega) (by rw [← hgs]; simp)
              have q1 : w1.cell? ⟨g + 1, 1, none⟩ = some (.string ⟨#[]⟩) := keepCell B1 (by simp; omega) (by rw [← hgs]; simp)
              have z0 : w1.frozen? ⟨g + 1, 0, none⟩ = false := keepFree B1 (by simp; omega) (by rw [← hgs]; simp)
              have z1 : w1.frozen? ⟨g + 1, 1, none⟩ = false := keepFree B1 (by simp; omega) (by rw [← hgs]; simp)
              clear B1 HG
              go_wp2_with fail
              refine (I1 _).mono ?_
              rintro e w2 ⟨rfl, B2⟩
              have hw2 := B2.size
              replace p0 := keepCell B2 (by omega) p0
              replace p1 := keepCell B2 (by omega) p1
              replace q0 := keepCell B2 (by omega) q0
              replace q1 := keepCell B2 (by omega) q1
              replace z0 := keepFree B2 (by omega) z0
              replace z1 := keepFree B2 (by omega) z1
              replace hB : Hid (Below w.heap.size w w2) := bel_step hB.out B2
              clear B2 I1
              go_wp2_with fail
              refine (I2 _).mono ?_
              rintro e w3 ⟨rfl, B3⟩
              have hw3 := B3.size
              replace p0 := keepCell B3 (by omega) p0
              replace p1 := keepCell B3 (by omega) p1
              replace q0 := keepCell B3 (by omega) q0
              replace q1 := keepCell B3 (by omega) q1
              replace z0 := keepFree B3 (by omega) z0
              replace z1 := keepFree B3 (by omega) z1
              replace hB : Hid (Below w.heap.size w w3) := bel_step hB.out B3
              clear B3 I2
              go_wp2
              refine bodyPost_ret (v := .tuple #[.agg #[.int .i64 M, .string D], .int .i64 2]) (by simp [results, Try.results27, go_sem, q0, q1]) rfl ⟨rfl, ?_⟩
              first
                | (refine Below.setCell (Below.setCell hB.out ?_ _) ?_ _ <;> simp <;> omega)
                | (rw [← hgs]; refine Below.setCell (Below.setCell hB.out ?_ _) ?_ _ <;> simp <;> omega)
          · rw [decide_eq_false k4] at I1
            rw [code2_out _ _ _ _ (by omega) (by omega) (by omega) (Or.inl (by omega))] at hc
            subst hc
            obtain ⟨rfl, rfl⟩ : M = M' ∧ D = D' := by have := h2 (by decide); simpa using this
            clear h1 h2 k4 ht hf h I2
            go_enter Try.func27, Try.ntmps27
            go_wp2_with fail
            refine (HG _).mono ?_
            rintro e w1 ⟨rfl, B1⟩
            have hw1 := B1.size
            simp at hw1
            have hB : Hid (Below w.heap.size w w1) := by unfold Hid; ((repeat (first | refine bel_alloc ?_ _ | refine bel_dN ?_ _ | refine Below.drew ?_ | refine Below.setCell ?_ (by first | (simp; done) | (simp; omega)) _)); refine bel_step ?_ B1; (repeat (first | refine bel_alloc ?_ _ | refine bel_dN ?_ _ | refine Below.drew ?_ | refine Below.setCell ?_ (by first | (simp; done) | (simp; omega)) _)); exact Below.refl _ _)
            have p0 : w1.cell? ⟨g, 0, none⟩ = some (.int .i64 M) := keepCell B1 (by simp; omega) (by rw [← hgs]; simp)
            have p1 : w1.cell? ⟨g, 1, none⟩ = some (.string D) := keepCell B1 (by simp; omega) (by rw [← hgs]; simp)
            have q0 : w1.cell? ⟨g + 1, 0, none⟩ = some (.int .i64 0) := keepCell B1 (by simp; omega) (by rw [← hgs]; simp)
            have q1 : w1.cell? ⟨g + 1, 1, none⟩ = some (.string ⟨#[]⟩) := keepCell B1 (by simp; omega) (by rw [← hgs]; simp)
            have z0 : w1.frozen? ⟨g + 1, 0, none⟩ = false := keepFree B1 (by simp; omega) (by rw [← hgs]; simp)
            have z1 : w1.frozen? ⟨g + 1, 1, none⟩ = false := keepFree B1 (by simp; omega) (by rw [← hgs]; simp)
            clear B1 HG
            go_wp2_with fail
            refine (I1 _).mono ?_
            rintro e w2 ⟨rfl, B2⟩
            have hw2 := B2.size
            replace p0 := keepCell B2 (by omega) p0
            replace p1 := keepCell B2 (by omega) p1
            replace q0 := keepCell B2 (by omega) q0
            replace q1 := keepCell B2 (by omega) q1
            replace z0 := keepFree B2 (by omega) z0
            replace z1 := keepFree B2 (by omega) z1
            replace hB : Hid (Below w.heap.size w w2) := bel_step hB.out B2
            clear B2 I1
            go_wp2
            refine bodyPost_ret (v := .tuple #[.agg #[.int .i64 M, .string D], .int .i64 2]) (by simp [results, Try.results27, go_sem, q0, q1]) rfl ⟨rfl, ?_⟩
            first
              | (refine Below.setCell (Below.setCell hB.out ?_ _) ?_ _ <;> simp <;> omega)
              | (rw [← hgs]; refine Below.setCell (Below.setCell hB.out ?_ _) ?_ _ <;> simp <;> omega)

theorem code2_zero {M : Int} {D : ByteArray} {t f n : Int} (hc : codeOf (good M D) D.size [(t, n), (f, n)] = 0) : good M D = true ∧ 0 ≤ t ∧ 0 ≤ f ∧ 0 ≤ n ∧ n ≤ (D.size : Int) - t ∧ n ≤ (D.size : Int) - f := by
  have hg : good M D = true := by
    cases hG : good M D
    · rw [hG] at hc; cases hc
    · rfl
  rw [hg] at hc
  have h0 : ¬ (t < 0 ∨ f < 0 ∨ n < 0) := fun h => by rw [code2_none _ _ _ _ h] at hc; cases hc
  have h1 : ¬ ((D.size : Int) - t < n ∨ (D.size : Int) - f < n) := fun h => by rw [code2_out _ _ _ _ (by omega) (by omega) (by omega) h] at hc; cases hc
  exact ⟨hg, by omega, by omega, by omega, by omega, by omega⟩

theorem copyBoth (M : Int) (D : ByteArray) (h : D.size ≤ 1048576) (t f n : Int) (ht : t ≤ 9223372036854775807) (hf : f ≤ 9223372036854775807) :
    ∃ M' D' c, (∀ w, Calls Try.prog 27 #[.agg #[.int .i64 M, .string D], .int .i64 t, .int .i64 f, .int .i64 n] w fun e w' => e = .returned (.tuple #[.agg #[.int .i64 M', .string D'], .int .i64 c]) ∧ Below w.heap.size w w') ∧
      (∀ w, Calls Try.prog 26 #[.agg #[.int .i64 M, .string D], .int .i64 t, .int .i64 f, .int .i64 n] w fun e w' => e = .returned (.tuple #[.agg #[.int .i64 M', .string D'], .int .i64 c]) ∧ Below w.heap.size w w') := by
  by_cases hc : codeOf (good M D) D.size [(t, n), (f, n)] = 0
  · have S := copyS M D h t f n ht hf 0 hc M _ (fun _ => ⟨rfl, rfl⟩) (fun h => absurd rfl h)
    obtain ⟨hg, h0, h1, h2, h3, h4⟩ := code2_zero hc
    obtain ⟨t, rfl⟩ : ∃ k : Nat, t = (k : Int) := ⟨t.toNat, by omega⟩
    obtain ⟨f, rfl⟩ : ∃ k : Nat, f = (k : Int) := ⟨f.toNat, by omega⟩
    obtain ⟨n, rfl⟩ : ∃ k : Nat, n = (k : Int) := ⟨n.toNat, by omega⟩
    simp only [Int.toNat_natCast] at S
    exact ⟨_, _, _, S, copyI_yes M D h t f n hg (by omega) (by omega)⟩
  · exact ⟨_, _, _, copyS M D h t f n ht hf _ rfl _ _ (fun h => absurd h hc) (fun _ => rfl), copyI_no M D h t f n ht hf _ rfl hc⟩

end Go.Proofs.Ytlkbalmkljabhaa
