/-
  LoadBytes and StoreBytes: both sides.
-/
import Derived.Test.YtalmgodakdjjcabMBoth
namespace Go.Proofs.Ytalmgodakdjjcab
open Go.ChangeShapes Go.WideShapes Go.ChangeAt Go.RowKit

theorem slice_mem {P : Program} (T : TypeId) (hu : P.underlying T = some .string) (s : ByteArray) (t n : Nat) (h : t + n ≤ s.size) (wx : World) :
    (Instr.slice T (.string s) (some (.int .i64 (t : Int))) (some (.int .i64 ((t : Int) + (n : Int)))) none).run P wx = .ok (.string (s.extract t (t + n))) wx := by
  have H := run_slice_string (P := P) wx T s .i64 .i64 (t : Int) ((t : Int) + (n : Int)) hu (by omega) (by omega) (by omega)
  have e : ((t : Int) + (n : Int)).toNat = t + n := by omega
  rw [e] at H
  exact H

set_option maxHeartbeats 400000 in
theorem loadS (M : Int) (D : ByteArray) (h : D.size ≤ 1048576) (a n : Int) (ha : a ≤ 9223372036854775807) (hn : n ≤ 9223372036854775807) (c : Int) (X : ByteArray) (hc : codeOf (good M D) D.size [(a, n)] = c)
    (hX : c = 0 → D.extract a.toNat (a.toNat + n.toNat) = X) (hX0 : c ≠ 0 → X = ⟨#[]⟩) (w : World) :
    Calls Try.prog 19 #[.agg #[.int .i64 M, .string D], .int .i64 a, .int .i64 n] w fun e w' => e = .returned (.tuple #[.string X, .int .i64 c]) ∧ Below w.heap.size w w' := by
  have HG := mGoodS M D h
  generalize good M D = G at *
  obtain ⟨g, hgs⟩ : ∃ g, w.heap.size = g := ⟨_, rfl⟩
  cases G
  · obtain rfl : c = 1 := hc.symm
    obtain rfl := hX0 (by decide)
    clear hX hX0 hc
    go_enter Try.func19, Try.ntmps19
    go_wp2_with fail
    refine (HG _).mono ?_
    rintro e w1 ⟨rfl, B1⟩
    go_wp2
    go_ret2
    refine ⟨rfl, ?_⟩
    ((repeat (first | refine bel_alloc ?_ _ | refine bel_dN ?_ _ | refine Below.drew ?_ | refine Below.setCell ?_ (by first | (simp; done) | (simp; omega)) _)); refine bel_step ?_ B1; (repeat (first | refine bel_alloc ?_ _ | refine bel_dN ?_ _ | refine Below.drew ?_ | refine Below.setCell ?_ (by first | (simp; done) | (simp; omega)) _)); exact Below.refl _ _)
  · by_cases h1 : a < 0
    · rw [code1_none _ _ _ (Or.inl h1)] at hc
      subst hc
      obtain rfl := hX0 (by decide)
      clear hX hX0
      go_enter Try.func19, Try.ntmps19
      go_wp2_with fail
      refine (HG _).mono ?_
      rintro e w1 ⟨rfl, B1⟩
      go_wp2
      go_ret2
      refine ⟨rfl, ?_⟩
      ((repeat (first | refine bel_alloc ?_ _ | refine bel_dN ?_ _ | refine Below.drew ?_ | refine Below.setCell ?_ (by first | (simp; done) | (simp; omega)) _)); refine bel_step ?_ B1; (repeat (first | refine bel_alloc ?_ _ | refine bel_dN ?_ _ | refine Below.drew ?_ | refine Below.setCell ?_ (by first | (simp; done) | (simp; omega)) _)); exact Below.refl _ _)
    · by_cases h2 : n < 0
      · rw [code1_none _ _ _ (Or.inr h2)] at hc
        subst hc
        obtain rfl := hX0 (by decide)
        clear hX hX0
        go_enter Try.func19, Try.ntmps19
        go_wp2_with fail
        refine (HG _).mono ?_
        rintro e w1 ⟨rfl, B1⟩
        go_wp2
        go_ret2
        refine ⟨rfl, ?_⟩
        ((repeat (first | refine bel_alloc ?_ _ | refine bel_dN ?_ _ | refine Below.drew ?_ | refine Below.setCell ?_ (by first | (simp; done) | (simp; omega)) _)); refine bel_step ?_ B1; (repeat (first | refine bel_alloc ?_ _ | refine bel_dN ?_ _ | refine Below.drew ?_ | refine Below.setCell ?_ (by first | (simp; done) | (simp; omega)) _)); exact Below.refl _ _)
      · have IN := l5Inside M D _ rfl (by omega) a n (by omega) ha (by omega)
        by_cases h3 : n ≤ (D.size : Int) - a
        · rw [code1_in _ _ _ (by omega) (by omega) h3] at hc
          subst hc
          replace hX := hX rfl
          rw [decide_eq_true h3] at IN
          obtain ⟨a, rfl⟩ : ∃ k : Nat, a = (k : Int) := ⟨a.toNat, by omega⟩
          obtain ⟨n, rfl⟩ : ∃ k : Nat, n = (k : Int) := ⟨n.toNat, by omega⟩
          simp only [Int.toNat_natCast] at hX
          have hsl := slice_mem (P := Try.prog) 9 Try.underlying9 D a n (by omega)
          have v : wrap64 ((a : Int) + (n : Int)) = (a : Int) + n := by unfold wrap64; omega
          rw [hX] at hsl
          clear hX hX0 h3 ha hn h
          go_enter Try.func19, Try.ntmps19
          go_wp2_with fail
          refine (HG _).mono ?_
          rintro e w1 ⟨rfl, B1⟩
          have hs := B1.size
          simp at hs
          have q0 : w1.cell? ⟨g, 0, none⟩ = some (.int .i64 M) := by rw [B1.cell (p := ⟨g, 0, none⟩) (by simp; omega), ← hgs]; simp
          have q1 : w1.cell? ⟨g, 1, none⟩ = some (.string D) := by rw [B1.cell (p := ⟨g, 1, none⟩) (by simp; omega), ← hgs]; simp
          have hB : Hid (Below w.heap.size w w1) := by unfold Hid; ((repeat (first | refine bel_alloc ?_ _ | refine bel_dN ?_ _ | refine Below.drew ?_ | refine Below.setCell ?_ (by first | (simp; done) | (simp; omega)) _)); refine bel_step ?_ B1; (repeat (first | refine bel_alloc ?_ _ | refine bel_dN ?_ _ | refine Below.drew ?_ | refine Below.setCell ?_ (by first | (simp; done) | (simp; omega)) _)); exact Below.refl _ _)
          clear B1 HG
          go_wp2_with fail
          refine (IN _).mono ?_
          rintro e w2 ⟨rfl, B2⟩
          have r1 : w2.cell? ⟨g, 1, none⟩ = some (.string D) := by rw [B2.cell (p := ⟨g, 1, none⟩) (by show g < _; omega)]; exact q1
          clear IN
          go_wp2
          go_ret2
          exact ⟨rfl, bel_step hB.out B2⟩
        · rw [code1_out _ _ _ (by omega) (by omega) (by omega)] at hc
          subst hc
          obtain rfl := hX0 (by decide)
          rw [decide_eq_false h3] at IN
          clear hX hX0 h3
          go_enter Try.func19, Try.ntmps19
          go_wp2_with fail
          refine (HG _).mono ?_
          rintro e w1 ⟨rfl, B1⟩
          have hs := B1.size
          simp at hs
          have q0 : w1.cell? ⟨g, 0, none⟩ = some (.int .i64 M) := by rw [B1.cell (p := ⟨g, 0, none⟩) (by simp; omega), ← hgs]; simp
          have q1 : w1.cell? ⟨g, 1, none⟩ = some (.string D) := by rw [B1.cell (p := ⟨g, 1, none⟩) (by simp; omega), ← hgs]; simp
          have hB : Hid (Below w.heap.size w w1) := by unfold Hid; ((repeat (first | refine bel_alloc ?_ _ | refine bel_dN ?_ _ | refine Below.drew ?_ | refine Below.setCell ?_ (by first | (simp; done) | (simp; omega)) _)); refine bel_step ?_ B1; (repeat (first | refine bel_alloc ?_ _ | refine bel_dN ?_ _ | refine Below.drew ?_ | refine Below.setCell ?_ (by first | (simp; done) | (simp; omega)) _)); exact Below.refl _ _)
          clear B1 HG
          go_wp2_with fail
          refine (IN _).mono ?_
          rintro e w2 ⟨rfl, B2⟩
          go_wp2
          go_ret2
          exact ⟨rfl, bel_step hB.out B2⟩

end Go.Proofs.Ytalmgodakdjjcab
