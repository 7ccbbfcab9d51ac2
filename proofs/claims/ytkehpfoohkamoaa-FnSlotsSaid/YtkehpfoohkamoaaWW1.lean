/-
  Words in places of other types: WordAs and WordFrom, both sides.
-/
import Derived.Test.YtkehpfoohkamoaaIBase
import Derived.Test.YtkehpfoohkamoaaIn
import Derived.Test.YtkehpfoohkamoaaBel
import Derived.Test.YtkehpfoohkamoaaBlk
import Derived.Test.YtkehpfoohkamoaaKeep
import Derived.ProofKit
import Derived.OpenShut
namespace Go.Proofs.Ytkehpfoohkamoaa
open Go.ChangeShapes Go.WideShapes Go.ChangeAt Go.RowKit

def isTW (a : Int) : Bool := decide (125 ≤ a) && decide (a ≤ 127)
def gW (ty bits : Int) : Bool := isTW ty && (decide (ty = 126) || decide (bits ≤ 4294967295))
def mayW (t p : Int) : Bool := (decide (p = 126) && isTW t) || (decide (p = 127) && (decide (t = 127) || decide (t = 125))) || (decide (p = 125) && decide (t = 125))
def cutW (t bits : Int) : Int := if t = 126 then bits else bits % 4294967296

theorem four (t : Int) : t = 125 ∨ t = 126 ∨ t = 127 ∨ ((t == 125) = false ∧ (t == 126) = false ∧ (t == 127) = false ∧ isTW t = false) := by
  by_cases h1 : t = 125
  · exact .inl h1
  · by_cases h2 : t = 126
    · exact .inr (.inl h2)
    · by_cases h3 : t = 127
      · exact .inr (.inr (.inl h3))
      · refine .inr (.inr (.inr ⟨by simpa using h1, by simpa using h2, by simpa using h3, ?_⟩))
        unfold isTW
        by_cases h : 125 ≤ t
        · have : ¬ t ≤ 127 := by omega
          simp [this]
        · simp [h]

set_option maxRecDepth 100000 in
set_option maxHeartbeats 800000 in
theorem isTypeW (a : Int) (w : World) : Calls Try.prog 24 #[.int .i64 a] w fun e w' => e = .returned (.bool (isTW a)) ∧ w' = w := by
  rcases four a with rfl | rfl | rfl | ⟨h1, h2, h3, h4⟩
  · go_enter Try.func24, Try.ntmps24
    go_wp2
    go_ret
    exact ⟨rfl, rfl⟩
  · go_enter Try.func24, Try.ntmps24
    go_wp2
    go_ret
    exact ⟨rfl, rfl⟩
  · go_enter Try.func24, Try.ntmps24
    go_wp2
    go_ret
    exact ⟨rfl, rfl⟩
  · rw [h4]
    go_enter Try.func24, Try.ntmps24
    go_wp2
    go_ret
    exact ⟨rfl, rfl⟩

theorem gW_126 (b : Int) : gW 126 b = true := rfl

set_option maxRecDepth 100000 in
set_option maxHeartbeats 1600000 in
theorem fitsW (ty bits : Int) (g0 : 0 ≤ bits) (g1 : bits ≤ 18446744073709551615) (w : World) :
    Calls Try.prog 17 #[.int .i64 ty, .int .u64 bits] w fun e w' => e = .returned (.bool (gW ty bits)) ∧ w' = w := by
  by_cases h1 : ty = 126
  · subst h1
    rw [gW_126]
    go_enter Try.func17, Try.ntmps17
    go_wp2
    go_ret
    exact ⟨rfl, rfl⟩
  · have e1 : (ty == 126) = false := by simpa using h1
    have I := isTypeW ty
    have C := cut32 bits
    have hR : gW ty bits = (isTW ty && (bits % 4294967296 == bits)) := by
      unfold gW
      rw [show decide (ty = 126) = false by simpa using h1, Bool.false_or]
      congr 1
      by_cases h : bits ≤ 4294967295
      · have : bits % 4294967296 = bits := by omega
        simp [h, this]
      · have : ¬ bits % 4294967296 = bits := by omega
        simp [h, this]
    rw [hR]
    clear h1 hR g0 g1
    generalize isTW ty = t at I
    obtain ⟨y, hy⟩ : ∃ y, (bits % 4294967296 == bits) = y := ⟨_, rfl⟩
    rw [hy]
    cases t
    · clear hy
      go_enter Try.func17, Try.ntmps17
      go_wp2_with (go_at_call 24; refine (I _).mono ?_; rintro e w1 ⟨rfl, hw⟩; obtain rfl := hw.symm; clear I)
      go_ret
      exact ⟨rfl, rfl⟩
    · go_enter Try.func17, Try.ntmps17
      go_wp2_with (first | (go_at_call 24; refine (I _).mono ?_; rintro e w1 ⟨rfl, hw⟩; obtain rfl := hw.symm; clear I) | (go_at_call 25; refine (C _).mono ?_; rintro e w1 ⟨rfl, hw⟩; obtain rfl := hw.symm; clear C))
      go_ret
      exact ⟨by first | rfl | simp [hy], rfl⟩

set_option maxRecDepth 100000 in
set_option maxHeartbeats 1600000 in
theorem implGW (ty bits : Int) (h0 : 0 ≤ bits) (h1 : bits ≤ 18446744073709551615) (w : World) :
    Calls Try.prog 8 #[.agg #[.int .i64 ty, .int .u64 bits]] w fun e w' => e = .returned (.bool (gW ty bits)) ∧ Below w.heap.size w w' := by
  have T := fitsW ty bits h0 h1
  obtain ⟨R, hR⟩ : ∃ R, gW ty bits = R := ⟨_, rfl⟩
  rw [hR] at T ⊢
  clear hR
  go_enter Try.func8, Try.ntmps8
  go_wp2_with fail
  refine (T _).mono ?_
  rintro e w1 ⟨rfl, hw⟩
  obtain rfl := hw.symm
  clear T
  go_wp2
  go_ret
  exact ⟨rfl, (Below.refl _ _).alloc (Nat.le_refl _) _⟩

set_option maxRecDepth 100000 in
set_option maxHeartbeats 800000 in
theorem specTW (a : Int) (w : World) : Calls Try.prog 16 #[.int .i64 a] w fun e w' => e = .returned (.bool (isTW a)) ∧ w' = w := by
  have H : Hid ((decide (125 ≤ a) && decide (a ≤ 127)) = isTW a) := rfl
  generalize isTW a = r at H
  go_enter Try.func16, Try.ntmps16
  go_wp2_with (go_at_call 23; refine (in_eq _ _ _ _ (by assumption) _).mono ?_; rintro e w1 ⟨rfl, hw⟩; obtain rfl := hw.symm)
  go_ret
  exact ⟨rfl, rfl⟩

set_option maxRecDepth 100000 in
set_option maxHeartbeats 1600000 in
theorem specGW (ty bits : Int) (w : World) :
    Calls Try.prog 15 #[.agg #[.int .i64 ty, .int .u64 bits]] w fun e w' => e = .returned (.bool (gW ty bits)) ∧ Below w.heap.size w w' := by
  have S := specTW ty
  have hR : gW ty bits = (isTW ty && (decide (ty = 126) || decide (bits ≤ 4294967295))) := rfl
  rw [hR]
  clear hR
  generalize isTW ty = t at S
  obtain ⟨y, hy⟩ : ∃ y, decide (bits ≤ 4294967295) = y := ⟨_, rfl⟩
  rw [hy]
  cases t
  · clear hy
    go_enter Try.func15, Try.ntmps15
    go_wp2_with (go_at_call 16; refine (S _).mono ?_; rintro e w1 ⟨rfl, hw⟩; obtain rfl := hw.symm)
    go_ret
    exact ⟨rfl, (Below.refl _ _).alloc (Nat.le_refl _) _⟩
  · by_cases h3 : ty = 126
    · subst h3
      clear hy
      go_enter Try.func15, Try.ntmps15
      go_wp2_with (go_at_call 16; refine (S _).mono ?_; rintro e w1 ⟨rfl, hw⟩; obtain rfl := hw.symm)
      go_ret
      exact ⟨rfl, (Below.refl _ _).alloc (Nat.le_refl _) _⟩
    · have e3 : (ty == 126) = false := by simpa using h3
      have HD : Hid (decide (ty = 126) = false) := by unfold Hid; simpa using h3
      clear h3
      go_enter Try.func15, Try.ntmps15
      go_wp2_with (go_at_call 16; refine (S _).mono ?_; rintro e w1 ⟨rfl, hw⟩; obtain rfl := hw.symm)
      go_ret
      exact ⟨by rw [HD.out]; first | rfl | simp, (Below.refl _ _).alloc (Nat.le_refl _) _⟩

set_option maxRecDepth 100000 in
set_option maxHeartbeats 1600000 in
theorem mayBeIn_eq (t p : Int) (w : World) : Calls Try.prog 13 #[.int .i64 t, .int .i64 p] w fun e w' => e = .returned (.bool (mayW t p)) ∧ w' = w := by
  rcases four t with rfl | rfl | rfl | ⟨h1, h2, h3, h4⟩ <;> rcases four p with rfl | rfl | rfl | ⟨k1, k2, k3, k4⟩
  · have E : mayW 125 125 = true := rfl
    rw [E]
    clear E
    go_enter Try.func13, Try.ntmps13
    go_wp2
    go_ret
    exact ⟨rfl, rfl⟩
  · have E : mayW 125 126 = true := rfl
    rw [E]
    clear E
    go_enter Try.func13, Try.ntmps13
    go_wp2
    go_ret
    exact ⟨rfl, rfl⟩
  · have E : mayW 125 127 = true := rfl
    rw [E]
    clear E
    go_enter Try.func13, Try.ntmps13
    go_wp2
    go_ret
    exact ⟨rfl, rfl⟩
  · have E : mayW 125 p = false := by unfold mayW; simp at *; simp_all [isTW]
    rw [E]
    clear E
    go_enter Try.func13, Try.ntmps13
    go_wp2
    go_ret
    exact ⟨rfl, rfl⟩
  · have E : mayW 126 125 = false := rfl
    rw [E]
    clear E
    go_enter Try.func13, Try.ntmps13
    go_wp2
    go_ret
    exact ⟨rfl, rfl⟩
  · have E : mayW 126 126 = true := rfl
    rw [E]
    clear E
    go_enter Try.func13, Try.ntmps13
    go_wp2
    go_ret
    exact ⟨rfl, rfl⟩
  · have E : mayW 126 127 = false := rfl
    rw [E]
    clear E
    go_enter Try.func13, Try.ntmps13
    go_wp2
    go_ret
    exact ⟨rfl, rfl⟩
  · have E : mayW 126 p = false := by unfold mayW; simp at *; simp_all [isTW]
    rw [E]
    clear E
    go_enter Try.func13, Try.ntmps13
    go_wp2
    go_ret
    exact ⟨rfl, rfl⟩
  · have E : mayW 127 125 = false := rfl
    rw [E]
    clear E
    go_enter Try.func13, Try.ntmps13
    go_wp2
    go_ret
    exact ⟨rfl, rfl⟩
  · have E : mayW 127 126 = true := rfl
    rw [E]
    clear E
    go_enter Try.func13, Try.ntmps13
    go_wp2
    go_ret
    exact ⟨rfl, rfl⟩
  · have E : mayW 127 127 = true := rfl
    rw [E]
    clear E
    go_enter Try.func13, Try.ntmps13
    go_wp2
    go_ret
    exact ⟨rfl, rfl⟩
  · have E : mayW 127 p = false := by unfold mayW; simp at *; simp_all [isTW]
    rw [E]
    clear E
    go_enter Try.func13, Try.ntmps13
    go_wp2
    go_ret
    exact ⟨rfl, rfl⟩
  · have E : mayW t 125 = false := by unfold mayW; simp at *; simp_all [isTW]
    rw [E]
    clear E
    go_enter Try.func13, Try.ntmps13
    go_wp2
    go_ret
    exact ⟨rfl, rfl⟩
  · have E : mayW t 126 = false := by unfold mayW; simp at *; simp_all [isTW]
    rw [E]
    clear E
    go_enter Try.func13, Try.ntmps13
    go_wp2
    go_ret
    exact ⟨rfl, rfl⟩
  · have E : mayW t 127 = false := by unfold mayW; simp at *; simp_all [isTW]
    rw [E]
    clear E
    go_enter Try.func13, Try.ntmps13
    go_wp2
    go_ret
    exact ⟨rfl, rfl⟩
  · have E : mayW t p = false := by unfold mayW; simp at *; simp_all [isTW]
    rw [E]
    clear E
    go_enter Try.func13, Try.ntmps13
    go_wp2
    go_ret
    exact ⟨rfl, rfl⟩

set_option maxRecDepth 100000 in
set_option maxHeartbeats 1600000 in
theorem wordOf_eq (t bits : Int) (w : World) : Calls Try.prog 14 #[.int .i64 t, .int .u64 bits] w fun e w' => e = .returned (.agg #[.int .i64 t, .int .u64 (cutW t bits)]) ∧ Below w.heap.size w w' := by
  have I := implWrap bits
  by_cases h : t = 126
  · subst h
    go_enter Try.func14, Try.ntmps14
    go_wp2
    exact bodyPost_ret (v := .agg #[.int .i64 126, .int .u64 bits]) (by simp [results, Try.results14, go_sem]) rfl ⟨rfl, by (repeat (first | refine Below.alloc ?_ (by first | (simp; done) | (simp; omega)) _ | refine Below.setCell ?_ (by first | (simp; done) | (simp; omega)) _ | refine bel_dN ?_ _ | refine Below.drew ?_ | exact Below.refl _ _))⟩
  · have e1 : (t == 126) = false := by simpa using h
    have E : cutW t bits = bits % 4294967296 := if_neg h
    rw [E]
    clear E h
    go_enter Try.func14, Try.ntmps14
    go_wp2_with (go_at_call 22; refine (I _).mono ?_; rintro e w1 ⟨rfl, hw⟩; obtain rfl := hw.symm)
    exact bodyPost_ret (v := .agg #[.int .i64 t, .int .u64 (bits % 4294967296)]) (by simp [results, Try.results14, go_sem]) rfl ⟨rfl, by (repeat (first | refine Below.alloc ?_ (by first | (simp; done) | (simp; omega)) _ | refine Below.setCell ?_ (by first | (simp; done) | (simp; omega)) _ | refine bel_dN ?_ _ | refine Below.drew ?_ | exact Below.refl _ _))⟩

set_option maxRecDepth 100000 in
set_option maxHeartbeats 1600000 in
theorem l14From_eq (ty t bits : Int) (h0 : 0 ≤ bits) (h1 : bits ≤ 18446744073709551615) (w : World) : Calls Try.prog 18 #[.agg #[.int .i64 ty, .int .u64 bits], .int .i64 t] w fun e w' => e = .returned (.agg #[.int .i64 t, .int .u64 (cutW t bits)]) ∧ Below w.heap.size w w' := by
  have M := mask32 bits h0 h1
  by_cases h : t = 126
  · subst h
    clear M
    go_enter Try.func18, Try.ntmps18
    go_wp2
    exact bodyPost_ret (v := .agg #[.int .i64 126, .int .u64 bits]) (by simp [results, Try.results18, go_sem]) rfl ⟨rfl, by (repeat (first | refine Below.alloc ?_ (by first | (simp; done) | (simp; omega)) _ | refine Below.setCell ?_ (by first | (simp; done) | (simp; omega)) _ | refine bel_dN ?_ _ | refine Below.drew ?_ | exact Below.refl _ _))⟩
  · have e1 : (t == 126) = false := by simpa using h
    have E : cutW t bits = bits % 4294967296 := if_neg h
    rw [E, ← M]
    clear E h M
    go_enter Try.func18, Try.ntmps18
    go_wp2
    exact bodyPost_ret (v := .agg #[.int .i64 t, .int .u64 (Go.bits .and .u64 bits 4294967295)]) (by simp [results, Try.results18, go_sem]) rfl ⟨rfl, by (repeat (first | refine Below.alloc ?_ (by first | (simp; done) | (simp; omega)) _ | refine Below.setCell ?_ (by first | (simp; done) | (simp; omega)) _ | refine bel_dN ?_ _ | refine Below.drew ?_ | exact Below.refl _ _))⟩

theorem set2 {w : World} {b : Nat} {x y : Value} {t : TypeId} (k : w.heap[b]? = some (.cells #[x, y] t (0, 0))) (p q : Value) :
    ((w.setCell ⟨b, 0, none⟩ p).setCell ⟨b, 1, none⟩ q).cell? ⟨b, 0, none⟩ = some p ∧ ((w.setCell ⟨b, 0, none⟩ p).setCell ⟨b, 1, none⟩ q).cell? ⟨b, 1, none⟩ = some q := by
  have h0 := World.cell?_setCell_same w ⟨b, 0, none⟩ p ((cell_of_block k 0).trans rfl)
  have h1 : (w.setCell ⟨b, 0, none⟩ p).cell? ⟨b, 1, none⟩ = some y := (World.cell?_setCell_other w ⟨b, 0, none⟩ ⟨b, 1, none⟩ p (by simp)).trans ((cell_of_block k 1).trans rfl)
  exact ⟨(World.cell?_setCell_other _ ⟨b, 1, none⟩ ⟨b, 0, none⟩ q (by simp)).trans h0, World.cell?_setCell_same _ ⟨b, 1, none⟩ q h1⟩

/-- What both answer. -/
def WordAsR (ty bits want : Int) : Value := if gW ty bits && mayW ty want then .tuple #[.agg #[.int .i64 want, .int .u64 (cutW want bits)], .bool true] else .tuple #[.agg #[.int .i64 0, .int .u64 0], .bool false]

set_option maxRecDepth 100000 in
set_option maxHeartbeats 1600000 in
theorem implWordAs (ty bits want : Int) (h0 : 0 ≤ bits) (h1 : bits ≤ 18446744073709551615) (w : World) :
    Calls Try.prog 5 #[.agg #[.int .i64 ty, .int .u64 bits], .int .i64 want] w fun e w' => e = .returned (WordAsR ty bits want) ∧ Below w.heap.size w w' := by
  have G := implGW ty bits h0 h1
  have M := mayBeIn_eq ty want
  have O := wordOf_eq want bits
  unfold WordAsR
  generalize gW ty bits = g at G ⊢
  generalize mayW ty want = m at M ⊢
  generalize cutW want bits = x at O ⊢
  clear h0 h1
  cases g
  · clear M O
    go_enter Try.func5, Try.ntmps5
    go_wp2_with fail
    refine (G _).mono ?_
    rintro e w1 ⟨rfl, B1⟩
    clear G
    have kz : w1.heap[w.heap.size + 1]? = some (.cells #[.int .i64 0, .int .u64 0] 25 (0, 0)) := (B1.block (w.heap.size + 1) (by simp)).trans (by have h := heap_alloc_new (w.alloc (Obj.cells #[Value.int IntKind.i64 ty, Value.int IntKind.u64 bits] 25)) (Obj.cells #[Value.int IntKind.i64 0, Value.int IntKind.u64 0] 25); simpa using h)
    have hs := B1.size
    simp at hs
    have c0 : w1.cell? ⟨w.heap.size + 1, 0, none⟩ = some (.int .i64 0) := (cell_of_block kz 0).trans rfl
    have c1 : w1.cell? ⟨w.heap.size + 1, 1, none⟩ = some (.int .u64 0) := (cell_of_block kz 1).trans rfl
    have f0 : w1.frozen? ⟨w.heap.size + 1, 0, none⟩ = false := free_of_block kz 0
    have f1 : w1.frozen? ⟨w.heap.size + 1, 1, none⟩ = false := free_of_block kz 1
    go_wp2
    obtain ⟨q1, q2⟩ := set2 kz (.int .i64 0) (.int .u64 (0))
    exact bodyPost_ret (v := .tuple #[.agg #[.int .i64 0, .int .u64 (0)], .bool false]) (by simp [results, Try.results5, go_sem, q1, q2]) rfl ⟨rfl, by ((repeat (first | refine bel_alloc ?_ _ | refine bel_dN ?_ _ | refine Below.drew ?_ | refine Below.setCell ?_ (by first | (simp; done) | (simp; omega)) _)); refine bel_step ?_ B1; (repeat (first | refine bel_alloc ?_ _ | refine bel_dN ?_ _ | refine Below.drew ?_ | refine Below.setCell ?_ (by first | (simp; done) | (simp; omega)) _)); exact Below.refl _ _)⟩
  · cases m
    · clear O
      go_enter Try.func5, Try.ntmps5
      go_wp2_with fail
      refine (G _).mono ?_
      rintro e w1 ⟨rfl, B1⟩
      clear G
      have k0 : w1.cell? ⟨w.heap.size, 0, none⟩ = some (.int .i64 ty) := keepCell B1 (by simp; omega) (by simp)
      have k1 : w1.cell? ⟨w.heap.size, 1, none⟩ = some (.int .u64 bits) := keepCell B1 (by simp; omega) (by simp)
      have kz : w1.heap[w.heap.size + 1]? = some (.cells #[.int .i64 0, .int .u64 0] 25 (0, 0)) := (B1.block (w.heap.size + 1) (by simp)).trans (by have h := heap_alloc_new (w.alloc (Obj.cells #[Value.int IntKind.i64 ty, Value.int IntKind.u64 bits] 25)) (Obj.cells #[Value.int IntKind.i64 0, Value.int IntKind.u64 0] 25); simpa using h)
      have hs := B1.size
      simp at hs
      have c0 : w1.cell? ⟨w.heap.size + 1, 0, none⟩ = some (.int .i64 0) := (cell_of_block kz 0).trans rfl
      have c1 : w1.cell? ⟨w.heap.size + 1, 1, none⟩ = some (.int .u64 0) := (cell_of_block kz 1).trans rfl
      have f0 : w1.frozen? ⟨w.heap.size + 1, 0, none⟩ = false := free_of_block kz 0
      have f1 : w1.frozen? ⟨w.heap.size + 1, 1, none⟩ = false := free_of_block kz 1
      go_wp2_with (go_at_call 13; refine (M _).mono ?_; rintro e w2 ⟨rfl, hw⟩; obtain rfl := hw.symm)
      obtain ⟨q1, q2⟩ := set2 kz (.int .i64 0) (.int .u64 (0))
      exact bodyPost_ret (v := .tuple #[.agg #[.int .i64 0, .int .u64 (0)], .bool false]) (by simp [results, Try.results5, go_sem, q1, q2]) rfl ⟨rfl, by ((repeat (first | refine bel_alloc ?_ _ | refine bel_dN ?_ _ | refine Below.drew ?_ | refine Below.setCell ?_ (by first | (simp; done) | (simp; omega)) _)); refine bel_step ?_ B1; (repeat (first | refine bel_alloc ?_ _ | refine bel_dN ?_ _ | refine Below.drew ?_ | refine Below.setCell ?_ (by first | (simp; done) | (simp; omega)) _)); exact Below.refl _ _)⟩
    · go_enter Try.func5, Try.ntmps5
      go_wp2_with fail
      refine (G _).mono ?_
      rintro e w1 ⟨rfl, B1⟩
      clear G
      have k0 : w1.cell? ⟨w.heap.size, 0, none⟩ = some (.int .i64 ty) := keepCell B1 (by simp; omega) (by simp)
      have k1 : w1.cell? ⟨w.heap.size, 1, none⟩ = some (.int .u64 bits) := keepCell B1 (by simp; omega) (by simp)
      have kz : w1.heap[w.heap.size + 1]? = some (.cells #[.int .i64 0, .int .u64 0] 25 (0, 0)) := (B1.block (w.heap.size + 1) (by simp)).trans (by have h := heap_alloc_new (w.alloc (Obj.cells #[Value.int IntKind.i64 ty, Value.int IntKind.u64 bits] 25)) (Obj.cells #[Value.int IntKind.i64 0, Value.int IntKind.u64 0] 25); simpa using h)
      have hs := B1.size
      simp at hs
      go_wp2_with (first | (go_at_call 13; refine (M _).mono ?_; rintro e w2 ⟨rfl, hw⟩; obtain rfl := hw.symm) | fail)
      refine (O _).mono ?_
      rintro e w2 ⟨rfl, B2⟩
      have hs2 := B2.size
      have kz2 := (B2.block (w.heap.size + 1) (by omega)).trans kz
      have c0 : w2.cell? ⟨w.heap.size + 1, 0, none⟩ = some (.int .i64 0) := (cell_of_block kz2 0).trans rfl
      have c1 : w2.cell? ⟨w.heap.size + 1, 1, none⟩ = some (.int .u64 0) := (cell_of_block kz2 1).trans rfl
      have f0 : w2.frozen? ⟨w.heap.size + 1, 0, none⟩ = false := free_of_block kz2 0
      have f1 : w2.frozen? ⟨w.heap.size + 1, 1, none⟩ = false := free_of_block kz2 1
      go_wp2
      obtain ⟨q1, q2⟩ := set2 kz2 (.int .i64 want) (.int .u64 (x))
      exact bodyPost_ret (v := .tuple #[.agg #[.int .i64 want, .int .u64 (x)], .bool true]) (by simp [results, Try.results5, go_sem, q1, q2]) rfl ⟨rfl, by ((repeat (first | refine bel_alloc ?_ _ | refine bel_dN ?_ _ | refine Below.drew ?_ | refine Below.setCell ?_ (by first | (simp; done) | (simp; omega)) _)); refine bel_step ?_ B2; (repeat (first | refine bel_alloc ?_ _ | refine bel_dN ?_ _ | refine Below.drew ?_ | refine Below.setCell ?_ (by first | (simp; done) | (simp; omega)) _)); refine bel_step ?_ B1; (repeat (first | refine bel_alloc ?_ _ | refine bel_dN ?_ _ | refine Below.drew ?_ | refine Below.setCell ?_ (by first | (simp; done) | (simp; omega)) _)); exact Below.refl _ _)⟩

/-- What both answer. -/
def WordFromR (ty bits want : Int) : Value := if gW ty bits && mayW want ty then .tuple #[.agg #[.int .i64 want, .int .u64 (cutW want bits)], .bool true] else .tuple #[.agg #[.int .i64 0, .int .u64 0], .bool false]

set_option maxRecDepth 100000 in
set_option maxHeartbeats 1600000 in
theorem implWordFrom (ty bits want : Int) (h0 : 0 ≤ bits) (h1 : bits ≤ 18446744073709551615) (w : World) :
    Calls Try.prog 7 #[.agg #[.int .i64 ty, .int .u64 bits], .int .i64 want] w fun e w' => e = .returned (WordFromR ty bits want) ∧ Below w.heap.size w w' := by
  have G := implGW ty bits h0 h1
  have M := mayBeIn_eq want ty
  have O := wordOf_eq want bits
  unfold WordFromR
  generalize gW ty bits = g at G ⊢
  generalize mayW want ty = m at M ⊢
  generalize cutW want bits = x at O ⊢
  clear h0 h1
  cases g
  · clear M O
    go_enter Try.func7, Try.ntmps7
    go_wp2_with fail
    refine (G _).mono ?_
    rintro e w1 ⟨rfl, B1⟩
    clear G
    have kz : w1.heap[w.heap.size + 1]? = some (.cells #[.int .i64 0, .int .u64 0] 25 (0, 0)) := (B1.block (w.heap.size + 1) (by simp)).trans (by have h := heap_alloc_new (w.alloc (Obj.cells #[Value.int IntKind.i64 ty, Value.int IntKind.u64 bits] 25)) (Obj.cells #[Value.int IntKind.i64 0, Value.int IntKind.u64 0] 25); simpa using h)
    have hs := B1.size
    simp at hs
    have c0 : w1.cell? ⟨w.heap.size + 1, 0, none⟩ = some (.int .i64 0) := (cell_of_block kz 0).trans rfl
    have c1 : w1.cell? ⟨w.heap.size + 1, 1, none⟩ = some (.int .u64 0) := (cell_of_block kz 1).trans rfl
    have f0 : w1.frozen? ⟨w.heap.size + 1, 0, none⟩ = false := free_of_block kz 0
    have f1 : w1.frozen? ⟨w.heap.size + 1, 1, none⟩ = false := free_of_block kz 1
    go_wp2
    obtain ⟨q1, q2⟩ := set2 kz (.int .i64 0) (.int .u64 (0))
    exact bodyPost_ret (v := .tuple #[.agg #[.int .i64 0, .int .u64 (0)], .bool false]) (by simp [results, Try.results7, go_sem, q1, q2]) rfl ⟨rfl, by ((repeat (first | refine bel_alloc ?_ _ | refine bel_dN ?_ _ | refine Below.drew ?_ | refine Below.setCell ?_ (by first | (simp; done) | (simp; omega)) _)); refine bel_step ?_ B1; (repeat (first | refine bel_alloc ?_ _ | refine bel_dN ?_ _ | refine Below.drew ?_ | refine Below.setCell ?_ (by first | (simp; done) | (simp; omega)) _)); exact Below.refl _ _)⟩
  · cases m
    · clear O
      go_enter Try.func7, Try.ntmps7
      go_wp2_with fail
      refine (G _).mono ?_
      rintro e w1 ⟨rfl, B1⟩
      clear G
      have k0 : w1.cell? ⟨w.heap.size, 0, none⟩ = some (.int .i64 ty) := keepCell B1 (by simp; omega) (by simp)
      have k1 : w1.cell? ⟨w.heap.size, 1, none⟩ = some (.int .u64 bits) := keepCell B1 (by simp; omega) (by simp)
      have kz : w1.heap[w.heap.size + 1]? = some (.cells #[.int .i64 0, .int .u64 0] 25 (0, 0)) := (B1.block (w.heap.size + 1) (by simp)).trans (by have h := heap_alloc_new (w.alloc (Obj.cells #[Value.int IntKind.i64 ty, Value.int IntKind.u64 bits] 25)) (Obj.cells #[Value.int IntKind.i64 0, Value.int IntKind.u64 0] 25); simpa using h)
      have hs := B1.size
      simp at hs
      have c0 : w1.cell? ⟨w.heap.size + 1, 0, none⟩ = some (.int .i64 0) := (cell_of_block kz 0).trans rfl
      have c1 : w1.cell? ⟨w.heap.size + 1, 1, none⟩ = some (.int .u64 0) := (cell_of_block kz 1).trans rfl
      have f0 : w1.frozen? ⟨w.heap.size + 1, 0, none⟩ = false := free_of_block kz 0
      have f1 : w1.frozen? ⟨w.heap.size + 1, 1, none⟩ = false := free_of_block kz 1
      go_wp2_with (go_at_call 13; refine (M _).mono ?_; rintro e w2 ⟨rfl, hw⟩; obtain rfl := hw.symm)
      obtain ⟨q1, q2⟩ := set2 kz (.int .i64 0) (.int .u64 (0))
      exact bodyPost_ret (v := .tuple #[.agg #[.int .i64 0, .int .u64 (0)], .bool false]) (by simp [results, Try.results7, go_sem, q1, q2]) rfl ⟨rfl, by ((repeat (first | refine bel_alloc ?_ _ | refine bel_dN ?_ _ | refine Below.drew ?_ | refine Below.setCell ?_ (by first | (simp; done) | (simp; omega)) _)); refine bel_step ?_ B1; (repeat (first | refine bel_alloc ?_ _ | refine bel_dN ?_ _ | refine Below.drew ?_ | refine Below.setCell ?_ (by first | (simp; done) | (simp; omega)) _)); exact Below.refl _ _)⟩
    · go_enter Try.func7, Try.ntmps7
      go_wp2_with fail
      refine (G _).mono ?_
      rintro e w1 ⟨rfl, B1⟩
      clear G
      have k0 : w1.cell? ⟨w.heap.size, 0, none⟩ = some (.int .i64 ty) := keepCell B1 (by simp; omega) (by simp)
      have k1 : w1.cell? ⟨w.heap.size, 1, none⟩ = some (.int .u64 bits) := keepCell B1 (by simp; omega) (by simp)
      have kz : w1.heap[w.heap.size + 1]? = some (.cells #[.int .i64 0, .int .u64 0] 25 (0, 0)) := (B1.block (w.heap.size + 1) (by simp)).trans (by have h := heap_alloc_new (w.alloc (Obj.cells #[Value.int IntKind.i64 ty, Value.int IntKind.u64 bits] 25)) (Obj.cells #[Value.int IntKind.i64 0, Value.int IntKind.u64 0] 25); simpa using h)
      have hs := B1.size
      simp at hs
      go_wp2_with (first | (go_at_call 13; refine (M _).mono ?_; rintro e w2 ⟨rfl, hw⟩; obtain rfl := hw.symm) | fail)
      refine (O _).mono ?_
      rintro e w2 ⟨rfl, B2⟩
      have hs2 := B2.size
      have kz2 := (B2.block (w.heap.size + 1) (by omega)).trans kz
      have c0 : w2.cell? ⟨w.heap.size + 1, 0, none⟩ = some (.int .i64 0) := (cell_of_block kz2 0).trans rfl
      have c1 : w2.cell? ⟨w.heap.size + 1, 1, none⟩ = some (.int .u64 0) := (cell_of_block kz2 1).trans rfl
      have f0 : w2.frozen? ⟨w.heap.size + 1, 0, none⟩ = false := free_of_block kz2 0
      have f1 : w2.frozen? ⟨w.heap.size + 1, 1, none⟩ = false := free_of_block kz2 1
      go_wp2
      obtain ⟨q1, q2⟩ := set2 kz2 (.int .i64 want) (.int .u64 (x))
      exact bodyPost_ret (v := .tuple #[.agg #[.int .i64 want, .int .u64 (x)], .bool true]) (by simp [results, Try.results7, go_sem, q1, q2]) rfl ⟨rfl, by ((repeat (first | refine bel_alloc ?_ _ | refine bel_dN ?_ _ | refine Below.drew ?_ | refine Below.setCell ?_ (by first | (simp; done) | (simp; omega)) _)); refine bel_step ?_ B2; (repeat (first | refine bel_alloc ?_ _ | refine bel_dN ?_ _ | refine Below.drew ?_ | refine Below.setCell ?_ (by first | (simp; done) | (simp; omega)) _)); refine bel_step ?_ B1; (repeat (first | refine bel_alloc ?_ _ | refine bel_dN ?_ _ | refine Below.drew ?_ | refine Below.setCell ?_ (by first | (simp; done) | (simp; omega)) _)); exact Below.refl _ _)⟩

end Go.Proofs.Ytkehpfoohkamoaa
