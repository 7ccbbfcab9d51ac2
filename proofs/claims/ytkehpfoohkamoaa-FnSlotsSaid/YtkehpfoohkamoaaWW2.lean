/-
  Words in places of other types: the specification's side.
-/
import Derived.Test.YtkehpfoohkamoaaWW1
import Derived.ProofKit
import Derived.OpenShut
namespace Go.Proofs.Ytkehpfoohkamoaa
open Go.ChangeShapes Go.WideShapes Go.ChangeAt Go.RowKit

set_option maxRecDepth 100000 in
set_option maxHeartbeats 3200000 in
theorem specWordAs (ty bits want : Int) (h0 : 0 ≤ bits) (h1 : bits ≤ 18446744073709551615) (w : World) :
    Calls Try.prog 6 #[.agg #[.int .i64 ty, .int .u64 bits], .int .i64 want] w fun e w' => e = .returned (WordAsR ty bits want) ∧ Below w.heap.size w w' := by
  have G := specGW ty bits
  have M := specTW want
  cases hg : gW ty bits
  · have E : WordAsR ty bits want = .tuple #[.agg #[.int .i64 0, .int .u64 0], .bool false] := by unfold WordAsR; rw [hg]; rfl
    rw [E]
    rw [hg] at G
    clear E hg h0 h1 M
    go_enter Try.func6, Try.ntmps6
    go_wp2_with fail
    refine (G _).mono ?_
    rintro e w1 ⟨rfl, B1⟩
    clear G
    have kz : w1.heap[w.heap.size + 1]? = some (.cells #[.int .i64 0, .int .u64 0] 25 (0, 0)) := (B1.block (w.heap.size + 1) (by simp)).trans (by have h := heap_alloc_new (w.alloc (Obj.cells #[Value.int IntKind.i64 ty, Value.int IntKind.u64 bits] 25)) (Obj.cells #[Value.int IntKind.i64 0, Value.int IntKind.u64 0] 25); simpa using h)
    have hs := B1.size
    simp at hs
    have c0 : w1.cell? ⟨w.heap.size + 1, 0, none⟩ = some (.int .i64 0) := (cell_of_block kz 0).trans rfl
    have c1 : w1.cell? ⟨w.heap.size + 1, 1, none⟩ = some (.int .u64 0) := (cell_of_block kz 1).trans rfl
    have f0 : w1.frozen? ⟨w.heap.size + 1, 0, none⟩ = false := free_of_block kz 0
    have f1 : w1.frozen? ⟨w.heap.size + 1, 1, none⟩ = false := free_of_block kz 1
    go_wp2
    obtain ⟨q1, q2⟩ := set2 kz (.int .i64 0) (.int .u64 (0))
    exact bodyPost_ret (v := .tuple #[.agg #[.int .i64 0, .int .u64 (0)], .bool false]) (by simp [results, Try.results6, go_sem, q1, q2]) rfl ⟨rfl, by ((repeat (first | refine bel_alloc ?_ _ | refine bel_dN ?_ _ | refine Below.drew ?_ | refine Below.setCell ?_ (by first | (simp; done) | (simp; omega)) _)); refine bel_step ?_ B1; (repeat (first | refine bel_alloc ?_ _ | refine bel_dN ?_ _ | refine Below.drew ?_ | refine Below.setCell ?_ (by first | (simp; done) | (simp; omega)) _)); exact Below.refl _ _)⟩
  rw [hg] at G
  rcases four want with rfl | rfl | rfl | ⟨a1, a2, a3, a4⟩
  · rcases four ty with rfl | rfl | rfl | ⟨b1, b2, b3, b4⟩
    rotate_left 3
    · exact absurd hg (by unfold gW; rw [b4]; simp)
    · have E : WordAsR 125 bits 125 = .tuple #[.agg #[.int .i64 125, .int .u64 (cutW 125 bits)], .bool true] := by unfold WordAsR; rw [hg]; rfl
      have c : cutW 125 bits = bits := by
        have hb : bits ≤ 4294967295 := by unfold gW at hg; simpa [isTW] using hg
        show bits % 4294967296 = bits
        omega
      rw [E, c]
      clear c E hg h0 h1
      go_enter Try.func6, Try.ntmps6
      go_wp2_with fail
      refine (G _).mono ?_
      rintro e w1 ⟨rfl, B1⟩
      clear G
      have k0 : w1.cell? ⟨w.heap.size, 0, none⟩ = some (.int .i64 125) := keepCell B1 (by simp; omega) (by simp)
      have k1 : w1.cell? ⟨w.heap.size, 1, none⟩ = some (.int .u64 bits) := keepCell B1 (by simp; omega) (by simp)
      have kz : w1.heap[w.heap.size + 1]? = some (.cells #[.int .i64 0, .int .u64 0] 25 (0, 0)) := (B1.block (w.heap.size + 1) (by simp)).trans (by have h := heap_alloc_new (w.alloc (Obj.cells #[Value.int IntKind.i64 125, Value.int IntKind.u64 bits] 25)) (Obj.cells #[Value.int IntKind.i64 0, Value.int IntKind.u64 0] 25); simpa using h)
      have hs := B1.size
      simp at hs
      have c0 : w1.cell? ⟨w.heap.size + 1, 0, none⟩ = some (.int .i64 0) := (cell_of_block kz 0).trans rfl
      have c1 : w1.cell? ⟨w.heap.size + 1, 1, none⟩ = some (.int .u64 0) := (cell_of_block kz 1).trans rfl
      have f0 : w1.frozen? ⟨w.heap.size + 1, 0, none⟩ = false := free_of_block kz 0
      have f1 : w1.frozen? ⟨w.heap.size + 1, 1, none⟩ = false := free_of_block kz 1
      go_wp2_with (go_at_call 16; refine (M _).mono ?_; rintro e w2 ⟨rfl, hw⟩; obtain rfl := hw.symm)
      obtain ⟨q1, q2⟩ := set2 kz (.int .i64 125) (.int .u64 (bits))
      exact bodyPost_ret (v := .tuple #[.agg #[.int .i64 125, .int .u64 (bits)], .bool true]) (by simp [results, Try.results6, go_sem, q1, q2]) rfl ⟨rfl, by ((repeat (first | refine bel_alloc ?_ _ | refine bel_dN ?_ _ | refine Below.drew ?_ | refine Below.setCell ?_ (by first | (simp; done) | (simp; omega)) _)); refine bel_step ?_ B1; (repeat (first | refine bel_alloc ?_ _ | refine bel_dN ?_ _ | refine Below.drew ?_ | refine Below.setCell ?_ (by first | (simp; done) | (simp; omega)) _)); exact Below.refl _ _)⟩
    · have E : WordAsR 126 bits 125 = .tuple #[.agg #[.int .i64 0, .int .u64 0], .bool false] := by unfold WordAsR; rw [hg]; rfl
      rw [E]
      clear E hg h0 h1
      go_enter Try.func6, Try.ntmps6
      go_wp2_with fail
      refine (G _).mono ?_
      rintro e w1 ⟨rfl, B1⟩
      clear G
      have k0 : w1.cell? ⟨w.heap.size, 0, none⟩ = some (.int .i64 126) := keepCell B1 (by simp; omega) (by simp)
      have k1 : w1.cell? ⟨w.heap.size, 1, none⟩ = some (.int .u64 bits) := keepCell B1 (by simp; omega) (by simp)
      have kz : w1.heap[w.heap.size + 1]? = some (.cells #[.int .i64 0, .int .u64 0] 25 (0, 0)) := (B1.block (w.heap.size + 1) (by simp)).trans (by have h := heap_alloc_new (w.alloc (Obj.cells #[Value.int IntKind.i64 126, Value.int IntKind.u64 bits] 25)) (Obj.cells #[Value.int IntKind.i64 0, Value.int IntKind.u64 0] 25); simpa using h)
      have hs := B1.size
      simp at hs
      have c0 : w1.cell? ⟨w.heap.size + 1, 0, none⟩ = some (.int .i64 0) := (cell_of_block kz 0).trans rfl
      have c1 : w1.cell? ⟨w.heap.size + 1, 1, none⟩ = some (.int .u64 0) := (cell_of_block kz 1).trans rfl
      have f0 : w1.frozen? ⟨w.heap.size + 1, 0, none⟩ = false := free_of_block kz 0
      have f1 : w1.frozen? ⟨w.heap.size + 1, 1, none⟩ = false := free_of_block kz 1
      go_wp2_with (go_at_call 16; refine (M _).mono ?_; rintro e w2 ⟨rfl, hw⟩; obtain rfl := hw.symm)
      obtain ⟨q1, q2⟩ := set2 kz (.int .i64 0) (.int .u64 (0))
      exact bodyPost_ret (v := .tuple #[.agg #[.int .i64 0, .int .u64 (0)], .bool false]) (by simp [results, Try.results6, go_sem, q1, q2]) rfl ⟨rfl, by ((repeat (first | refine bel_alloc ?_ _ | refine bel_dN ?_ _ | refine Below.drew ?_ | refine Below.setCell ?_ (by first | (simp; done) | (simp; omega)) _)); refine bel_step ?_ B1; (repeat (first | refine bel_alloc ?_ _ | refine bel_dN ?_ _ | refine Below.drew ?_ | refine Below.setCell ?_ (by first | (simp; done) | (simp; omega)) _)); exact Below.refl _ _)⟩
    · have E : WordAsR 127 bits 125 = .tuple #[.agg #[.int .i64 0, .int .u64 0], .bool false] := by unfold WordAsR; rw [hg]; rfl
      rw [E]
      clear E hg h0 h1
      go_enter Try.func6, Try.ntmps6
      go_wp2_with fail
      refine (G _).mono ?_
      rintro e w1 ⟨rfl, B1⟩
      clear G
      have k0 : w1.cell? ⟨w.heap.size, 0, none⟩ = some (.int .i64 127) := keepCell B1 (by simp; omega) (by simp)
      have k1 : w1.cell? ⟨w.heap.size, 1, none⟩ = some (.int .u64 bits) := keepCell B1 (by simp; omega) (by simp)
      have kz : w1.heap[w.heap.size + 1]? = some (.cells #[.int .i64 0, .int .u64 0] 25 (0, 0)) := (B1.block (w.heap.size + 1) (by simp)).trans (by have h := heap_alloc_new (w.alloc (Obj.cells #[Value.int IntKind.i64 127, Value.int IntKind.u64 bits] 25)) (Obj.cells #[Value.int IntKind.i64 0, Value.int IntKind.u64 0] 25); simpa using h)
      have hs := B1.size
      simp at hs
      have c0 : w1.cell? ⟨w.heap.size + 1, 0, none⟩ = some (.int .i64 0) := (cell_of_block kz 0).trans rfl
      have c1 : w1.cell? ⟨w.heap.size + 1, 1, none⟩ = some (.int .u64 0) := (cell_of_block kz 1).trans rfl
      have f0 : w1.frozen? ⟨w.heap.size + 1, 0, none⟩ = false := free_of_block kz 0
      have f1 : w1.frozen? ⟨w.heap.size + 1, 1, none⟩ = false := free_of_block kz 1
      go_wp2_with (go_at_call 16; refine (M _).mono ?_; rintro e w2 ⟨rfl, hw⟩; obtain rfl := hw.symm)
      obtain ⟨q1, q2⟩ := set2 kz (.int .i64 0) (.int .u64 (0))
      exact bodyPost_ret (v := .tuple #[.agg #[.int .i64 0, .int .u64 (0)], .bool false]) (by simp [results, Try.results6, go_sem, q1, q2]) rfl ⟨rfl, by ((repeat (first | refine bel_alloc ?_ _ | refine bel_dN ?_ _ | refine Below.drew ?_ | refine Below.setCell ?_ (by first | (simp; done) | (simp; omega)) _)); refine bel_step ?_ B1; (repeat (first | refine bel_alloc ?_ _ | refine bel_dN ?_ _ | refine Below.drew ?_ | refine Below.setCell ?_ (by first | (simp; done) | (simp; omega)) _)); exact Below.refl _ _)⟩
  · rcases four ty with rfl | rfl | rfl | ⟨b1, b2, b3, b4⟩
    rotate_left 3
    · exact absurd hg (by unfold gW; rw [b4]; simp)
    · have E : WordAsR 125 bits 126 = .tuple #[.agg #[.int .i64 126, .int .u64 (cutW 126 bits)], .bool true] := by unfold WordAsR; rw [hg]; rfl
      have c : cutW 126 bits = bits := rfl
      rw [E, c]
      clear c E hg h0 h1
      go_enter Try.func6, Try.ntmps6
      go_wp2_with fail
      refine (G _).mono ?_
      rintro e w1 ⟨rfl, B1⟩
      clear G
      have k0 : w1.cell? ⟨w.heap.size, 0, none⟩ = some (.int .i64 125) := keepCell B1 (by simp; omega) (by simp)
      have k1 : w1.cell? ⟨w.heap.size, 1, none⟩ = some (.int .u64 bits) := keepCell B1 (by simp; omega) (by simp)
      have kz : w1.heap[w.heap.size + 1]? = some (.cells #[.int .i64 0, .int .u64 0] 25 (0, 0)) := (B1.block (w.heap.size + 1) (by simp)).trans (by have h := heap_alloc_new (w.alloc (Obj.cells #[Value.int IntKind.i64 125, Value.int IntKind.u64 bits] 25)) (Obj.cells #[Value.int IntKind.i64 0, Value.int IntKind.u64 0] 25); simpa using h)
      have hs := B1.size
      simp at hs
      have c0 : w1.cell? ⟨w.heap.size + 1, 0, none⟩ = some (.int .i64 0) := (cell_of_block kz 0).trans rfl
      have c1 : w1.cell? ⟨w.heap.size + 1, 1, none⟩ = some (.int .u64 0) := (cell_of_block kz 1).trans rfl
      have f0 : w1.frozen? ⟨w.heap.size + 1, 0, none⟩ = false := free_of_block kz 0
      have f1 : w1.frozen? ⟨w.heap.size + 1, 1, none⟩ = false := free_of_block kz 1
      go_wp2_with (go_at_call 16; refine (M _).mono ?_; rintro e w2 ⟨rfl, hw⟩; obtain rfl := hw.symm)
      obtain ⟨q1, q2⟩ := set2 kz (.int .i64 126) (.int .u64 (bits))
      exact bodyPost_ret (v := .tuple #[.agg #[.int .i64 126, .int .u64 (bits)], .bool true]) (by simp [results, Try.results6, go_sem, q1, q2]) rfl ⟨rfl, by ((repeat (first | refine bel_alloc ?_ _ | refine bel_dN ?_ _ | refine Below.drew ?_ | refine Below.setCell ?_ (by first | (simp; done) | (simp; omega)) _)); refine bel_step ?_ B1; (repeat (first | refine bel_alloc ?_ _ | refine bel_dN ?_ _ | refine Below.drew ?_ | refine Below.setCell ?_ (by first | (simp; done) | (simp; omega)) _)); exact Below.refl _ _)⟩
    · have E : WordAsR 126 bits 126 = .tuple #[.agg #[.int .i64 126, .int .u64 (cutW 126 bits)], .bool true] := by unfold WordAsR; rw [hg]; rfl
      have c : cutW 126 bits = bits := rfl
      rw [E, c]
      clear c E hg h0 h1
      go_enter Try.func6, Try.ntmps6
      go_wp2_with fail
      refine (G _).mono ?_
      rintro e w1 ⟨rfl, B1⟩
      clear G
      have k0 : w1.cell? ⟨w.heap.size, 0, none⟩ = some (.int .i64 126) := keepCell B1 (by simp; omega) (by simp)
      have k1 : w1.cell? ⟨w.heap.size, 1, none⟩ = some (.int .u64 bits) := keepCell B1 (by simp; omega) (by simp)
      have kz : w1.heap[w.heap.size + 1]? = some (.cells #[.int .i64 0, .int .u64 0] 25 (0, 0)) := (B1.block (w.heap.size + 1) (by simp)).trans (by have h := heap_alloc_new (w.alloc (Obj.cells #[Value.int IntKind.i64 126, Value.int IntKind.u64 bits] 25)) (Obj.cells #[Value.int IntKind.i64 0, Value.int IntKind.u64 0] 25); simpa using h)
      have hs := B1.size
      simp at hs
      have c0 : w1.cell? ⟨w.heap.size + 1, 0, none⟩ = some (.int .i64 0) := (cell_of_block kz 0).trans rfl
      have c1 : w1.cell? ⟨w.heap.size + 1, 1, none⟩ = some (.int .u64 0) := (cell_of_block kz 1).trans rfl
      have f0 : w1.frozen? ⟨w.heap.size + 1, 0, none⟩ = false := free_of_block kz 0
      have f1 : w1.frozen? ⟨w.heap.size + 1, 1, none⟩ = false := free_of_block kz 1
      go_wp2_with (go_at_call 16; refine (M _).mono ?_; rintro e w2 ⟨rfl, hw⟩; obtain rfl := hw.symm)
      obtain ⟨q1, q2⟩ := set2 kz (.int .i64 126) (.int .u64 (bits))
      exact bodyPost_ret (v := .tuple #[.agg #[.int .i64 126, .int .u64 (bits)], .bool true]) (by simp [results, Try.results6, go_sem, q1, q2]) rfl ⟨rfl, by ((repeat (first | refine bel_alloc ?_ _ | refine bel_dN ?_ _ | refine Below.drew ?_ | refine Below.setCell ?_ (by first | (simp; done) | (simp; omega)) _)); refine bel_step ?_ B1; (repeat (first | refine bel_alloc ?_ _ | refine bel_dN ?_ _ | refine Below.drew ?_ | refine Below.setCell ?_ (by first | (simp; done) | (simp; omega)) _)); exact Below.refl _ _)⟩
    · have E : WordAsR 127 bits 126 = .tuple #[.agg #[.int .i64 126, .int .u64 (cutW 126 bits)], .bool true] := by unfold WordAsR; rw [hg]; rfl
      have c : cutW 126 bits = bits := rfl
      rw [E, c]
      clear c E hg h0 h1
      go_enter Try.func6, Try.ntmps6
      go_wp2_with fail
      refine (G _).mono ?_
      rintro e w1 ⟨rfl, B1⟩
      clear G
      have k0 : w1.cell? ⟨w.heap.size, 0, none⟩ = some (.int .i64 127) := keepCell B1 (by simp; omega) (by simp)
      have k1 : w1.cell? ⟨w.heap.size, 1, none⟩ = some (.int .u64 bits) := keepCell B1 (by simp; omega) (by simp)
      have kz : w1.heap[w.heap.size + 1]? = some (.cells #[.int .i64 0, .int .u64 0] 25 (0, 0)) := (B1.block (w.heap.size + 1) (by simp)).trans (by have h := heap_alloc_new (w.alloc (Obj.cells #[Value.int IntKind.i64 127, Value.int IntKind.u64 bits] 25)) (Obj.cells #[Value.int IntKind.i64 0, Value.int IntKind.u64 0] 25); simpa using h)
      have hs := B1.size
      simp at hs
      have c0 : w1.cell? ⟨w.heap.size + 1, 0, none⟩ = some (.int .i64 0) := (cell_of_block kz 0).trans rfl
      have c1 : w1.cell? ⟨w.heap.size + 1, 1, none⟩ = some (.int .u64 0) := (cell_of_block kz 1).trans rfl
      have f0 : w1.frozen? ⟨w.heap.size + 1, 0, none⟩ = false := free_of_block kz 0
      have f1 : w1.frozen? ⟨w.heap.size + 1, 1, none⟩ = false := free_of_block kz 1
      go_wp2_with (go_at_call 16; refine (M _).mono ?_; rintro e w2 ⟨rfl, hw⟩; obtain rfl := hw.symm)
      obtain ⟨q1, q2⟩ := set2 kz (.int .i64 126) (.int .u64 (bits))
      exact bodyPost_ret (v := .tuple #[.agg #[.int .i64 126, .int .u64 (bits)], .bool true]) (by simp [results, Try.results6, go_sem, q1, q2]) rfl ⟨rfl, by ((repeat (first | refine bel_alloc ?_ _ | refine bel_dN ?_ _ | refine Below.drew ?_ | refine Below.setCell ?_ (by first | (simp; done) | (simp; omega)) _)); refine bel_step ?_ B1; (repeat (first | refine bel_alloc ?_ _ | refine bel_dN ?_ _ | refine Below.drew ?_ | refine Below.setCell ?_ (by first | (simp; done) | (simp; omega)) _)); exact Below.refl _ _)⟩
  · rcases four ty with rfl | rfl | rfl | ⟨b1, b2, b3, b4⟩
    rotate_left 3
    · exact absurd hg (by unfold gW; rw [b4]; simp)
    · have E : WordAsR 125 bits 127 = .tuple #[.agg #[.int .i64 127, .int .u64 (cutW 127 bits)], .bool true] := by unfold WordAsR; rw [hg]; rfl
      have c : cutW 127 bits = bits := by
        have hb : bits ≤ 4294967295 := by unfold gW at hg; simpa [isTW] using hg
        show bits % 4294967296 = bits
        omega
      rw [E, c]
      clear c E hg h0 h1
      go_enter Try.func6, Try.ntmps6
      go_wp2_with fail
      refine (G _).mono ?_
      rintro e w1 ⟨rfl, B1⟩
      clear G
      have k0 : w1.cell? ⟨w.heap.size, 0, none⟩ = some (.int .i64 125) := keepCell B1 (by simp; omega) (by simp)
      have k1 : w1.cell? ⟨w.heap.size, 1, none⟩ = some (.int .u64 bits) := keepCell B1 (by simp; omega) (by simp)
      have kz : w1.heap[w.heap.size + 1]? = some (.cells #[.int .i64 0, .int .u64 0] 25 (0, 0)) := (B1.block (w.heap.size + 1) (by simp)).trans (by have h := heap_alloc_new (w.alloc (Obj.cells #[Value.int IntKind.i64 125, Value.int IntKind.u64 bits] 25)) (Obj.cells #[Value.int IntKind.i64 0, Value.int IntKind.u64 0] 25); simpa using h)
      have hs := B1.size
      simp at hs
      have c0 : w1.cell? ⟨w.heap.size + 1, 0, none⟩ = some (.int .i64 0) := (cell_of_block kz 0).trans rfl
      have c1 : w1.cell? ⟨w.heap.size + 1, 1, none⟩ = some (.int .u64 0) := (cell_of_block kz 1).trans rfl
      have f0 : w1.frozen? ⟨w.heap.size + 1, 0, none⟩ = false := free_of_block kz 0
      have f1 : w1.frozen? ⟨w.heap.size + 1, 1, none⟩ = false := free_of_block kz 1
      go_wp2_with (go_at_call 16; refine (M _).mono ?_; rintro e w2 ⟨rfl, hw⟩; obtain rfl := hw.symm)
      obtain ⟨q1, q2⟩ := set2 kz (.int .i64 127) (.int .u64 (bits))
      exact bodyPost_ret (v := .tuple #[.agg #[.int .i64 127, .int .u64 (bits)], .bool true]) (by simp [results, Try.results6, go_sem, q1, q2]) rfl ⟨rfl, by ((repeat (first | refine bel_alloc ?_ _ | refine bel_dN ?_ _ | refine Below.drew ?_ | refine Below.setCell ?_ (by first | (simp; done) | (simp; omega)) _)); refine bel_step ?_ B1; (repeat (first | refine bel_alloc ?_ _ | refine bel_dN ?_ _ | refine Below.drew ?_ | refine Below.setCell ?_ (by first | (simp; done) | (simp; omega)) _)); exact Below.refl _ _)⟩
    · have E : WordAsR 126 bits 127 = .tuple #[.agg #[.int .i64 0, .int .u64 0], .bool false] := by unfold WordAsR; rw [hg]; rfl
      rw [E]
      clear E hg h0 h1
      go_enter Try.func6, Try.ntmps6
      go_wp2_with fail
      refine (G _).mono ?_
      rintro e w1 ⟨rfl, B1⟩
      clear G
      have k0 : w1.cell? ⟨w.heap.size, 0, none⟩ = some (.int .i64 126) := keepCell B1 (by simp; omega) (by simp)
      have k1 : w1.cell? ⟨w.heap.size, 1, none⟩ = some (.int .u64 bits) := keepCell B1 (by simp; omega) (by simp)
      have kz : w1.heap[w.heap.size + 1]? = some (.cells #[.int .i64 0, .int .u64 0] 25 (0, 0)) := (B1.block (w.heap.size + 1) (by simp)).trans (by have h := heap_alloc_new (w.alloc (Obj.cells #[Value.int IntKind.i64 126, Value.int IntKind.u64 bits] 25)) (Obj.cells #[Value.int IntKind.i64 0, Value.int IntKind.u64 0] 25); simpa using h)
      have hs := B1.size
      simp at hs
      have c0 : w1.cell? ⟨w.heap.size + 1, 0, none⟩ = some (.int .i64 0) := (cell_of_block kz 0).trans rfl
      have c1 : w1.cell? ⟨w.heap.size + 1, 1, none⟩ = some (.int .u64 0) := (cell_of_block kz 1).trans rfl
      have f0 : w1.frozen? ⟨w.heap.size + 1, 0, none⟩ = false := free_of_block kz 0
      have f1 : w1.frozen? ⟨w.heap.size + 1, 1, none⟩ = false := free_of_block kz 1
      go_wp2_with (go_at_call 16; refine (M _).mono ?_; rintro e w2 ⟨rfl, hw⟩; obtain rfl := hw.symm)
      obtain ⟨q1, q2⟩ := set2 kz (.int .i64 0) (.int .u64 (0))
      exact bodyPost_ret (v := .tuple #[.agg #[.int .i64 0, .int .u64 (0)], .bool false]) (by simp [results, Try.results6, go_sem, q1, q2]) rfl ⟨rfl, by ((repeat (first | refine bel_alloc ?_ _ | refine bel_dN ?_ _ | refine Below.drew ?_ | refine Below.setCell ?_ (by first | (simp; done) | (simp; omega)) _)); refine bel_step ?_ B1; (repeat (first | refine bel_alloc ?_ _ | refine bel_dN ?_ _ | refine Below.drew ?_ | refine Below.setCell ?_ (by first | (simp; done) | (simp; omega)) _)); exact Below.refl _ _)⟩
    · have E : WordAsR 127 bits 127 = .tuple #[.agg #[.int .i64 127, .int .u64 (cutW 127 bits)], .bool true] := by unfold WordAsR; rw [hg]; rfl
      have c : cutW 127 bits = bits := by
        have hb : bits ≤ 4294967295 := by unfold gW at hg; simpa [isTW] using hg
        show bits % 4294967296 = bits
        omega
      rw [E, c]
      clear c E hg h0 h1
      go_enter Try.func6, Try.ntmps6
      go_wp2_with fail
      refine (G _).mono ?_
      rintro e w1 ⟨rfl, B1⟩
      clear G
      have k0 : w1.cell? ⟨w.heap.size, 0, none⟩ = some (.int .i64 127) := keepCell B1 (by simp; omega) (by simp)
      have k1 : w1.cell? ⟨w.heap.size, 1, none⟩ = some (.int .u64 bits) := keepCell B1 (by simp; omega) (by simp)
      have kz : w1.heap[w.heap.size + 1]? = some (.cells #[.int .i64 0, .int .u64 0] 25 (0, 0)) := (B1.block (w.heap.size + 1) (by simp)).trans (by have h := heap_alloc_new (w.alloc (Obj.cells #[Value.int IntKind.i64 127, Value.int IntKind.u64 bits] 25)) (Obj.cells #[Value.int IntKind.i64 0, Value.int IntKind.u64 0] 25); simpa using h)
      have hs := B1.size
      simp at hs
      have c0 : w1.cell? ⟨w.heap.size + 1, 0, none⟩ = some (.int .i64 0) := (cell_of_block kz 0).trans rfl
      have c1 : w1.cell? ⟨w.heap.size + 1, 1, none⟩ = some (.int .u64 0) := (cell_of_block kz 1).trans rfl
      have f0 : w1.frozen? ⟨w.heap.size + 1, 0, none⟩ = false := free_of_block kz 0
      have f1 : w1.frozen? ⟨w.heap.size + 1, 1, none⟩ = false := free_of_block kz 1
      go_wp2_with (go_at_call 16; refine (M _).mono ?_; rintro e w2 ⟨rfl, hw⟩; obtain rfl := hw.symm)
      obtain ⟨q1, q2⟩ := set2 kz (.int .i64 127) (.int .u64 (bits))
      exact bodyPost_ret (v := .tuple #[.agg #[.int .i64 127, .int .u64 (bits)], .bool true]) (by simp [results, Try.results6, go_sem, q1, q2]) rfl ⟨rfl, by ((repeat (first | refine bel_alloc ?_ _ | refine bel_dN ?_ _ | refine Below.drew ?_ | refine Below.setCell ?_ (by first | (simp; done) | (simp; omega)) _)); refine bel_step ?_ B1; (repeat (first | refine bel_alloc ?_ _ | refine bel_dN ?_ _ | refine Below.drew ?_ | refine Below.setCell ?_ (by first | (simp; done) | (simp; omega)) _)); exact Below.refl _ _)⟩
  · have E : WordAsR ty bits want = .tuple #[.agg #[.int .i64 0, .int .u64 0], .bool false] := by
      have : mayW ty want = false := by unfold mayW; rcases four ty with rfl | rfl | rfl | ⟨b1, b2, b3, b4⟩ <;> (simp at *; simp_all [isTW])
      unfold WordAsR; rw [this, Bool.and_false]; rfl
    rw [E]
    rw [a4] at M
    clear E hg h0 h1 a1 a2 a3 a4
    go_enter Try.func6, Try.ntmps6
    go_wp2_with fail
    refine (G _).mono ?_
    rintro e w1 ⟨rfl, B1⟩
    clear G
    have kz : w1.heap[w.heap.size + 1]? = some (.cells #[.int .i64 0, .int .u64 0] 25 (0, 0)) := (B1.block (w.heap.size + 1) (by simp)).trans (by have h := heap_alloc_new (w.alloc (Obj.cells #[Value.int IntKind.i64 ty, Value.int IntKind.u64 bits] 25)) (Obj.cells #[Value.int IntKind.i64 0, Value.int IntKind.u64 0] 25); simpa using h)
    have hs := B1.size
    simp at hs
    have c0 : w1.cell? ⟨w.heap.size + 1, 0, none⟩ = some (.int .i64 0) := (cell_of_block kz 0).trans rfl
    have c1 : w1.cell? ⟨w.heap.size + 1, 1, none⟩ = some (.int .u64 0) := (cell_of_block kz 1).trans rfl
    have f0 : w1.frozen? ⟨w.heap.size + 1, 0, none⟩ = false := free_of_block kz 0
    have f1 : w1.frozen? ⟨w.heap.size + 1, 1, none⟩ = false := free_of_block kz 1
    go_wp2_with (go_at_call 16; refine (M _).mono ?_; rintro e w2 ⟨rfl, hw⟩; obtain rfl := hw.symm)
    obtain ⟨q1, q2⟩ := set2 kz (.int .i64 0) (.int .u64 (0))
    exact bodyPost_ret (v := .tuple #[.agg #[.int .i64 0, .int .u64 (0)], .bool false]) (by simp [results, Try.results6, go_sem, q1, q2]) rfl ⟨rfl, by ((repeat (first | refine bel_alloc ?_ _ | refine bel_dN ?_ _ | refine Below.drew ?_ | refine Below.setCell ?_ (by first | (simp; done) | (simp; omega)) _)); refine bel_step ?_ B1; (repeat (first | refine bel_alloc ?_ _ | refine bel_dN ?_ _ | refine Below.drew ?_ | refine Below.setCell ?_ (by first | (simp; done) | (simp; omega)) _)); exact Below.refl _ _)⟩

set_option maxRecDepth 100000 in
set_option maxHeartbeats 3200000 in
theorem specWordFrom (ty bits want : Int) (h0 : 0 ≤ bits) (h1 : bits ≤ 18446744073709551615) (w : World) :
    Calls Try.prog 10 #[.agg #[.int .i64 ty, .int .u64 bits], .int .i64 want] w fun e w' => e = .returned (WordFromR ty bits want) ∧ Below w.heap.size w w' := by
  have G := specGW ty bits
  have M := specTW want
  have O := l14From_eq ty want bits h0 h1
  cases hg : gW ty bits
  · have E : WordFromR ty bits want = .tuple #[.agg #[.int .i64 0, .int .u64 0], .bool false] := by unfold WordFromR; rw [hg]; rfl
    rw [E]
    rw [hg] at G
    clear E hg h0 h1 M
    clear O
    go_enter Try.func10, Try.ntmps10
    go_wp2_with fail
    refine (G _).mono ?_
    rintro e w1 ⟨rfl, B1⟩
    clear G
    have kz : w1.heap[w.heap.size + 1]? = some (.cells #[.int .i64 0, .int .u64 0] 25 (0, 0)) := (B1.block (w.heap.size + 1) (by simp)).trans (by have h := heap_alloc_new (w.alloc (Obj.cells #[Value.int IntKind.i64 ty, Value.int IntKind.u64 bits] 25)) (Obj.cells #[Value.int IntKind.i64 0, Value.int IntKind.u64 0] 25); simpa using h)
    have hs := B1.size
    simp at hs
    have c0 : w1.cell? ⟨w.heap.size + 1, 0, none⟩ = some (.int .i64 0) := (cell_of_block kz 0).trans rfl
    have c1 : w1.cell? ⟨w.heap.size + 1, 1, none⟩ = some (.int .u64 0) := (cell_of_block kz 1).trans rfl
    have f0 : w1.frozen? ⟨w.heap.size + 1, 0, none⟩ = false := free_of_block kz 0
    have f1 : w1.frozen? ⟨w.heap.size + 1, 1, none⟩ = false := free_of_block kz 1
    go_wp2
    obtain ⟨q1, q2⟩ := set2 kz (.int .i64 0) (.int .u64 (0))
    exact bodyPost_ret (v := .tuple #[.agg #[.int .i64 0, .int .u64 (0)], .bool false]) (by simp [results, Try.results10, go_sem, q1, q2]) rfl ⟨rfl, by ((repeat (first | refine bel_alloc ?_ _ | refine bel_dN ?_ _ | refine Below.drew ?_ | refine Below.setCell ?_ (by first | (simp; done) | (simp; omega)) _)); refine bel_step ?_ B1; (repeat (first | refine bel_alloc ?_ _ | refine bel_dN ?_ _ | refine Below.drew ?_ | refine Below.setCell ?_ (by first | (simp; done) | (simp; omega)) _)); exact Below.refl _ _)⟩
  rw [hg] at G
  rcases four want with rfl | rfl | rfl | ⟨a1, a2, a3, a4⟩
  · rcases four ty with rfl | rfl | rfl | ⟨b1, b2, b3, b4⟩
    rotate_left 3
    · exact absurd hg (by unfold gW; rw [b4]; simp)
    · have E : WordFromR 125 bits 125 = .tuple #[.agg #[.int .i64 125, .int .u64 (cutW 125 bits)], .bool true] := by unfold WordFromR; rw [hg]; rfl
      rw [E]
      generalize cutW 125 bits = x at O ⊢
      clear E hg h0 h1
      go_enter Try.func10, Try.ntmps10
      go_wp2_with fail
      refine (G _).mono ?_
      rintro e w1 ⟨rfl, B1⟩
      clear G
      have k0 : w1.cell? ⟨w.heap.size, 0, none⟩ = some (.int .i64 125) := keepCell B1 (by simp; omega) (by simp)
      have k1 : w1.cell? ⟨w.heap.size, 1, none⟩ = some (.int .u64 bits) := keepCell B1 (by simp; omega) (by simp)
      have kz : w1.heap[w.heap.size + 1]? = some (.cells #[.int .i64 0, .int .u64 0] 25 (0, 0)) := (B1.block (w.heap.size + 1) (by simp)).trans (by have h := heap_alloc_new (w.alloc (Obj.cells #[Value.int IntKind.i64 125, Value.int IntKind.u64 bits] 25)) (Obj.cells #[Value.int IntKind.i64 0, Value.int IntKind.u64 0] 25); simpa using h)
      have hs := B1.size
      simp at hs
      go_wp2_with (first | (go_at_call 16; refine (M _).mono ?_; rintro e w2 ⟨rfl, hw⟩; obtain rfl := hw.symm) | fail)
      refine (O _).mono ?_
      rintro e w2 ⟨rfl, B2⟩
      have hs2 := B2.size
      have kz2 := (B2.block (w.heap.size + 1) (by omega)).trans kz
      have c0 : w2.cell? ⟨w.heap.size + 1, 0, none⟩ = some (.int .i64 0) := (cell_of_block kz2 0).trans rfl
      have c1 : w2.cell? ⟨w.heap.size + 1, 1, none⟩ = some (.int .u64 0) := (cell_of_block kz2 1).trans rfl
      have f0 : w2.frozen? ⟨w.heap.size + 1, 0, none⟩ = false := free_of_block kz2 0
      have f1 : w2.frozen? ⟨w.heap.size + 1, 1, none⟩ = false := free_of_block kz2 1
      go_wp2
      obtain ⟨q1, q2⟩ := set2 kz2 (.int .i64 125) (.int .u64 (x))
      exact bodyPost_ret (v := .tuple #[.agg #[.int .i64 125, .int .u64 (x)], .bool true]) (by simp [results, Try.results10, go_sem, q1, q2]) rfl ⟨rfl, by ((repeat (first | refine bel_alloc ?_ _ | refine bel_dN ?_ _ | refine Below.drew ?_ | refine Below.setCell ?_ (by first | (simp; done) | (simp; omega)) _)); refine bel_step ?_ B2; (repeat (first | refine bel_alloc ?_ _ | refine bel_dN ?_ _ | refine Below.drew ?_ | refine Below.setCell ?_ (by first | (simp; done) | (simp; omega)) _)); refine bel_step ?_ B1; (repeat (first | refine bel_alloc ?_ _ | refine bel_dN ?_ _ | refine Below.drew ?_ | refine Below.setCell ?_ (by first | (simp; done) | (simp; omega)) _)); exact Below.refl _ _)⟩
    · have E : WordFromR 126 bits 125 = .tuple #[.agg #[.int .i64 125, .int .u64 (cutW 125 bits)], .bool true] := by unfold WordFromR; rw [hg]; rfl
      rw [E]
      generalize cutW 125 bits = x at O ⊢
      clear E hg h0 h1
      go_enter Try.func10, Try.ntmps10
      go_wp2_with fail
      refine (G _).mono ?_
      rintro e w1 ⟨rfl, B1⟩
      clear G
      have k0 : w1.cell? ⟨w.heap.size, 0, none⟩ = some (.int .i64 126) := keepCell B1 (by simp; omega) (by simp)
      have k1 : w1.cell? ⟨w.heap.size, 1, none⟩ = some (.int .u64 bits) := keepCell B1 (by simp; omega) (by simp)
      have kz : w1.heap[w.heap.size + 1]? = some (.cells #[.int .i64 0, .int .u64 0] 25 (0, 0)) := (B1.block (w.heap.size + 1) (by simp)).trans (by have h := heap_alloc_new (w.alloc (Obj.cells #[Value.int IntKind.i64 126, Value.int IntKind.u64 bits] 25)) (Obj.cells #[Value.int IntKind.i64 0, Value.int IntKind.u64 0] 25); simpa using h)
      have hs := B1.size
      simp at hs
      go_wp2_with (first | (go_at_call 16; refine (M _).mono ?_; rintro e w2 ⟨rfl, hw⟩; obtain rfl := hw.symm) | fail)
      refine (O _).mono ?_
      rintro e w2 ⟨rfl, B2⟩
      have hs2 := B2.size
      have kz2 := (B2.block (w.heap.size + 1) (by omega)).trans kz
      have c0 : w2.cell? ⟨w.heap.size + 1, 0, none⟩ = some (.int .i64 0) := (cell_of_block kz2 0).trans rfl
      have c1 : w2.cell? ⟨w.heap.size + 1, 1, none⟩ = some (.int .u64 0) := (cell_of_block kz2 1).trans rfl
      have f0 : w2.frozen? ⟨w.heap.size + 1, 0, none⟩ = false := free_of_block kz2 0
      have f1 : w2.frozen? ⟨w.heap.size + 1, 1, none⟩ = false := free_of_block kz2 1
      go_wp2
      obtain ⟨q1, q2⟩ := set2 kz2 (.int .i64 125) (.int .u64 (x))
      exact bodyPost_ret (v := .tuple #[.agg #[.int .i64 125, .int .u64 (x)], .bool true]) (by simp [results, Try.results10, go_sem, q1, q2]) rfl ⟨rfl, by ((repeat (first | refine bel_alloc ?_ _ | refine bel_dN ?_ _ | refine Below.drew ?_ | refine Below.setCell ?_ (by first | (simp; done) | (simp; omega)) _)); refine bel_step ?_ B2; (repeat (first | refine bel_alloc ?_ _ | refine bel_dN ?_ _ | refine Below.drew ?_ | refine Below.setCell ?_ (by first | (simp; done) | (simp; omega)) _)); refine bel_step ?_ B1; (repeat (first | refine bel_alloc ?_ _ | refine bel_dN ?_ _ | refine Below.drew ?_ | refine Below.setCell ?_ (by first | (simp; done) | (simp; omega)) _)); exact Below.refl _ _)⟩
    · have E : WordFromR 127 bits 125 = .tuple #[.agg #[.int .i64 125, .int .u64 (cutW 125 bits)], .bool true] := by unfold WordFromR; rw [hg]; rfl
      rw [E]
      generalize cutW 125 bits = x at O ⊢
      clear E hg h0 h1
      go_enter Try.func10, Try.ntmps10
      go_wp2_with fail
      refine (G _).mono ?_
      rintro e w1 ⟨rfl, B1⟩
      clear G
      have k0 : w1.cell? ⟨w.heap.size, 0, none⟩ = some (.int .i64 127) := keepCell B1 (by simp; omega) (by simp)
      have k1 : w1.cell? ⟨w.heap.size, 1, none⟩ = some (.int .u64 bits) := keepCell B1 (by simp; omega) (by simp)
      have kz : w1.heap[w.heap.size + 1]? = some (.cells #[.int .i64 0, .int .u64 0] 25 (0, 0)) := (B1.block (w.heap.size + 1) (by simp)).trans (by have h := heap_alloc_new (w.alloc (Obj.cells #[Value.int IntKind.i64 127, Value.int IntKind.u64 bits] 25)) (Obj.cells #[Value.int IntKind.i64 0, Value.int IntKind.u64 0] 25); simpa using h)
      have hs := B1.size
      simp at hs
      go_wp2_with (first | (go_at_call 16; refine (M _).mono ?_; rintro e w2 ⟨rfl, hw⟩; obtain rfl := hw.symm) | fail)
      refine (O _).mono ?_
      rintro e w2 ⟨rfl, B2⟩
      have hs2 := B2.size
      have kz2 := (B2.block (w.heap.size + 1) (by omega)).trans kz
      have c0 : w2.cell? ⟨w.heap.size + 1, 0, none⟩ = some (.int .i64 0) := (cell_of_block kz2 0).trans rfl
      have c1 : w2.cell? ⟨w.heap.size + 1, 1, none⟩ = some (.int .u64 0) := (cell_of_block kz2 1).trans rfl
      have f0 : w2.frozen? ⟨w.heap.size + 1, 0, none⟩ = false := free_of_block kz2 0
      have f1 : w2.frozen? ⟨w.heap.size + 1, 1, none⟩ = false := free_of_block kz2 1
      go_wp2
      obtain ⟨q1, q2⟩ := set2 kz2 (.int .i64 125) (.int .u64 (x))
      exact bodyPost_ret (v := .tuple #[.agg #[.int .i64 125, .int .u64 (x)], .bool true]) (by simp [results, Try.results10, go_sem, q1, q2]) rfl ⟨rfl, by ((repeat (first | refine bel_alloc ?_ _ | refine bel_dN ?_ _ | refine Below.drew ?_ | refine Below.setCell ?_ (by first | (simp; done) | (simp; omega)) _)); refine bel_step ?_ B2; (repeat (first | refine bel_alloc ?_ _ | refine bel_dN ?_ _ | refine Below.drew ?_ | refine Below.setCell ?_ (by first | (simp; done) | (simp; omega)) _)); refine bel_step ?_ B1; (repeat (first | refine bel_alloc ?_ _ | refine bel_dN ?_ _ | refine Below.drew ?_ | refine Below.setCell ?_ (by first | (simp; done) | (simp; omega)) _)); exact Below.refl _ _)⟩
  · rcases four ty with rfl | rfl | rfl | ⟨b1, b2, b3, b4⟩
    rotate_left 3
    · exact absurd hg (by unfold gW; rw [b4]; simp)
    · have E : WordFromR 125 bits 126 = .tuple #[.agg #[.int .i64 0, .int .u64 0], .bool false] := by unfold WordFromR; rw [hg]; rfl
      rw [E]
      clear E hg h0 h1
      clear O
      go_enter Try.func10, Try.ntmps10
      go_wp2_with fail
      refine (G _).mono ?_
      rintro e w1 ⟨rfl, B1⟩
      clear G
      have k0 : w1.cell? ⟨w.heap.size, 0, none⟩ = some (.int .i64 125) := keepCell B1 (by simp; omega) (by simp)
      have k1 : w1.cell? ⟨w.heap.size, 1, none⟩ = some (.int .u64 bits) := keepCell B1 (by simp; omega) (by simp)
      have kz : w1.heap[w.heap.size + 1]? = some (.cells #[.int .i64 0, .int .u64 0] 25 (0, 0)) := (B1.block (w.heap.size + 1) (by simp)).trans (by have h := heap_alloc_new (w.alloc (Obj.cells #[Value.int IntKind.i64 125, Value.int IntKind.u64 bits] 25)) (Obj.cells #[Value.int IntKind.i64 0, Value.int IntKind.u64 0] 25); simpa using h)
      have hs := B1.size
      simp at hs
      have c0 : w1.cell? ⟨w.heap.size + 1, 0, none⟩ = some (.int .i64 0) := (cell_of_block kz 0).trans rfl
      have c1 : w1.cell? ⟨w.heap.size + 1, 1, none⟩ = some (.int .u64 0) := (cell_of_block kz 1).trans rfl
      have f0 : w1.frozen? ⟨w.heap.size + 1, 0, none⟩ = false := free_of_block kz 0
      have f1 : w1.frozen? ⟨w.heap.size + 1, 1, none⟩ = false := free_of_block kz 1
      go_wp2_with (go_at_call 16; refine (M _).mono ?_; rintro e w2 ⟨rfl, hw⟩; obtain rfl := hw.symm)
      obtain ⟨q1, q2⟩ := set2 kz (.int .i64 0) (.int .u64 (0))
      exact bodyPost_ret (v := .tuple #[.agg #[.int .i64 0, .int .u64 (0)], .bool false]) (by simp [results, Try.results10, go_sem, q1, q2]) rfl ⟨rfl, by ((repeat (first | refine bel_alloc ?_ _ | refine bel_dN ?_ _ | refine Below.drew ?_ | refine Below.setCell ?_ (by first | (simp; done) | (simp; omega)) _)); refine bel_step ?_ B1; (repeat (first | refine bel_alloc ?_ _ | refine bel_dN ?_ _ | refine Below.drew ?_ | refine Below.setCell ?_ (by first | (simp; done) | (simp; omega)) _)); exact Below.refl _ _)⟩
    · have E : WordFromR 126 bits 126 = .tuple #[.agg #[.int .i64 126, .int .u64 (cutW 126 bits)], .bool true] := by unfold WordFromR; rw [hg]; rfl
      rw [E]
      generalize cutW 126 bits = x at O ⊢
      clear E hg h0 h1
      go_enter Try.func10, Try.ntmps10
      go_wp2_with fail
      refine (G _).mono ?_
      rintro e w1 ⟨rfl, B1⟩
      clear G
      have k0 : w1.cell? ⟨w.heap.size, 0, none⟩ = some (.int .i64 126) := keepCell B1 (by simp; omega) (by simp)
      have k1 : w1.cell? ⟨w.heap.size, 1, none⟩ = some (.int .u64 bits) := keepCell B1 (by simp; omega) (by simp)
      have kz : w1.heap[w.heap.size + 1]? = some (.cells #[.int .i64 0, .int .u64 0] 25 (0, 0)) := (B1.block (w.heap.size + 1) (by simp)).trans (by have h := heap_alloc_new (w.alloc (Obj.cells #[Value.int IntKind.i64 126, Value.int IntKind.u64 bits] 25)) (Obj.cells #[Value.int IntKind.i64 0, Value.int IntKind.u64 0] 25); simpa using h)
      have hs := B1.size
      simp at hs
      go_wp2_with (first | (go_at_call 16; refine (M _).mono ?_; rintro e w2 ⟨rfl, hw⟩; obtain rfl := hw.symm) | fail)
      refine (O _).mono ?_
      rintro e w2 ⟨rfl, B2⟩
      have hs2 := B2.size
      have kz2 := (B2.block (w.heap.size + 1) (by omega)).trans kz
      have c0 : w2.cell? ⟨w.heap.size + 1, 0, none⟩ = some (.int .i64 0) := (cell_of_block kz2 0).trans rfl
      have c1 : w2.cell? ⟨w.heap.size + 1, 1, none⟩ = some (.int .u64 0) := (cell_of_block kz2 1).trans rfl
      have f0 : w2.frozen? ⟨w.heap.size + 1, 0, none⟩ = false := free_of_block kz2 0
      have f1 : w2.frozen? ⟨w.heap.size + 1, 1, none⟩ = false := free_of_block kz2 1
      go_wp2
      obtain ⟨q1, q2⟩ := set2 kz2 (.int .i64 126) (.int .u64 (x))
      exact bodyPost_ret (v := .tuple #[.agg #[.int .i64 126, .int .u64 (x)], .bool true]) (by simp [results, Try.results10, go_sem, q1, q2]) rfl ⟨rfl, by ((repeat (first | refine bel_alloc ?_ _ | refine bel_dN ?_ _ | refine Below.drew ?_ | refine Below.setCell ?_ (by first | (simp; done) | (simp; omega)) _)); refine bel_step ?_ B2; (repeat (first | refine bel_alloc ?_ _ | refine bel_dN ?_ _ | refine Below.drew ?_ | refine Below.setCell ?_ (by first | (simp; done) | (simp; omega)) _)); refine bel_step ?_ B1; (repeat (first | refine bel_alloc ?_ _ | refine bel_dN ?_ _ | refine Below.drew ?_ | refine Below.setCell ?_ (by first | (simp; done) | (simp; omega)) _)); exact Below.refl _ _)⟩
    · have E : WordFromR 127 bits 126 = .tuple #[.agg #[.int .i64 0, .int .u64 0], .bool false] := by unfold WordFromR; rw [hg]; rfl
      rw [E]
      clear E hg h0 h1
      clear O
      go_enter Try.func10, Try.ntmps10
      go_wp2_with fail
      refine (G _).mono ?_
      rintro e w1 ⟨rfl, B1⟩
      clear G
      have k0 : w1.cell? ⟨w.heap.size, 0, none⟩ = some (.int .i64 127) := keepCell B1 (by simp; omega) (by simp)
      have k1 : w1.cell? ⟨w.heap.size, 1, none⟩ = some (.int .u64 bits) := keepCell B1 (by simp; omega) (by simp)
      have kz : w1.heap[w.heap.size + 1]? = some (.cells #[.int .i64 0, .int .u64 0] 25 (0, 0)) := (B1.block (w.heap.size + 1) (by simp)).trans (by have h := heap_alloc_new (w.alloc (Obj.cells #[Value.int IntKind.i64 127, Value.int IntKind.u64 bits] 25)) (Obj.cells #[Value.int IntKind.i64 0, Value.int IntKind.u64 0] 25); simpa using h)
      have hs := B1.size
      simp at hs
      have c0 : w1.cell? ⟨w.heap.size + 1, 0, none⟩ = some (.int .i64 0) := (cell_of_block kz 0).trans rfl
      have c1 : w1.cell? ⟨w.heap.size + 1, 1, none⟩ = some (.int .u64 0) := (cell_of_block kz 1).trans rfl
      have f0 : w1.frozen? ⟨w.heap.size + 1, 0, none⟩ = false := free_of_block kz 0
      have f1 : w1.frozen? ⟨w.heap.size + 1, 1, none⟩ = false := free_of_block kz 1
      go_wp2_with (go_at_call 16; refine (M _).mono ?_; rintro e w2 ⟨rfl, hw⟩; obtain rfl := hw.symm)
      obtain ⟨q1, q2⟩ := set2 kz (.int .i64 0) (.int .u64 (0))
      exact bodyPost_ret (v := .tuple #[.agg #[.int .i64 0, .int .u64 (0)], .bool false]) (by simp [results, Try.results10, go_sem, q1, q2]) rfl ⟨rfl, by ((repeat (first | refine bel_alloc ?_ _ | refine bel_dN ?_ _ | refine Below.drew ?_ | refine Below.setCell ?_ (by first | (simp; done) | (simp; omega)) _)); refine bel_step ?_ B1; (repeat (first | refine bel_alloc ?_ _ | refine bel_dN ?_ _ | refine Below.drew ?_ | refine Below.setCell ?_ (by first | (simp; done) | (simp; omega)) _)); exact Below.refl _ _)⟩
  · rcases four ty with rfl | rfl | rfl | ⟨b1, b2, b3, b4⟩
    rotate_left 3
    · exact absurd hg (by unfold gW; rw [b4]; simp)
    · have E : WordFromR 125 bits 127 = .tuple #[.agg #[.int .i64 0, .int .u64 0], .bool false] := by unfold WordFromR; rw [hg]; rfl
      rw [E]
      clear E hg h0 h1
      clear O
      go_enter Try.func10, Try.ntmps10
      go_wp2_with fail
      refine (G _).mono ?_
      rintro e w1 ⟨rfl, B1⟩
      clear G
      have k0 : w1.cell? ⟨w.heap.size, 0, none⟩ = some (.int .i64 125) := keepCell B1 (by simp; omega) (by simp)
      have k1 : w1.cell? ⟨w.heap.size, 1, none⟩ = some (.int .u64 bits) := keepCell B1 (by simp; omega) (by simp)
      have kz : w1.heap[w.heap.size + 1]? = some (.cells #[.int .i64 0, .int .u64 0] 25 (0, 0)) := (B1.block (w.heap.size + 1) (by simp)).trans (by have h := heap_alloc_new (w.alloc (Obj.cells #[Value.int IntKind.i64 125, Value.int IntKind.u64 bits] 25)) (Obj.cells #[Value.int IntKind.i64 0, Value.int IntKind.u64 0] 25); simpa using h)
      have hs := B1.size
      simp at hs
      have c0 : w1.cell? ⟨w.heap.size + 1, 0, none⟩ = some (.int .i64 0) := (cell_of_block kz 0).trans rfl
      have c1 : w1.cell? ⟨w.heap.size + 1, 1, none⟩ = some (.int .u64 0) := (cell_of_block kz 1).trans rfl
      have f0 : w1.frozen? ⟨w.heap.size + 1, 0, none⟩ = false := free_of_block kz 0
      have f1 : w1.frozen? ⟨w.heap.size + 1, 1, none⟩ = false := free_of_block kz 1
      go_wp2_with (go_at_call 16; refine (M _).mono ?_; rintro e w2 ⟨rfl, hw⟩; obtain rfl := hw.symm)
      obtain ⟨q1, q2⟩ := set2 kz (.int .i64 0) (.int .u64 (0))
      exact bodyPost_ret (v := .tuple #[.agg #[.int .i64 0, .int .u64 (0)], .bool false]) (by simp [results, Try.results10, go_sem, q1, q2]) rfl ⟨rfl, by ((repeat (first | refine bel_alloc ?_ _ | refine bel_dN ?_ _ | refine Below.drew ?_ | refine Below.setCell ?_ (by first | (simp; done) | (simp; omega)) _)); refine bel_step ?_ B1; (repeat (first | refine bel_alloc ?_ _ | refine bel_dN ?_ _ | refine Below.drew ?_ | refine Below.setCell ?_ (by first | (simp; done) | (simp; omega)) _)); exact Below.refl _ _)⟩
    · have E : WordFromR 126 bits 127 = .tuple #[.agg #[.int .i64 127, .int .u64 (cutW 127 bits)], .bool true] := by unfold WordFromR; rw [hg]; rfl
      rw [E]
      generalize cutW 127 bits = x at O ⊢
      clear E hg h0 h1
      go_enter Try.func10, Try.ntmps10
      go_wp2_with fail
      refine (G _).mono ?_
      rintro e w1 ⟨rfl, B1⟩
      clear G
      have k0 : w1.cell? ⟨w.heap.size, 0, none⟩ = some (.int .i64 126) := keepCell B1 (by simp; omega) (by simp)
      have k1 : w1.cell? ⟨w.heap.size, 1, none⟩ = some (.int .u64 bits) := keepCell B1 (by simp; omega) (by simp)
      have kz : w1.heap[w.heap.size + 1]? = some (.cells #[.int .i64 0, .int .u64 0] 25 (0, 0)) := (B1.block (w.heap.size + 1) (by simp)).trans (by have h := heap_alloc_new (w.alloc (Obj.cells #[Value.int IntKind.i64 126, Value.int IntKind.u64 bits] 25)) (Obj.cells #[Value.int IntKind.i64 0, Value.int IntKind.u64 0] 25); simpa using h)
      have hs := B1.size
      simp at hs
      go_wp2_with (first | (go_at_call 16; refine (M _).mono ?_; rintro e w2 ⟨rfl, hw⟩; obtain rfl := hw.symm) | fail)
      refine (O _).mono ?_
      rintro e w2 ⟨rfl, B2⟩
      have hs2 := B2.size
      have kz2 := (B2.block (w.heap.size + 1) (by omega)).trans kz
      have c0 : w2.cell? ⟨w.heap.size + 1, 0, none⟩ = some (.int .i64 0) := (cell_of_block kz2 0).trans rfl
      have c1 : w2.cell? ⟨w.heap.size + 1, 1, none⟩ = some (.int .u64 0) := (cell_of_block kz2 1).trans rfl
      have f0 : w2.frozen? ⟨w.heap.size + 1, 0, none⟩ = false := free_of_block kz2 0
      have f1 : w2.frozen? ⟨w.heap.size + 1, 1, none⟩ = false := free_of_block kz2 1
      go_wp2
      obtain ⟨q1, q2⟩ := set2 kz2 (.int .i64 127) (.int .u64 (x))
      exact bodyPost_ret (v := .tuple #[.agg #[.int .i64 127, .int .u64 (x)], .bool true]) (by simp [results, Try.results10, go_sem, q1, q2]) rfl ⟨rfl, by ((repeat (first | refine bel_alloc ?_ _ | refine bel_dN ?_ _ | refine Below.drew ?_ | refine Below.setCell ?_ (by first | (simp; done) | (simp; omega)) _)); refine bel_step ?_ B2; (repeat (first | refine bel_alloc ?_ _ | refine bel_dN ?_ _ | refine Below.drew ?_ | refine Below.setCell ?_ (by first | (simp; done) | (simp; omega)) _)); refine bel_step ?_ B1; (repeat (first | refine bel_alloc ?_ _ | refine bel_dN ?_ _ | refine Below.drew ?_ | refine Below.setCell ?_ (by first | (simp; done) | (simp; omega)) _)); exact Below.refl _ _)⟩
    · have E : WordFromR 127 bits 127 = .tuple #[.agg #[.int .i64 127, .int .u64 (cutW 127 bits)], .bool true] := by unfold WordFromR; rw [hg]; rfl
      rw [E]
      generalize cutW 127 bits = x at O ⊢
      clear E hg h0 h1
      go_enter Try.func10, Try.ntmps10
      go_wp2_with fail
      refine (G _).mono ?_
      rintro e w1 ⟨rfl, B1⟩
      clear G
      have k0 : w1.cell? ⟨w.heap.size, 0, none⟩ = some (.int .i64 127) := keepCell B1 (by simp; omega) (by simp)
      have k1 : w1.cell? ⟨w.heap.size, 1, none⟩ = some (.int .u64 bits) := keepCell B1 (by simp; omega) (by simp)
      have kz : w1.heap[w.heap.size + 1]? = some (.cells #[.int .i64 0, .int .u64 0] 25 (0, 0)) := (B1.block (w.heap.size + 1) (by simp)).trans (by have h := heap_alloc_new (w.alloc (Obj.cells #[Value.int IntKind.i64 127, Value.int IntKind.u64 bits] 25)) (Obj.cells #[Value.int IntKind.i64 0, Value.int IntKind.u64 0] 25); simpa using h)
      have hs := B1.size
      simp at hs
      go_wp2_with (first | (go_at_call 16; refine (M _).mono ?_; rintro e w2 ⟨rfl, hw⟩; obtain rfl := hw.symm) | fail)
      refine (O _).mono ?_
      rintro e w2 ⟨rfl, B2⟩
      have hs2 := B2.size
      have kz2 := (B2.block (w.heap.size + 1) (by omega)).trans kz
      have c0 : w2.cell? ⟨w.heap.size + 1, 0, none⟩ = some (.int .i64 0) := (cell_of_block kz2 0).trans rfl
      have c1 : w2.cell? ⟨w.heap.size + 1, 1, none⟩ = some (.int .u64 0) := (cell_of_block kz2 1).trans rfl
      have f0 : w2.frozen? ⟨w.heap.size + 1, 0, none⟩ = false := free_of_block kz2 0
      have f1 : w2.frozen? ⟨w.heap.size + 1, 1, none⟩ = false := free_of_block kz2 1
      go_wp2
      obtain ⟨q1, q2⟩ := set2 kz2 (.int .i64 127) (.int .u64 (x))
      exact bodyPost_ret (v := .tuple #[.agg #[.int .i64 127, .int .u64 (x)], .bool true]) (by simp [results, Try.results10, go_sem, q1, q2]) rfl ⟨rfl, by ((repeat (first | refine bel_alloc ?_ _ | refine bel_dN ?_ _ | refine Below.drew ?_ | refine Below.setCell ?_ (by first | (simp; done) | (simp; omega)) _)); refine bel_step ?_ B2; (repeat (first | refine bel_alloc ?_ _ | refine bel_dN ?_ _ | refine Below.drew ?_ | refine Below.setCell ?_ (by first | (simp; done) | (simp; omega)) _)); refine bel_step ?_ B1; (repeat (first | refine bel_alloc ?_ _ | refine bel_dN ?_ _ | refine Below.drew ?_ | refine Below.setCell ?_ (by first | (simp; done) | (simp; omega)) _)); exact Below.refl _ _)⟩
  · have E : WordFromR ty bits want = .tuple #[.agg #[.int .i64 0, .int .u64 0], .bool false] := by
      have : mayW want ty = false := by unfold mayW; rcases four ty with rfl | rfl | rfl | ⟨b1, b2, b3, b4⟩ <;> (simp at *; simp_all [isTW])
      unfold WordFromR; rw [this, Bool.and_false]; rfl
    rw [E]
    rw [a4] at M
    clear E hg h0 h1 a1 a2 a3 a4
    clear O
    go_enter Try.func10, Try.ntmps10
    go_wp2_with fail
    refine (G _).mono ?_
    rintro e w1 ⟨rfl, B1⟩
    clear G
    have kz : w1.heap[w.heap.size + 1]? = some (.cells #[.int .i64 0, .int .u64 0] 25 (0, 0)) := (B1.block (w.heap.size + 1) (by simp)).trans (by have h := heap_alloc_new (w.alloc (Obj.cells #[Value.int IntKind.i64 ty, Value.int IntKind.u64 bits] 25)) (Obj.cells #[Value.int IntKind.i64 0, Value.int IntKind.u64 0] 25); simpa using h)
    have hs := B1.size
    simp at hs
    have c0 : w1.cell? ⟨w.heap.size + 1, 0, none⟩ = some (.int .i64 0) := (cell_of_block kz 0).trans rfl
    have c1 : w1.cell? ⟨w.heap.size + 1, 1, none⟩ = some (.int .u64 0) := (cell_of_block kz 1).trans rfl
    have f0 : w1.frozen? ⟨w.heap.size + 1, 0, none⟩ = false := free_of_block kz 0
    have f1 : w1.frozen? ⟨w.heap.size + 1, 1, none⟩ = false := free_of_block kz 1
    go_wp2_with (go_at_call 16; refine (M _).mono ?_; rintro e w2 ⟨rfl, hw⟩; obtain rfl := hw.symm)
    obtain ⟨q1, q2⟩ := set2 kz (.int .i64 0) (.int .u64 (0))
    exact bodyPost_ret (v := .tuple #[.agg #[.int .i64 0, .int .u64 (0)], .bool false]) (by simp [results, Try.results10, go_sem, q1, q2]) rfl ⟨rfl, by ((repeat (first | refine bel_alloc ?_ _ | refine bel_dN ?_ _ | refine Below.drew ?_ | refine Below.setCell ?_ (by first | (simp; done) | (simp; omega)) _)); refine bel_step ?_ B1; (repeat (first | refine bel_alloc ?_ _ | refine bel_dN ?_ _ | refine Below.drew ?_ | refine Below.setCell ?_ (by first | (simp; done) | (simp; omega)) _)); exact Below.refl _ _)⟩

end Go.Proofs.Ytkehpfoohkamoaa
