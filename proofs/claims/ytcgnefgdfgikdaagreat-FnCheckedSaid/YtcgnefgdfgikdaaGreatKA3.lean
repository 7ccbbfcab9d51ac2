/-
  What the plain instructions take and put: the program's side.
-/
import Derived.Test.YtcgnefgdfgikdaaGreatM3
import Derived.Test.YtcgnefgdfgikdaaGreatM1
import Derived.Test.YtcgnefgdfgikdaaGreatA2
import Derived.Test.YtcgnefgdfgikdaaGreatC1
import Derived.Lib.SliceRun
import Derived.Shelf.RegionOpenPlain
namespace Go.Proofs.YtcgnefgdfgikdaaGreat
open Go.ChangeShapes Go.WideShapes Go.ChangeAt Go.RowKit

/-- What is told of an effect. -/
def EffO (w : World) (x : List Int × Int) (e : Ending) (w' : World) : Prop := ∃ a cap, e = .returned (.agg #[.slice a x.1.length cap, .int .i64 x.2]) ∧ Ints w' a x.1 ∧ Below w.heap.size w w' ∧ ∀ m, m < w.heap.size → Off m a

theorem ints_new (w : World) (o : Obj) (L : List Int) (A : Array Value) (hA : A.toList = L.map fun x => .int .i64 x) : Ints ((w.alloc o).alloc (.cells A 3)) (some ⟨w.heap.size + 1, 0, none⟩) L := fun _ => ⟨w.heap.size + 1, 0, rfl, by simp, fun i hi => by
    have h := row_new' (w.alloc o) A 3 (w.heap.size + 1) (by simp) i (.int .i64 L[i]) (by rw [hA]; simp [hi])
    rw [Addr.add_lit] at h
    exact h⟩
theorem off_new (n : Nat) : ∀ m, m < n → Off m (some ⟨n + 1, 0, none⟩) := fun m hm b off h => by simp at h; omega
theorem off_none (n : Nat) : ∀ m, m < n → Off m none := fun m hm b off h => by simp at h
theorem bel_new (w : World) (o : Obj) (A : Obj) : Below w.heap.size w ((w.alloc o).alloc A) := bel_alloc (bel_alloc (Below.refl _ _) _) _

set_option maxRecDepth 100000 in
set_option maxHeartbeats 800000 in
theorem intEffI (k t : Int) (w : World) : Calls Tryz.prog 90 #[.int .i64 k, .int .i64 t] w fun e w' => EffO w (intEff k t) e w' := by
  by_cases h1 : k < 16
  · have e : intEff k t = ([t, t], t) := if_pos h1
    rw [e]
    clear e
    go_enter Tryz.func90, Tryz.ntmps90
    go_wp2
    refine bodyPost_ret (v := .agg #[.slice (some ⟨w.heap.size + 1, 0, none⟩) 2 2, .int .i64 t]) (by simp [results, Tryz.results90, go_sem]) rfl ⟨_, _, rfl, ints_new w _ [t, t] _ rfl, bel_new _ _ _, off_new _⟩
  · by_cases h2 : k ≤ 21
    · have e : intEff k t = ([t, t], 127) := by unfold intEff; rw [if_neg h1, if_pos h2]
      rw [e]
      clear e
      go_enter Tryz.func90, Tryz.ntmps90
      go_wp2
      refine bodyPost_ret (v := .agg #[.slice (some ⟨w.heap.size + 1, 0, none⟩) 2 2, .int .i64 127]) (by simp [results, Tryz.results90, go_sem]) rfl ⟨_, _, rfl, ints_new w _ [t, t] _ rfl, bel_new _ _ _, off_new _⟩
    · by_cases h3 : k = 25
      · have e : intEff k t = ([t], 127) := by unfold intEff; rw [if_neg h1, if_neg h2, if_pos h3]
        rw [e]
        subst h3
        clear e h1 h2
        go_enter Tryz.func90, Tryz.ntmps90
        go_wp2
        refine bodyPost_ret (v := .agg #[.slice (some ⟨w.heap.size + 1, 0, none⟩) 1 1, .int .i64 127]) (by simp [results, Tryz.results90, go_sem]) rfl ⟨_, _, rfl, ints_new w _ [t] _ rfl, bel_new _ _ _, off_new _⟩
      · have e : intEff k t = ([t], t) := by unfold intEff; rw [if_neg h1, if_neg h2, if_neg h3]
        rw [e]
        have e3 : (k == 25) = false := by simpa using h3
        clear e h3
        go_enter Tryz.func90, Tryz.ntmps90
        go_wp2
        refine bodyPost_ret (v := .agg #[.slice (some ⟨w.heap.size + 1, 0, none⟩) 1 1, .int .i64 t]) (by simp [results, Tryz.results90, go_sem]) rfl ⟨_, _, rfl, ints_new w _ [t] _ rfl, bel_new _ _ _, off_new _⟩

set_option maxRecDepth 100000 in
set_option maxHeartbeats 800000 in
theorem floatEffI (k : Int) (w : World) : Calls Tryz.prog 91 #[.int .i64 k] w fun e w' => EffO w (floatEff k) e w' := by
  by_cases h1 : k = 6
  · have e : floatEff k = ([125], 125) := if_pos h1
    rw [e]
    subst h1
    clear e
    go_enter Tryz.func91, Tryz.ntmps91
    go_wp2
    refine bodyPost_ret (v := .agg #[.slice (some ⟨w.heap.size + 1, 0, none⟩) 1 1, .int .i64 125]) (by simp [results, Tryz.results91, go_sem]) rfl ⟨_, _, rfl, ints_new w _ [125] _ rfl, bel_new _ _ _, off_new _⟩
  · have e1 : (k == 6) = false := by simpa using h1
    by_cases h2 : 7 ≤ k
    · have e : floatEff k = ([125, 125], 127) := by unfold floatEff; rw [if_neg h1, if_pos h2]
      rw [e]
      clear e h1
      go_enter Tryz.func91, Tryz.ntmps91
      go_wp2
      refine bodyPost_ret (v := .agg #[.slice (some ⟨w.heap.size + 1, 0, none⟩) 2 2, .int .i64 127]) (by simp [results, Tryz.results91, go_sem]) rfl ⟨_, _, rfl, ints_new w _ [125, 125] _ rfl, bel_new _ _ _, off_new _⟩
    · have e : floatEff k = ([125, 125], 125) := by unfold floatEff; rw [if_neg h1, if_neg h2]
      rw [e]
      clear e h1
      go_enter Tryz.func91, Tryz.ntmps91
      go_wp2
      refine bodyPost_ret (v := .agg #[.slice (some ⟨w.heap.size + 1, 0, none⟩) 2 2, .int .i64 125]) (by simp [results, Tryz.results91, go_sem]) rfl ⟨_, _, rfl, ints_new w _ [125, 125] _ rfl, bel_new _ _ _, off_new _⟩

set_option maxRecDepth 100000 in
set_option maxHeartbeats 800000 in
theorem memEffI (op : Int) (h : op = 40 ∨ op = 41 ∨ op = 54 ∨ op = 55 ∨ op = 63 ∨ op = 64) (w : World) : Calls Tryz.prog 76 #[.int .i64 op] w fun e w' => EffO w (memEff op) e w' := by
  rcases h with rfl | rfl | rfl | rfl | rfl | rfl
  · rw [show memEff 40 = ([127], 127) from rfl]
    go_enter Tryz.func76, Tryz.ntmps76
    go_wp2
    refine bodyPost_ret (v := .agg #[.slice (some ⟨w.heap.size + 1, 0, none⟩) 1 1, .int .i64 127]) (by simp [results, Tryz.results76, go_sem]) rfl ⟨_, _, rfl, ints_new w _ [127] _ rfl, bel_new _ _ _, off_new _⟩
  · rw [show memEff 41 = ([127], 126) from rfl]
    go_enter Tryz.func76, Tryz.ntmps76
    go_wp2
    refine bodyPost_ret (v := .agg #[.slice (some ⟨w.heap.size + 1, 0, none⟩) 1 1, .int .i64 126]) (by simp [results, Tryz.results76, go_sem]) rfl ⟨_, _, rfl, ints_new w _ [127] _ rfl, bel_new _ _ _, off_new _⟩
  · rw [show memEff 54 = ([127, 127], 64) from rfl]
    go_enter Tryz.func76, Tryz.ntmps76
    go_wp2
    refine bodyPost_ret (v := .agg #[.slice (some ⟨w.heap.size + 1, 0, none⟩) 2 2, .int .i64 64]) (by simp [results, Tryz.results76, go_sem]) rfl ⟨_, _, rfl, ints_new w _ [127, 127] _ rfl, bel_new _ _ _, off_new _⟩
  · rw [show memEff 55 = ([126, 127], 64) from rfl]
    go_enter Tryz.func76, Tryz.ntmps76
    go_wp2
    refine bodyPost_ret (v := .agg #[.slice (some ⟨w.heap.size + 1, 0, none⟩) 2 2, .int .i64 64]) (by simp [results, Tryz.results76, go_sem]) rfl ⟨_, _, rfl, ints_new w _ [126, 127] _ rfl, bel_new _ _ _, off_new _⟩
  · rw [show memEff 63 = ([], 127) from rfl]
    go_enter Tryz.func76, Tryz.ntmps76
    go_wp2
    refine bodyPost_ret (v := .agg #[.slice none 0 0, .int .i64 127]) (by simp [results, Tryz.results76, go_sem]) rfl ⟨_, _, rfl, fun h => absurd rfl h, by (repeat (first | refine Below.alloc ?_ (by first | (simp; done) | (simp; omega)) _ | refine Below.setCell ?_ (by first | (simp; done) | (simp; omega)) _ | refine bel_dN ?_ _ | refine Below.drew ?_ | exact Below.refl _ _)), off_none _⟩
  · rw [show memEff 64 = ([127], 127) from rfl]
    go_enter Tryz.func76, Tryz.ntmps76
    go_wp2
    refine bodyPost_ret (v := .agg #[.slice (some ⟨w.heap.size + 1, 0, none⟩) 1 1, .int .i64 127]) (by simp [results, Tryz.results76, go_sem]) rfl ⟨_, _, rfl, ints_new w _ [127] _ rfl, bel_new _ _ _, off_new _⟩

set_option maxRecDepth 100000 in
set_option maxHeartbeats 800000 in
theorem varEffI (op t : Int) (h : op = 32 ∨ op = 33 ∨ op = 34 ∨ op = 35 ∨ op = 36) (w : World) : Calls Tryz.prog 74 #[.int .i64 op, .int .i64 t] w fun e w' => EffO w (varEff op t) e w' := by
  rcases h with rfl | rfl | rfl | rfl | rfl
  · rw [show varEff 32 t = ([], t) from rfl]
    go_enter Tryz.func74, Tryz.ntmps74
    go_wp2
    refine bodyPost_ret (v := .agg #[.slice none 0 0, .int .i64 t]) (by simp [results, Tryz.results74, go_sem]) rfl ⟨_, _, rfl, fun h => absurd rfl h, by (repeat (first | refine Below.alloc ?_ (by first | (simp; done) | (simp; omega)) _ | refine Below.setCell ?_ (by first | (simp; done) | (simp; omega)) _ | refine bel_dN ?_ _ | refine Below.drew ?_ | exact Below.refl _ _)), off_none _⟩
  · rw [show varEff 33 t = ([t], 64) from rfl]
    go_enter Tryz.func74, Tryz.ntmps74
    go_wp2
    refine bodyPost_ret (v := .agg #[.slice (some ⟨w.heap.size + 1, 0, none⟩) 1 1, .int .i64 64]) (by simp [results, Tryz.results74, go_sem]) rfl ⟨_, _, rfl, ints_new w _ [t] _ rfl, bel_new _ _ _, off_new _⟩
  · rw [show varEff 34 t = ([t], t) from rfl]
    go_enter Tryz.func74, Tryz.ntmps74
    go_wp2
    refine bodyPost_ret (v := .agg #[.slice (some ⟨w.heap.size + 1, 0, none⟩) 1 1, .int .i64 t]) (by simp [results, Tryz.results74, go_sem]) rfl ⟨_, _, rfl, ints_new w _ [t] _ rfl, bel_new _ _ _, off_new _⟩
  · rw [show varEff 35 t = ([], t) from rfl]
    go_enter Tryz.func74, Tryz.ntmps74
    go_wp2
    refine bodyPost_ret (v := .agg #[.slice none 0 0, .int .i64 t]) (by simp [results, Tryz.results74, go_sem]) rfl ⟨_, _, rfl, fun h => absurd rfl h, by (repeat (first | refine Below.alloc ?_ (by first | (simp; done) | (simp; omega)) _ | refine Below.setCell ?_ (by first | (simp; done) | (simp; omega)) _ | refine bel_dN ?_ _ | refine Below.drew ?_ | exact Below.refl _ _)), off_none _⟩
  · rw [show varEff 36 t = ([t], 64) from rfl]
    go_enter Tryz.func74, Tryz.ntmps74
    go_wp2
    refine bodyPost_ret (v := .agg #[.slice (some ⟨w.heap.size + 1, 0, none⟩) 1 1, .int .i64 64]) (by simp [results, Tryz.results74, go_sem]) rfl ⟨_, _, rfl, ints_new w _ [t] _ rfl, bel_new _ _ _, off_new _⟩

end Go.Proofs.YtcgnefgdfgikdaaGreat

namespace Go.Proofs.YtcgnefgdfgikdaaGreat
open Go.ChangeShapes Go.WideShapes Go.ChangeAt Go.RowKit

theorem effo_below {w w1 w2 : World} {x : List Int × Int} {e : Ending} (h : EffO w1 x e w2) (hb : Below w.heap.size w w1) : EffO w x e w2 := by
  obtain ⟨a, cap, he, hi, h2, h3⟩ := h
  exact ⟨a, cap, he, hi, bel_step hb h2, fun m hm => h3 m (Nat.lt_of_lt_of_le hm hb.size)⟩
/-- An effect that is told on. -/
theorem effo_on {w w1 : World} {o : Obj} {x : List Int × Int} {a : Option Addr} {cap : Nat} (hi : Ints w1 a x.1) (hb : Below (w.alloc o).heap.size (w.alloc o) w1) (ho : ∀ m, m < (w.alloc o).heap.size → Off m a) (v0 v1 : Value) :
    EffO w x (.returned (.agg #[.slice a x.1.length cap, .int .i64 x.2])) ((w1.setCell ⟨w.heap.size, 0, none⟩ v0).setCell ⟨w.heap.size, 1, none⟩ v1) := by
  have h1 := ho w.heap.size (by simp)
  exact ⟨a, cap, rfl, (hi.set h1 _ _).set h1 _ _, ((bel_step ((Below.refl _ _).alloc (Nat.le_refl _) _) hb).setCell (Nat.le_refl _) _).setCell (Nat.le_refl _) _, fun m hm => ho m (by simp; omega)⟩
/-- Plain instructions that are named. -/
def plains : List Int := [1, 26, 65, 66, 67, 176, 177, 178, 179, 180]

set_option maxRecDepth 100000 in
set_option maxHeartbeats 1600000 in
theorem plain_none (op p : Int) (h : (op = 65 ∧ p = 127) ∨ (op = 66 ∧ p = 126) ∨ (op = 67 ∧ p = 125)) (w : World) : Calls Tryz.prog 77 #[.int .i64 op] w fun e w' => EffO w (plainEff op) e w' := by
  rcases h with ⟨rfl, rfl⟩ | ⟨rfl, rfl⟩ | ⟨rfl, rfl⟩
  · rw [show plainEff 65 = ([], 127) from rfl]
    go_enter Tryz.func77, Tryz.ntmps77
    go_wp2
    refine bodyPost_ret (v := .agg #[.slice none 0 0, .int .i64 127]) (by simp [results, Tryz.results77, go_sem]) rfl ⟨_, _, rfl, fun h => absurd rfl h, by (repeat (first | refine Below.alloc ?_ (by first | (simp; done) | (simp; omega)) _ | refine Below.setCell ?_ (by first | (simp; done) | (simp; omega)) _ | refine bel_dN ?_ _ | refine Below.drew ?_ | exact Below.refl _ _)), off_none _⟩
  · rw [show plainEff 66 = ([], 126) from rfl]
    go_enter Tryz.func77, Tryz.ntmps77
    go_wp2
    refine bodyPost_ret (v := .agg #[.slice none 0 0, .int .i64 126]) (by simp [results, Tryz.results77, go_sem]) rfl ⟨_, _, rfl, fun h => absurd rfl h, by (repeat (first | refine Below.alloc ?_ (by first | (simp; done) | (simp; omega)) _ | refine Below.setCell ?_ (by first | (simp; done) | (simp; omega)) _ | refine bel_dN ?_ _ | refine Below.drew ?_ | exact Below.refl _ _)), off_none _⟩
  · rw [show plainEff 67 = ([], 125) from rfl]
    go_enter Tryz.func77, Tryz.ntmps77
    go_wp2
    refine bodyPost_ret (v := .agg #[.slice none 0 0, .int .i64 125]) (by simp [results, Tryz.results77, go_sem]) rfl ⟨_, _, rfl, fun h => absurd rfl h, by (repeat (first | refine Below.alloc ?_ (by first | (simp; done) | (simp; omega)) _ | refine Below.setCell ?_ (by first | (simp; done) | (simp; omega)) _ | refine bel_dN ?_ _ | refine Below.drew ?_ | exact Below.refl _ _)), off_none _⟩

set_option maxRecDepth 100000 in
set_option maxHeartbeats 1600000 in
theorem plain_one (op x p : Int) (h : (op = 26 ∧ x = 0 ∧ p = 64) ∨ (op = 176 ∧ x = 126 ∧ p = 127) ∨ (op = 177 ∧ x = 127 ∧ p = 126) ∨ (op = 178 ∧ x = 127 ∧ p = 126) ∨ (op = 179 ∧ x = 127 ∧ p = 125) ∨ (op = 180 ∧ x = 125 ∧ p = 127)) (w : World) : Calls Tryz.prog 77 #[.int .i64 op] w fun e w' => EffO w (plainEff op) e w' := by
  have hp : plainEff op = ([x], p) := by rcases h with ⟨rfl, rfl, rfl⟩ | ⟨rfl, rfl, rfl⟩ | ⟨rfl, rfl, rfl⟩ | ⟨rfl, rfl, rfl⟩ | ⟨rfl, rfl, rfl⟩ | ⟨rfl, rfl, rfl⟩ <;> rfl
  rw [hp]
  clear hp
  rcases h with ⟨rfl, rfl, rfl⟩ | ⟨rfl, rfl, rfl⟩ | ⟨rfl, rfl, rfl⟩ | ⟨rfl, rfl, rfl⟩ | ⟨rfl, rfl, rfl⟩ | ⟨rfl, rfl, rfl⟩
  all_goals
    go_enter Tryz.func77, Tryz.ntmps77
    go_wp2
    refine bodyPost_ret (by simp [results, Tryz.results77, go_sem]; rfl) rfl ⟨_, _, rfl, ints_new w _ [_] _ rfl, bel_new _ _ _, off_new _⟩

theorem nots (op : Int) (h : (96 < op ∧ op ≤ 123) ∨ (128 < op ∧ op ≤ 155) ∨ (160 < op ∧ op ≤ 169) ∨ op = 1) : (op == 26) = false ∧ (op == 65) = false ∧ (op == 66) = false ∧ (op == 67) = false ∧ (op == 176) = false ∧ (op == 177) = false ∧ (op == 178) = false ∧ (op == 179) = false ∧ (op == 180) = false := by
  simp only [beq_eq_false_iff_ne, ne_eq]
  omega
theorem plainEff_rest (op : Int) (h : (96 < op ∧ op ≤ 123) ∨ (128 < op ∧ op ≤ 155) ∨ (160 < op ∧ op ≤ 169) ∨ op = 1) : plainEff op = if 96 < op ∧ op ≤ 123 then intEff (op - 96) 127 else if 128 < op ∧ op ≤ 155 then intEff (op - 128) 126 else if 160 < op ∧ op ≤ 169 then floatEff (op - 160) else ([], 64) := by
  unfold plainEff
  rw [if_neg (by omega), if_neg (by omega), if_neg (by omega), if_neg (by omega), if_neg (by omega), if_neg (by omega), if_neg (by omega), if_neg (by omega)]

set_option maxRecDepth 100000 in
set_option maxHeartbeats 1600000 in
theorem plain_i32 (op : Int) (h0 : 96 < op) (h1 : op ≤ 123) (w : World) : Calls Tryz.prog 77 #[.int .i64 op] w fun e w' => EffO w (plainEff op) e w' := by
  rw [plainEff_rest op (by omega), if_pos ⟨h0, h1⟩]
  obtain ⟨n1, n2, n3, n4, n5, n6, n7, n8, n9⟩ := nots op (by omega)
  have c0 : Hid ((decide ((96 : Int) + 1 ≤ op) && decide (op ≤ 96 + 27)) = true) := by unfold Hid; simp; omega
  obtain ⟨k, hk⟩ : ∃ k, op - 96 = k := ⟨_, rfl⟩
  have G := intEffI k 127
  have HK : Hid (op - 96 = k) := hk
  rw [hk]
  go_enter Tryz.func77, Tryz.ntmps77
  go_wp2_with (first | (go_at_call 89; refine (isCounted_eq _ _ _ _ (by assumption) (by unfold Hid; omega) _).mono ?_; rintro e w1 ⟨rfl, hw⟩; obtain rfl := hw.symm) | (go_at_call 90; refine (G _).mono ?_; rintro e w1 ⟨a, cap, rfl, hi, hb, hoo⟩; clear G; have hx := (hb.block w.heap.size (by simp)).trans (heap_alloc_new _ _); have x0 := (cell_of_block hx 0).trans rfl; have x1 := (cell_of_block hx 1).trans rfl; have f0 := free_of_block hx 0; have f1 := free_of_block hx 1))
  exact bodyPost_ret (v := .agg #[.slice a (intEff k 127).1.length cap, .int .i64 (intEff k 127).2]) (by simp [results, Tryz.results77, go_sem, x0, x1]) rfl (effo_on hi hb hoo _ _)

set_option maxRecDepth 100000 in
set_option maxHeartbeats 1600000 in
theorem plain_i64 (op : Int) (h0 : 128 < op) (h1 : op ≤ 155) (w : World) : Calls Tryz.prog 77 #[.int .i64 op] w fun e w' => EffO w (plainEff op) e w' := by
  rw [plainEff_rest op (by omega), if_neg (by omega), if_pos ⟨h0, h1⟩]
  obtain ⟨n1, n2, n3, n4, n5, n6, n7, n8, n9⟩ := nots op (by omega)
  have c0 : Hid ((decide ((96 : Int) + 1 ≤ op) && decide (op ≤ 96 + 27)) = false) := by unfold Hid; simp; omega
  have c1 : Hid ((decide ((128 : Int) + 1 ≤ op) && decide (op ≤ 128 + 27)) = true) := by unfold Hid; simp; omega
  obtain ⟨k, hk⟩ : ∃ k, op - 128 = k := ⟨_, rfl⟩
  have G := intEffI k 126
  have HK : Hid (op - 128 = k) := hk
  rw [hk]
  go_enter Tryz.func77, Tryz.ntmps77
  go_wp2_with (first | (go_at_call 89; refine (isCounted_eq _ _ _ _ (by assumption) (by unfold Hid; omega) _).mono ?_; rintro e w1 ⟨rfl, hw⟩; obtain rfl := hw.symm) | (go_at_call 90; refine (G _).mono ?_; rintro e w1 ⟨a, cap, rfl, hi, hb, hoo⟩; clear G; have hx := (hb.block w.heap.size (by simp)).trans (heap_alloc_new _ _); have x0 := (cell_of_block hx 0).trans rfl; have x1 := (cell_of_block hx 1).trans rfl; have f0 := free_of_block hx 0; have f1 := free_of_block hx 1))
  exact bodyPost_ret (v := .agg #[.slice a (intEff k 126).1.length cap, .int .i64 (intEff k 126).2]) (by simp [results, Tryz.results77, go_sem, x0, x1]) rfl (effo_on hi hb hoo _ _)

set_option maxRecDepth 100000 in
set_option maxHeartbeats 1600000 in
theorem plain_f32 (op : Int) (h0 : 160 < op) (h1 : op ≤ 169) (w : World) : Calls Tryz.prog 77 #[.int .i64 op] w fun e w' => EffO w (plainEff op) e w' := by
  rw [plainEff_rest op (by omega), if_neg (by omega), if_neg (by omega), if_pos ⟨h0, h1⟩]
  obtain ⟨n1, n2, n3, n4, n5, n6, n7, n8, n9⟩ := nots op (by omega)
  have c0 : Hid ((decide ((96 : Int) + 1 ≤ op) && decide (op ≤ 96 + 27)) = false) := by unfold Hid; simp; omega
  have c1 : Hid ((decide ((128 : Int) + 1 ≤ op) && decide (op ≤ 128 + 27)) = false) := by unfold Hid; simp; omega
  have c2 : Hid ((decide ((160 : Int) + 1 ≤ op) && decide (op ≤ 160 + 9)) = true) := by unfold Hid; simp; omega
  obtain ⟨k, hk⟩ : ∃ k, op - 160 = k := ⟨_, rfl⟩
  have G := floatEffI k
  have HK : Hid (op - 160 = k) := hk
  rw [hk]
  go_enter Tryz.func77, Tryz.ntmps77
  go_wp2_with (first | (go_at_call 89; refine (isCounted_eq _ _ _ _ (by assumption) (by unfold Hid; omega) _).mono ?_; rintro e w1 ⟨rfl, hw⟩; obtain rfl := hw.symm) | (go_at_call 91; refine (G _).mono ?_; rintro e w1 ⟨a, cap, rfl, hi, hb, hoo⟩; clear G; have hx := (hb.block w.heap.size (by simp)).trans (heap_alloc_new _ _); have x0 := (cell_of_block hx 0).trans rfl; have x1 := (cell_of_block hx 1).trans rfl; have f0 := free_of_block hx 0; have f1 := free_of_block hx 1))
  exact bodyPost_ret (v := .agg #[.slice a (floatEff k).1.length cap, .int .i64 (floatEff k).2]) (by simp [results, Tryz.results77, go_sem, x0, x1]) rfl (effo_on hi hb hoo _ _)

set_option maxRecDepth 100000 in
set_option maxHeartbeats 1600000 in
theorem plain_nop (w : World) : Calls Tryz.prog 77 #[.int .i64 1] w fun e w' => EffO w (plainEff 1) e w' := by
  rw [show plainEff 1 = ([], 64) from rfl]
  have c0 : Hid ((decide ((96 : Int) + 1 ≤ 1) && decide ((1 : Int) ≤ 96 + 27)) = false) := rfl
  have c1 : Hid ((decide ((128 : Int) + 1 ≤ 1) && decide ((1 : Int) ≤ 128 + 27)) = false) := rfl
  have c2 : Hid ((decide ((160 : Int) + 1 ≤ 1) && decide ((1 : Int) ≤ 160 + 9)) = false) := rfl
  go_enter Tryz.func77, Tryz.ntmps77
  go_wp2_with (go_at_call 89; refine (isCounted_eq _ _ _ _ (by assumption) (by unfold Hid; omega) _).mono ?_; rintro e w1 ⟨rfl, hw⟩; obtain rfl := hw.symm)
  refine bodyPost_ret (v := .agg #[.slice none 0 0, .int .i64 64]) (by simp [results, Tryz.results77, go_sem]) rfl ⟨_, _, rfl, fun h => absurd rfl h, by (repeat (first | refine Below.alloc ?_ (by first | (simp; done) | (simp; omega)) _ | refine Below.setCell ?_ (by first | (simp; done) | (simp; omega)) _ | refine bel_dN ?_ _ | refine Below.drew ?_ | exact Below.refl _ _)), off_none _⟩
theorem plainI (op : Int) (h : op ∈ plains ∨ (96 < op ∧ op ≤ 123) ∨ (128 < op ∧ op ≤ 155) ∨ (160 < op ∧ op ≤ 169)) (w : World) : Calls Tryz.prog 77 #[.int .i64 op] w fun e w' => EffO w (plainEff op) e w' := by
  rcases h with h | h | h | h
  · simp only [plains, List.mem_cons, List.not_mem_nil, or_false] at h
    rcases h with rfl | rfl | rfl | rfl | rfl | rfl | rfl | rfl | rfl | rfl
    · exact plain_nop w
    · exact plain_one 26 0 64 (by simp) w
    · exact plain_none 65 127 (by simp) w
    · exact plain_none 66 126 (by simp) w
    · exact plain_none 67 125 (by simp) w
    · exact plain_one 176 126 127 (by simp) w
    · exact plain_one 177 127 126 (by simp) w
    · exact plain_one 178 127 126 (by simp) w
    · exact plain_one 179 127 125 (by simp) w
    · exact plain_one 180 125 127 (by simp) w
  · exact plain_i32 op h.1 h.2 w
  · exact plain_i64 op h.1 h.2 w
  · exact plain_f32 op h.1 h.2 w

end Go.Proofs.YtcgnefgdfgikdaaGreat

namespace Go.Proofs.YtcgnefgdfgikdaaGreat
open Go.ChangeShapes Go.WideShapes Go.ChangeAt Go.RowKit

def ivl (L : List Int) : List Value := L.map fun x => .int .i64 x
theorem ivl_len (L : List Int) : (ivl L).length = L.length := by simp [ivl]
theorem ivl_at (L : List Int) (i : Nat) (h : i < L.length) : (ivl L)[i]? = some (.int .i64 L[i]) := by simp [ivl, h]
theorem Tryz.infoI8 : (Tryz.prog.info? 3).map (fun i => (i.zero, i.size, i.bytes)) = some (some (.int .i64 0), 1, 8) := by kernel_rfl
/-- Numbers behind an address, as an append reads them. -/
theorem ints_news {w : World} {b off : Nat} {L : List Int} (h : ∀ i (hi : i < L.length), w.cell? ⟨b, off + i, none⟩ = some (.int .i64 L[i])) : ∀ j u, (ivl L)[j]? = some u → w.cell? ((⟨b, off, none⟩ : Addr).add j) = some u := fun j u hu => by
  rw [Addr.add_lit]
  have hj : j < L.length := by
    have := (List.getElem?_eq_some_iff.1 hu).1
    simpa [ivl] using this
  rw [h j hj]
  simp [ivl, hj] at hu
  rw [hu]

set_option maxRecDepth 100000 in
set_option maxHeartbeats 1600000 in
theorem cloneI (a : Option Addr) (cap : Nat) (L : List Int) (w : World) (hI : Hid (Ints w a L)) (hl : L.length ≤ 20) :
    Calls Tryz.prog 87 #[.slice a L.length cap] w fun e w' => ∃ v, e = .returned v ∧ w'.ownsRow w.heap.size 3 1 v L.length (ivl L) ∧ Below w.heap.size w w' := by
  obtain ⟨i0, i0i, i00, i01, i02⟩ := info_parts Tryz.infoI8
  have q22 : ∀ (w : World) (a : Option Addr) (n c n' c' : Nat), (binOp .eql 36 (.slice a n c) (.slice none n' c')).run Tryz.prog w = .ok (.bool a.isNone) w := fun w a n c n' c' => Lib.run_eql_slice_nil w _ _ a n c n' c' Tryz.underlying36
  cases a with
  | none =>
    have hL : L = [] := by
      rcases hn : L with _ | ⟨x, r⟩
      · rfl
      · obtain ⟨b, off, h, _⟩ := hI.out (by rw [hn]; simp)
        simp at h
    subst hL
    go_enter Tryz.func87, Tryz.ntmps87
    go_wp2
    go_ret
    exact ⟨_, rfl, World.ownsRow_nil _ _ _ _, Below.refl _ _⟩
  | some ad =>
    have hc : ∀ j u, (ivl L)[j]? = some u → w.cell? (ad.add j) = some u := by
      by_cases he : L = []
      · subst he; intro j u hu; simp [ivl] at hu
      · obtain ⟨b, off, h, hb, hc⟩ := hI.out he
        simp at h
        subst h
        exact ints_news hc
    obtain ⟨n, hn⟩ : ∃ n, L.length = n := ⟨_, rfl⟩
    have HN : Hid (L.length = n ∧ n ≤ 20) := ⟨hn, by omega⟩
    rw [hn]
    clear hl hn
    have HC : Hid (∀ j u, (ivl L)[j]? = some u → w.cell? (ad.add j) = some u) := hc
    have hisn : (some ad).isNone = false := rfl
    clear hc
    go_enter Tryz.func87, Tryz.ntmps87
    go_wp2_with (at_builtin; refine wpList_append_own _ rfl _ _ 36 rfl w.heap.size 3 i0 (.int .i64 0) 1 8 Tryz.underlying36 i0i i00 i01 i02 rfl (by decide) _ _ _ rfl (World.ownsRow_made w #[] 0 (Nat.le_refl _) (Nat.zero_le _) rfl) ad n cap (ivl L) rfl ?qc1 ?qc2 ?qc3 ?qc4 ?qc5 ?qc6 ?_)
    case qc1 => rw [ivl_len, HN.out.1, Nat.mul_one]
    case qc2 => intro j u hj; exact Lib.cell?_alloc_some _ (HC.out j u hj)
    case qc3 => intro u hu; obtain ⟨x, _, rfl⟩ := List.mem_map.1 hu; rfl
    case qc4 => have := HN.out.2; unfold maxLen; omega
    case qc5 => have := HN.out.2; omega
    case qc6 => simp
    intro v' w1 hown hgrow hnil
    go_wp2
    go_ret
    refine ⟨v', rfl, by simpa using hown, ((Below.refl _ w).alloc (Nat.le_refl _) _).grown hgrow (by simp) (by intro k hk; simp [Value.ownBlock] at hk; omega)⟩

/-- A list whose first i and last ones have changed places. -/
def swapped (L : List Int) (i : Nat) : List Int := (List.range L.length).map fun k => if k < i ∨ L.length ≤ k + i then L.getD (L.length - 1 - k) 0 else L.getD k 0
theorem swapped_len (L : List Int) (i : Nat) : (swapped L i).length = L.length := by simp [swapped]
theorem swapped_at (L : List Int) (i k : Nat) (h : k < L.length) : (swapped L i)[k]? = some (if k < i ∨ L.length ≤ k + i then L.getD (L.length - 1 - k) 0 else L.getD k 0) := by simp [swapped, h]
theorem swapped_zero (L : List Int) : swapped L 0 = L := by
  apply List.ext_getElem?
  intro k
  by_cases h : k < L.length
  · rw [swapped_at L 0 k h, if_neg (by omega), List.getD_eq_getElem?_getD, List.getElem?_eq_getElem h]; rfl
  · rw [List.getElem?_eq_none (by rw [swapped_len]; omega), List.getElem?_eq_none (by omega)]
theorem swapped_all (L : List Int) (i : Nat) (h : L.length ≤ 2 * i + 1) : swapped L i = L.reverse := by
  apply List.ext_getElem?
  intro k
  by_cases hk : k < L.length
  · rw [swapped_at L i k hk, List.getElem?_reverse hk]
    by_cases h2 : k < i ∨ L.length ≤ k + i
    · rw [if_pos h2, List.getD_eq_getElem?_getD, List.getElem?_eq_getElem (by omega)]; rfl
    · rw [if_neg h2]
      have : L.length - 1 - k = k := by omega
      rw [this, List.getD_eq_getElem?_getD, List.getElem?_eq_getElem hk]; rfl
  · rw [List.getElem?_eq_none (by rw [swapped_len]; omega), List.getElem?_eq_none (by simp; omega)]
theorem swapped_step (L : List Int) (i : Nat) (h : 2 * i + 1 < L.length) : ((swapped L i).set i (L.getD (L.length - 1 - i) 0)).set (L.length - 1 - i) (L.getD i 0) = swapped L (i + 1) := by
  apply List.ext_getElem?
  intro k
  by_cases hk : k < L.length
  · rw [swapped_at L (i + 1) k hk, List.getElem?_set, List.getElem?_set, swapped_at L i k hk]
    simp only [List.length_set, swapped_len]
    by_cases h1 : L.length - 1 - i = k
    · rw [if_pos h1, if_pos (by omega), if_pos (by omega)]
      congr 2; omega
    · rw [if_neg h1]
      by_cases h2 : i = k
      · rw [if_pos h2, if_pos (by omega), if_pos (by omega)]; subst h2; rfl
      · rw [if_neg h2]
        by_cases h3 : k < i ∨ L.length ≤ k + i
        · rw [if_pos h3, if_pos (by omega)]
        · rw [if_neg h3, if_neg (by omega)]
  · rw [List.getElem?_eq_none (by simp [swapped_len]; omega), List.getElem?_eq_none (by rw [swapped_len]; omega)]

set_option maxRecDepth 100000 in
set_option maxHeartbeats 1600000 in
theorem reverseI (B : Nat) (v : Value) (L : List Int) (w : World) (h : w.ownsRow B 3 1 v L.length (ivl L)) (hl : L.length ≤ 20) :
    Calls Tryz.prog 88 #[v] w fun e w' => e = .returned (.tuple #[]) ∧ w'.ownsRow B 3 1 v L.length (ivl L.reverse) ∧ Below B w w' := by
  obtain ⟨n, hn⟩ : ∃ n, L.length = n := ⟨_, rfl⟩
  obtain ⟨a, cap, rfl, _⟩ := own_shape h
  rw [hn] at h ⊢
  have HN : Hid (L.length = n ∧ n ≤ 20) := ⟨hn, by omega⟩
  have HH : Hid (w.ownsRow B 3 1 (.slice a n cap) n (ivl L)) := h
  have hn2 : n ≤ 20 := by omega
  clear h hl hn
  go_enter Tryz.func88, Tryz.ntmps88
  go_wp2
  go_loopw [2, 3] (fun vi vj wr => ∃ i : Nat, i ≤ n ∧ vi = .int .i64 i ∧ vj = .int .i64 ((n : Int) - 1 - i) ∧ Hid (wr.ownsRow B 3 1 (.slice a n cap) n (ivl (swapped L i))) ∧ Below B w wr) (fun vi _ _ => n - (intOf vi).toNat)
  case atStart => exact ⟨0, by omega, rfl, by simp, by rw [swapped_zero]; exact HH, Below.refl _ _⟩
  case round =>
    obtain ⟨i, hi, rfl, rfl, hrow, hnx⟩ := hrel
    by_cases hlt : 2 * i + 1 < n
    · have hlt2 : (i : Int) < (n : Int) - 1 - (i : Int) := by omega
      obtain ⟨j, hj⟩ : ∃ j : Nat, n - 1 - i = j := ⟨_, rfl⟩
      have hj2 : (n : Int) - 1 - (i : Int) = (j : Int) := by omega
      obtain ⟨g, c2, he, _⟩ := own_pos hrow.out (by omega)
      simp only [Value.slice.injEq, true_and] at he
      obtain ⟨rfl, rfl⟩ := he
      obtain ⟨x, hx⟩ : ∃ x, L.getD i 0 = x := ⟨_, rfl⟩
      obtain ⟨y, hy⟩ : ∃ y, L.getD j 0 = y := ⟨_, rfl⟩
      have ci := own_cell hrow.out (j := i) (u := .int .i64 x) (by
        have h1 := swapped_at L i i (by have := HN.out.1; omega)
        rw [if_neg (by have := HN.out.1; omega), hx] at h1
        simp [ivl, h1])
      have cj := own_cell hrow.out (j := j) (u := .int .i64 y) (by
        have h1 := swapped_at L i j (by have := HN.out.1; omega)
        rw [if_neg (by have := HN.out.1; omega), hy] at h1
        simp [ivl, h1])
      obtain ⟨c0, f0⟩ := ci
      obtain ⟨c1, f1⟩ := cj
      rw [hj2] at hlt2 ⊢
      have hij : i ≠ j := by omega
      have hjn : (j : Int) < (n : Int) := by omega
      have hin : (i : Int) < (n : Int) := by omega
      have HR : Hid (((wr.setCell ⟨g, i, none⟩ (.int .i64 y)).setCell ⟨g, j, none⟩ (.int .i64 x)).ownsRow B 3 1 (.slice (some ⟨g, 0, none⟩) n cap) n (ivl (swapped L (i + 1)))) := by
        have h2 := own_set (own_set hrow.out i (.int .i64 y)) j (.int .i64 x)
        have e : ((ivl (swapped L i)).set i (.int .i64 y)).set j (.int .i64 x) = ivl (swapped L (i + 1)) := by
          rw [← swapped_step L i (by have := HN.out.1; omega), HN.out.1, hj, hx, hy]
          simp [ivl, List.map_set]
        rw [e] at h2
        exact h2
      have HB : Hid (Below B w ((wr.setCell ⟨g, i, none⟩ (.int .i64 y)).setCell ⟨g, j, none⟩ (.int .i64 x))) := by
        obtain ⟨_, _, hB⟩ := own_at hrow.out (g := g) rfl
        exact (hnx.setCell (show B ≤ g from hB) _).setCell (show B ≤ g from hB) _
      have HJ : Hid (n - 1 - i = j) := hj
      clear hrow hx hy hj hj2
      have mixed : Tryz.prog.follows .mixedOrders = true := by kernel_rfl
      go_wp2_with fail
      go_region_o
      go_wp2
      go_roundw
      case rel =>
        exact ⟨i + 1, by omega, by go_num, by have := HJ.out; congr 1; omega, by first | exact HR.out | exact HR.out.drew, by first | exact HB.out | exact HB.out.drew⟩
      case measure => simp [intOf]; omega
    · have hlt2 : ¬ (i : Int) < (n : Int) - 1 - (i : Int) := by omega
      have HE : Hid (wr.ownsRow B 3 1 (.slice a n cap) n (ivl L.reverse)) := by
        have h := hrow.out
        rw [swapped_all L i (by have := HN.out.1; omega)] at h
        exact h
      clear hrow
      go_wp2
      go_end0
      exact ⟨rfl, HE.out, hnx⟩

set_option maxRecDepth 100000 in
set_option maxHeartbeats 1600000 in
theorem callEffI (pa la ba : Option Addr) (pc lc bc : Nat) (f : Fun7) (w : World) (hR : Hid (FunRows w pa la ba f)) (hs : f.ps.length ≤ 20) :
    Calls Tryz.prog 73 #[.agg #[.slice pa f.ps.length pc, .int .i64 f.res, .slice la f.ls.length lc, .slice ba f.body.length bc]] w fun e w' => EffO w (f.ps.reverse, f.res) e w' := by
  obtain ⟨ps, res, ls, body⟩ := f
  simp only at hs ⊢
  obtain ⟨W0, hW0⟩ : ∃ W, (w.alloc (.cells #[.slice pa ps.length pc, .int .i64 res, .slice la ls.length lc, .slice ba body.length bc] 39)).alloc (.cells #[.slice none 0 0, .int .i64 0] 95) = W := ⟨_, rfl⟩
  have hb0 : Below w.heap.size w W0 := by rw [← hW0]; exact bel_new _ _ _
  obtain ⟨z, hz⟩ : ∃ z, w.heap.size = z := ⟨_, rfl⟩
  have hz0 : W0.heap.size = z + 1 + 1 := by rw [← hW0, ← hz]; simp
  have hx0 : W0.heap[z]? = some (.cells #[.slice pa ps.length pc, .int .i64 res, .slice la ls.length lc, .slice ba body.length bc] 39 (0, 0)) := by
    rw [← hW0, ← hz]; exact (Below.heap_alloc _ _ _ (by simp)).trans (heap_alloc_new _ _)
  have hy0 : W0.heap[z + 1]? = some (.cells #[.slice none 0 0, .int .i64 0] 95 (0, 0)) := by
    rw [← hW0, ← hz]
    have h := heap_alloc_new (w.alloc (.cells #[.slice pa ps.length pc, .int .i64 res, .slice la ls.length lc, .slice ba body.length bc] 39)) (.cells #[.slice none 0 0, .int .i64 0] 95)
    simpa using h
  have C := cloneI pa pc ps W0 (hR.out.1.below hb0) hs
  have HB0 : Hid (Below w.heap.size w W0) := hb0
  have HZ : Hid (w.heap.size = z) := hz
  have HW : Hid ((w.alloc (.cells #[.slice pa ps.length pc, .int .i64 res, .slice la ls.length lc, .slice ba body.length bc] 39)).alloc (.cells #[.slice none 0 0, .int .i64 0] 95) = W0) := hW0
  have HS : Hid (ps.length ≤ 20) := hs
  clear hb0 hW0 hs hz
  go_enter Tryz.func73, Tryz.ntmps73
  go_wp2_with fail
  rw [HZ.out, HW.out]
  refine C.mono ?_
  rintro e w1 ⟨v, rfl, hown, hb1⟩
  rw [hz0] at hown hb1
  have RV := reverseI (z + 1 + 1) v ps w1 hown HS.out
  have hx1 := (hb1.block z (by omega)).trans hx0
  have hy1 := (hb1.block (z + 1) (by omega)).trans hy0
  have HB1 : Hid (Below w.heap.size w w1) := HB0.out.trans (hb1.mono (by have := HZ.out; omega))
  clear C hown hb1 hx0 hy0 hz0
  go_wp2_with fail
  refine RV.mono ?_
  rintro e w2 ⟨rfl, hown, hb2⟩
  have hx2 := (hb2.block z (by omega)).trans hx1
  have hy2 := (hb2.block (z + 1) (by omega)).trans hy1
  have HB2 : Hid (Below w.heap.size w w2) := HB1.out.trans (hb2.mono (by have := HZ.out; omega))
  have HO : Hid (w2.ownsRow (z + 1 + 1) 3 1 v ps.length (ivl ps.reverse)) := hown
  have x1 : w2.cell? ⟨z, 1, none⟩ = some (.int .i64 res) := (cell_of_block hx2 1).trans rfl
  have y0 : w2.cell? ⟨z + 1, 0, none⟩ = some (.slice none 0 0) := (cell_of_block hy2 0).trans rfl
  have y1 : w2.cell? ⟨z + 1, 1, none⟩ = some (.int .i64 0) := (cell_of_block hy2 1).trans rfl
  have f0 := free_of_block hy2 0
  have f1 := free_of_block hy2 1
  obtain ⟨a, cap, rfl, _⟩ := own_shape hown
  clear RV hown hb2 hx1 hy1 hx2 hy2
  go_wp2
  refine bodyPost_ret (v := .agg #[.slice a ps.length cap, .int .i64 res]) (by simp [results, Tryz.results73, go_sem, y0, y1]) rfl ⟨a, cap, by rw [List.length_reverse], ?_, ?_, ?_⟩
  · have ho : Off (z + 1) a := fun b off h => by
      obtain ⟨_, _, hB⟩ := own_at HO.out (g := b) (by rw [h]; rcases HO.out.2 with ⟨e, _⟩ | ⟨g, c2, cur, e, _⟩ <;> simp only [Value.slice.injEq] at e <;> rw [h] at e <;> simp [Value.ownBlock] at e ⊢ <;> omega)
      omega
    have hI : Ints w2 a ps.reverse := fun hn => by
      obtain ⟨g, c2, he, _⟩ := own_pos HO.out (List.length_pos_iff.2 (by simpa using hn))
      simp only [Value.slice.injEq, true_and] at he
      obtain ⟨rfl, rfl⟩ := he
      obtain ⟨cur, hc, _⟩ := own_at HO.out (g := g) rfl
      exact ⟨g, 0, rfl, lt_of_block hc, fun i hi => (own_cell HO.out (by rw [Nat.zero_add]; exact ivl_at _ i hi)).1⟩
    exact (hI.set ho _ _).set ho _ _
  · exact (HB2.out.setCell (show w.heap.size ≤ z + 1 by have := HZ.out; omega) _).setCell (show w.heap.size ≤ z + 1 by have := HZ.out; omega) _
  · intro m hm b off h
    obtain ⟨_, _, hB⟩ := own_at HO.out (g := b) (by rw [h]; rcases HO.out.2 with ⟨e, _⟩ | ⟨g, c2, cur, e, _⟩ <;> simp only [Value.slice.injEq] at e <;> rw [h] at e <;> simp [Value.ownBlock] at e ⊢ <;> omega)
    have := HZ.out
    omega

end Go.Proofs.YtcgnefgdfgikdaaGreat
