/-
  Bytes filled: both sides and the law. (Made by a generator.)
-/
import Derived.Test.YtalmgodakdjjcabMGrown
import Derived.Test.YtalmgodakdjjcabMSt
import Derived.Test.YtalmgodakdjjcabMRep
import Derived.Test.YtalmgodakdjjcabQSeen
namespace Go.Proofs.Ytalmgodakdjjcab
open Go.ChangeShapes Go.WideShapes Go.ChangeAt Go.RowKit

/-- n times the byte x. -/
def fillB (x n : Nat) : ByteArray := ⟨(List.replicate n (UInt8.ofNat x)).toArray⟩
theorem fillB_size (x n : Nat) : (fillB x n).size = n := by simp [fillB, ByteArray.size]
def fRow (x n k : Nat) : Array Value := ((List.range n).map fun i => if i < k then Value.int .u8 (x : Int) else .int .u8 0).toArray
theorem fRow_at (x n k j : Nat) (h : j < n) : (fRow x n k)[j]? = some (if j < k then Value.int .u8 (x : Int) else .int .u8 0) := by
  simp [fRow, h]
theorem fRow_zero (x n : Nat) : madeCells (Value.int .u8 0).cells n = fRow x n 0 := by
  apply Array.ext'
  rw [made_list]
  apply List.ext_getElem?
  intro j
  by_cases h : j < n
  · simp [fRow, h]
  · simp [fRow, h]
theorem fRow_set (x n k : Nat) : (fRow x n k).setIfInBounds k (.int .u8 (x : Int)) = fRow x n (k + 1) := by
  apply Array.ext'
  apply List.ext_getElem?
  intro j
  by_cases h : j < n
  · by_cases hjk : k = j
    · subst hjk; simp [fRow, h]
    · have h1 : (j < k + 1) = (j < k) := by apply propext; omega
      simp [fRow, h, hjk, h1]
  · simp [fRow, h]
theorem fTold (W : World) (g x n : Nat) (hx : x < 256) (hr : W.heap[g]? = some (.cells (fRow x n n) 5 (0, 0))) :
    (convert 55 9 (.slice (some ⟨g, 0, none⟩) n n)).run Try.prog W = .ok (.string (fillB x n)) W := by
  have H := run_convert_bytes_back (P := Try.prog) W 55 9 5 ⟨g, 0, none⟩ n (List.replicate n (UInt8.ofNat x)) Try.underlying55 Try.underlying5 Try.underlying9 (fun j hj => by
    rw [Addr.add_lit, Nat.zero_add]
    simp only [List.length_replicate] at hj
    have := fRow_at x n n j hj
    rw [if_pos hj] at this
    have e : (UInt8.ofNat x).toNat = x := by simp; omega
    simp only [List.getElem_replicate]
    rw [e]
    simp only [World.cell?, hr]
    simp [this])
  simp only [List.length_replicate] at H
  exact H
/-- One byte in a new row, told as a string. -/
theorem oneTold (W : World) (g x : Nat) (hx : x < 256) (hc : W.cell? ⟨g, 0, none⟩ = some (.int .u8 (x : Int))) :
    (convert 55 9 (.slice (some ⟨g, 0, none⟩) 1 1)).run Try.prog W = .ok (.string (fillB x 1)) W := by
  have H := run_convert_bytes_back (P := Try.prog) W 55 9 5 ⟨g, 0, none⟩ 1 [UInt8.ofNat x] Try.underlying55 Try.underlying5 Try.underlying9 (fun j hj => by
    have : j = 0 := by simp at hj; exact hj
    subst this
    have e : (UInt8.ofNat x).toNat = x := by simp; omega
    rw [Addr.add_lit, Nat.zero_add, hc]
    simp only [List.getElem_cons_zero, e])
  exact H
theorem fRep (x n : Nat) (hn : n ≤ 1048576) (w : World) :
    Calls Try.prog 34 #[.string (fillB x 1), .int .i64 (n : Int)] w fun e w' => e = .returned (.string (fillB x n)) ∧ Below w.heap.size w w' := by
  have H := repeatC (fillB x 1) n w (by omega) (by rw [fillB_size]; omega)
  have e : Lib.repeatL (fillB x 1).data.toList n = List.replicate n (UInt8.ofNat x) := by
    have := Lib.repeatL_replicate (UInt8.ofNat x) 1 n
    rw [Nat.mul_one] at this
    exact this
  rw [e] at H
  exact H

/-- Worlds that keep W, as great as W; behind the making: that keep W with the new block. -/
def KeepsN (W : World) (o : Obj) (b : Bool) (w : World) : Prop := if b then Keeps (W.alloc o) w else (Keeps W w ∧ w.heap.size = W.heap.size)
structure KeepsX (W : World) (w : World) : Prop where
  keeps : Keeps W w
theorem KeepsN.any {W w : World} {o : Obj} {b : Bool} (h : KeepsN W o b w) : KeepsX W w := by
  unfold KeepsN at h
  cases b
  · exact ⟨h.1⟩
  · have h' : Keeps (W.alloc o) w := h
    have hb : Below W.heap.size W (W.alloc o) := (Below.refl _ _).alloc (Nat.le_refl _) o
    exact ⟨⟨hb.trans (h'.below.mono hb.size)⟩⟩
theorem keepsN_make {W w : World} {o : Obj} (h : KeepsN W o false w) : KeepsN W o true (w.alloc o) := by
  have h' : Keeps W w ∧ w.heap.size = W.heap.size := h
  show Keeps (W.alloc o) (w.alloc o)
  obtain ⟨⟨hb⟩, hs⟩ := h'
  refine ⟨⟨hb.os, hb.tape, hb.output, ?_, fun k hk => ?_⟩⟩
  · show (W.heap.push o).size ≤ (w.heap.push o).size
    simp [hs]
  · show (w.heap.push o)[k]? = (W.heap.push o)[k]?
    have hk' : k < (W.heap.push o).size := hk
    rw [Array.size_push] at hk'
    by_cases hkk : k < W.heap.size
    · rw [Array.getElem?_push_lt (by omega), Array.getElem?_push_lt hkk, ← Array.getElem?_eq_getElem, ← Array.getElem?_eq_getElem]
      exact hb.block k hkk
    · have e : k = W.heap.size := by omega
      subst e
      rw [Array.getElem?_push_size, ← hs, Array.getElem?_push_size]

theorem fillI_byte (M : Int) (D : ByteArray) (h : D.size ≤ 1048576) (a x n : Int) (hx : x < 0 ∨ 255 < x) (w : World) :
    Calls Try.prog 17 #[.agg #[.int .i64 M, .string D], .int .i64 a, .int .i64 x, .int .i64 n] w fun e w' => e = .returned (.tuple #[.agg #[.int .i64 (kept M D).1, .string (kept M D).2], .int .i64 1]) ∧ Below w.heap.size w w' := by
  have AW := asItWas M D h
  generalize (kept M D).1 = M' at *
  generalize (kept M D).2 = D' at *
  clear h
  by_cases h0 : x < 0
  · clear hx
    obtain ⟨g, hgs⟩ : ∃ g, w.heap.size = g := ⟨_, rfl⟩
    go_enter Try.func17, Try.ntmps17
    go_wp2_with fail
    refine (AW _).mono ?_
    rintro e w1 ⟨rfl, B1⟩
    have hw1 := B1.size
    simp at hw1
    have hB : Hid (Below w.heap.size w w1) := by unfold Hid; ((repeat (first | refine bel_alloc ?_ _ | refine bel_dN ?_ _ | refine Below.drew ?_ | refine Below.setCell ?_ (by first | (simp; done) | (simp; omega)) _)); refine bel_step ?_ B1; (repeat (first | refine bel_alloc ?_ _ | refine bel_dN ?_ _ | refine Below.drew ?_ | refine Below.setCell ?_ (by first | (simp; done) | (simp; omega)) _)); exact Below.refl _ _)
    have p0 : w1.cell? ⟨g, 0, none⟩ = some (.int .i64 M) := keepCell B1 (by simp; omega) (by rw [← hgs]; simp)
    have p1 : w1.cell? ⟨g, 1, none⟩ = some (.string D) := keepCell B1 (by simp; omega) (by rw [← hgs]; simp)
    have q0 : w1.cell? ⟨g + 1, 0, none⟩ = some (.int .i64 0) := keepCell B1 (by simp; omega) (by rw [← hgs]; simp)
    have q1 : w1.cell? ⟨g + 1, 1, none⟩ = some (.string ⟨#[]⟩) := keepCell B1 (by simp; omega) (by rw [← hgs]; simp)
    have z0 : w1.frozen? ⟨g + 1, 0, none⟩ = false := keepFree B1 (by simp; omega) (by rw [← hgs]; simp)
    have z1 : w1.frozen? ⟨g + 1, 1, none⟩ = false := keepFree B1 (by simp; omega) (by rw [← hgs]; simp)
    clear B1 AW
    clear p0 p1
    go_wp2
    refine bodyPost_ret (v := .tuple #[.agg #[.int .i64 M', .string D'], .int .i64 1]) (by simp [results, Try.results17, go_sem, q0, q1]) rfl ⟨rfl, ?_⟩
    first
      | (refine Below.setCell (Below.setCell hB.out ?_ _) ?_ _ <;> simp <;> omega)
      | (rw [← hgs]; refine Below.setCell (Below.setCell hB.out ?_ _) ?_ _ <;> simp <;> omega)
  · have h1 : 255 < x := by omega
    clear hx
    obtain ⟨g, hgs⟩ : ∃ g, w.heap.size = g := ⟨_, rfl⟩
    go_enter Try.func17, Try.ntmps17
    go_wp2_with fail
    refine (AW _).mono ?_
    rintro e w1 ⟨rfl, B1⟩
    have hw1 := B1.size
    simp at hw1
    have hB : Hid (Below w.heap.size w w1) := by unfold Hid; ((repeat (first | refine bel_alloc ?_ _ | refine bel_dN ?_ _ | refine Below.drew ?_ | refine Below.setCell ?_ (by first | (simp; done) | (simp; omega)) _)); refine bel_step ?_ B1; (repeat (first | refine bel_alloc ?_ _ | refine bel_dN ?_ _ | refine Below.drew ?_ | refine Below.setCell ?_ (by first | (simp; done) | (simp; omega)) _)); exact Below.refl _ _)
    have p0 : w1.cell? ⟨g, 0, none⟩ = some (.int .i64 M) := keepCell B1 (by simp; omega) (by rw [← hgs]; simp)
    have p1 : w1.cell? ⟨g, 1, none⟩ = some (.string D) := keepCell B1 (by simp; omega) (by rw [← hgs]; simp)
    have q0 : w1.cell? ⟨g + 1, 0, none⟩ = some (.int .i64 0) := keepCell B1 (by simp; omega) (by rw [← hgs]; simp)
    have q1 : w1.cell? ⟨g + 1, 1, none⟩ = some (.string ⟨#[]⟩) := keepCell B1 (by simp; omega) (by rw [← hgs]; simp)
    have z0 : w1.frozen? ⟨g + 1, 0, none⟩ = false := keepFree B1 (by simp; omega) (by rw [← hgs]; simp)
    have z1 : w1.frozen? ⟨g + 1, 1, none⟩ = false := keepFree B1 (by simp; omega) (by rw [← hgs]; simp)
    clear B1 AW
    clear p0 p1
    go_wp2
    refine bodyPost_ret (v := .tuple #[.agg #[.int .i64 M', .string D'], .int .i64 1]) (by simp [results, Try.results17, go_sem, q0, q1]) rfl ⟨rfl, ?_⟩
    first
      | (refine Below.setCell (Below.setCell hB.out ?_ _) ?_ _ <;> simp <;> omega)
      | (rw [← hgs]; refine Below.setCell (Below.setCell hB.out ?_ _) ?_ _ <;> simp <;> omega)

theorem fillI_no (M : Int) (D : ByteArray) (h : D.size ≤ 1048576) (a x n : Int) (ha : a ≤ 9223372036854775807) (h0 : ¬ x < 0) (h1 : ¬ 255 < x) (c : Int) (hc : codeOf (good M D) D.size [(a, n)] = c) (hz : c ≠ 0) (w : World) :
    Calls Try.prog 17 #[.agg #[.int .i64 M, .string D], .int .i64 a, .int .i64 x, .int .i64 n] w fun e w' => e = .returned (.tuple #[.agg #[.int .i64 (kept M D).1, .string (kept M D).2], .int .i64 c]) ∧ Below w.heap.size w w' := by
  have SP := fun b w h1 h2 h3 => spans1 M D h b a n w h1 h2 h3 ha
  rw [hc] at SP
  have AW := asItWas M D h
  generalize (kept M D).1 = M' at *
  generalize (kept M D).2 = D' at *
  have k : (c == 0) = false := by simp [hz]
  clear hc hz h ha
  obtain ⟨g, hgs⟩ : ∃ g, w.heap.size = g := ⟨_, rfl⟩
  go_enter Try.func17, Try.ntmps17
  go_wp2_with fail
  refine (SP (g + 2) _ (by simp; omega) (newCell (by simp; omega) rfl) (newCell (by simp; omega) rfl)).mono ?_
  rintro e w1 ⟨rfl, B1⟩
  have hw1 := B1.size
  simp at hw1
  have hB : Hid (Below w.heap.size w w1) := by unfold Hid; ((repeat (first | refine bel_alloc ?_ _ | refine bel_dN ?_ _ | refine Below.drew ?_ | refine Below.setCell ?_ (by first | (simp; done) | (simp; omega)) _)); refine bel_step ?_ B1; (repeat (first | refine bel_alloc ?_ _ | refine bel_dN ?_ _ | refine Below.drew ?_ | refine Below.setCell ?_ (by first | (simp; done) | (simp; omega)) _)); exact Below.refl _ _)
  have p0 : w1.cell? ⟨g, 0, none⟩ = some (.int .i64 M) := keepCell B1 (by simp; omega) (pastCell (by simp; omega) (by rw [← hgs]; simp))
  have p1 : w1.cell? ⟨g, 1, none⟩ = some (.string D) := keepCell B1 (by simp; omega) (pastCell (by simp; omega) (by rw [← hgs]; simp))
  have q0 : w1.cell? ⟨g + 1, 0, none⟩ = some (.int .i64 0) := keepCell B1 (by simp; omega) (pastCell (by simp; omega) (by rw [← hgs]; simp))
  have q1 : w1.cell? ⟨g + 1, 1, none⟩ = some (.string ⟨#[]⟩) := keepCell B1 (by simp; omega) (pastCell (by simp; omega) (by rw [← hgs]; simp))
  have z0 : w1.frozen? ⟨g + 1, 0, none⟩ = false := keepFree B1 (by simp; omega) (pastFree (by simp; omega) (by rw [← hgs]; simp))
  have z1 : w1.frozen? ⟨g + 1, 1, none⟩ = false := keepFree B1 (by simp; omega) (pastFree (by simp; omega) (by rw [← hgs]; simp))
  clear B1 SP
  go_wp2_with fail
  refine (AW _).mono ?_
  rintro e w2 ⟨rfl, B2⟩
  have hw2 := B2.size
  replace q0 := keepCell B2 (by omega) q0
  replace q1 := keepCell B2 (by omega) q1
  replace z0 := keepFree B2 (by omega) z0
  replace z1 := keepFree B2 (by omega) z1
  replace hB : Hid (Below w.heap.size w w2) := bel_step hB.out B2
  clear B2 AW
  clear p0 p1
  go_wp2
  refine bodyPost_ret (v := .tuple #[.agg #[.int .i64 M', .string D'], .int .i64 c]) (by simp [results, Try.results17, go_sem, q0, q1]) rfl ⟨rfl, ?_⟩
  first
    | (refine Below.setCell (Below.setCell hB.out ?_ _) ?_ _ <;> simp <;> omega)
    | (rw [← hgs]; refine Below.setCell (Below.setCell hB.out ?_ _) ?_ _ <;> simp <;> omega)

theorem fillI_yes (M : Int) (D : ByteArray) (h : D.size ≤ 1048576) (a x n : Nat) (hx : x < 256) (hg : good M D = true) (hf : a + n ≤ D.size) (w : World) :
    Calls Try.prog 17 #[.agg #[.int .i64 M, .string D], .int .i64 (a : Int), .int .i64 (x : Int), .int .i64 (n : Int)] w fun e w' => e = .returned (.tuple #[.agg #[.int .i64 M, .string (laidOver D a (fillB x n))], .int .i64 0]) ∧ Below w.heap.size w w' := by
  have SP := fun b w h1 h2 h3 => spans1 M D h b (a : Int) (n : Int) w h1 h2 h3 (by omega)
  rw [hg, code1_in _ _ _ (by omega) (by omega) (by omega)] at SP
  have ST := stored M D h a (fillB x n) (by rw [fillB_size]; omega)
  have RP := fRep x n (by omega)
  have OT := fun w g h => oneTold w g x hx h
  have c0 : ¬ (x : Int) < 0 := by omega
  have c1 : ¬ (255 : Int) < (x : Int) := by omega
  have v1 : IntKind.u8.wrap (x : Int) = (x : Int) := by rw [IntKind.wrap_u8]; omega
  have v2 : (x : Int) % 256 = (x : Int) := by omega
  generalize laidOver D a (fillB x n) = Y at *
  generalize fillB x n = Z at *
  generalize fillB x 1 = X at *
  clear hx hg hf h
  obtain ⟨g, hgs⟩ : ∃ g, w.heap.size = g := ⟨_, rfl⟩
  go_enter Try.func17, Try.ntmps17
  go_wp2_with fail
  refine (SP (g + 2) _ (by simp; omega) (newCell (by simp; omega) rfl) (newCell (by simp; omega) rfl)).mono ?_
  rintro e w1 ⟨rfl, B1⟩
  have hw1 := B1.size
  simp at hw1
  have hB : Hid (Below w.heap.size w w1) := by unfold Hid; ((repeat (first | refine bel_alloc ?_ _ | refine bel_dN ?_ _ | refine Below.drew ?_ | refine Below.setCell ?_ (by first | (simp; done) | (simp; omega)) _)); refine bel_step ?_ B1; (repeat (first | refine bel_alloc ?_ _ | refine bel_dN ?_ _ | refine Below.drew ?_ | refine Below.setCell ?_ (by first | (simp; done) | (simp; omega)) _)); exact Below.refl _ _)
  have p0 : w1.cell? ⟨g, 0, none⟩ = some (.int .i64 M) := keepCell B1 (by simp; omega) (pastCell (by simp; omega) (by rw [← hgs]; simp))
  have p1 : w1.cell? ⟨g, 1, none⟩ = some (.string D) := keepCell B1 (by simp; omega) (pastCell (by simp; omega) (by rw [← hgs]; simp))
  have q0 : w1.cell? ⟨g + 1, 0, none⟩ = some (.int .i64 0) := keepCell B1 (by simp; omega) (pastCell (by simp; omega) (by rw [← hgs]; simp))
  have q1 : w1.cell? ⟨g + 1, 1, none⟩ = some (.string ⟨#[]⟩) := keepCell B1 (by simp; omega) (pastCell (by simp; omega) (by rw [← hgs]; simp))
  have z0 : w1.frozen? ⟨g + 1, 0, none⟩ = false := keepFree B1 (by simp; omega) (pastFree (by simp; omega) (by rw [← hgs]; simp))
  have z1 : w1.frozen? ⟨g + 1, 1, none⟩ = false := keepFree B1 (by simp; omega) (pastFree (by simp; omega) (by rw [← hgs]; simp))
  clear B1 SP
  have k0 : ∀ w, KeepsX w1 w → w.cell? ⟨g, 0, none⟩ = some (.int .i64 M) := fun w h => h.keeps.cell (by omega) p0
  have k1 : ∀ w, KeepsX w1 w → w.cell? ⟨g, 1, none⟩ = some (.string D) := fun w h => h.keeps.cell (by omega) p1
  have k2 : ∀ w, KeepsX w1 w → w.cell? ⟨g + 1, 0, none⟩ = some (.int .i64 0) := fun w h => h.keeps.cell (by omega) q0
  have k3 : ∀ w, KeepsX w1 w → w.cell? ⟨g + 1, 1, none⟩ = some (.string ⟨#[]⟩) := fun w h => h.keeps.cell (by omega) q1
  have y0 : ∀ w, KeepsX w1 w → w.frozen? ⟨g + 1, 0, none⟩ = false := fun w h => h.keeps.frozen (by omega) z0
  have y1 : ∀ w, KeepsX w1 w → w.frozen? ⟨g + 1, 1, none⟩ = false := fun w h => h.keeps.frozen (by omega) z1
  obtain ⟨G, hG⟩ : ∃ G, w1.heap.size = G := ⟨_, rfl⟩
  have cv : ∀ w, KeepsN w1 (.cells #[.int .u8 (x : Int)] 5) true w → (convert 55 9 (.slice (some ⟨G, 0, none⟩) 1 1)).run Try.prog w = .ok (.string X) w := fun w h => by
    refine OT w G (Keeps.cell (W := w1.alloc (.cells #[.int .u8 (x : Int)] 5)) h (by simp; omega) (newCell hG.symm rfl))
  have mk : ∀ w, KeepsN w1 (.cells #[.int .u8 (x : Int)] 5) false w → w.heap.size = G := fun w h => h.2.trans hG
  clear p0 p1 q0 q1 z0 z1 OT
  go_wp2_with fail
  refine region_seen (C := KeepsN w1 (.cells #[.int .u8 (x : Int)] 5)) 9 4 (by kernel_rfl) (by kernel_rfl) (by decide) (show Keeps w1 w1.drew ∧ _ from ⟨Keeps.drew w1, rfl⟩) ?_
  (apply wpSeen_go _ (by rfl) false false (by rfl) (by kernel_rfl)
   · intro bq wq _ _ hq
     have hx := hq.any
     go_simp
     exact uponS_value (by simpa using hq) rfl
   simp only [Act.put, List.setIfInBounds_toArray, List.set_cons_succ, List.set_cons_zero])
  (apply wpSeen_go _ (by rfl) false false (by rfl) (by kernel_rfl)
   · intro bq wq _ _ hq
     have hx := hq.any
     go_simp
     exact uponS_value (by simpa using hq) rfl
   simp only [Act.put, List.setIfInBounds_toArray, List.set_cons_succ, List.set_cons_zero])
  (apply wpSeen_go _ (by rfl) false false (by rfl) (by kernel_rfl)
   · intro bq wq _ _ hq
     have hx := hq.any
     go_simp
     exact uponS_value (by simpa using hq) rfl
   simp only [Act.put, List.setIfInBounds_toArray, List.set_cons_succ, List.set_cons_zero])
  (apply wpSeen_go _ (by rfl) false false (by rfl) (by kernel_rfl)
   · intro bq wq _ _ hq
     have hx := hq.any
     go_simp
     exact uponS_value (by simpa using hq) rfl
   simp only [Act.put, List.setIfInBounds_toArray, List.set_cons_succ, List.set_cons_zero])
  (apply wpSeen_go (.slice (some ⟨G, 0, none⟩) 1 1) (by rfl) true false (by rfl) (by kernel_rfl)
   · intro bq wq hb _ hq
     obtain rfl := hb rfl
     have hx := hq.any
     have hs := mk _ hq
     go_simp
     exact uponS_value (keepsN_make hq) rfl
   simp only [Act.put, List.setIfInBounds_toArray, List.set_cons_succ, List.set_cons_zero])
  (apply wpSeen_go _ (by rfl) false true (by rfl) (by kernel_rfl)
   · intro bq wq _ hn hq
     obtain rfl := hn rfl
     have hx := hq.any
     have cvq := cv _ hq
     go_simp
     first
       | exact uponS_value hq rfl
   simp only [Act.put, List.setIfInBounds_toArray, List.set_cons_succ, List.set_cons_zero])
  (apply wpSeen_go _ (by rfl) false false (by rfl) (by kernel_rfl)
   · intro bq wq _ _ hq
     have hx := hq.any
     go_simp
     exact uponS_value (by simpa using hq) rfl
   simp only [Act.put, List.setIfInBounds_toArray, List.set_cons_succ, List.set_cons_zero])
  (apply wpSeen_go _ (by rfl) false true (by rfl) (by kernel_rfl)
   · intro bq wq _ hn hq
     obtain rfl := hn rfl
     have hx := hq.any
     have cvq := cv _ hq
     go_simp
     first
       | (apply uponS_call; go_at_call 34; exact (RP _).mono fun _ _ ⟨he, hb⟩ => ⟨he, Keeps.step (W := w1.alloc (.cells #[.int .u8 (x : Int)] 5)) hq hb⟩)
       | (apply uponS_call; go_at_call 28; exact (ST _).mono fun _ _ ⟨he, hb⟩ => ⟨he, Keeps.step (W := w1.alloc (.cells #[.int .u8 (x : Int)] 5)) hq hb⟩)
       | exact uponS_value hq rfl
   simp only [Act.put, List.setIfInBounds_toArray, List.set_cons_succ, List.set_cons_zero])
  (apply wpSeen_go _ (by rfl) false true (by rfl) (by kernel_rfl)
   · intro bq wq _ hn hq
     obtain rfl := hn rfl
     have hx := hq.any
     have cvq := cv _ hq
     go_simp
     first
       | (apply uponS_call; go_at_call 34; exact (RP _).mono fun _ _ ⟨he, hb⟩ => ⟨he, Keeps.step (W := w1.alloc (.cells #[.int .u8 (x : Int)] 5)) hq hb⟩)
       | (apply uponS_call; go_at_call 28; exact (ST _).mono fun _ _ ⟨he, hb⟩ => ⟨he, Keeps.step (W := w1.alloc (.cells #[.int .u8 (x : Int)] 5)) hq hb⟩)
       | exact uponS_value hq rfl
   simp only [Act.put, List.setIfInBounds_toArray, List.set_cons_succ, List.set_cons_zero])
  unfold wpSeen
  intro wz hq
  have hx := hq.any
  have q0 := k2 _ hx
  have q1 := k3 _ hx
  have z0 := y0 _ hx
  have z1 := y1 _ hx
  have hb := hx.keeps.below
  have hsz := hb.size
  replace hB : Hid (Below w.heap.size w wz) := bel_step hB.out hb
  clear k0 k1 k2 k3 y0 y1 hq hx hb cv mk RP ST
  go_wp2
  refine bodyPost_ret (v := .tuple #[.agg #[.int .i64 M, .string Y], .int .i64 0]) (by simp [results, Try.results17, go_sem, q0, q1]) rfl ⟨rfl, ?_⟩
  first
    | (refine Below.setCell (Below.setCell hB.out ?_ _) ?_ _ <;> simp <;> omega)
    | (rw [← hgs]; refine Below.setCell (Below.setCell hB.out ?_ _) ?_ _ <;> simp <;> omega)

end Go.Proofs.Ytalmgodakdjjcab
