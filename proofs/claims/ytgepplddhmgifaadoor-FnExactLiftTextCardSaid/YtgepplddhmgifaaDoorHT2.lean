/-
  Room taken of a heap: both sides.
-/
import Derived.Test.YtgepplddhmgifaaDoorHT1
namespace Go.Proofs.YtgepplddhmgifaaDoor
open Go.ChangeShapes Go.WideShapes Go.ChangeAt Go.RowKit Go.Deep

def alB (A : Int) : Bool := A == 1 || A == 2 || A == 4 || A == 8
theorem alB_yes {A : Int} (h : alB A = true) : A = 1 ∨ A = 2 ∨ A = 4 ∨ A = 8 := by simpa [alB, or_assoc] using h

theorem implAlign (A : Int) (w : World) : Calls Tryd.prog 21 #[.int .i64 A] w fun e w' => e = .returned (.bool (alB A)) ∧ w' = w := by
  by_cases h1 : A = 1
  · subst h1
    go_enter Tryd.func21, Tryd.ntmps21
    go_wp2
    go_ret
    exact ⟨rfl, rfl⟩
  · by_cases h2 : A = 2
    · subst h2
      go_enter Tryd.func21, Tryd.ntmps21
      go_wp2
      go_ret
      exact ⟨rfl, rfl⟩
    · by_cases h4 : A = 4
      · subst h4
        go_enter Tryd.func21, Tryd.ntmps21
        go_wp2
        go_ret
        exact ⟨rfl, rfl⟩
      · by_cases h8 : A = 8
        · subst h8
          go_enter Tryd.func21, Tryd.ntmps21
          go_wp2
          go_ret
          exact ⟨rfl, rfl⟩
        · have e1 : (A == 1) = false := by rw [beq_eq_false_iff_ne]; exact h1
          have e2 : (A == 2) = false := by rw [beq_eq_false_iff_ne]; exact h2
          have e4 : (A == 4) = false := by rw [beq_eq_false_iff_ne]; exact h4
          have e8 : (A == 8) = false := by rw [beq_eq_false_iff_ne]; exact h8
          rw [show alB A = false by unfold alB; rw [e1, e2, e4, e8]; rfl]
          go_enter Tryd.func21, Tryd.ntmps21
          go_wp2
          go_ret
          exact ⟨rfl, rfl⟩

theorem specAlign (A : Int) (w : World) : Calls Tryd.prog 18 #[.int .i64 A] w fun e w' => e = .returned (.bool (alB A)) ∧ w' = w := by
  by_cases h1 : A = 1
  · subst h1
    go_enter Tryd.func18, Tryd.ntmps18
    go_wp2
    go_ret
    exact ⟨rfl, rfl⟩
  · by_cases h2 : A = 2
    · subst h2
      go_enter Tryd.func18, Tryd.ntmps18
      go_wp2
      go_ret
      exact ⟨rfl, rfl⟩
    · by_cases h4 : A = 4
      · subst h4
        go_enter Tryd.func18, Tryd.ntmps18
        go_wp2
        go_ret
        exact ⟨rfl, rfl⟩
      · have e1 : (A == 1) = false := by rw [beq_eq_false_iff_ne]; exact h1
        have e2 : (A == 2) = false := by rw [beq_eq_false_iff_ne]; exact h2
        have e4 : (A == 4) = false := by rw [beq_eq_false_iff_ne]; exact h4
        obtain ⟨r, hr⟩ : ∃ r, (A == 8) = r := ⟨_, rfl⟩
        rw [show alB A = r by unfold alB; rw [e1, e2, e4, hr]; rfl]
        go_enter Tryd.func18, Tryd.ntmps18
        go_wp2
        go_ret
        exact ⟨rfl, rfl⟩

/-- What a refusal tells of a heap. -/
def kM (M : Int) (D : ByteArray) (N : Int) : Int := if goodH M D N = true then M else 0
def kD (M : Int) (D : ByteArray) (N : Int) : ByteArray := if goodH M D N = true then D else ⟨#[]⟩
def kN (M : Int) (D : ByteArray) (N : Int) : Int := if goodH M D N = true then N else 0
theorem heap_blk {w : World} {c : Array Value} {t : TypeId} {g : Nat} (h : w.heap.size = g) : (w.alloc (.cells c t)).heap[g]? = some (.cells c t (0, 0)) := by rw [← h]; exact heap_alloc_new _ _
theorem heap_old {w : World} {o : Obj} {g : Nat} {x : Obj} (h : w.heap[g]? = some x) : (w.alloc o).heap[g]? = some x := by
  refine (Below.heap_alloc _ _ _ ?_).trans h
  rcases Nat.lt_or_ge g w.heap.size with h' | h'
  · exact h'
  · rw [Array.getElem?_eq_none h'] at h; simp at h

set_option maxRecDepth 100000 in
set_option maxHeartbeats 1600000 in
theorem heapAsItWas (M : Int) (D : ByteArray) (N : Int) (h : D.size ≤ 1048576) (w : World) :
    Calls Tryd.prog 22 #[hpV M D N] w fun e w' => e = .returned (hpV (kM M D N) (kD M D N) (kN M D N)) ∧ Below w.heap.size w w' := by
  have HG := implGoodHeap M D N h
  have HA := asItWas M D h
  obtain ⟨g, hgs⟩ : ∃ g, w.heap.size = g := ⟨_, rfl⟩
  unfold kM kD kN
  cases hg : goodH M D N with
  | false =>
    rw [hg] at HG
    simp only [Bool.false_eq_true, if_false]
    clear hg HA h
    go_enter Tryd.func22, Tryd.ntmps22
    go_wp2_with fail
    refine (HG _).mono ?_
    rintro e w1 ⟨rfl, B1⟩
    have hs := B1.size
    simp at hs
    have hB : Hid (Below w.heap.size w w1) := by unfold Hid; ((repeat (first | refine bel_alloc ?_ _ | refine bel_dN ?_ _ | refine Below.drew ?_ | refine Below.setCell ?_ (by first | (simp; done) | (simp; omega)) _)); refine bel_step ?_ B1; (repeat (first | refine bel_alloc ?_ _ | refine bel_dN ?_ _ | refine Below.drew ?_ | refine Below.setCell ?_ (by first | (simp; done) | (simp; omega)) _)); exact Below.refl _ _)
    have e1 : w1.heap[g + 1]? = some (.cells #[.int .i64 0, .string ⟨#[]⟩, .int .i64 0] 29 (0, 0)) := (B1.block _ (by simp; omega)).trans (heap_blk (by simp; omega))
    have q0 : w1.cell? ⟨g + 1, 0, none⟩ = some (.int .i64 0) := (cell_of_block e1 0).trans rfl
    have q1 : w1.cell? ⟨g + 1, 1, none⟩ = some (.string ⟨#[]⟩) := (cell_of_block e1 1).trans rfl
    have q2 : w1.cell? ⟨g + 1, 2, none⟩ = some (.int .i64 0) := (cell_of_block e1 2).trans rfl
    have z0 := free_of_block e1 0
    have z1 := free_of_block e1 1
    have z2 := free_of_block e1 2
    have F := set3 e1 (.int .i64 0) (.string ⟨#[]⟩) (.int .i64 0) rfl
    have k0 := (cell_of_block F 0).trans (show _ = some (Value.int .i64 0) from rfl)
    have k1 := (cell_of_block F 1).trans (show _ = some (Value.string ⟨#[]⟩) from rfl)
    have k2 := (cell_of_block F 2).trans (show _ = some (Value.int .i64 0) from rfl)
    clear B1 HG e1 F
    go_wp2
    refine bodyPost_ret (v := hpV 0 ⟨#[]⟩ 0) (by simp [results, Tryd.results22, go_sem, k0, k1, k2]) rfl ⟨rfl, ?_⟩
    refine Below.setCell (Below.setCell (Below.setCell hB.out ?_ _) ?_ _) ?_ _ <;> simp <;> omega
  | true =>
    rw [hg] at HG
    obtain ⟨g1, _, _⟩ := goodH_yes hg
    simp only [kept, g1, if_true] at HA
    simp only [if_true]
    clear hg g1 h
    go_enter Tryd.func22, Tryd.ntmps22
    go_wp2_with fail
    refine (HG _).mono ?_
    rintro e w1 ⟨rfl, B1⟩
    have hs := B1.size
    simp at hs
    have hB : Hid (Below w.heap.size w w1) := by unfold Hid; ((repeat (first | refine bel_alloc ?_ _ | refine bel_dN ?_ _ | refine Below.drew ?_ | refine Below.setCell ?_ (by first | (simp; done) | (simp; omega)) _)); refine bel_step ?_ B1; (repeat (first | refine bel_alloc ?_ _ | refine bel_dN ?_ _ | refine Below.drew ?_ | refine Below.setCell ?_ (by first | (simp; done) | (simp; omega)) _)); exact Below.refl _ _)
    have e0 : w1.heap[g]? = some (.cells #[.int .i64 M, .string D, .int .i64 N] 29 (0, 0)) := (B1.block _ (by simp; omega)).trans (heap_old (heap_blk hgs))
    have e1 : w1.heap[g + 1]? = some (.cells #[.int .i64 0, .string ⟨#[]⟩, .int .i64 0] 29 (0, 0)) := (B1.block _ (by simp; omega)).trans (heap_blk (by simp; omega))
    have k0 : ∀ w, Keeps w1 w → w.cell? ⟨g, 0, none⟩ = some (.int .i64 M) := fun wx h => h.cell (by omega) ((cell_of_block e0 0).trans rfl)
    have k1 : ∀ w, Keeps w1 w → w.cell? ⟨g, 1, none⟩ = some (.string D) := fun wx h => h.cell (by omega) ((cell_of_block e0 1).trans rfl)
    have k2 : ∀ w, Keeps w1 w → w.cell? ⟨g, 2, none⟩ = some (.int .i64 N) := fun wx h => h.cell (by omega) ((cell_of_block e0 2).trans rfl)
    have E1 : Hid (∀ w, Keeps w1 w → w.heap[g + 1]? = some (.cells #[.int .i64 0, .string ⟨#[]⟩, .int .i64 0] 29 (0, 0))) := fun wx h => (h.below.block _ (by omega)).trans e1
    clear B1 HG e0 e1
    go_wp2_with fail
    refine region_qtail (C := Keeps w1) 6 (by kernel_rfl) (by kernel_rfl) (Keeps.drew w1) ?_
    (iterate 6
    (apply wpQuiet_go _ (by rfl)
     · intro wq hq
       go_simp
       first
         | (go_at_call 41; exact qcall hq (HA _))
         | exact rfl
     simp only [Act.put, List.setIfInBounds_toArray, List.set_cons_succ, List.set_cons_zero]))
    refine wpQuiet_nil ?_
    intro w2 hk
    have e1 := E1.out _ hk
    have q0 : w2.cell? ⟨g + 1, 0, none⟩ = some (.int .i64 0) := (cell_of_block e1 0).trans rfl
    have q1 : w2.cell? ⟨g + 1, 1, none⟩ = some (.string ⟨#[]⟩) := (cell_of_block e1 1).trans rfl
    have q2 : w2.cell? ⟨g + 1, 2, none⟩ = some (.int .i64 0) := (cell_of_block e1 2).trans rfl
    have z0 := free_of_block e1 0
    have z1 := free_of_block e1 1
    have z2 := free_of_block e1 2
    have F := set3 e1 (.int .i64 M) (.string D) (.int .i64 N) rfl
    have k7 := (cell_of_block F 0).trans (show _ = some (Value.int .i64 M) from rfl)
    have k8 := (cell_of_block F 1).trans (show _ = some (Value.string D) from rfl)
    have k9 := (cell_of_block F 2).trans (show _ = some (Value.int .i64 N) from rfl)
    have hb := hk.below
    clear k0 k1 k2 E1 HA hk e1 F
    go_wp2
    refine bodyPost_ret (v := hpV M D N) (by simp [results, Tryd.results22, go_sem, k7, k8, k9]) rfl ⟨rfl, ?_⟩
    refine Below.setCell (Below.setCell (Below.setCell (bel_step hB.out hb) ?_ _) ?_ _) ?_ _ <;> simp <;> omega

set_option maxRecDepth 100000 in
set_option maxHeartbeats 1600000 in
theorem lHeap (w : World) (r c : Nat) (R : Array Value) (D : ByteArray) (N code : Int) (M N0 : Int) (D0 : ByteArray) (h : Lay w r c R D N code) :
    Calls Tryd.prog 25 #[.pointer (some ⟨r + 1, 0, none⟩), hpV M D0 N0] w fun e w' => e = .returned (hpV M D N) ∧ Below w.heap.size w w' := by
  obtain ⟨g, hgs⟩ : ∃ g, w.heap.size = g := ⟨_, rfl⟩
  have htab := h.tab
  obtain ⟨W, hW⟩ : ∃ W, (w.alloc (.cells #[.int .i64 M, .string D0, .int .i64 N0] 29)).alloc (.cells #[.int .i64 0, .string ⟨#[]⟩, .int .i64 0] 29) = W := ⟨_, rfl⟩
  have hWb : Below w.heap.size w W := by rw [← hW]; (repeat (first | refine Below.alloc ?_ (by first | (simp; done) | (simp; omega)) _ | refine Below.setCell ?_ (by first | (simp; done) | (simp; omega)) _ | refine bel_dN ?_ _ | refine Below.drew ?_ | exact Below.refl _ _))
  have hWs : W.heap.size = g + 2 := by rw [← hW, ← hgs]; simp
  have e0 : W.heap[g]? = some (.cells #[.int .i64 M, .string D0, .int .i64 N0] 29 (0, 0)) := by rw [← hW]; exact heap_old (heap_blk hgs)
  have e1 : W.heap[g + 1]? = some (.cells #[.int .i64 0, .string ⟨#[]⟩, .int .i64 0] 29 (0, 0)) := by rw [← hW]; exact heap_blk (by simp; omega)
  have hb := h.box
  have hr := h.row
  have p := (hWb.block _ (by omega)).trans hb
  have p' := (hWb.block _ (by omega)).trans hr
  obtain ⟨n, hn⟩ : ∃ n, D.size = n := ⟨_, rfl⟩
  have k0 : ∀ w, Keeps W w → w.cell? ⟨g, 0, none⟩ = some (.int .i64 M) := fun w h => h.cell (by omega) ((cell_of_block e0 0).trans rfl)
  have k1 : ∀ w, Keeps W w → w.cell? ⟨r + 1, 0, none⟩ = some (.slice (some ⟨r, 0, none⟩) n c) := fun w h => h.cell (by omega) (by rw [← hn]; exact (cell_of_block p 0).trans rfl)
  have k2 : ∀ w, Keeps W w → w.cell? ⟨r + 1, 1, none⟩ = some (.int .i64 N) := fun w h => h.cell (by omega) ((cell_of_block p 1).trans rfl)
  have k3 : ∀ w, Keeps W w → (convert 71 9 (.slice (some ⟨r, 0, none⟩) n c)).run Tryd.prog w = .ok (.string D) w := fun w1 hk => by
    have hcb := run_convert_bytes_back (P := Tryd.prog) w1 71 9 5 ⟨r, 0, none⟩ c D.data.toList Tryd.underlying71 Tryd.underlying5 Tryd.underlying9 (fun j hj => by
      have hrr := (hk.below.block r (by omega)).trans p'
      rw [Addr.add_lit, Nat.zero_add]
      have : w1.cell? ⟨r, j, none⟩ = R[j]? := by simp [World.cell?, hrr]
      rw [this]
      exact h.bytes j hj)
    rw [← Lib.size_eq, Lib.mk_data, hn] at hcb
    exact hcb
  have E1 : Hid (∀ w, Keeps W w → w.heap[g + 1]? = some (.cells #[.int .i64 0, .string ⟨#[]⟩, .int .i64 0] 29 (0, 0))) := fun wx h => (h.below.block _ (by omega)).trans e1
  have HB : Hid (Below w.heap.size w W) := hWb
  clear hWb e0 e1 hb hr p p' h hn
  go_enter Tryd.func25, Tryd.ntmps25
  go_wp2
  refine region_qtail (C := Keeps W) 14 (by kernel_rfl) (by kernel_rfl) (Keeps.drew W) ?_
  (iterate 14
    (apply wpQuiet_go _ (by rfl)
     · intro wq hq
       go_simp
       first
         | exact rfl
     simp only [Act.put, List.setIfInBounds_toArray, List.set_cons_succ, List.set_cons_zero]))
  refine wpQuiet_nil ?_
  intro w2 hk
  have e1 := E1.out _ hk
  have q0 : w2.cell? ⟨g + 1, 0, none⟩ = some (.int .i64 0) := (cell_of_block e1 0).trans rfl
  have q1 : w2.cell? ⟨g + 1, 1, none⟩ = some (.string ⟨#[]⟩) := (cell_of_block e1 1).trans rfl
  have q2 : w2.cell? ⟨g + 1, 2, none⟩ = some (.int .i64 0) := (cell_of_block e1 2).trans rfl
  have z0 := free_of_block e1 0
  have z1 := free_of_block e1 1
  have z2 := free_of_block e1 2
  have F := set3 e1 (.int .i64 M) (.string D) (.int .i64 N) rfl
  have k7 := (cell_of_block F 0).trans (show _ = some (Value.int .i64 M) from rfl)
  have k8 := (cell_of_block F 1).trans (show _ = some (Value.string D) from rfl)
  have k9 := (cell_of_block F 2).trans (show _ = some (Value.int .i64 N) from rfl)
  have hb := hk.below
  clear k0 k1 k2 k3 E1 hk e1 F
  go_wp2
  refine bodyPost_ret (v := hpV M D N) (by simp [results, Tryd.results25, go_sem, k7, k8, k9]) rfl ⟨rfl, ?_⟩
  refine Below.setCell (Below.setCell (Below.setCell (bel_step HB.out hb) ?_ _) ?_ _) ?_ _ <;> simp <;> omega

end Go.Proofs.YtgepplddhmgifaaDoor
