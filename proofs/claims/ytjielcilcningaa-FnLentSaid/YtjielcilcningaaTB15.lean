/-
  A handle is found: the law's side whole, and the program's side.
-/
import Derived.Test.YtjielcilcningaaTB14
namespace Go.Proofs.Ytjielcilcningaa
open Go.ChangeShapes Go.WideShapes Go.ChangeAt Go.RowKit Go.Maps

/-- A handle is laid at a block of its own. -/
theorem set6T {W : World} {z : Nat} {t : TypeId} {a0 a1 a2 a3 a4 a5 : Value} (h : W.heap[z]? = some (.cells #[a0, a1, a2, a3, a4, a5] t (0, 0))) (b0 b1 b2 b3 b4 b5 : Value) {G : World} (hG : (((((W.setCell ⟨z, 0, none⟩ b0).setCell ⟨z, 1, none⟩ b1).setCell ⟨z, 2, none⟩ b2).setCell ⟨z, 3, none⟩ b3).setCell ⟨z, 4, none⟩ b4).setCell ⟨z, 5, none⟩ b5 = G) :
    G.heap[z]? = some (.cells #[b0, b1, b2, b3, b4, b5] t (0, 0)) ∧ (∀ g, g ≠ z → G.heap[g]? = W.heap[g]?) ∧ G.heap.size = W.heap.size ∧ ∀ (B : Nat) (w : World), B ≤ z → Below B w W → Below B w G := by
  subst hG
  refine ⟨?_, fun g hg => ?_, by simp, fun B w hB hb => (((((hb.setCell hB _).setCell hB _).setCell hB _).setCell hB _).setCell hB _).setCell hB _⟩
  · rw [heap_setCell_same _ _ _ _ _ _ (heap_setCell_same _ _ _ _ _ _ (heap_setCell_same _ _ _ _ _ _ (heap_setCell_same _ _ _ _ _ _ (heap_setCell_same _ _ _ _ _ _ (heap_setCell_same _ _ _ _ _ _ h)))))]
    rfl
  · exact (heap_setCell_other _ _ _ _ (by simpa using hg)).trans ((heap_setCell_other _ _ _ _ (by simpa using hg)).trans ((heap_setCell_other _ _ _ _ (by simpa using hg)).trans ((heap_setCell_other _ _ _ _ (by simpa using hg)).trans ((heap_setCell_other _ _ _ _ (by simpa using hg)).trans (heap_setCell_other _ _ _ _ (by simpa using hg))))))
theorem set2T {W : World} {z : Nat} {t : TypeId} {a0 a1 : Value} (h : W.heap[z]? = some (.cells #[a0, a1] t (0, 0))) (b0 b1 : Value) {G : World} (hG : (W.setCell ⟨z, 0, none⟩ b0).setCell ⟨z, 1, none⟩ b1 = G) :
    G.heap[z]? = some (.cells #[b0, b1] t (0, 0)) ∧ (∀ g, g ≠ z → G.heap[g]? = W.heap[g]?) ∧ G.heap.size = W.heap.size ∧ ∀ (B : Nat) (w : World), B ≤ z → Below B w W → Below B w G := by
  subst hG
  refine ⟨?_, fun g hg => ?_, by simp, fun B w hB hb => (hb.setCell hB _).setCell hB _⟩
  · rw [heap_setCell_same _ _ _ _ _ _ (heap_setCell_same _ _ _ _ _ _ h)]
    rfl
  · exact (heap_setCell_other _ _ _ _ (by simpa using hg)).trans (heap_setCell_other _ _ _ _ (by simpa using hg))
theorem Tells.yes {e : Ending} {p : Prop} (h : Tells e p) (hp : p) : e = .returned (.bool true) := by
  obtain ⟨r, rfl, hr⟩ := h
  rw [hr.2 hp]
theorem Tells.no {e : Ending} {p : Prop} (h : Tells e p) (hp : ¬ p) : e = .returned (.bool false) := by
  obtain ⟨r, rfl, hr⟩ := h
  cases r
  · rfl
  · exact absurd (hr.1 rfl) hp
/-- What FindHandle tells. -/
def FindR (S : List Hd) (F : List Int) (x res : Int) (H : Hd) (C : Int) : Prop := (GoodT S F ∧ FindIs S x res H C) ∨ (¬ GoodT S F ∧ H = zH ∧ C = 1)
theorem find_r (S : List Hd) (F : List Int) (x res : Int) : ∃ H C, FindR S F x res H C := by
  by_cases h : GoodT S F
  · obtain ⟨H, C, hf⟩ := find_is S x res
    exact ⟨H, C, .inl ⟨h, hf⟩⟩
  · exact ⟨zH, 1, .inr ⟨h, rfl, rfl⟩⟩

/-- What stands at a number, used, and the code. -/
def UsedIs (S : List Hd) (x : Int) (H : Hd) (C : Int) : Prop :=
  (¬ (0 ≤ x ∧ x ≤ (S.length : Int) - 1) ∧ H = zH ∧ C = 2) ∨ ∃ k f, ∃ h : k < S.length, x = (k : Int) ∧ S[k] = f ∧ ((f.u = false ∧ H = zH ∧ C = 2) ∨ (f.u = true ∧ H = f ∧ C = 0))
theorem used_is (S : List Hd) (x : Int) : ∃ H C, UsedIs S x H C := by
  by_cases h : 0 ≤ x ∧ x ≤ (S.length : Int) - 1
  · have hk : x.toNat < S.length := by omega
    have hx : x = ((x.toNat : Nat) : Int) := by omega
    rcases hu : S[x.toNat].u with _ | _
    · exact ⟨zH, 2, .inr ⟨x.toNat, _, hk, hx, rfl, .inl ⟨hu, rfl, rfl⟩⟩⟩
    · exact ⟨_, 0, .inr ⟨x.toNat, _, hk, hx, rfl, .inr ⟨hu, rfl, rfl⟩⟩⟩
  · exact ⟨zH, 2, .inl ⟨h, rfl, rfl⟩⟩

set_option maxRecDepth 100000 in
set_option maxHeartbeats 1600000 in
theorem implUsed (B y m : Nat) (v : Value) (S : List Hd) (F : List Int) (x : Int) (H : Hd) (C : Int) (w : World) (hot : Hid (OT B w y m S F v)) (hgd : Hid (GoodT S F)) (hf : UsedIs S x H C) :
    Calls Try.prog 33 #[.pointer (some ⟨y, 0, none⟩), .int .i64 x] w fun e w' => e = .returned (.tuple #[hdV H, .int .i64 C]) ∧ Below w.heap.size w w' := by
  obtain ⟨ad, cp, rfl, hds, _⟩ := own_hds hot.out.row
  have hn40 : S.length ≤ 40 := hgd.out.1
  have c0 : w.cell? ⟨y, 0, none⟩ = some (.slice ad S.length cp) := (cell_of_block hot.out.xb 0).trans rfl
  obtain ⟨V, hV⟩ : ∃ W, w.alloc (.cells #[.bool false, .int .i64 0, .int .i64 0, .bool false, .int .i64 0, .int .i64 0] 28) = W := ⟨_, rfl⟩
  have hbV : Below w.heap.size w V := by rw [← hV]; exact bel_alloc (Below.refl _ _) _
  have hyw := lt_of_block hot.out.xb
  have e0 : V.cell? ⟨y, 0, none⟩ = some (.slice ad S.length cp) := (hbV.cell (p := ⟨y, 0, none⟩) hyw).trans c0
  obtain ⟨n, hn⟩ : ∃ n, S.length = n := ⟨_, rfl⟩
  have HN : Hid (S.length = n) := hn
  have HBV : Hid (Below w.heap.size w V) := hbV
  unfold hdV
  rcases hf with ⟨h0, rfl, rfl⟩ | ⟨k, f, hk, rfl, hf, h⟩
  · rw [hn] at h0 hn40 e0
    have IN := within_eq x ((n : Int) - 1) false (by unfold Hid; simp; omega)
    clear hn h0 hds c0 hbV hot hyw
    go_enter Try.func33, Try.ntmps33
    go_wp2_with fail
    refine (IN _).mono ?_
    rintro e w' ⟨rfl, hw⟩
    obtain rfl := hw.symm
    clear hw IN
    obtain rfl := hV.symm
    go_wp2
    exact bodyPost_ret (v := .tuple #[.agg #[.bool false, .int .i64 0, .int .i64 0, .bool false, .int .i64 0, .int .i64 0], .int .i64 2]) (by simp [results, Try.results33, go_sem]) rfl ⟨rfl, by (repeat (first | refine Below.alloc ?_ (by first | (simp; done) | (simp; omega)) _ | refine Below.setCell ?_ (by first | (simp; done) | (simp; omega)) _ | refine bel_dN ?_ _ | refine Below.drew ?_ | exact Below.refl _ _))⟩
  · have IF : ∀ r, decide ((k : Int) ∈ F) = r → Calls Try.prog 43 #[.pointer (some ⟨y, 0, none⟩), .int .i64 (k : Int)] V fun e w'' => e = .returned (.bool r) ∧ w'' = V := fun r hr => hot.out.isFree (k : Int) (by omega) hr V hbV
    have HU := hgd.out.used k hk
    rw [hf] at HU
    obtain ⟨bb, off, rfl, hb, hc⟩ := hds.at k hk
    rw [hf] at hc
    obtain ⟨d0, d1, d2, d3, d4, d5⟩ := hc.kept (w' := V) (fun j => hbV.cell (p := ⟨bb, j, none⟩) hb)
    rw [hn] at hk hn40 e0
    have IN := within_eq (k : Int) ((n : Int) - 1) true (by unfold Hid; simp; omega)
    obtain ⟨u, r, p, o, l, s⟩ := f
    simp only at d0 d1 d2 d3 d4 d5 h HU
    clear hn hf hds c0 hbV hot hc
    rcases h with ⟨rfl, rfl, rfl⟩ | ⟨rfl, rfl, rfl⟩
    · have hmem : (k : Int) ∈ F := by rcases Decidable.em ((k : Int) ∈ F) with h | h; exact h; exact absurd (HU.2 h) (by simp)
      have IG := IF true (by simpa using hmem)
      clear IF HU hmem
      go_enter Try.func33, Try.ntmps33
      go_wp2_with fail
      refine (IN _).mono ?_
      rintro e w' ⟨rfl, hw⟩
      obtain rfl := hw.symm
      clear hw IN
      go_wp2_with fail
      refine IG.mono ?_
      rintro e w' ⟨rfl, hw⟩
      obtain rfl := hw.symm
      clear hw IG
      clear d0 d1 d2 d3 d4 d5 e0
      obtain rfl := hV.symm
      go_wp2
      exact bodyPost_ret (v := .tuple #[.agg #[.bool false, .int .i64 0, .int .i64 0, .bool false, .int .i64 0, .int .i64 0], .int .i64 2]) (by simp [results, Try.results33, go_sem]) rfl ⟨rfl, by (repeat (first | refine Below.alloc ?_ (by first | (simp; done) | (simp; omega)) _ | refine Below.setCell ?_ (by first | (simp; done) | (simp; omega)) _ | refine bel_dN ?_ _ | refine Below.drew ?_ | exact Below.refl _ _))⟩
    · have hmem : (k : Int) ∉ F := HU.1 rfl
      have IG := IF false (by simpa using hmem)
      clear IF HU hmem
      have hne : bb ≠ w.heap.size := by omega
      go_enter Try.func33, Try.ntmps33
      go_wp2_with fail
      refine (IN _).mono ?_
      rintro e w' ⟨rfl, hw⟩
      obtain rfl := hw.symm
      clear hw IN
      go_wp2_with fail
      refine IG.mono ?_
      rintro e w' ⟨rfl, hw⟩
      obtain rfl := hw.symm
      clear hw IG
      obtain rfl := hV.symm
      go_wp2
      exact bodyPost_ret (v := .tuple #[.agg #[.bool true, .int .i64 r, .int .i64 p, .bool o, .int .i64 l, .int .i64 s], .int .i64 0]) (by simp [results, Try.results33, go_sem]) rfl ⟨rfl, by (repeat (first | refine Below.alloc ?_ (by first | (simp; done) | (simp; omega)) _ | refine Below.setCell ?_ (by first | (simp; done) | (simp; omega)) _ | refine bel_dN ?_ _ | refine Below.drew ?_ | exact Below.refl _ _))⟩

end Go.Proofs.Ytjielcilcningaa
