/-
  A handle is found: both sides.
-/
import Derived.Test.YtjielcilcningaaTB13
namespace Go.Proofs.Ytjielcilcningaa
open Go.ChangeShapes Go.WideShapes Go.ChangeAt Go.RowKit

/-- What is found of a number and a resource, and the code. -/
def FindIs (S : List Hd) (x res : Int) (H : Hd) (C : Int) : Prop :=
  (¬ (0 ≤ x ∧ x ≤ (S.length : Int) - 1) ∧ H = zH ∧ C = 2) ∨ ∃ k f, ∃ h : k < S.length, x = (k : Int) ∧ S[k] = f ∧ ((f.u = false ∧ H = zH ∧ C = 2) ∨ (f.u = true ∧ f.r ≠ res ∧ H = zH ∧ C = 3) ∨ (f.u = true ∧ f.r = res ∧ H = f ∧ C = 0))
theorem find_is (S : List Hd) (x res : Int) : ∃ H C, FindIs S x res H C := by
  by_cases h : 0 ≤ x ∧ x ≤ (S.length : Int) - 1
  · have hk : x.toNat < S.length := by omega
    have hx : x = ((x.toNat : Nat) : Int) := by omega
    rcases hu : S[x.toNat].u with _ | _
    · exact ⟨zH, 2, .inr ⟨x.toNat, _, hk, hx, rfl, .inl ⟨hu, rfl, rfl⟩⟩⟩
    · by_cases hr : S[x.toNat].r = res
      · exact ⟨_, 0, .inr ⟨x.toNat, _, hk, hx, rfl, .inr (.inr ⟨hu, hr, rfl, rfl⟩)⟩⟩
      · exact ⟨zH, 3, .inr ⟨x.toNat, _, hk, hx, rfl, .inr (.inl ⟨hu, hr, rfl, rfl⟩)⟩⟩
  · exact ⟨zH, 2, .inl ⟨h, rfl, rfl⟩⟩

set_option maxRecDepth 100000 in
set_option maxHeartbeats 1600000 in
theorem specFind (a b : Option Addr) (c m d : Nat) (S : List Hd) (x res : Int) (H : Hd) (C : Int) (w : World) (hS : Hid (Hds w a S)) (lS : S.length ≤ 1048576) (hf : FindIs S x res H C) :
    Calls Try.prog 32 #[tabV a S.length c b m d, .int .i64 x, .int .i64 res] w fun e w' => e = .returned (.tuple #[hdV H, .int .i64 C]) ∧ Below w.heap.size w w' := by
  obtain ⟨n, hn⟩ : ∃ n, S.length = n := ⟨_, rfl⟩
  have HN : Hid (S.length = n) := hn
  unfold tabV
  rcases hf with ⟨h0, rfl, rfl⟩ | ⟨k, f, hk, rfl, hf, h⟩
  · rw [hn] at lS h0 ⊢
    have IN := in_eq x 0 ((n : Int) - 1) false (by unfold Hid; simp; omega)
    clear hn h0
    go_enter Try.func32, Try.ntmps32
    go_wp2_with fail
    refine (IN _).mono ?_
    rintro e w' ⟨rfl, hw⟩
    obtain rfl := hw.symm
    clear hw IN
    go_wp2
    exact bodyPost_ret (v := .tuple #[.agg #[.bool false, .int .i64 0, .int .i64 0, .bool false, .int .i64 0, .int .i64 0], .int .i64 2]) (by simp [results, Try.results32, go_sem]) rfl ⟨rfl, by (repeat (first | refine Below.alloc ?_ (by first | (simp; done) | (simp; omega)) _ | refine Below.setCell ?_ (by first | (simp; done) | (simp; omega)) _ | refine bel_dN ?_ _ | refine Below.drew ?_ | exact Below.refl _ _))⟩
  · have hb0 : Below w.heap.size w ((w.alloc (.cells #[.slice a n c, .slice b m d] 26)).alloc (.cells #[.bool false, .int .i64 0, .int .i64 0, .bool false, .int .i64 0, .int .i64 0] 28)) := bel_alloc (bel_alloc (Below.refl _ _) _) _
    obtain ⟨bb, off, rfl, hb, hc⟩ := hS.out.at k hk
    rw [hf] at hc
    obtain ⟨d0, d1, d2, d3, d4, d5⟩ := hc.kept (fun j => hb0.cell (p := ⟨bb, j, none⟩) hb)
    obtain ⟨c0, c1, c2, c3, c4, c5⟩ := hc
    rw [hn] at lS hk ⊢
    have IN := in_eq (k : Int) 0 ((n : Int) - 1) true (by unfold Hid; simp; omega)
    obtain ⟨u, r, p, o, l, s⟩ := f
    simp only at d0 d1 d2 d3 d4 d5 h c0 c1 c2 c3 c4 c5
    have hne : bb ≠ w.heap.size := by omega
    have hne2 : bb ≠ w.heap.size + 1 := by omega
    clear hn hb0 hf
    rcases h with ⟨rfl, rfl, rfl⟩ | ⟨rfl, hr, rfl, rfl⟩ | ⟨rfl, hr, rfl, rfl⟩
    · go_enter Try.func32, Try.ntmps32
      go_wp2_with fail
      refine (IN _).mono ?_
      rintro e w' ⟨rfl, hw⟩
      obtain rfl := hw.symm
      clear hw IN
      go_wp2
      exact bodyPost_ret (v := .tuple #[.agg #[.bool false, .int .i64 0, .int .i64 0, .bool false, .int .i64 0, .int .i64 0], .int .i64 2]) (by simp [results, Try.results32, go_sem]) rfl ⟨rfl, by (repeat (first | refine Below.alloc ?_ (by first | (simp; done) | (simp; omega)) _ | refine Below.setCell ?_ (by first | (simp; done) | (simp; omega)) _ | refine bel_dN ?_ _ | refine Below.drew ?_ | exact Below.refl _ _))⟩
    · have hr2 : (r == res) = false := by simpa using hr
      clear hr
      go_enter Try.func32, Try.ntmps32
      go_wp2_with fail
      refine (IN _).mono ?_
      rintro e w' ⟨rfl, hw⟩
      obtain rfl := hw.symm
      clear hw IN
      go_wp2
      exact bodyPost_ret (v := .tuple #[.agg #[.bool false, .int .i64 0, .int .i64 0, .bool false, .int .i64 0, .int .i64 0], .int .i64 3]) (by simp [results, Try.results32, go_sem]) rfl ⟨rfl, by (repeat (first | refine Below.alloc ?_ (by first | (simp; done) | (simp; omega)) _ | refine Below.setCell ?_ (by first | (simp; done) | (simp; omega)) _ | refine bel_dN ?_ _ | refine Below.drew ?_ | exact Below.refl _ _))⟩
    · subst hr
      go_enter Try.func32, Try.ntmps32
      go_wp2_with fail
      refine (IN _).mono ?_
      rintro e w' ⟨rfl, hw⟩
      obtain rfl := hw.symm
      clear hw IN
      go_wp2
      exact bodyPost_ret (v := .tuple #[.agg #[.bool true, .int .i64 r, .int .i64 p, .bool o, .int .i64 l, .int .i64 s], .int .i64 0]) (by simp [results, Try.results32, go_sem]) rfl ⟨rfl, by (repeat (first | refine Below.alloc ?_ (by first | (simp; done) | (simp; omega)) _ | refine Below.setCell ?_ (by first | (simp; done) | (simp; omega)) _ | refine bel_dN ?_ _ | refine Below.drew ?_ | exact Below.refl _ _))⟩

end Go.Proofs.Ytjielcilcningaa
