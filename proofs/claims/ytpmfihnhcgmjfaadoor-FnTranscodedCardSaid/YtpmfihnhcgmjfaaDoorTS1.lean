/-
  Texts that are spoilt, and what is drawn for Transcode. (Made by a generator.)
-/
import Derived.Test.YtpmfihnhcgmjfaaDoorCurPt
import Derived.Test.YtpmfihnhcgmjfaaDoorTT1
import Derived.Test.YtpmfihnhcgmjfaaDoorQChain2
namespace Go.Proofs.YtpmfihnhcgmjfaaDoor
open Go.ChangeShapes Go.WideShapes Go.ChangeAt Go.RowKit

/-- Some texts of at most ten bytes lie in a block of their own. -/
def RowT (w : World) (b k : Nat) : Prop := ∀ i, i < k → ∃ s : ByteArray, s.size ≤ 10 ∧ w.cell? ⟨b, i, none⟩ = some (.string s)
def okT : Value → Bool
  | .string s => decide (s.size ≤ 10)
  | _ => false
theorem okT_str : ∀ v, okT v = true → ∃ s : ByteArray, s.size ≤ 10 ∧ v = .string s
  | .string s, h => by
    simp [okT] at h
    exact ⟨s, h, rfl⟩
theorem rowT_new (w : World) (A : List Value) (t : TypeId) (h : A.all okT = true) : RowT (w.alloc (.cells A.toArray t)) w.heap.size A.length := fun i hi => by
  obtain ⟨z, z0, hz⟩ := okT_str A[i] (List.all_eq_true.1 h _ (List.getElem_mem hi))
  refine ⟨z, z0, ?_⟩
  rw [World.cell?_alloc_at A.toArray t _ i rfl]
  simp [hi, hz]
theorem cur_allocT {w : World} {g : Nat} {a : Option Addr} {n cap B m : Nat} (C : Cur w g a n cap B m) (o : Obj) : Cur (w.alloc o) g a n cap B m := C.kept ((Below.refl _ _).alloc (Nat.le_refl _) o)
theorem aft_allocT {B g : Nat} {w : World} (h : B ≤ w.heap.size) (o : Obj) : Aft B g w (w.alloc o) :=
  ⟨(Below.refl _ _).alloc h o, by simp, fun b _ hl => ((Below.refl w.heap.size w).alloc (Nat.le_refl _) o).block b hl⟩

set_option maxHeartbeats 1000000 in
theorem curOf (b k : Nat) (k0 : 1 ≤ k) (k1 : k ≤ 1000) (g : Nat) (a : Option Addr) (n cap B m : Nat) (hm : Hid (m ≤ 900000)) (w : World) (C : Cur w g a n cap B m) (hr : RowT w b k) (hb : b < w.heap.size) (hbg : b ≠ g) :
    Calls Tryd.prog 19 #[.pointer (some ⟨g, 0, none⟩), .slice (some ⟨b, 0, none⟩) k k] w fun e w' => ∃ s : ByteArray, s.size ≤ 10 ∧ e = .returned (.string s) ∧ Cur w' g a n cap B (m + 2) ∧ Aft B g w w' := by
  go_enter Tryd.func19, Tryd.ntmps19
  go_wp2_with fail
  refine (curPick k (by omega) (by omega) g a n cap B m hm w C).mono ?_
  rintro e w1 ⟨r, r0, r1, rfl, C1, B1⟩
  obtain ⟨j, rfl⟩ : ∃ j : Nat, r = j := ⟨r.toNat, by omega⟩
  obtain ⟨z, z0, hz⟩ := hr j (by omega)
  have hz1 : w1.cell? ⟨b, j, none⟩ = some (.string z) := (B1.keep b j hbg hb).trans hz
  go_wp2
  go_ret
  exact ⟨z, z0, rfl, C1, B1⟩
theorem w64c (k : Nat) (h : k ≤ 2) : wrap64 (k : Int) = (k : Int) ∧ (intOf (Value.int .i64 (wrap64 (k : Int)))).toNat < (intOf (Value.int .i64 ((k + 1 : Nat) : Int))).toNat := by
  have e : wrap64 (k : Int) = (k : Int) := by unfold wrap64; omega
  refine ⟨e, ?_⟩
  rw [e]
  simp [intOf]
theorem i64c (i : Nat) (h : i ≤ 200000) : IntKind.i64.wrap ((i : Int) + 1) = ((i + 1 : Nat) : Int) := by
  rw [IntKind.wrap_i64]
  omega
theorem ext_size (s : ByteArray) (i : Nat) (h : i < s.size) : (s.extract 0 i).size = i ∧ (s.extract i s.size).size + i = s.size ∧ (s.extract (i + 1) s.size).size + (i + 1) = s.size := by
  rw [ByteArray.size_extract, ByteArray.size_extract, ByteArray.size_extract]
  omega

set_option maxRecDepth 100000 in
set_option maxHeartbeats 1600000 in
theorem curSpoilt (t wth : ByteArray) (hs : Hid (t.size ≤ 100000)) (hw0 : 0 < wth.size) (hw1 : wth.size ≤ 100) (g : Nat) (a : Option Addr) (n cap B m : Nat) (hm : Hid (m ≤ 700000)) (w : World) (C : Cur w g a n cap B m) :
    Calls Tryd.prog 20 #[.pointer (some ⟨g, 0, none⟩), .string t, .string wth] w fun e w' => ∃ s : ByteArray, s.size ≤ t.size + 2 ∧ e = .returned (.string s) ∧ Cur w' g a n cap B (m + 20) ∧ Aft B g w w' := by
  have HJ : Hid (g < w.heap.size ∧ B ≤ g) := ⟨C.lt, C.hg⟩
  go_enter Tryd.func20, Tryd.ntmps20
  go_wp2_with fail
  refine (curPick 3 (by omega) (by omega) g a n cap B m (hid_le (by have := hm.out; omega)) w C).mono ?_
  rintro e w1 ⟨q, q0, q1, rfl, C1, B1⟩
  obtain ⟨j, rfl⟩ : ∃ j : Nat, q = j := ⟨q.toNat, by omega⟩
  have HC1 : Hid (Cur w1 g a n cap B (m + 2) ∧ Aft B g w w1) := ⟨C1, B1⟩
  have HJJ : Hid (j ≤ 2) := by unfold Hid; omega
  have I0 : Hid (j ≤ 2 ∧ t.size + j ≤ t.size + 2) := by have := HJJ.out; unfold Hid; omega
  have I1 : Hid (∃ M, M + 6 * j ≤ m + 14 ∧ Cur w1 g a n cap B M ∧ Aft B g w w1) := ⟨m + 2, by have := HJJ.out; omega, HC1.out⟩
  clear C1 B1 C q0 q1 HC1 HJJ
  go_wp2
  go_loopw [1, 7, 8, 9] (fun vt vi _ _ wr => ∃ (k : Nat) (s : ByteArray), vt = .string s ∧ vi = .int .i64 (k : Int) ∧ Hid (k ≤ 2 ∧ s.size + k ≤ t.size + 2) ∧ Hid (∃ M, M + 6 * k ≤ m + 14 ∧ Cur wr g a n cap B M ∧ Aft B g w wr)) (fun _ vi _ _ _ => (intOf vi).toNat)
  case atStart => exact ⟨j, t, rfl, rfl, I0, I1⟩
  case round =>
    clear I0 I1
    obtain ⟨k, s, rfl, rfl, hk, hI⟩ := hrel
    obtain ⟨M, hM, C, A0⟩ := hI.out
    have HM : Hid (M + 6 * k ≤ m + 14) := hM
    have HMM : Hid (M ≤ 800000) := by unfold Hid; have := hm.out; omega
    have HA : Hid (Aft B g w wr) := A0
    have HSS : Hid (s.size ≤ 100002) := by unfold Hid; have := hk.out; have := hs.out; omega
    clear hI hM A0
    by_cases hlt : 0 < (k : Int)
    · obtain ⟨k, rfl⟩ : ∃ i, k = i + 1 := ⟨k - 1, by omega⟩
      by_cases hs0 : 0 < s.size
      · have hsi : (0 : Int) < (s.size : Int) := by omega
        go_wp2_with fail
        refine (curPick (s.size : Int) (by omega) (by have := HSS.out; omega) g a n cap B M (hid_le (by have := HMM.out; omega)) wr C).mono ?_
        rintro e w2 ⟨r, r0, r1, rfl, C2, B2⟩
        obtain ⟨i, rfl⟩ : ∃ i : Nat, r = i := ⟨r.toNat, by omega⟩
        have HIS : Hid (i < s.size) := by unfold Hid; omega
        clear r0 r1 C
        go_wp2_with fail
        refine (curPick (wth.size : Int) (by omega) (by omega) g a n cap B (M + 2) (hid_le (by have := HMM.out; omega)) w2 C2).mono ?_
        rintro e w3 ⟨r, r2, r3, rfl, C3, B3⟩
        obtain ⟨x, rfl⟩ : ∃ i : Nat, r = i := ⟨r.toNat, by omega⟩
        have hxl : x < wth.size := by omega
        obtain ⟨b, hb1, hbe⟩ : ∃ b : ByteArray, b.size = 1 ∧ (⟨#[wth[x]]⟩ : ByteArray) = b := ⟨_, rfl, rfl⟩
        have hcv : (convert 22 9 (.slice (some ⟨w3.heap.size, 0, none⟩) 1 1)).run Tryd.prog (w3.alloc (.cells #[.int .u8 (wth[x].toNat : Int)] 5)) = .ok (.string ⟨#[wth[x]]⟩) (w3.alloc (.cells #[.int .u8 (wth[x].toNat : Int)] 5)) :=
          run_convert_bytes_back (P := Tryd.prog) _ 22 9 5 ⟨w3.heap.size, 0, none⟩ 1 [wth[x]] Tryd.underlying22 Tryd.underlying5 Tryd.underlying9 (fun j hj => by
            obtain rfl : j = 0 := by simpa using hj
            simp [Addr.add_lit])
        rw [hbe] at hcv
        have hC4 : Hid (Cur (w3.alloc (.cells #[.int .u8 (wth[x].toNat : Int)] 5)) g a n cap B (M + 2 + 2) ∧ Aft B g w (w3.alloc (.cells #[.int .u8 (wth[x].toNat : Int)] 5))) := ⟨cur_allocT C3 _, ((HA.out.trans B2).trans B3).trans (aft_allocT (by have := C3.lt; have := HJ.out; omega) _)⟩
        have HB1 : Hid (b.size = 1) := hb1
        clear C2 C3 B2 B3 r2 r3 hb1 hbe HA
        go_wp2_with fail
        refine (curPick 3 (by omega) (by omega) g a n cap B (M + 2 + 2) (hid_le (by have := HMM.out; omega)) _ hC4.out.1).mono ?_
        rintro e w4 ⟨y, y0, y1, rfl, C5, B5⟩
        have HA5 : Hid (Aft B g w w4) := hC4.out.2.trans B5
        generalize wth[x] = bb at *
        clear B5 hC4 hcv hxl
        obtain ⟨e1, e2, e3⟩ := ext_size s i HIS.out
        obtain ⟨X, hX⟩ : ∃ X, s.extract 0 i = X := ⟨_, rfl⟩
        obtain ⟨E, hE⟩ : ∃ X, s.extract i s.size = X := ⟨_, rfl⟩
        obtain ⟨p, hp⟩ : ∃ p, i + 1 = p := ⟨_, rfl⟩
        have hwi := i64c i (by have := HIS.out; have := HSS.out; omega)
        rw [hp] at e3 hwi
        obtain ⟨E2, hE2⟩ : ∃ X, s.extract p s.size = X := ⟨_, rfl⟩
        rw [hX] at e1
        rw [hE] at e2
        rw [hE2] at e3
        have HE : Hid (X.size = i ∧ E.size + i = s.size ∧ E2.size + (i + 1) = s.size) := ⟨e1, e2, by omega⟩
        have z1 : ¬ 9223372036854775807 < X.size + b.size := by have := HSS.out; have := HB1.out; omega
        have z2 : ¬ 9223372036854775807 < X.size + b.size + E.size := by have := HSS.out; have := HB1.out; omega
        have z3 : ¬ 9223372036854775807 < X.size + b.size + E2.size := by have := HSS.out; have := HB1.out; omega
        have z4 : ¬ 9223372036854775807 < X.size + E2.size := by have := HSS.out; omega
        have hi1 : (i : Int) ≤ (s.size : Int) := by have := HIS.out; omega
        have hi2 : (i : Int) + 1 ≤ (s.size : Int) := by have := HIS.out; omega
        have hi3 : (p : Int) ≤ (s.size : Int) := by have := HIS.out; omega
        have hi4 : i ≤ s.size := by have := HIS.out; omega
        have hi5 : p ≤ s.size := by have := HIS.out; omega
        have HWK : Hid (wrap64 (k : Int) = (k : Int) ∧ (intOf (Value.int .i64 (wrap64 (k : Int)))).toNat < (intOf (Value.int .i64 ((k + 1 : Nat) : Int))).toNat) := w64c k (by have := hk.out; omega)
        clear e1 e2 e3 hp
        have hy : y = 0 ∨ y = 1 ∨ (¬ y = 0 ∧ ¬ y = 1) := by omega
        clear y0 y1
        rcases hy with rfl | rfl | ⟨hy0, hy1⟩
        · go_wp2
          refine wa_begin (by kernel_rfl) ?_
          have hb : Below w4.heap.size w4 w4.drew := (Below.refl _ _).drew
          replace C5 := C5.kept hb
          replace HA5 : Hid (Aft B g w w4.drew) := HA5.out.trans ⟨hb.mono (by have := C5.hg; have := C5.lt; simp at this; omega), hb.size, fun q _ hq => hb.block q hq⟩
          clear hb
          obtain ⟨w5, hD⟩ : ∃ W, w4.drew = W := ⟨_, rfl⟩
          rw [hD] at C5 HA5 ⊢
          clear hD
          refine wa_take 0 (some 45) (.string s) rfl rfl (by kernel_rfl) (by kernel_rfl) (by kernel_rfl) (fun _ _ _ h => h) (by rfl) (fun _ => by kernel_rfl) ?_
          simp only [Act.put, List.setIfInBounds_toArray, List.set_cons_zero, List.set_cons_succ]
          refine wa_take 1 (some 46) (.int .i64 (i : Int)) rfl rfl (by kernel_rfl) (by kernel_rfl) (by kernel_rfl) (fun _ _ _ h => h) (by rfl) (fun _ => by kernel_rfl) ?_
          simp only [Act.put, List.setIfInBounds_toArray, List.set_cons_zero, List.set_cons_succ]
          refine wa_take 2 (some 47) (.string X) rfl rfl (by kernel_rfl) (by kernel_rfl) (by kernel_rfl) (fun _ _ _ h => h) (by rfl) (fun _ => by first | (go_simp; done) | (go_simp; rfl)) ?_
          simp only [Act.put, List.setIfInBounds_toArray, List.set_cons_zero, List.set_cons_succ]
          refine wa_take 3 (some 48) (.string b) rfl rfl (by kernel_rfl) (by kernel_rfl) (by kernel_rfl) (fun _ _ _ h => h) (by rfl) (fun _ => by kernel_rfl) ?_
          simp only [Act.put, List.setIfInBounds_toArray, List.set_cons_zero, List.set_cons_succ]
          refine wa_take 4 (some 49) (.string (X ++ b)) rfl rfl (by kernel_rfl) (by kernel_rfl) (by kernel_rfl) (fun _ _ _ h => h) (by rfl) (fun _ => by first | (go_simp; done) | (go_simp; rfl)) ?_
          simp only [Act.put, List.setIfInBounds_toArray, List.set_cons_zero, List.set_cons_succ]
          refine wa_take 5 (some 50) (.string s) rfl rfl (by kernel_rfl) (by kernel_rfl) (by kernel_rfl) (fun _ _ _ h => h) (by rfl) (fun _ => by kernel_rfl) ?_
          simp only [Act.put, List.setIfInBounds_toArray, List.set_cons_zero, List.set_cons_succ]
          refine wa_take 6 (some 51) (.int .i64 (i : Int)) rfl rfl (by kernel_rfl) (by kernel_rfl) (by kernel_rfl) (fun _ _ _ h => h) (by rfl) (fun _ => by kernel_rfl) ?_
          simp only [Act.put, List.setIfInBounds_toArray, List.set_cons_zero, List.set_cons_succ]
          refine wa_take 7 (some 52) (.string E) rfl rfl (by kernel_rfl) (by kernel_rfl) (by kernel_rfl) (fun _ _ _ h => h) (by rfl) (fun _ => by first | (go_simp; done) | (go_simp; rfl)) ?_
          simp only [Act.put, List.setIfInBounds_toArray, List.set_cons_zero, List.set_cons_succ]
          refine wa_take 8 (some 53) (.string (X ++ b ++ E)) rfl rfl (by kernel_rfl) (by kernel_rfl) (by kernel_rfl) (fun _ _ _ h => h) (by rfl) (fun _ => by first | (go_simp; done) | (go_simp; rfl)) ?_
          simp only [Act.put, List.setIfInBounds_toArray, List.set_cons_zero, List.set_cons_succ]
          refine wa_take 9 (some 1) (.string (X ++ b ++ E)) rfl rfl (by kernel_rfl) (by kernel_rfl) (by kernel_rfl) (fun _ _ _ h => h) (by rfl) (fun _ => by first | (go_simp; done) | (go_simp; rfl)) ?_
          simp only [Act.put, List.setIfInBounds_toArray, List.set_cons_zero, List.set_cons_succ]
          refine wa_done (by kernel_rfl) ?_
          have Y : Hid (k ≤ 2 ∧ (X ++ b ++ E).size + k ≤ t.size + 2) := by have h1 := HE.out; have h2 := HB1.out; have h3 := hk.out; unfold Hid; rw [ByteArray.size_append, ByteArray.size_append]; omega
          have Y2 : Hid (∃ M', M' + 6 * k ≤ m + 14 ∧ Cur w5 g a n cap B M' ∧ Aft B g w w5) := ⟨M + 2 + 2 + 2, by have := HM.out; omega, C5, HA5.out⟩
          clear hi1 hi2 hi3 hi4 hi5 hwi z1 z2 z3 z4
          go_wp2
          go_roundw
          case rel => exact ⟨k, X ++ b ++ E, rfl, congrArg (Value.int .i64) HWK.out.1, Y, Y2⟩
          case measure => exact HWK.out.2
        · go_wp2
          refine wa_begin (by kernel_rfl) ?_
          have hb : Below w4.heap.size w4 w4.drew := (Below.refl _ _).drew
          replace C5 := C5.kept hb
          replace HA5 : Hid (Aft B g w w4.drew) := HA5.out.trans ⟨hb.mono (by have := C5.hg; have := C5.lt; simp at this; omega), hb.size, fun q _ hq => hb.block q hq⟩
          clear hb
          obtain ⟨w5, hD⟩ : ∃ W, w4.drew = W := ⟨_, rfl⟩
          rw [hD] at C5 HA5 ⊢
          clear hD
          refine wa_take 0 (some 56) (.string s) rfl rfl (by kernel_rfl) (by kernel_rfl) (by kernel_rfl) (fun _ _ _ h => h) (by rfl) (fun _ => by kernel_rfl) ?_
          simp only [Act.put, List.setIfInBounds_toArray, List.set_cons_zero, List.set_cons_succ]
          refine wa_take 1 (some 57) (.int .i64 (i : Int)) rfl rfl (by kernel_rfl) (by kernel_rfl) (by kernel_rfl) (fun _ _ _ h => h) (by rfl) (fun _ => by kernel_rfl) ?_
          simp only [Act.put, List.setIfInBounds_toArray, List.set_cons_zero, List.set_cons_succ]
          refine wa_take 2 (some 58) (.string X) rfl rfl (by kernel_rfl) (by kernel_rfl) (by kernel_rfl) (fun _ _ _ h => h) (by rfl) (fun _ => by first | (go_simp; done) | (go_simp; rfl)) ?_
          simp only [Act.put, List.setIfInBounds_toArray, List.set_cons_zero, List.set_cons_succ]
          refine wa_take 3 (some 59) (.string b) rfl rfl (by kernel_rfl) (by kernel_rfl) (by kernel_rfl) (fun _ _ _ h => h) (by rfl) (fun _ => by kernel_rfl) ?_
          simp only [Act.put, List.setIfInBounds_toArray, List.set_cons_zero, List.set_cons_succ]
          refine wa_take 4 (some 60) (.string (X ++ b)) rfl rfl (by kernel_rfl) (by kernel_rfl) (by kernel_rfl) (fun _ _ _ h => h) (by rfl) (fun _ => by first | (go_simp; done) | (go_simp; rfl)) ?_
          simp only [Act.put, List.setIfInBounds_toArray, List.set_cons_zero, List.set_cons_succ]
          refine wa_take 5 (some 61) (.string s) rfl rfl (by kernel_rfl) (by kernel_rfl) (by kernel_rfl) (fun _ _ _ h => h) (by rfl) (fun _ => by kernel_rfl) ?_
          simp only [Act.put, List.setIfInBounds_toArray, List.set_cons_zero, List.set_cons_succ]
          refine wa_take 6 (some 62) (.int .i64 (i : Int)) rfl rfl (by kernel_rfl) (by kernel_rfl) (by kernel_rfl) (fun _ _ _ h => h) (by rfl) (fun _ => by kernel_rfl) ?_
          simp only [Act.put, List.setIfInBounds_toArray, List.set_cons_zero, List.set_cons_succ]
          refine wa_take 7 (some 63) (.int .i64 (p : Int)) rfl rfl (by kernel_rfl) (by kernel_rfl) (by kernel_rfl) (fun _ _ _ h => h) (by rfl) (fun _ => by first | (go_simp; done) | (go_simp; rfl)) ?_
          simp only [Act.put, List.setIfInBounds_toArray, List.set_cons_zero, List.set_cons_succ]
          refine wa_take 8 (some 64) (.string E2) rfl rfl (by kernel_rfl) (by kernel_rfl) (by kernel_rfl) (fun _ _ _ h => h) (by rfl) (fun _ => by first | (go_simp; done) | (go_simp; rfl)) ?_
          simp only [Act.put, List.setIfInBounds_toArray, List.set_cons_zero, List.set_cons_succ]
          refine wa_take 9 (some 65) (.string (X ++ b ++ E2)) rfl rfl (by kernel_rfl) (by kernel_rfl) (by kernel_rfl) (fun _ _ _ h => h) (by rfl) (fun _ => by first | (go_simp; done) | (go_simp; rfl)) ?_
          simp only [Act.put, List.setIfInBounds_toArray, List.set_cons_zero, List.set_cons_succ]
          refine wa_take 10 (some 1) (.string (X ++ b ++ E2)) rfl rfl (by kernel_rfl) (by kernel_rfl) (by kernel_rfl) (fun _ _ _ h => h) (by rfl) (fun _ => by first | (go_simp; done) | (go_simp; rfl)) ?_
          simp only [Act.put, List.setIfInBounds_toArray, List.set_cons_zero, List.set_cons_succ]
          refine wa_done (by kernel_rfl) ?_
          have Y : Hid (k ≤ 2 ∧ (X ++ b ++ E2).size + k ≤ t.size + 2) := by have h1 := HE.out; have h2 := HB1.out; have h3 := hk.out; unfold Hid; rw [ByteArray.size_append, ByteArray.size_append]; omega
          have Y2 : Hid (∃ M', M' + 6 * k ≤ m + 14 ∧ Cur w5 g a n cap B M' ∧ Aft B g w w5) := ⟨M + 2 + 2 + 2, by have := HM.out; omega, C5, HA5.out⟩
          clear hi1 hi2 hi3 hi4 hi5 hwi z1 z2 z3 z4
          go_wp2
          go_roundw
          case rel => exact ⟨k, X ++ b ++ E2, rfl, congrArg (Value.int .i64) HWK.out.1, Y, Y2⟩
          case measure => exact HWK.out.2
        · have hq0 : (y == 0) = false := by simpa using hy0
          have hq1 : (y == 1) = false := by simpa using hy1
          clear hy0 hy1
          go_wp2
          refine wa_begin (by kernel_rfl) ?_
          have hb : Below w4.heap.size w4 w4.drew := (Below.refl _ _).drew
          replace C5 := C5.kept hb
          replace HA5 : Hid (Aft B g w w4.drew) := HA5.out.trans ⟨hb.mono (by have := C5.hg; have := C5.lt; simp at this; omega), hb.size, fun q _ hq => hb.block q hq⟩
          clear hb
          obtain ⟨w5, hD⟩ : ∃ W, w4.drew = W := ⟨_, rfl⟩
          rw [hD] at C5 HA5 ⊢
          clear hD
          refine wa_take 0 (some 35) (.string s) rfl rfl (by kernel_rfl) (by kernel_rfl) (by kernel_rfl) (fun _ _ _ h => h) (by rfl) (fun _ => by kernel_rfl) ?_
          simp only [Act.put, List.setIfInBounds_toArray, List.set_cons_zero, List.set_cons_succ]
          refine wa_take 1 (some 36) (.int .i64 (i : Int)) rfl rfl (by kernel_rfl) (by kernel_rfl) (by kernel_rfl) (fun _ _ _ h => h) (by rfl) (fun _ => by kernel_rfl) ?_
          simp only [Act.put, List.setIfInBounds_toArray, List.set_cons_zero, List.set_cons_succ]
          refine wa_take 2 (some 37) (.string X) rfl rfl (by kernel_rfl) (by kernel_rfl) (by kernel_rfl) (fun _ _ _ h => h) (by rfl) (fun _ => by first | (go_simp; done) | (go_simp; rfl)) ?_
          simp only [Act.put, List.setIfInBounds_toArray, List.set_cons_zero, List.set_cons_succ]
          refine wa_take 3 (some 38) (.string s) rfl rfl (by kernel_rfl) (by kernel_rfl) (by kernel_rfl) (fun _ _ _ h => h) (by rfl) (fun _ => by kernel_rfl) ?_
          simp only [Act.put, List.setIfInBounds_toArray, List.set_cons_zero, List.set_cons_succ]
          refine wa_take 4 (some 39) (.int .i64 (i : Int)) rfl rfl (by kernel_rfl) (by kernel_rfl) (by kernel_rfl) (fun _ _ _ h => h) (by rfl) (fun _ => by kernel_rfl) ?_
          simp only [Act.put, List.setIfInBounds_toArray, List.set_cons_zero, List.set_cons_succ]
          refine wa_take 5 (some 40) (.int .i64 (p : Int)) rfl rfl (by kernel_rfl) (by kernel_rfl) (by kernel_rfl) (fun _ _ _ h => h) (by rfl) (fun _ => by first | (go_simp; done) | (go_simp; rfl)) ?_
          simp only [Act.put, List.setIfInBounds_toArray, List.set_cons_zero, List.set_cons_succ]
          refine wa_take 6 (some 41) (.string E2) rfl rfl (by kernel_rfl) (by kernel_rfl) (by kernel_rfl) (fun _ _ _ h => h) (by rfl) (fun _ => by first | (go_simp; done) | (go_simp; rfl)) ?_
          simp only [Act.put, List.setIfInBounds_toArray, List.set_cons_zero, List.set_cons_succ]
          refine wa_take 7 (some 42) (.string (X ++ E2)) rfl rfl (by kernel_rfl) (by kernel_rfl) (by kernel_rfl) (fun _ _ _ h => h) (by rfl) (fun _ => by first | (go_simp; done) | (go_simp; rfl)) ?_
          simp only [Act.put, List.setIfInBounds_toArray, List.set_cons_zero, List.set_cons_succ]
          refine wa_take 8 (some 1) (.string (X ++ E2)) rfl rfl (by kernel_rfl) (by kernel_rfl) (by kernel_rfl) (fun _ _ _ h => h) (by rfl) (fun _ => by first | (go_simp; done) | (go_simp; rfl)) ?_
          simp only [Act.put, List.setIfInBounds_toArray, List.set_cons_zero, List.set_cons_succ]
          refine wa_done (by kernel_rfl) ?_
          have Y : Hid (k ≤ 2 ∧ (X ++ E2).size + k ≤ t.size + 2) := by have h1 := HE.out; have h2 := HB1.out; have h3 := hk.out; unfold Hid; rw [ByteArray.size_append]; omega
          have Y2 : Hid (∃ M', M' + 6 * k ≤ m + 14 ∧ Cur w5 g a n cap B M' ∧ Aft B g w w5) := ⟨M + 2 + 2 + 2, by have := HM.out; omega, C5, HA5.out⟩
          clear hi1 hi2 hi3 hi4 hi5 hwi z1 z2 z3 z4
          go_wp2
          go_roundw
          case rel => exact ⟨k, X ++ E2, rfl, congrArg (Value.int .i64) HWK.out.1, Y, Y2⟩
          case measure => exact HWK.out.2
      · have hs1 : ¬ (0 : Int) < (s.size : Int) := by omega
        have HZ : Hid (s.size ≤ t.size + 2) := by unfold Hid; have := hk.out; omega
        clear hs0
        go_wp2
        go_ret
        exact ⟨s, HZ.out, rfl, C.more (by have := HM.out; omega), HA.out⟩
    · have HZ : Hid (s.size ≤ t.size + 2) := by unfold Hid; have := hk.out; omega
      go_wp2
      go_ret
      exact ⟨s, HZ.out, rfl, C.more (by have := HM.out; omega), HA.out⟩

end Go.Proofs.YtpmfihnhcgmjfaaDoor
