/-
  A text taken up out of a memory: the specification's side. (Made by a generator.)
-/
import Derived.Test.YtgepplddhmgifaaDoorLX2
namespace Go.Proofs.YtgepplddhmgifaaDoor
open Go.ChangeShapes Go.WideShapes Go.ChangeAt Go.RowKit Go.PlainAid

theorem okL_in {L : List Int} (h : okL L = true) : L.length ≤ 300 ∧ ∀ x ∈ L, 0 ≤ x ∧ x < 2097152 := by
  refine ⟨okL_len h, fun x hx => ?_⟩
  have h2 := okAll_of h
  obtain ⟨i, hi, rfl⟩ := List.getElem_of_mem hx
  have := h2.2 i hi
  omega
/-- What is encoded of what was told. -/
theorem specDecodeY (s : ByteArray) (hs : s.size ≤ 1048576) (w : World) :
    Calls Tryd.prog 27 #[.string s, .int .i64 3] w fun e w' => ∃ (a : Option Addr) (n c : Nat) (b : Bool), e = .returned (.tuple #[.slice a n c, .bool b]) ∧ Below w.heap.size w w' := by
  refine (specDecodeX s 3 hs w).mono ?_
  rintro e w1 ⟨⟨L, v, _, rfl, ho⟩ | ⟨_, L, v, rfl, ho, _, _⟩, hb⟩
  · obtain ⟨a, cap, rfl, _⟩ := ints_of_row ho
    exact ⟨_, _, _, _, rfl, hb⟩
  · obtain ⟨a, cap, rfl, _⟩ := ints_of_row ho
    exact ⟨_, _, _, _, rfl, hb⟩

set_option maxRecDepth 2000000 in
set_option maxHeartbeats 1600000 in
theorem specLift1 (M : Int) (D : ByteArray) (at' count : Int) (hD : D.size ≤ 1048576) (h0 : 0 ≤ at') (h1 : at' ≤ 4294967295) (c0 : 0 ≤ count) (c1 : count ≤ 4294967295)  (w : World) :
    Calls Tryd.prog 35 #[.agg #[.int .i64 M, .string D], .int .i64 at', .int .i64 count, .int .i64 1] w fun e w' => e = .returned (.tuple #[.string (txIn D at' count 1).1, .int .i64 (txIn D at' count 1).2]) ∧ Below w.heap.size w w' := by
  have hsz := txSz_in (code := 1) c0 c1
  have hze : txSz count 1 = count := by unfold txSz; rw [if_pos rfl]
  have hwe : txWide count 1 = false := by unfold txWide; rw [if_pos rfl]
  have hae : txAl 1 = 1 := rfl
  obtain ⟨A, hA⟩ : ∃ A : Nat, at' = (A : Int) := ⟨at'.toNat, by omega⟩
  obtain ⟨Z, hZ⟩ : ∃ Z : Nat, txSz count 1 = (Z : Int) := ⟨(txSz count 1).toNat, by omega⟩
  obtain ⟨n, hn⟩ : ∃ n : Int, (D.size : Int) = n := ⟨_, rfl⟩
  have LI := l5Inside M D n hn (by omega) (A : Int) (Z : Int) (by omega) (by omega) (by omega)
  obtain ⟨F, hF⟩ : ∃ F, decide ((Z : Int) ≤ n - (A : Int)) = F := ⟨_, rfl⟩
  obtain ⟨m, hm⟩ : ∃ m, (A : Int) % 1 = m := ⟨_, rfl⟩
  obtain ⟨B, hB⟩ : ∃ B, decide (m = 0) = B := ⟨_, rfl⟩
  have t1 : (A : Int).tmod 1 = m := by rw [← hm]; exact Int.tmod_eq_emod_of_nonneg (by omega)
  have hmb : (m == 0) = B := by rw [← hB]; by_cases h : m = 0 <;> simp [h]
  have hmn : (m != 0) = !B := by unfold bne; rw [hmb]
  have hfit : F = true → A + Z ≤ D.size := fun h => by rw [h] at hF; simp at hF; omega
  have HX : Hid (txIn D at' count 1 = if (B && F) = true then txOut (txPts 1 false (D.extract A (A + Z))) else (⟨#[]⟩, 3)) := by
    unfold Hid txIn txFits
    rw [hwe, hae, hA, hZ, hn, hF, hm, hB]
    simp
  rw [HX.out]
  rw [hF] at LI
  rw [hze] at hZ
  subst hA
  have v0 : wrap64 ((A : Int) + (Z : Int)) = (A : Int) + (Z : Int) := by unfold wrap64; omega
  subst hZ
  clear hF hB hm HX hsz h0 h1 c0 c1 hze hwe hae hmb
  obtain ⟨g, hgs⟩ : ∃ g, w.heap.size = g := ⟨_, rfl⟩
  cases B with
  | false =>
    simp only [Bool.false_and, Bool.false_eq_true, if_false]
    clear hfit v0 LI hn
    go_enter Tryd.func35, Tryd.ntmps35
    go_wp2
    go_ret2
    refine ⟨rfl, ?_⟩
    (repeat (first | refine Below.alloc ?_ (by first | (simp; done) | (simp; omega)) _ | refine Below.setCell ?_ (by first | (simp; done) | (simp; omega)) _ | refine bel_dN ?_ _ | refine Below.drew ?_ | exact Below.refl _ _))
  | true =>
    simp only [Bool.true_and]
    cases F with
    | false =>
      simp only [Bool.false_eq_true, if_false]
      clear hfit v0
      go_enter Tryd.func35, Tryd.ntmps35
      go_wp2_with fail
      refine (LI _).mono ?_
      rintro e w1 ⟨rfl, B1⟩
      have hB1 : Below w.heap.size w w1 := by ((repeat (first | refine bel_alloc ?_ _ | refine bel_dN ?_ _ | refine Below.drew ?_ | refine Below.setCell ?_ (by first | (simp; done) | (simp; omega)) _)); refine bel_step ?_ B1; (repeat (first | refine bel_alloc ?_ _ | refine bel_dN ?_ _ | refine Below.drew ?_ | refine Below.setCell ?_ (by first | (simp; done) | (simp; omega)) _)); exact Below.refl _ _)
      clear LI B1
      go_wp2
      go_ret2
      exact ⟨rfl, hB1⟩
    | true =>
      simp only [if_true]
      have hf := hfit rfl
      have hsl := slice_mem (P := Tryd.prog) 9 Tryd.underlying9 D A Z hf
      have hbs : (D.extract A (A + Z)).size ≤ 1048576 := by simp only [ByteArray.size_extract]; omega
      have HOK : Hid (∀ L, txPts 1 false (D.extract A (A + Z)) = some L → okL L = true) := fun L h => txPts_ok h
      have HP := specDecodeX (D.extract A (A + Z)) 1 hbs
      rw [show gd 1 (D.extract A (A + Z)) = txPts 1 false (D.extract A (A + Z)) from rfl] at HP
      generalize D.extract A (A + Z) = X at *
      generalize txPts 1 false X = R at *
      clear hfit hf hbs hD
      obtain ⟨Y, c, hYc⟩ : ∃ Y c, txOut R = (Y, c) := ⟨_, _, rfl⟩
      rw [hYc]
      have HY : Hid (txOut R = (Y, c)) := hYc
      clear hYc
      go_enter Tryd.func35, Tryd.ntmps35
      go_wp2_with fail
      refine (LI _).mono ?_
      rintro e w1 ⟨rfl, B1⟩
      have hs1 := B1.size
      simp at hs1
      have q1 : w1.cell? ⟨g, 1, none⟩ = some (.string D) := keepCell B1 (by simp; omega) (newCell (by omega) rfl)
      have hB1 : Below w.heap.size w w1 := by ((repeat (first | refine bel_alloc ?_ _ | refine bel_dN ?_ _ | refine Below.drew ?_ | refine Below.setCell ?_ (by first | (simp; done) | (simp; omega)) _)); refine bel_step ?_ B1; (repeat (first | refine bel_alloc ?_ _ | refine bel_dN ?_ _ | refine Below.drew ?_ | refine Below.setCell ?_ (by first | (simp; done) | (simp; omega)) _)); exact Below.refl _ _)
      clear LI B1
      go_wp2_with fail
      refine (HP _).mono ?_
      rintro e w3 ⟨⟨L, v, hg, rfl, ho⟩ | ⟨hg, L, v, rfl, ho, hl3, hx3⟩, hb⟩
      · obtain ⟨a, cap, rfl, hI⟩ := ints_of_row ho
        obtain ⟨hl3, hx3⟩ := okL_in (HOK.out L hg)
        have HB3 := bel_stepK hB1 hb
        clear HP hb q1
        have HE := specEncodeX a cap L w3 hI hl3 hx3
        rw [enc1R] at HE
        have HY2 : Hid ((if (encL 1 L).length ≤ 200 then ((⟨(encL 1 L).toArray⟩ : ByteArray), (0 : Int)) else (⟨#[]⟩, 4)) = (Y, c)) := by have := HY.out; rw [hg] at this; exact this
        have hls : (ByteArray.mk (encL 1 L).toArray).size = (encL 1 L).length := utf_len _
        generalize encL 1 L = E at *
        obtain ⟨S, hS⟩ : ∃ S, ByteArray.mk E.toArray = S := ⟨_, rfl⟩
        rw [hS] at HE HY2 hls
        clear hg ho hI HY HOK hS
        by_cases hl : E.length ≤ 200
        · have hl' : ¬ (200 : Int) < (S.size : Int) := by omega
          have h3 := HY2.out
          rw [if_pos hl] at h3
          obtain ⟨h4, h5⟩ := Prod.mk.inj h3
          have H6 : Hid (S = Y ∧ 0 = c) := ⟨h4, h5⟩
          clear HY2 h3 h4 h5 hl hls
          go_wp2_with (go_at_call 59; refine HE.mono ?_; rintro e w9 ⟨rfl, hb9⟩; clear HE)
          go_ret2
          exact ⟨by rw [H6.out.1, ← H6.out.2]; rfl, bel_stepK HB3 (by assumption)⟩
        · have hl' : (200 : Int) < (S.size : Int) := by omega
          have h3 := HY2.out
          rw [if_neg hl] at h3
          obtain ⟨h4, h5⟩ := Prod.mk.inj h3
          have H6 : Hid (⟨#[]⟩ = Y ∧ 4 = c) := ⟨h4, h5⟩
          clear HY2 h3 h4 h5 hl hls
          go_wp2_with (go_at_call 59; refine HE.mono ?_; rintro e w9 ⟨rfl, hb9⟩; clear HE)
          go_ret2
          exact ⟨by rw [← H6.out.1, ← H6.out.2]; rfl, bel_stepK HB3 (by assumption)⟩
      · obtain ⟨a, cap, rfl, hI⟩ := ints_of_row ho
        have HB3 := bel_stepK hB1 hb
        clear HP hb q1
        have HE := specEncodeX a cap L w3 hI hl3 hx3
        rw [enc1R] at HE
        have h3 := HY.out
        rw [hg] at h3
        obtain ⟨h4, h5⟩ := Prod.mk.inj (show ((⟨#[]⟩ : ByteArray), (4 : Int)) = (Y, c) from h3)
        have H6 : Hid (⟨#[]⟩ = Y ∧ 4 = c) := ⟨h4, h5⟩
        clear hg ho hI HY HOK h3 h4 h5
        go_wp2_with (go_at_call 59; refine HE.mono ?_; rintro e w9 ⟨rfl, hb9⟩; clear HE)
        go_ret2
        exact ⟨by rw [← H6.out.1, ← H6.out.2]; rfl, bel_stepK HB3 (by assumption)⟩

set_option maxRecDepth 2000000 in
set_option maxHeartbeats 1600000 in
theorem specLift2 (M : Int) (D : ByteArray) (at' count : Int) (hD : D.size ≤ 1048576) (h0 : 0 ≤ at') (h1 : at' ≤ 4294967295) (c0 : 0 ≤ count) (c1 : count ≤ 4294967295)  (w : World) :
    Calls Tryd.prog 35 #[.agg #[.int .i64 M, .string D], .int .i64 at', .int .i64 count, .int .i64 2] w fun e w' => e = .returned (.tuple #[.string (txIn D at' count 2).1, .int .i64 (txIn D at' count 2).2]) ∧ Below w.heap.size w w' := by
  have hsz := txSz_in (code := 2) c0 c1
  have hze : txSz count 2 = count * 2 := by unfold txSz; rw [if_neg (by omega), if_pos rfl]
  have hwe : txWide count 2 = false := by unfold txWide; rw [if_neg (by omega), if_pos rfl]
  have hae : txAl 2 = 2 := rfl
  obtain ⟨A, hA⟩ : ∃ A : Nat, at' = (A : Int) := ⟨at'.toNat, by omega⟩
  obtain ⟨Z, hZ⟩ : ∃ Z : Nat, txSz count 2 = (Z : Int) := ⟨(txSz count 2).toNat, by omega⟩
  obtain ⟨n, hn⟩ : ∃ n : Int, (D.size : Int) = n := ⟨_, rfl⟩
  have LI := l5Inside M D n hn (by omega) (A : Int) (Z : Int) (by omega) (by omega) (by omega)
  obtain ⟨F, hF⟩ : ∃ F, decide ((Z : Int) ≤ n - (A : Int)) = F := ⟨_, rfl⟩
  obtain ⟨m, hm⟩ : ∃ m, (A : Int) % 2 = m := ⟨_, rfl⟩
  obtain ⟨B, hB⟩ : ∃ B, decide (m = 0) = B := ⟨_, rfl⟩
  have t1 : (A : Int).tmod 2 = m := by rw [← hm]; exact Int.tmod_eq_emod_of_nonneg (by omega)
  have hmb : (m == 0) = B := by rw [← hB]; by_cases h : m = 0 <;> simp [h]
  have hmn : (m != 0) = !B := by unfold bne; rw [hmb]
  have hfit : F = true → A + Z ≤ D.size := fun h => by rw [h] at hF; simp at hF; omega
  have HX : Hid (txIn D at' count 2 = if (B && F) = true then txOut (txPts 2 false (D.extract A (A + Z))) else (⟨#[]⟩, 3)) := by
    unfold Hid txIn txFits
    rw [hwe, hae, hA, hZ, hn, hF, hm, hB]
    simp
  rw [HX.out]
  rw [hF] at LI
  rw [hze] at hZ
  subst hA
  have v0 : wrap64 ((A : Int) + (Z : Int)) = (A : Int) + (Z : Int) := by unfold wrap64; omega
  have v1 : wrap64 (2 * count) = (Z : Int) := by unfold wrap64; omega
  clear hZ
  clear hF hB hm HX hsz h0 h1 c0 c1 hze hwe hae hmb
  obtain ⟨g, hgs⟩ : ∃ g, w.heap.size = g := ⟨_, rfl⟩
  cases B with
  | false =>
    simp only [Bool.false_and, Bool.false_eq_true, if_false]
    clear hfit v0 LI hn
    go_enter Tryd.func35, Tryd.ntmps35
    go_wp2
    go_ret2
    refine ⟨rfl, ?_⟩
    (repeat (first | refine Below.alloc ?_ (by first | (simp; done) | (simp; omega)) _ | refine Below.setCell ?_ (by first | (simp; done) | (simp; omega)) _ | refine bel_dN ?_ _ | refine Below.drew ?_ | exact Below.refl _ _))
  | true =>
    simp only [Bool.true_and]
    cases F with
    | false =>
      simp only [Bool.false_eq_true, if_false]
      clear hfit v0
      go_enter Tryd.func35, Tryd.ntmps35
      go_wp2_with fail
      refine (LI _).mono ?_
      rintro e w1 ⟨rfl, B1⟩
      have hB1 : Below w.heap.size w w1 := by ((repeat (first | refine bel_alloc ?_ _ | refine bel_dN ?_ _ | refine Below.drew ?_ | refine Below.setCell ?_ (by first | (simp; done) | (simp; omega)) _)); refine bel_step ?_ B1; (repeat (first | refine bel_alloc ?_ _ | refine bel_dN ?_ _ | refine Below.drew ?_ | refine Below.setCell ?_ (by first | (simp; done) | (simp; omega)) _)); exact Below.refl _ _)
      clear LI B1
      go_wp2
      go_ret2
      exact ⟨rfl, hB1⟩
    | true =>
      simp only [if_true]
      have hf := hfit rfl
      have hsl := slice_mem (P := Tryd.prog) 9 Tryd.underlying9 D A Z hf
      have hbs : (D.extract A (A + Z)).size ≤ 1048576 := by simp only [ByteArray.size_extract]; omega
      have HOK : Hid (∀ L, txPts 2 false (D.extract A (A + Z)) = some L → okL L = true) := fun L h => txPts_ok h
      have HP := specDecodeX (D.extract A (A + Z)) 2 hbs
      rw [show gd 2 (D.extract A (A + Z)) = txPts 2 false (D.extract A (A + Z)) from rfl] at HP
      generalize D.extract A (A + Z) = X at *
      generalize txPts 2 false X = R at *
      clear hfit hf hbs hD
      obtain ⟨Y, c, hYc⟩ : ∃ Y c, txOut R = (Y, c) := ⟨_, _, rfl⟩
      rw [hYc]
      have HY : Hid (txOut R = (Y, c)) := hYc
      clear hYc
      go_enter Tryd.func35, Tryd.ntmps35
      go_wp2_with fail
      refine (LI _).mono ?_
      rintro e w1 ⟨rfl, B1⟩
      have hs1 := B1.size
      simp at hs1
      have q1 : w1.cell? ⟨g, 1, none⟩ = some (.string D) := keepCell B1 (by simp; omega) (newCell (by omega) rfl)
      have hB1 : Below w.heap.size w w1 := by ((repeat (first | refine bel_alloc ?_ _ | refine bel_dN ?_ _ | refine Below.drew ?_ | refine Below.setCell ?_ (by first | (simp; done) | (simp; omega)) _)); refine bel_step ?_ B1; (repeat (first | refine bel_alloc ?_ _ | refine bel_dN ?_ _ | refine Below.drew ?_ | refine Below.setCell ?_ (by first | (simp; done) | (simp; omega)) _)); exact Below.refl _ _)
      clear LI B1
      go_wp2_with fail
      refine (HP _).mono ?_
      rintro e w3 ⟨⟨L, v, hg, rfl, ho⟩ | ⟨hg, L, v, rfl, ho, hl3, hx3⟩, hb⟩
      · obtain ⟨a, cap, rfl, hI⟩ := ints_of_row ho
        obtain ⟨hl3, hx3⟩ := okL_in (HOK.out L hg)
        have HB3 := bel_stepK hB1 hb
        clear HP hb q1
        have HE := specEncodeX a cap L w3 hI hl3 hx3
        rw [enc1R] at HE
        have HY2 : Hid ((if (encL 1 L).length ≤ 200 then ((⟨(encL 1 L).toArray⟩ : ByteArray), (0 : Int)) else (⟨#[]⟩, 4)) = (Y, c)) := by have := HY.out; rw [hg] at this; exact this
        have hls : (ByteArray.mk (encL 1 L).toArray).size = (encL 1 L).length := utf_len _
        generalize encL 1 L = E at *
        obtain ⟨S, hS⟩ : ∃ S, ByteArray.mk E.toArray = S := ⟨_, rfl⟩
        rw [hS] at HE HY2 hls
        clear hg ho hI HY HOK hS
        by_cases hl : E.length ≤ 200
        · have hl' : ¬ (200 : Int) < (S.size : Int) := by omega
          have h3 := HY2.out
          rw [if_pos hl] at h3
          obtain ⟨h4, h5⟩ := Prod.mk.inj h3
          have H6 : Hid (S = Y ∧ 0 = c) := ⟨h4, h5⟩
          clear HY2 h3 h4 h5 hl hls
          go_wp2_with (go_at_call 59; refine HE.mono ?_; rintro e w9 ⟨rfl, hb9⟩; clear HE)
          go_ret2
          exact ⟨by rw [H6.out.1, ← H6.out.2]; rfl, bel_stepK HB3 (by assumption)⟩
        · have hl' : (200 : Int) < (S.size : Int) := by omega
          have h3 := HY2.out
          rw [if_neg hl] at h3
          obtain ⟨h4, h5⟩ := Prod.mk.inj h3
          have H6 : Hid (⟨#[]⟩ = Y ∧ 4 = c) := ⟨h4, h5⟩
          clear HY2 h3 h4 h5 hl hls
          go_wp2_with (go_at_call 59; refine HE.mono ?_; rintro e w9 ⟨rfl, hb9⟩; clear HE)
          go_ret2
          exact ⟨by rw [← H6.out.1, ← H6.out.2]; rfl, bel_stepK HB3 (by assumption)⟩
      · obtain ⟨a, cap, rfl, hI⟩ := ints_of_row ho
        have HB3 := bel_stepK hB1 hb
        clear HP hb q1
        have HE := specEncodeX a cap L w3 hI hl3 hx3
        rw [enc1R] at HE
        have h3 := HY.out
        rw [hg] at h3
        obtain ⟨h4, h5⟩ := Prod.mk.inj (show ((⟨#[]⟩ : ByteArray), (4 : Int)) = (Y, c) from h3)
        have H6 : Hid (⟨#[]⟩ = Y ∧ 4 = c) := ⟨h4, h5⟩
        clear hg ho hI HY HOK h3 h4 h5
        go_wp2_with (go_at_call 59; refine HE.mono ?_; rintro e w9 ⟨rfl, hb9⟩; clear HE)
        go_ret2
        exact ⟨by rw [← H6.out.1, ← H6.out.2]; rfl, bel_stepK HB3 (by assumption)⟩

set_option maxRecDepth 2000000 in
set_option maxHeartbeats 1600000 in
theorem specLift3w (M : Int) (D : ByteArray) (at' count : Int) (hD : D.size ≤ 1048576) (h0 : 0 ≤ at') (h1 : at' ≤ 4294967295) (c0 : 0 ≤ count) (c1 : count ≤ 4294967295) (hw : 2147483648 ≤ count) (w : World) :
    Calls Tryd.prog 35 #[.agg #[.int .i64 M, .string D], .int .i64 at', .int .i64 count, .int .i64 3] w fun e w' => e = .returned (.tuple #[.string (txIn D at' count 3).1, .int .i64 (txIn D at' count 3).2]) ∧ Below w.heap.size w w' := by
  have hsz := txSz_in (code := 3) c0 c1
  have hze : txSz count 3 = (count - 2147483648) * 2 := by unfold txSz; rw [if_neg (by omega), if_neg (by omega), if_pos hw]
  have hwe : txWide count 3 = true := by unfold txWide; rw [if_neg (by omega), if_neg (by omega)]; simpa using hw
  have hae : txAl 3 = 2 := rfl
  obtain ⟨A, hA⟩ : ∃ A : Nat, at' = (A : Int) := ⟨at'.toNat, by omega⟩
  obtain ⟨Z, hZ⟩ : ∃ Z : Nat, txSz count 3 = (Z : Int) := ⟨(txSz count 3).toNat, by omega⟩
  obtain ⟨n, hn⟩ : ∃ n : Int, (D.size : Int) = n := ⟨_, rfl⟩
  have LI := l5Inside M D n hn (by omega) (A : Int) (Z : Int) (by omega) (by omega) (by omega)
  obtain ⟨F, hF⟩ : ∃ F, decide ((Z : Int) ≤ n - (A : Int)) = F := ⟨_, rfl⟩
  obtain ⟨m, hm⟩ : ∃ m, (A : Int) % 2 = m := ⟨_, rfl⟩
  obtain ⟨B, hB⟩ : ∃ B, decide (m = 0) = B := ⟨_, rfl⟩
  have t1 : (A : Int).tmod 2 = m := by rw [← hm]; exact Int.tmod_eq_emod_of_nonneg (by omega)
  have hmb : (m == 0) = B := by rw [← hB]; by_cases h : m = 0 <;> simp [h]
  have hmn : (m != 0) = !B := by unfold bne; rw [hmb]
  have hfit : F = true → A + Z ≤ D.size := fun h => by rw [h] at hF; simp at hF; omega
  have HX : Hid (txIn D at' count 3 = if (B && F) = true then txOut (txPts 3 true (D.extract A (A + Z))) else (⟨#[]⟩, 3)) := by
    unfold Hid txIn txFits
    rw [hwe, hae, hA, hZ, hn, hF, hm, hB]
    simp
  rw [HX.out]
  rw [hF] at LI
  rw [hze] at hZ
  subst hA
  have v0 : wrap64 ((A : Int) + (Z : Int)) = (A : Int) + (Z : Int) := by unfold wrap64; omega
  have v1 : wrap64 (count - 2147483648) = count - 2147483648 := by unfold wrap64; omega
  have v2 : wrap64 (2 * (count - 2147483648)) = (Z : Int) := by unfold wrap64; omega
  have d1 : decide (2147483648 ≤ count) = true := by simpa using hw
  clear hZ hw
  clear hF hB hm HX hsz h0 h1 c0 c1 hze hwe hae hmb
  obtain ⟨g, hgs⟩ : ∃ g, w.heap.size = g := ⟨_, rfl⟩
  cases B with
  | false =>
    simp only [Bool.false_and, Bool.false_eq_true, if_false]
    clear hfit v0 LI hn
    go_enter Tryd.func35, Tryd.ntmps35
    go_wp2
    go_ret2
    refine ⟨rfl, ?_⟩
    (repeat (first | refine Below.alloc ?_ (by first | (simp; done) | (simp; omega)) _ | refine Below.setCell ?_ (by first | (simp; done) | (simp; omega)) _ | refine bel_dN ?_ _ | refine Below.drew ?_ | exact Below.refl _ _))
  | true =>
    simp only [Bool.true_and]
    cases F with
    | false =>
      simp only [Bool.false_eq_true, if_false]
      clear hfit v0
      go_enter Tryd.func35, Tryd.ntmps35
      go_wp2_with fail
      refine (LI _).mono ?_
      rintro e w1 ⟨rfl, B1⟩
      have hB1 : Below w.heap.size w w1 := by ((repeat (first | refine bel_alloc ?_ _ | refine bel_dN ?_ _ | refine Below.drew ?_ | refine Below.setCell ?_ (by first | (simp; done) | (simp; omega)) _)); refine bel_step ?_ B1; (repeat (first | refine bel_alloc ?_ _ | refine bel_dN ?_ _ | refine Below.drew ?_ | refine Below.setCell ?_ (by first | (simp; done) | (simp; omega)) _)); exact Below.refl _ _)
      clear LI B1
      go_wp2
      go_ret2
      exact ⟨rfl, hB1⟩
    | true =>
      simp only [if_true]
      have hf := hfit rfl
      have hsl := slice_mem (P := Tryd.prog) 9 Tryd.underlying9 D A Z hf
      have hbs : (D.extract A (A + Z)).size ≤ 1048576 := by simp only [ByteArray.size_extract]; omega
      have HOK : Hid (∀ L, txPts 3 true (D.extract A (A + Z)) = some L → okL L = true) := fun L h => txPts_ok h
      have HP := specDecodeY (D.extract A (A + Z)) hbs
      have HQ := specCompactPoints (D.extract A (A + Z)) true hbs
      rw [show cpF true (D.extract A (A + Z)) = txPts 3 true (D.extract A (A + Z)) from rfl] at HQ
      generalize D.extract A (A + Z) = X at *
      generalize txPts 3 true X = R at *
      clear hfit hf hbs hD
      obtain ⟨Y, c, hYc⟩ : ∃ Y c, txOut R = (Y, c) := ⟨_, _, rfl⟩
      rw [hYc]
      have HY : Hid (txOut R = (Y, c)) := hYc
      clear hYc
      go_enter Tryd.func35, Tryd.ntmps35
      go_wp2_with fail
      refine (LI _).mono ?_
      rintro e w1 ⟨rfl, B1⟩
      have hs1 := B1.size
      simp at hs1
      have q1 : w1.cell? ⟨g, 1, none⟩ = some (.string D) := keepCell B1 (by simp; omega) (newCell (by omega) rfl)
      have hB1 : Below w.heap.size w w1 := by ((repeat (first | refine bel_alloc ?_ _ | refine bel_dN ?_ _ | refine Below.drew ?_ | refine Below.setCell ?_ (by first | (simp; done) | (simp; omega)) _)); refine bel_step ?_ B1; (repeat (first | refine bel_alloc ?_ _ | refine bel_dN ?_ _ | refine Below.drew ?_ | refine Below.setCell ?_ (by first | (simp; done) | (simp; omega)) _)); exact Below.refl _ _)
      clear LI B1
      go_wp2_with fail
      refine (HP _).mono ?_
      rintro e w2 ⟨a0, n0, k0, b0, rfl, hb⟩
      have HB2 := bel_stepK hB1 hb
      clear HP hb q1 hB1
      go_wp2_with fail
      refine (HQ _).mono ?_
      rintro e w3 ⟨⟨L, v, hg, rfl, ho⟩ | ⟨hg, rfl⟩, hb⟩
      · obtain ⟨a, cap, rfl, hI⟩ := ints_of_row ho
        obtain ⟨hl3, hx3⟩ := okL_in (HOK.out L hg)
        have HB3 := bel_stepK HB2 hb
        clear HQ hb
        have HE := specEncodeX a cap L w3 hI hl3 hx3
        rw [enc1R] at HE
        have HY2 : Hid ((if (encL 1 L).length ≤ 200 then ((⟨(encL 1 L).toArray⟩ : ByteArray), (0 : Int)) else (⟨#[]⟩, 4)) = (Y, c)) := by have := HY.out; rw [hg] at this; exact this
        have hls : (ByteArray.mk (encL 1 L).toArray).size = (encL 1 L).length := utf_len _
        generalize encL 1 L = E at *
        obtain ⟨S, hS⟩ : ∃ S, ByteArray.mk E.toArray = S := ⟨_, rfl⟩
        rw [hS] at HE HY2 hls
        clear hg ho hI HY HOK hS
        by_cases hl : E.length ≤ 200
        · have hl' : ¬ (200 : Int) < (S.size : Int) := by omega
          have h3 := HY2.out
          rw [if_pos hl] at h3
          obtain ⟨h4, h5⟩ := Prod.mk.inj h3
          have H6 : Hid (S = Y ∧ 0 = c) := ⟨h4, h5⟩
          clear HY2 h3 h4 h5 hl hls
          go_wp2_with (go_at_call 59; refine HE.mono ?_; rintro e w9 ⟨rfl, hb9⟩; clear HE)
          go_ret2
          exact ⟨by rw [H6.out.1, ← H6.out.2]; rfl, bel_stepK HB3 (by assumption)⟩
        · have hl' : (200 : Int) < (S.size : Int) := by omega
          have h3 := HY2.out
          rw [if_neg hl] at h3
          obtain ⟨h4, h5⟩ := Prod.mk.inj h3
          have H6 : Hid (⟨#[]⟩ = Y ∧ 4 = c) := ⟨h4, h5⟩
          clear HY2 h3 h4 h5 hl hls
          go_wp2_with (go_at_call 59; refine HE.mono ?_; rintro e w9 ⟨rfl, hb9⟩; clear HE)
          go_ret2
          exact ⟨by rw [← H6.out.1, ← H6.out.2]; rfl, bel_stepK HB3 (by assumption)⟩
      · have HB3 := bel_stepK HB2 hb
        clear HQ hb
        obtain ⟨a, ha⟩ : ∃ a : Option Addr, a = none := ⟨_, rfl⟩
        obtain ⟨L, hL0⟩ : ∃ L : List Int, L = [] := ⟨_, rfl⟩
        have HE := specEncodeX none 0 [] w3 (fun h => absurd rfl h) (by simp) (fun x hx => by simp at hx)
        rw [enc1R] at HE
        have h3 := HY.out
        rw [hg] at h3
        obtain ⟨h4, h5⟩ := Prod.mk.inj (show ((⟨#[]⟩ : ByteArray), (4 : Int)) = (Y, c) from h3)
        have H6 : Hid (⟨#[]⟩ = Y ∧ 4 = c) := ⟨h4, h5⟩
        clear hg HY HOK h3 h4 h5
        go_wp2_with (go_at_call 59; refine HE.mono ?_; rintro e w9 ⟨rfl, hb9⟩; clear HE)
        go_ret2
        exact ⟨by rw [← H6.out.1, ← H6.out.2]; rfl, bel_stepK HB3 (by assumption)⟩

set_option maxRecDepth 2000000 in
set_option maxHeartbeats 1600000 in
theorem specLift3n (M : Int) (D : ByteArray) (at' count : Int) (hD : D.size ≤ 1048576) (h0 : 0 ≤ at') (h1 : at' ≤ 4294967295) (c0 : 0 ≤ count) (c1 : count ≤ 4294967295) (hw : ¬ 2147483648 ≤ count) (w : World) :
    Calls Tryd.prog 35 #[.agg #[.int .i64 M, .string D], .int .i64 at', .int .i64 count, .int .i64 3] w fun e w' => e = .returned (.tuple #[.string (txIn D at' count 3).1, .int .i64 (txIn D at' count 3).2]) ∧ Below w.heap.size w w' := by
  have hsz := txSz_in (code := 3) c0 c1
  have hze : txSz count 3 = count := by unfold txSz; rw [if_neg (by omega), if_neg (by omega), if_neg hw]
  have hwe : txWide count 3 = false := by unfold txWide; rw [if_neg (by omega), if_neg (by omega)]; simpa using hw
  have hae : txAl 3 = 2 := rfl
  obtain ⟨A, hA⟩ : ∃ A : Nat, at' = (A : Int) := ⟨at'.toNat, by omega⟩
  obtain ⟨Z, hZ⟩ : ∃ Z : Nat, txSz count 3 = (Z : Int) := ⟨(txSz count 3).toNat, by omega⟩
  obtain ⟨n, hn⟩ : ∃ n : Int, (D.size : Int) = n := ⟨_, rfl⟩
  have LI := l5Inside M D n hn (by omega) (A : Int) (Z : Int) (by omega) (by omega) (by omega)
  obtain ⟨F, hF⟩ : ∃ F, decide ((Z : Int) ≤ n - (A : Int)) = F := ⟨_, rfl⟩
  obtain ⟨m, hm⟩ : ∃ m, (A : Int) % 2 = m := ⟨_, rfl⟩
  obtain ⟨B, hB⟩ : ∃ B, decide (m = 0) = B := ⟨_, rfl⟩
  have t1 : (A : Int).tmod 2 = m := by rw [← hm]; exact Int.tmod_eq_emod_of_nonneg (by omega)
  have hmb : (m == 0) = B := by rw [← hB]; by_cases h : m = 0 <;> simp [h]
  have hmn : (m != 0) = !B := by unfold bne; rw [hmb]
  have hfit : F = true → A + Z ≤ D.size := fun h => by rw [h] at hF; simp at hF; omega
  have HX : Hid (txIn D at' count 3 = if (B && F) = true then txOut (txPts 3 false (D.extract A (A + Z))) else (⟨#[]⟩, 3)) := by
    unfold Hid txIn txFits
    rw [hwe, hae, hA, hZ, hn, hF, hm, hB]
    simp
  rw [HX.out]
  rw [hF] at LI
  rw [hze] at hZ
  subst hA
  have v0 : wrap64 ((A : Int) + (Z : Int)) = (A : Int) + (Z : Int) := by unfold wrap64; omega
  have d1 : decide (2147483648 ≤ count) = false := by simpa using hw
  subst hZ
  clear hw
  clear hF hB hm HX hsz h0 h1 c0 c1 hze hwe hae hmb
  obtain ⟨g, hgs⟩ : ∃ g, w.heap.size = g := ⟨_, rfl⟩
  cases B with
  | false =>
    simp only [Bool.false_and, Bool.false_eq_true, if_false]
    clear hfit v0 LI hn
    go_enter Tryd.func35, Tryd.ntmps35
    go_wp2
    go_ret2
    refine ⟨rfl, ?_⟩
    (repeat (first | refine Below.alloc ?_ (by first | (simp; done) | (simp; omega)) _ | refine Below.setCell ?_ (by first | (simp; done) | (simp; omega)) _ | refine bel_dN ?_ _ | refine Below.drew ?_ | exact Below.refl _ _))
  | true =>
    simp only [Bool.true_and]
    cases F with
    | false =>
      simp only [Bool.false_eq_true, if_false]
      clear hfit v0
      go_enter Tryd.func35, Tryd.ntmps35
      go_wp2_with fail
      refine (LI _).mono ?_
      rintro e w1 ⟨rfl, B1⟩
      have hB1 : Below w.heap.size w w1 := by ((repeat (first | refine bel_alloc ?_ _ | refine bel_dN ?_ _ | refine Below.drew ?_ | refine Below.setCell ?_ (by first | (simp; done) | (simp; omega)) _)); refine bel_step ?_ B1; (repeat (first | refine bel_alloc ?_ _ | refine bel_dN ?_ _ | refine Below.drew ?_ | refine Below.setCell ?_ (by first | (simp; done) | (simp; omega)) _)); exact Below.refl _ _)
      clear LI B1
      go_wp2
      go_ret2
      exact ⟨rfl, hB1⟩
    | true =>
      simp only [if_true]
      have hf := hfit rfl
      have hsl := slice_mem (P := Tryd.prog) 9 Tryd.underlying9 D A Z hf
      have hbs : (D.extract A (A + Z)).size ≤ 1048576 := by simp only [ByteArray.size_extract]; omega
      have HOK : Hid (∀ L, txPts 3 false (D.extract A (A + Z)) = some L → okL L = true) := fun L h => txPts_ok h
      have HP := specDecodeY (D.extract A (A + Z)) hbs
      have HQ := specCompactPoints (D.extract A (A + Z)) false hbs
      rw [show cpF false (D.extract A (A + Z)) = txPts 3 false (D.extract A (A + Z)) from rfl] at HQ
      generalize D.extract A (A + Z) = X at *
      generalize txPts 3 false X = R at *
      clear hfit hf hbs hD
      obtain ⟨Y, c, hYc⟩ : ∃ Y c, txOut R = (Y, c) := ⟨_, _, rfl⟩
      rw [hYc]
      have HY : Hid (txOut R = (Y, c)) := hYc
      clear hYc
      go_enter Tryd.func35, Tryd.ntmps35
      go_wp2_with fail
      refine (LI _).mono ?_
      rintro e w1 ⟨rfl, B1⟩
      have hs1 := B1.size
      simp at hs1
      have q1 : w1.cell? ⟨g, 1, none⟩ = some (.string D) := keepCell B1 (by simp; omega) (newCell (by omega) rfl)
      have hB1 : Below w.heap.size w w1 := by ((repeat (first | refine bel_alloc ?_ _ | refine bel_dN ?_ _ | refine Below.drew ?_ | refine Below.setCell ?_ (by first | (simp; done) | (simp; omega)) _)); refine bel_step ?_ B1; (repeat (first | refine bel_alloc ?_ _ | refine bel_dN ?_ _ | refine Below.drew ?_ | refine Below.setCell ?_ (by first | (simp; done) | (simp; omega)) _)); exact Below.refl _ _)
      clear LI B1
      go_wp2_with fail
      refine (HP _).mono ?_
      rintro e w2 ⟨a0, n0, k0, b0, rfl, hb⟩
      have HB2 := bel_stepK hB1 hb
      clear HP hb q1 hB1
      go_wp2_with fail
      refine (HQ _).mono ?_
      rintro e w3 ⟨⟨L, v, hg, rfl, ho⟩ | ⟨hg, rfl⟩, hb⟩
      · obtain ⟨a, cap, rfl, hI⟩ := ints_of_row ho
        obtain ⟨hl3, hx3⟩ := okL_in (HOK.out L hg)
        have HB3 := bel_stepK HB2 hb
        clear HQ hb
        have HE := specEncodeX a cap L w3 hI hl3 hx3
        rw [enc1R] at HE
        have HY2 : Hid ((if (encL 1 L).length ≤ 200 then ((⟨(encL 1 L).toArray⟩ : ByteArray), (0 : Int)) else (⟨#[]⟩, 4)) = (Y, c)) := by have := HY.out; rw [hg] at this; exact this
        have hls : (ByteArray.mk (encL 1 L).toArray).size = (encL 1 L).length := utf_len _
        generalize encL 1 L = E at *
        obtain ⟨S, hS⟩ : ∃ S, ByteArray.mk E.toArray = S := ⟨_, rfl⟩
        rw [hS] at HE HY2 hls
        clear hg ho hI HY HOK hS
        by_cases hl : E.length ≤ 200
        · have hl' : ¬ (200 : Int) < (S.size : Int) := by omega
          have h3 := HY2.out
          rw [if_pos hl] at h3
          obtain ⟨h4, h5⟩ := Prod.mk.inj h3
          have H6 : Hid (S = Y ∧ 0 = c) := ⟨h4, h5⟩
          clear HY2 h3 h4 h5 hl hls
          go_wp2_with (go_at_call 59; refine HE.mono ?_; rintro e w9 ⟨rfl, hb9⟩; clear HE)
          go_ret2
          exact ⟨by rw [H6.out.1, ← H6.out.2]; rfl, bel_stepK HB3 (by assumption)⟩
        · have hl' : (200 : Int) < (S.size : Int) := by omega
          have h3 := HY2.out
          rw [if_neg hl] at h3
          obtain ⟨h4, h5⟩ := Prod.mk.inj h3
          have H6 : Hid (⟨#[]⟩ = Y ∧ 4 = c) := ⟨h4, h5⟩
          clear HY2 h3 h4 h5 hl hls
          go_wp2_with (go_at_call 59; refine HE.mono ?_; rintro e w9 ⟨rfl, hb9⟩; clear HE)
          go_ret2
          exact ⟨by rw [← H6.out.1, ← H6.out.2]; rfl, bel_stepK HB3 (by assumption)⟩
      · have HB3 := bel_stepK HB2 hb
        clear HQ hb
        obtain ⟨a, ha⟩ : ∃ a : Option Addr, a = none := ⟨_, rfl⟩
        obtain ⟨L, hL0⟩ : ∃ L : List Int, L = [] := ⟨_, rfl⟩
        have HE := specEncodeX none 0 [] w3 (fun h => absurd rfl h) (by simp) (fun x hx => by simp at hx)
        rw [enc1R] at HE
        have h3 := HY.out
        rw [hg] at h3
        obtain ⟨h4, h5⟩ := Prod.mk.inj (show ((⟨#[]⟩ : ByteArray), (4 : Int)) = (Y, c) from h3)
        have H6 : Hid (⟨#[]⟩ = Y ∧ 4 = c) := ⟨h4, h5⟩
        clear hg HY HOK h3 h4 h5
        go_wp2_with (go_at_call 59; refine HE.mono ?_; rintro e w9 ⟨rfl, hb9⟩; clear HE)
        go_ret2
        exact ⟨by rw [← H6.out.1, ← H6.out.2]; rfl, bel_stepK HB3 (by assumption)⟩

theorem specLift (M : Int) (D : ByteArray) (at' count code : Int) (hD : D.size ≤ 1048576) (h0 : 0 ≤ at') (h1 : at' ≤ 4294967295) (c0 : 0 ≤ count) (c1 : count ≤ 4294967295) (hc : 1 ≤ code ∧ code ≤ 3) (w : World) :
    Calls Tryd.prog 35 #[.agg #[.int .i64 M, .string D], .int .i64 at', .int .i64 count, .int .i64 code] w fun e w' => e = .returned (.tuple #[.string (txIn D at' count code).1, .int .i64 (txIn D at' count code).2]) ∧ Below w.heap.size w w' := by
  obtain rfl | rfl | rfl : code = 1 ∨ code = 2 ∨ code = 3 := by omega
  · exact specLift1 M D at' count hD h0 h1 c0 c1 w
  · exact specLift2 M D at' count hD h0 h1 c0 c1 w
  · by_cases hw : 2147483648 ≤ count
    · exact specLift3w M D at' count hD h0 h1 c0 c1 hw w
    · exact specLift3n M D at' count hD h0 h1 c0 c1 hw w

end Go.Proofs.YtgepplddhmgifaaDoor
