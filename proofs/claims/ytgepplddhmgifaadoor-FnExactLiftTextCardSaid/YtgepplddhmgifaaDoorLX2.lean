/-
  A text taken up out of a memory: the model, and the program's side. (Made by a generator.)
-/
import Derived.Test.YtgepplddhmgifaaDoorLX1
import Derived.Test.YtgepplddhmgifaaDoorEncLaw
import Derived.Test.YtgepplddhmgifaaDoorHT2
namespace Go.Proofs.YtgepplddhmgifaaDoor
open Go.ChangeShapes Go.WideShapes Go.ChangeAt Go.RowKit Go.PlainAid

def txSz (count code : Int) : Int := if code = 1 then count else if code = 2 then count * 2 else if 2147483648 ≤ count then (count - 2147483648) * 2 else count
def txWide (count code : Int) : Bool := if code = 1 then false else if code = 2 then false else decide (2147483648 ≤ count)
def txAl (code : Int) : Int := if code = 1 then 1 else 2
def txPts (code : Int) (wide : Bool) (b : ByteArray) : Option (List Int) := if code = 3 then cpF wide b else gd code b
def txOut (r : Option (List Int)) : ByteArray × Int := match r with
  | none => (⟨#[]⟩, 4)
  | some L => if (encL 1 L).length ≤ 200 then (⟨(encL 1 L).toArray⟩, 0) else (⟨#[]⟩, 4)
def txFits (D : ByteArray) (at' sz al : Int) : Bool := decide (at' % al = 0) && decide (sz ≤ (D.size : Int) - at')
def txIn (D : ByteArray) (at' count code : Int) : ByteArray × Int :=
  if txFits D at' (txSz count code) (txAl code) = true then txOut (txPts code (txWide count code) (D.extract at'.toNat (at'.toNat + (txSz count code).toNat))) else (⟨#[]⟩, 3)

theorem txSz_in {count code : Int} (h0 : 0 ≤ count) (h1 : count ≤ 4294967295) : 0 ≤ txSz count code ∧ txSz count code ≤ 8589934590 := by
  unfold txSz; (repeat' split) <;> omega
theorem txAl_in (code : Int) : txAl code = 1 ∨ txAl code = 2 ∨ txAl code = 4 ∨ txAl code = 8 := by
  unfold txAl; split <;> simp
theorem txPts_ok {code : Int} {wide : Bool} {b : ByteArray} {L : List Int} (h : txPts code wide b = some L) : okL L = true := by
  unfold txPts at h
  split at h
  · unfold cpF at h
    split at h
    · rcases hg : gd 2 b with _ | M
      · rw [hg] at h; simp at h
      · rw [hg] at h
        simp only at h
        split at h
        · simp at h
        · simp at h
          subst h
          exact (gd_some hg).2
    · exact (gd_some h).2
  · exact (gd_some h).2
theorem enc1 {L : List Int} (h : okL L = true) : encF 1 L = .tuple #[.string ⟨(encL 1 L).toArray⟩, .bool true] := by
  rw [encF_yes (by unfold sureC; rw [h]; rfl), encR_yes (by rw [List.all_eq_true]; intro x _; exact fit1 x)]
theorem enc1R (L : List Int) : encR 1 L = .tuple #[.string ⟨(encL 1 L).toArray⟩, .bool true] := encR_yes (by rw [List.all_eq_true]; intro x _; exact fit1 x)
theorem okL_len {L : List Int} (h : okL L = true) : L.length ≤ 300 := (okL_iff.1 h).1

set_option maxRecDepth 2000000 in
set_option maxHeartbeats 1600000 in
theorem implTextSize (count code : Int) (h0 : 0 ≤ count) (h1 : count ≤ 4294967295) (w : World) :
    Calls Tryd.prog 61 #[.int .i64 count, .int .i64 code] w fun e w' => e = .returned (.tuple #[.int .i64 (txSz count code), .bool (txWide count code)]) ∧ w' = w := by
  by_cases c1 : code = 1
  · subst c1
    rw [show txSz count 1 = count by unfold txSz; rw [if_pos rfl], show txWide count 1 = false by unfold txWide; rw [if_pos rfl]]
    go_enter Tryd.func61, Tryd.ntmps61
    go_wp2
    go_ret2
    exact ⟨rfl, rfl⟩
  · have n1 : (code == 1) = false := by rw [beq_eq_false_iff_ne]; exact c1
    by_cases c2 : code = 2
    · subst c2
      have v1 : wrap64 (count * 2) = count * 2 := by unfold wrap64; omega
      rw [show txSz count 2 = count * 2 by unfold txSz; rw [if_neg (by omega), if_pos rfl], show txWide count 2 = false by unfold txWide; rw [if_neg (by omega), if_pos rfl]]
      clear h0 h1
      go_enter Tryd.func61, Tryd.ntmps61
      go_wp2
      go_ret2
      exact ⟨by first | rfl | (rw [v1]; rfl), rfl⟩
    · have n2 : (code == 2) = false := by rw [beq_eq_false_iff_ne]; exact c2
      by_cases c3 : 2147483648 ≤ count
      · have v1 : wrap64 (count - 2147483648) = count - 2147483648 := by unfold wrap64; omega
        have v2 : wrap64 ((count - 2147483648) * 2) = (count - 2147483648) * 2 := by unfold wrap64; omega
        have d : decide (2147483648 ≤ count) = true := by simpa using c3
        rw [show txSz count code = (count - 2147483648) * 2 by unfold txSz; rw [if_neg c1, if_neg c2, if_pos c3], show txWide count code = true by unfold txWide; rw [if_neg c1, if_neg c2, d]]
        clear h0 h1 c3
        go_enter Tryd.func61, Tryd.ntmps61
        go_wp2
        go_ret2
        exact ⟨by first | rfl | (rw [v2]; rfl), rfl⟩
      · have d : decide (2147483648 ≤ count) = false := by simpa using c3
        rw [show txSz count code = count by unfold txSz; rw [if_neg c1, if_neg c2, if_neg c3], show txWide count code = false by unfold txWide; rw [if_neg c1, if_neg c2, d]]
        clear h0 h1 c3
        go_enter Tryd.func61, Tryd.ntmps61
        go_wp2
        go_ret2
        exact ⟨rfl, rfl⟩

theorem implTextAlign (code : Int) (w : World) : Calls Tryd.prog 56 #[.int .i64 code] w fun e w' => e = .returned (.int .i64 (txAl code)) ∧ w' = w := by
  by_cases c1 : code = 1
  · subst c1
    go_enter Tryd.func56, Tryd.ntmps56
    go_wp2
    go_ret
    exact ⟨rfl, rfl⟩
  · have n1 : (code == 1) = false := by rw [beq_eq_false_iff_ne]; exact c1
    rw [show txAl code = 2 by unfold txAl; rw [if_neg c1]]
    go_enter Tryd.func56, Tryd.ntmps56
    go_wp2
    go_ret
    exact ⟨rfl, rfl⟩

set_option maxRecDepth 2000000 in
set_option maxHeartbeats 1600000 in
theorem implLiesIn (D : ByteArray) (at' sz al : Int) (hD : D.size ≤ 1048576) (h0 : 0 ≤ at') (h1 : at' ≤ 9223372036854775807) (hA : al = 1 ∨ al = 2 ∨ al = 4 ∨ al = 8) (w : World) :
    Calls Tryd.prog 62 #[.string D, .int .i64 at', .agg #[.int .i64 sz, .int .i64 al]] w fun e w' => e = .returned (.bool (txFits D at' sz al)) ∧ Below w.heap.size w w' := by
  have HW := within at' sz (D.size : Int) h0 h1 (by omega) (by omega)
  have t1 : at'.tmod al = at' % al := Int.tmod_eq_emod_of_nonneg h0
  have a1 : 1 ≤ al := by omega
  have a2 : (al == 0) = false := by rw [beq_eq_false_iff_ne]; omega
  obtain ⟨n, hn⟩ : ∃ n : Int, (D.size : Int) = n := ⟨_, rfl⟩
  unfold txFits
  rw [hn] at HW ⊢
  have e9 : spIn n (at', sz) = decide (sz ≤ n - at') := rfl
  rw [e9] at HW
  obtain ⟨F, hF⟩ : ∃ F, decide (sz ≤ n - at') = F := ⟨_, rfl⟩
  rw [hF] at HW ⊢
  obtain ⟨m, hm⟩ : ∃ m, at' % al = m := ⟨_, rfl⟩
  rw [hm] at t1 ⊢
  obtain ⟨B, hB⟩ : ∃ B, decide (m = 0) = B := ⟨_, rfl⟩
  rw [hB]
  have hmb : (m == 0) = B := by rw [← hB]; by_cases h : m = 0 <;> simp [h]
  clear hm hF hB h0 h1 hD hA e9
  cases B with
  | false =>
    go_enter Tryd.func62, Tryd.ntmps62
    go_wp2
    go_ret
    refine ⟨rfl, ?_⟩
    (repeat (first | refine Below.alloc ?_ (by first | (simp; done) | (simp; omega)) _ | refine Below.setCell ?_ (by first | (simp; done) | (simp; omega)) _ | refine bel_dN ?_ _ | refine Below.drew ?_ | exact Below.refl _ _))
  | true =>
    go_enter Tryd.func62, Tryd.ntmps62
    go_wp2_with fail
    refine (HW _).mono ?_
    rintro e w1 ⟨rfl, B1⟩
    go_wp2
    go_ret
    refine ⟨rfl, ?_⟩
    ((repeat (first | refine bel_alloc ?_ _ | refine bel_dN ?_ _ | refine Below.drew ?_ | refine Below.setCell ?_ (by first | (simp; done) | (simp; omega)) _)); refine bel_step ?_ B1; (repeat (first | refine bel_alloc ?_ _ | refine bel_dN ?_ _ | refine Below.drew ?_ | refine Below.setCell ?_ (by first | (simp; done) | (simp; omega)) _)); exact Below.refl _ _)

set_option maxRecDepth 2000000 in
set_option maxHeartbeats 1600000 in
theorem implTextPoints (b : ByteArray) (wide : Bool) (code : Int) (hs : b.size ≤ 1048576) (hc : 1 ≤ code ∧ code ≤ 3) (w : World) (hT : UTabs w) :
    Calls Tryd.prog 63 #[.string b, .bool wide, .int .i64 code] w fun e w' => ToldN w w' e (txPts code wide b) := by
  by_cases c3 : code = 3
  · subst c3
    have H0 := implCompactPoints b wide hs w hT
    rw [show txPts 3 wide b = cpF wide b by unfold txPts; rw [if_pos rfl]]
    clear hc
    go_enter Tryd.func63, Tryd.ntmps63
    go_wp2_with fail
    refine H0.mono ?_
    rintro e w1 ⟨⟨L, v, hg, rfl, ho⟩ | ⟨hg, rfl⟩, hb⟩
    · obtain ⟨a, cap, rfl, hI⟩ := ints_of_row ho
      have HG : Hid (cpF wide b = some L) := hg
      have HO : Hid (w1.ownsRow w.heap.size 3 1 (.slice a L.length cap) L.length (iv L)) := ho
      clear H0 hg ho hI
      go_wp2
      go_ret2
      exact ⟨.inl ⟨L, _, HG.out, rfl, HO.out⟩, hb⟩
    · have HG : Hid (cpF wide b = none) := hg
      clear H0 hg
      go_wp2
      go_ret2
      exact ⟨.inr ⟨HG.out, rfl⟩, hb⟩
  · have H0 := implDecodePoints b code hs w hT
    rw [gdF_in hc] at H0
    rw [show txPts code wide b = gd code b by unfold txPts; rw [if_neg c3]]
    have n3 : (code == 3) = false := by rw [beq_eq_false_iff_ne]; exact c3
    clear hc
    go_enter Tryd.func63, Tryd.ntmps63
    go_wp2_with fail
    refine H0.mono ?_
    rintro e w1 ⟨⟨L, v, hg, rfl, ho⟩ | ⟨hg, rfl⟩, hb⟩
    · obtain ⟨a, cap, rfl, hI⟩ := ints_of_row ho
      have HG : Hid (gd code b = some L) := hg
      have HO : Hid (w1.ownsRow w.heap.size 3 1 (.slice a L.length cap) L.length (iv L)) := ho
      clear H0 hg ho hI
      go_wp2
      go_ret2
      exact ⟨.inl ⟨L, _, HG.out, rfl, HO.out⟩, hb⟩
    · have HG : Hid (gd code b = none) := hg
      clear H0 hg
      go_wp2
      go_ret2
      exact ⟨.inr ⟨HG.out, rfl⟩, hb⟩

set_option maxRecDepth 2000000 in
set_option maxHeartbeats 1600000 in
theorem implTextIn (D : ByteArray) (at' count code : Int) (hD : D.size ≤ 1048576) (h0 : 0 ≤ at') (h1 : at' ≤ 4294967295) (c0 : 0 ≤ count) (c1 : count ≤ 4294967295) (hc : 1 ≤ code ∧ code ≤ 3) (w : World) (hT : Hid (UTabs w)) :
    Calls Tryd.prog 38 #[.string D, .int .i64 at', .int .i64 count, .int .i64 code] w fun e w' => e = .returned (.tuple #[.string (txIn D at' count code).1, .int .i64 (txIn D at' count code).2]) ∧ Below w.heap.size w w' := by
  have HS := implTextSize count code c0 c1
  have HA := implTextAlign code
  have HL := implLiesIn D at' (txSz count code) (txAl code) hD h0 (by omega) (txAl_in code)
  have hsz := txSz_in (code := code) c0 c1
  obtain ⟨A, hA⟩ : ∃ A : Nat, at' = (A : Int) := ⟨at'.toNat, by omega⟩
  obtain ⟨Z, hZ⟩ : ∃ Z : Nat, txSz count code = (Z : Int) := ⟨(txSz count code).toNat, by omega⟩
  obtain ⟨F, hF⟩ : ∃ F, txFits D at' (txSz count code) (txAl code) = F := ⟨_, rfl⟩
  have hfit : F = true → A + Z ≤ D.size := fun h => by
    rw [h, hA, hZ] at hF
    unfold txFits at hF
    simp at hF
    omega
  have HX : Hid (txIn D at' count code = if F = true then txOut (txPts code (txWide count code) (D.extract A (A + Z))) else (⟨#[]⟩, 3)) := by
    unfold Hid txIn
    rw [hF, hA, hZ]
    simp
  rw [HX.out]
  rw [hF] at HL
  rw [hZ] at HS HL
  subst hA
  generalize txAl code = al at *
  generalize txWide count code = wd at *
  have v1 : wrap64 ((A : Int) + (Z : Int)) = (A : Int) + (Z : Int) := by unfold wrap64; omega
  clear hF hZ HX hsz h0 h1 c0 c1
  cases F with
  | false =>
    simp only [Bool.false_eq_true, if_false]
    clear hfit v1
    go_enter Tryd.func38, Tryd.ntmps38
    go_wp2_with (first | (go_at_call 61; refine (HS _).mono ?_; rintro e w' ⟨rfl, hw⟩; obtain rfl := hw.symm; clear HS) | (go_at_call 56; refine (HA _).mono ?_; rintro e w' ⟨rfl, hw⟩; obtain rfl := hw.symm; clear HA))
    refine (HL _).mono ?_
    rintro e w1 ⟨rfl, B1⟩
    go_wp2
    go_ret2
    exact ⟨rfl, B1⟩
  | true =>
    simp only [if_true]
    have hf := hfit rfl
    have hsl := slice_mem (P := Tryd.prog) 9 Tryd.underlying9 D A Z hf
    have hbs : (D.extract A (A + Z)).size ≤ 1048576 := by simp only [ByteArray.size_extract]; omega
    have HP : Hid (∀ W, Below w.heap.size w W → Calls Tryd.prog 63 #[.string (D.extract A (A + Z)), .bool wd, .int .i64 code] W fun e w' => ToldN W w' e (txPts code wd (D.extract A (A + Z)))) := fun W hW => implTextPoints _ wd code hbs hc W (Utf8Tabs_below hT.out hW)
    have HOK : Hid (∀ L, txPts code wd (D.extract A (A + Z)) = some L → okL L = true) := fun L h => txPts_ok h
    generalize D.extract A (A + Z) = X at *
    generalize txPts code wd X = R at *
    clear hfit hf hbs hc hD
    obtain ⟨Y, c, hYc⟩ : ∃ Y c, txOut R = (Y, c) := ⟨_, _, rfl⟩
    rw [hYc]
    have HY : Hid (txOut R = (Y, c)) := hYc
    clear hYc
    go_enter Tryd.func38, Tryd.ntmps38
    go_wp2_with (first | (go_at_call 61; refine (HS _).mono ?_; rintro e w' ⟨rfl, hw⟩; obtain rfl := hw.symm; clear HS) | (go_at_call 56; refine (HA _).mono ?_; rintro e w' ⟨rfl, hw⟩; obtain rfl := hw.symm; clear HA))
    refine (HL _).mono ?_
    rintro e w1 ⟨rfl, B1⟩
    clear HL
    have H2 := HP.out w1 B1
    clear HP
    go_wp2_with fail
    refine H2.mono ?_
    rintro e w2 ⟨⟨L, v, hg, rfl, ho⟩ | ⟨hg, rfl⟩, hb⟩
    · obtain ⟨a, cap, rfl, hI⟩ := ints_of_row ho
      have hok := HOK.out L hg
      have HE := implEncodePoints a cap L 1 w2 hI (Nat.le_trans (okL_len hok) (by omega))
      rw [enc1 hok] at HE
      have HY2 : Hid ((if (encL 1 L).length ≤ 200 then ((⟨(encL 1 L).toArray⟩ : ByteArray), (0 : Int)) else (⟨#[]⟩, 4)) = (Y, c)) := by have := HY.out; rw [hg] at this; exact this
      have hls : (ByteArray.mk (encL 1 L).toArray).size = (encL 1 L).length := utf_len _
      have HB2 := bel_stepK B1 hb
      generalize encL 1 L = E at *
      obtain ⟨S, hS⟩ : ∃ S, ByteArray.mk E.toArray = S := ⟨_, rfl⟩
      rw [hS] at HE HY2 hls
      clear H2 hg ho hI hok HY HOK hS B1 hb
      by_cases hl : E.length ≤ 200
      · have hl' : ¬ (200 : Int) < (S.size : Int) := by omega
        have h3 := HY2.out
        rw [if_pos hl] at h3
        obtain ⟨h4, h5⟩ := Prod.mk.inj h3
        have H6 : Hid (S = Y ∧ 0 = c) := ⟨h4, h5⟩
        clear HY2 h3 h4 h5 hl hls
        go_wp2_with (go_at_call 64; refine HE.mono ?_; rintro e w3 ⟨rfl, hb3⟩; clear HE)
        go_ret2
        exact ⟨by rw [H6.out.1, ← H6.out.2]; rfl, bel_stepK HB2 (by assumption)⟩
      · have hl' : (200 : Int) < (S.size : Int) := by omega
        have h3 := HY2.out
        rw [if_neg hl] at h3
        obtain ⟨h4, h5⟩ := Prod.mk.inj h3
        have H6 : Hid (⟨#[]⟩ = Y ∧ 4 = c) := ⟨h4, h5⟩
        clear HY2 h3 h4 h5 hl hls
        go_wp2_with (go_at_call 64; refine HE.mono ?_; rintro e w3 ⟨rfl, hb3⟩; clear HE)
        go_ret2
        exact ⟨by rw [← H6.out.1, ← H6.out.2]; rfl, bel_stepK HB2 (by assumption)⟩
    · have h3 := HY.out
      rw [hg] at h3
      obtain ⟨h4, h5⟩ := Prod.mk.inj (show ((⟨#[]⟩ : ByteArray), (4 : Int)) = (Y, c) from h3)
      have H6 : Hid (⟨#[]⟩ = Y ∧ 4 = c) := ⟨h4, h5⟩
      have HB2 := bel_stepK B1 hb
      clear H2 hg HY HOK h3 h4 h5 B1 hb
      go_wp2
      go_ret2
      exact ⟨by rw [← H6.out.1, ← H6.out.2]; rfl, HB2⟩

end Go.Proofs.YtgepplddhmgifaaDoor
