/-
  The bytes of a text in a code, and their count: the model, both sides. (Made by a generator.)
-/
import Derived.Test.YtgepplddhmgifaaDoorHGB
import Derived.Test.YtgepplddhmgifaaDoorCompact
import Derived.Test.YtgepplddhmgifaaDoorHGA
namespace Go.Proofs.YtgepplddhmgifaaDoor
open Go.ChangeShapes Go.WideShapes Go.ChangeAt Go.RowKit Go.PlainAid

def bsOf (code : Int) (L : List Int) : ByteArray := ⟨(encL code L).toArray⟩
/-- The bytes, and the count. -/
def tlB (s : ByteArray) (L : List Int) (code : Int) : ByteArray := if code = 1 then s else if code = 2 then bsOf 2 L else if L.all (fitC 3) = true then bsOf 3 L else bsOf 2 L
def tlN (s : ByteArray) (L : List Int) (code : Int) : Int := if code = 1 then (s.size : Int) else if code = 2 then ((bsOf 2 L).size : Int) / 2 else if L.all (fitC 3) = true then ((bsOf 3 L).size : Int) else ((bsOf 2 L).size : Int) / 2 + 2147483648
theorem bsOf_len (code : Int) {L : List Int} (h : okL L = true) : (bsOf code L).size ≤ 1200 := by
  have h1 := encL_len code L
  have h2 := okL_len h
  have h3 : (bsOf code L).size = (encL code L).length := utf_len _
  omega
theorem tlB_len {s : ByteArray} {L : List Int} {code : Int} (h : okL L = true) (hs : s.size ≤ 200) : (tlB s L code).size ≤ 1200 := by
  have := bsOf_len 2 h
  have := bsOf_len 3 h
  unfold tlB; (repeat' split) <;> omega
theorem enc2F {L : List Int} (h : okL L = true) : encF 2 L = .tuple #[.string (bsOf 2 L), .bool true] := by
  rw [encF_yes (by unfold sureC; rw [h]; rfl), encR_yes (all_fit2 L)]; rfl
theorem enc2R (L : List Int) : encR 2 L = .tuple #[.string (bsOf 2 L), .bool true] := encR_yes (all_fit2 L)
theorem or31 (q : Nat) (h : q ≤ 1200) : bits .or .i64 (q : Int) 2147483648 = (q : Int) + 2147483648 := by
  have h1 := i64_or_nat q 2147483648 (by omega) (by omega)
  have h2 : q ||| 2147483648 = q + 2147483648 := by
    have h3 := Nat.two_pow_add_eq_or_of_lt (i := 31) (b := q) (by omega) 1
    rw [show (2 ^ 31 * 1 : Nat) = 2147483648 by decide] at h3
    rw [Nat.or_comm]; omega
  rw [h2] at h1
  have e : ((2147483648 : Nat) : Int) = 2147483648 := by omega
  rw [e] at h1
  rw [h1]; omega
theorem half_go (n : Nat) (h : n ≤ 1200) : (n : Int).tdiv 2 = ((n / 2 : Nat) : Int) ∧ wrap64 ((n / 2 : Nat) : Int) = ((n / 2 : Nat) : Int) ∧ wrap64 (((n / 2 : Nat) : Int) + 2147483648) = ((n / 2 : Nat) : Int) + 2147483648 := by
  refine ⟨?_, by unfold wrap64; omega, by unfold wrap64; omega⟩
  rw [Int.tdiv_eq_ediv_of_nonneg (by omega)]; omega

set_option maxRecDepth 2000000 in
set_option maxHeartbeats 1600000 in
theorem implTextAs (s : ByteArray) (L : List Int) (code : Int) (hs : s.size ≤ 200) (hg : gd 1 s = some L) (hc : 1 ≤ code ∧ code ≤ 3) (w : World) (hT : UTabs w) :
    Calls Tryd.prog 55 #[.string s, .int .i64 code] w fun e w' => e = .returned (.tuple #[.string (tlB s L code), .int .i64 (tlN s L code)]) ∧ Below w.heap.size w w' := by
  have hok := (gd_some hg).2
  have HD := implDecodePoints s 1 (by omega) w hT
  rw [gdF_in (by omega), hg] at HD
  obtain rfl | rfl | rfl : code = 1 ∨ code = 2 ∨ code = 3 := by omega
  · rw [show tlB s L 1 = s by unfold tlB; rw [if_pos rfl], show tlN s L 1 = (s.size : Int) by unfold tlN; rw [if_pos rfl]]
    clear hs hg hc hok
    go_enter Tryd.func55, Tryd.ntmps55
    go_wp2_with fail
    refine HD.mono ?_
    rintro e w1 ⟨⟨L1, v, hL, rfl, ho⟩ | ⟨hL, hv⟩, hb⟩
    · obtain ⟨a, cap, rfl, hI⟩ := ints_of_row ho
      clear HD hL ho hI
      go_wp2
      go_ret2
      exact ⟨rfl, hb⟩
    · cases hL
  · rw [show tlB s L 2 = bsOf 2 L by unfold tlB; rw [if_neg (by omega), if_pos rfl], show tlN s L 2 = ((bsOf 2 L).size : Int) / 2 by unfold tlN; rw [if_neg (by omega), if_pos rfl]]
    have hbl := bsOf_len 2 hok
    obtain ⟨t1, t2, _⟩ := half_go (bsOf 2 L).size hbl
    have t3 : ((bsOf 2 L).size : Int) / 2 = (((bsOf 2 L).size / 2 : Nat) : Int) := by omega
    rw [t3]
    obtain ⟨X, hX⟩ : ∃ X, bsOf 2 L = X := ⟨_, rfl⟩
    have HX : Hid (bsOf 2 L = X) := hX
    rw [hX] at t1 t2 ⊢
    obtain ⟨n, hn⟩ : ∃ n, X.size = n := ⟨_, rfl⟩
    rw [hn] at t1 t2 ⊢
    obtain ⟨q, hq⟩ : ∃ q, n / 2 = q := ⟨_, rfl⟩
    rw [hq] at t1 t2 ⊢
    clear hs hg hc t3 hX hbl hq
    go_enter Tryd.func55, Tryd.ntmps55
    go_wp2_with fail
    refine HD.mono ?_
    rintro e w1 ⟨⟨L1, v, hL, rfl, ho⟩ | ⟨hL, hv⟩, hb⟩
    · obtain rfl : L = L1 := Option.some.inj hL
      obtain ⟨a, cap, rfl, hI⟩ := ints_of_row ho
      have HE := implEncodePoints a cap L 2 w1 hI (by have := okL_len hok; omega)
      rw [enc2F hok] at HE
      rw [HX.out] at HE
      clear HD hL ho hI hok
      go_wp2_with (go_at_call 64; refine HE.mono ?_; rintro e w2 ⟨rfl, hb2⟩; clear HE)
      go_ret2
      exact ⟨by first | rfl | (rw [t2]; rfl), bel_stepK hb (by assumption)⟩
    · cases hL
  · have hbl := bsOf_len 2 hok
    obtain ⟨t1, t2, t4⟩ := half_go (bsOf 2 L).size hbl
    have t3 : ((bsOf 2 L).size : Int) / 2 = (((bsOf 2 L).size / 2 : Nat) : Int) := by omega
    have t5 := or31 ((bsOf 2 L).size / 2) (by omega)
    have HV : Hid (tlB s L 3 = (if L.all (fitC 3) = true then bsOf 3 L else bsOf 2 L) ∧ tlN s L 3 = if L.all (fitC 3) = true then ((bsOf 3 L).size : Int) else (((bsOf 2 L).size / 2 : Nat) : Int) + 2147483648) := by
      unfold Hid tlB tlN
      refine ⟨?_, ?_⟩
      · rw [if_neg (by omega), if_neg (by omega)]
      · rw [if_neg (by omega), if_neg (by omega), t3]
    rw [HV.out.1, HV.out.2]
    obtain ⟨I, hI⟩ : ∃ I, L.all (fitC 3) = I := ⟨_, rfl⟩
    rw [hI]
    have HIB : Hid (L.all (fitC 3) = I) := hI
    clear hs hg hc t3 HV hI
    cases I with
    | false =>
      simp only [Bool.false_eq_true, if_false]
      obtain ⟨X, hX⟩ : ∃ X, bsOf 2 L = X := ⟨_, rfl⟩
      have HX : Hid (bsOf 2 L = X) := hX
      rw [hX] at t1 t2 t4 t5 ⊢
      obtain ⟨n, hn⟩ : ∃ n, X.size = n := ⟨_, rfl⟩
      rw [hn] at t1 t2 t4 t5 ⊢
      obtain ⟨q, hq⟩ : ∃ q, n / 2 = q := ⟨_, rfl⟩
      rw [hq] at t1 t2 t4 t5 ⊢
      have T4 : Hid (wrap64 ((q : Int) + 2147483648) = (q : Int) + 2147483648) := t4
      clear hX hq hbl
      go_enter Tryd.func55, Tryd.ntmps55
      go_wp2_with fail
      refine HD.mono ?_
      rintro e w1 ⟨⟨L1, v, hL, rfl, ho⟩ | ⟨hL, hv⟩, hb⟩
      · obtain rfl : L = L1 := Option.some.inj hL
        obtain ⟨a, cap, rfl, hI⟩ := ints_of_row ho
        have HE := implCompact a cap L w1 hI (by have := okL_len hok; omega)
        rw [cmpF_wide hok HIB.out] at HE
        rw [show ByteArray.mk (encL 2 L).toArray = bsOf 2 L from rfl, HX.out] at HE
        clear HD hL ho hI hok HIB
        go_wp2_with (go_at_call 75; refine HE.mono ?_; rintro e w2 ⟨rfl, hb2⟩; clear HE)
        go_ret2
        exact ⟨by first | rfl | (rw [T4.out]; rfl), bel_stepK hb (by assumption)⟩
      · cases hL
    | true =>
      simp only [if_true]
      obtain ⟨X, hX⟩ : ∃ X, bsOf 3 L = X := ⟨_, rfl⟩
      have HX : Hid (bsOf 3 L = X) := hX
      rw [hX]
      clear hX t1 t2 t4 t5 hbl
      go_enter Tryd.func55, Tryd.ntmps55
      go_wp2_with fail
      refine HD.mono ?_
      rintro e w1 ⟨⟨L1, v, hL, rfl, ho⟩ | ⟨hL, hv⟩, hb⟩
      · obtain rfl : L = L1 := Option.some.inj hL
        obtain ⟨a, cap, rfl, hI⟩ := ints_of_row ho
        have HE := implCompact a cap L w1 hI (by have := okL_len hok; omega)
        rw [cmpF_lat hok HIB.out] at HE
        rw [show ByteArray.mk (encL 3 L).toArray = bsOf 3 L from rfl, HX.out] at HE
        clear HD hL ho hI hok HIB
        go_wp2_with (go_at_call 75; refine HE.mono ?_; rintro e w2 ⟨rfl, hb2⟩; clear HE)
        go_ret2
        exact ⟨rfl, bel_stepK hb (by assumption)⟩
      · cases hL

set_option maxRecDepth 2000000 in
set_option maxHeartbeats 1600000 in
theorem specText13 (s : ByteArray) (L : List Int) (code : Int) (hs : s.size ≤ 200) (hg : gd 1 s = some L) (hc : 1 ≤ code ∧ code ≤ 3) (w : World) :
    Calls Tryd.prog 51 #[.string s, .int .i64 code] w fun e w' => e = .returned (.tuple #[.string (tlB s L code), .int .i64 (tlN s L code), .int .i64 (txAl code)]) ∧ Below w.heap.size w w' := by
  have hok := (gd_some hg).2
  have HD := specDecode s 1 (by omega) w
  rw [hg] at HD
  obtain rfl | rfl | rfl : code = 1 ∨ code = 2 ∨ code = 3 := by omega
  · rw [show tlB s L 1 = s by unfold tlB; rw [if_pos rfl], show tlN s L 1 = (s.size : Int) by unfold tlN; rw [if_pos rfl]]
    rw [show txAl 1 = 1 from rfl]
    clear hs hg hc hok
    go_enter Tryd.func51, Tryd.ntmps51
    go_wp2_with fail
    refine HD.mono ?_
    rintro e w1 ⟨⟨L1, v, hL, rfl, ho⟩ | ⟨hL, hv⟩, hb⟩
    · obtain ⟨a, cap, rfl, hI⟩ := ints_of_row ho
      clear HD hL ho hI
      go_wp2
      go_ret3
      exact ⟨rfl, hb⟩
    · cases hL
  · rw [show tlB s L 2 = bsOf 2 L by unfold tlB; rw [if_neg (by omega), if_pos rfl], show tlN s L 2 = ((bsOf 2 L).size : Int) / 2 by unfold tlN; rw [if_neg (by omega), if_pos rfl]]
    rw [show txAl 2 = 2 from rfl]
    have hbl := bsOf_len 2 hok
    obtain ⟨t1, t2, _⟩ := half_go (bsOf 2 L).size hbl
    have t3 : ((bsOf 2 L).size : Int) / 2 = (((bsOf 2 L).size / 2 : Nat) : Int) := by omega
    rw [t3]
    obtain ⟨X, hX⟩ : ∃ X, bsOf 2 L = X := ⟨_, rfl⟩
    have HX : Hid (bsOf 2 L = X) := hX
    rw [hX] at t1 t2 ⊢
    obtain ⟨n, hn⟩ : ∃ n, X.size = n := ⟨_, rfl⟩
    rw [hn] at t1 t2 ⊢
    obtain ⟨q, hq⟩ : ∃ q, n / 2 = q := ⟨_, rfl⟩
    rw [hq] at t1 t2 ⊢
    clear hs hg hc t3 hX hbl hq
    go_enter Tryd.func51, Tryd.ntmps51
    go_wp2_with fail
    refine HD.mono ?_
    rintro e w1 ⟨⟨L1, v, hL, rfl, ho⟩ | ⟨hL, hv⟩, hb⟩
    · obtain rfl : L = L1 := Option.some.inj hL
      obtain ⟨a, cap, rfl, hI⟩ := ints_of_row ho
      have HE := specEncode a cap L 2 w1 hI (okAll_of hok)
      rw [enc2R] at HE
      rw [HX.out] at HE
      clear HD hL ho hI hok
      go_wp2_with (go_at_call 59; refine HE.mono ?_; rintro e w2 ⟨rfl, hb2⟩; clear HE)
      go_ret3
      exact ⟨by first | rfl | (rw [t2]; rfl), bel_stepK hb (by assumption)⟩
    · cases hL
  · rw [show txAl 3 = 2 from rfl]
    have hbl := bsOf_len 2 hok
    obtain ⟨t1, t2, t4⟩ := half_go (bsOf 2 L).size hbl
    have t3 : ((bsOf 2 L).size : Int) / 2 = (((bsOf 2 L).size / 2 : Nat) : Int) := by omega
    have t5 := or31 ((bsOf 2 L).size / 2) (by omega)
    have HV : Hid (tlB s L 3 = (if L.all (fitC 3) = true then bsOf 3 L else bsOf 2 L) ∧ tlN s L 3 = if L.all (fitC 3) = true then ((bsOf 3 L).size : Int) else (((bsOf 2 L).size / 2 : Nat) : Int) + 2147483648) := by
      unfold Hid tlB tlN
      refine ⟨?_, ?_⟩
      · rw [if_neg (by omega), if_neg (by omega)]
      · rw [if_neg (by omega), if_neg (by omega), t3]
    rw [HV.out.1, HV.out.2]
    obtain ⟨I, hI⟩ : ∃ I, L.all (fitC 3) = I := ⟨_, rfl⟩
    rw [hI]
    have HIB : Hid (L.all (fitC 3) = I) := hI
    clear hs hg hc t3 HV hI
    cases I with
    | false =>
      simp only [Bool.false_eq_true, if_false]
      obtain ⟨X, hX⟩ : ∃ X, bsOf 2 L = X := ⟨_, rfl⟩
      have HX : Hid (bsOf 2 L = X) := hX
      rw [hX] at t1 t2 t4 t5 ⊢
      obtain ⟨n, hn⟩ : ∃ n, X.size = n := ⟨_, rfl⟩
      rw [hn] at t1 t2 t4 t5 ⊢
      obtain ⟨q, hq⟩ : ∃ q, n / 2 = q := ⟨_, rfl⟩
      rw [hq] at t1 t2 t4 t5 ⊢
      have T4 : Hid (wrap64 ((q : Int) + 2147483648) = (q : Int) + 2147483648) := t4
      clear hX hq hbl
      go_enter Tryd.func51, Tryd.ntmps51
      go_wp2_with fail
      refine HD.mono ?_
      rintro e w1 ⟨⟨L1, v, hL, rfl, ho⟩ | ⟨hL, hv⟩, hb⟩
      · obtain rfl : L = L1 := Option.some.inj hL
        obtain ⟨a, cap, rfl, hI⟩ := ints_of_row ho
        have HE := specCompact a cap L w1 hI (by have := okL_len hok; omega)
        rw [cmpF_wide hok HIB.out] at HE
        rw [show ByteArray.mk (encL 2 L).toArray = bsOf 2 L from rfl, HX.out] at HE
        clear HD hL ho hI hok HIB
        go_wp2_with (go_at_call 72; refine HE.mono ?_; rintro e w2 ⟨rfl, hb2⟩; clear HE)
        go_ret3
        exact ⟨by first | rfl | (rw [T4.out]; rfl), bel_stepK hb (by assumption)⟩
      · cases hL
    | true =>
      simp only [if_true]
      obtain ⟨X, hX⟩ : ∃ X, bsOf 3 L = X := ⟨_, rfl⟩
      have HX : Hid (bsOf 3 L = X) := hX
      rw [hX]
      clear hX t1 t2 t4 t5 hbl
      go_enter Tryd.func51, Tryd.ntmps51
      go_wp2_with fail
      refine HD.mono ?_
      rintro e w1 ⟨⟨L1, v, hL, rfl, ho⟩ | ⟨hL, hv⟩, hb⟩
      · obtain rfl : L = L1 := Option.some.inj hL
        obtain ⟨a, cap, rfl, hI⟩ := ints_of_row ho
        have HE := specCompact a cap L w1 hI (by have := okL_len hok; omega)
        rw [cmpF_lat hok HIB.out] at HE
        rw [show ByteArray.mk (encL 3 L).toArray = bsOf 3 L from rfl, HX.out] at HE
        clear HD hL ho hI hok HIB
        go_wp2_with (go_at_call 72; refine HE.mono ?_; rintro e w2 ⟨rfl, hb2⟩; clear HE)
        go_ret3
        exact ⟨rfl, bel_stepK hb (by assumption)⟩
      · cases hL

end Go.Proofs.YtgepplddhmgifaaDoor

namespace Go.Proofs.YtgepplddhmgifaaDoor
open Go.ChangeShapes Go.WideShapes Go.ChangeAt Go.RowKit Go.PlainAid

theorem row_bytes {R : Array Value} {D : ByteArray} (hb : ∀ j (h : j < D.data.toList.length), R[j]? = some (.int .u8 (D.data.toList[j].toNat : Int))) : R.toList = Lib.byteCells D.data.toList ++ R.toList.drop D.size := by
  have hl : (Lib.byteCells D.data.toList).length = D.size := by rw [Lib.byteCells_length, ← Lib.size_eq]
  have h1 : R.toList.take D.size = Lib.byteCells D.data.toList := by
    apply List.ext_getElem?
    intro j
    rw [List.getElem?_take]
    by_cases hj : j < D.size
    · rw [if_pos hj, Array.getElem?_toList, hb j (by rw [← Lib.size_eq]; exact hj)]
      unfold Lib.byteCells
      rw [List.getElem?_map, List.getElem?_eq_getElem (by rw [← Lib.size_eq]; exact hj)]
      rfl
    · rw [if_neg hj, List.getElem?_eq_none (by omega)]
  rw [← h1, List.take_append_drop]
theorem row_laid {R : Array Value} {c : Nat} {D : ByteArray} (hR : R.size = c) (hD : D.size ≤ c) (hb : ∀ j (h : j < D.data.toList.length), R[j]? = some (.int .u8 (D.data.toList[j].toNat : Int))) (a : Nat) (s : ByteArray) (h : a + s.size ≤ D.size) :
    (R.toList.take a ++ Lib.byteCells s.data.toList ++ R.toList.drop (a + s.size)).toArray.size = c ∧ ∀ j (hj : j < (laidOver D a s).data.toList.length), (R.toList.take a ++ Lib.byteCells s.data.toList ++ R.toList.drop (a + s.size)).toArray[j]? = some (.int .u8 ((laidOver D a s).data.toList[j].toNat : Int)) := by
  have hr := row_bytes hb
  have hlen : R.toList.length = c := by simpa using hR
  have hls : (Lib.byteCells s.data.toList).length = s.size := by rw [Lib.byteCells_length, ← Lib.size_eq]
  refine ⟨by simp [hls]; omega, fun j hj => ?_⟩
  have hl : R.toList.take a ++ Lib.byteCells s.data.toList ++ R.toList.drop (a + s.size) = Lib.byteCells (laidOver D a s).data.toList ++ R.toList.drop D.size := by
    generalize R.toList.drop D.size = T at *
    rw [hr, data_laidOver]
    have h1 : (Lib.byteCells D.data.toList).length = D.size := by rw [Lib.byteCells_length, ← Lib.size_eq]
    rw [List.take_append_of_le_length (by rw [h1]; omega), List.drop_append_of_le_length (by rw [h1]; omega)]
    simp [Lib.byteCells, List.map_take, List.map_drop]
  rw [hl]
  simp only [List.getElem?_toArray]
  rw [List.getElem?_append_left (by rw [Lib.byteCells_length]; exact hj)]
  unfold Lib.byteCells
  rw [List.getElem?_map, List.getElem?_eq_getElem hj]
  rfl

set_option maxRecDepth 100000 in
theorem sliced_from (g a cap len : Nat) (h : a ≤ len) (hc : len ≤ cap) (wx : World) :
    (Instr.slice 71 (.slice (some ⟨g, 0, none⟩) len cap) (some (.int .i64 (a : Int))) none none).run Tryd.prog wx = .ok (.slice (some (cutAddr g a (cap - a))) (len - a) (cap - a)) wx := by
  rw [run_slice_l wx 71 (some ⟨g, 0, none⟩) len cap Tryd.underlying71 .i64 (a : Int) (by omega) (by omega)]
  simp only [Int.toNat_natCast]
  simp [go_sem, sliced, cutAddr]
  split
  · rw [if_pos (by omega)]
  · rw [if_neg (by omega)]

/-- Bytes copied into the row from a place on. -/
theorem lCopy (w : World) (r c : Nat) (R : Array Value) (D : ByteArray) (N code : Int) (h : Lay w r c R D N code) (a : Nat) (b : ByteArray) (hf : a + b.size ≤ D.size) :
    ∃ W R', (Builtin.copy_ #[71, 9] 3 #[.slice (some (cutAddr r a (c - a))) (D.size - a) (c - a), .string b]).run Tryd.prog w = .ok (goInt b.size) W ∧ Lay W r c R' (laidOver D a b) N code ∧ LFr r w W := by
  have hinfo : (Tryd.prog.info? 5).map (·.size) = some 1 := by kernel_rfl
  have hdl := h.hD
  have hls := size_laidOver D a b hf
  by_cases h0 : b.size = 0
  · have hd : b.data.toList = [] := by rw [← List.length_eq_zero_iff, ← Lib.size_eq]; exact h0
    have hsame : (laidOver D a b).data.toList = D.data.toList := by rw [data_laidOver, hd, h0]; simp
    refine ⟨w, R, by rw [h0]; exact Lib.run_copy_empty_string w _ _ _ 5 _ _ _ b Tryd.underlying71 (by rw [hinfo]; rfl) h0, ⟨h.row, by rw [hls]; exact h.box, h.tab, h.hR, by rw [hls]; exact h.hD, ?_⟩, LFr.of_below (Below.refl _ _) (by have := h.tab; omega)⟩
    intro j hj
    have hj' : j < D.data.toList.length := by rw [← hsame]; exact hj
    rw [h.bytes j hj']
    simp only [hsame]
  · have hA : cutAddr r a (c - a) = ⟨r, a, none⟩ := by unfold cutAddr; rw [if_neg (by omega)]
    have hcp := copied_mark (P := Tryd.prog) w 71 9 3 5 r a (D.size - a) (c - a) b R 5 c (c + 1) Tryd.underlying71 hinfo h.row (by omega) (by omega) (by have := h.hR; omega)
    obtain ⟨s1, s2⟩ := row_laid h.hR h.hD h.bytes a b hf
    refine ⟨_, _, by rw [hA]; exact hcp, ⟨setRow_heap _ _ _ _ _ _ h.row, (setRow_other _ _ _ _ (by omega)).trans (by rw [hls]; exact h.box), by simpa [World.setRow] using h.tab, s1, by rw [hls]; exact h.hD, s2⟩, ?_⟩
    refine ⟨⟨rfl, rfl, rfl, by simp [World.setRow], fun k hk => setRow_other _ _ _ _ (by omega)⟩, by simp [World.setRow], fun k hk hr => setRow_other _ _ _ _ (by omega)⟩

set_option maxRecDepth 2000000 in
set_option maxHeartbeats 1600000 in
theorem lTakeText (w : World) (r c : Nat) (R : Array Value) (D : ByteArray) (N code : Int) (h : Lay w r c R D N code) (s : ByteArray) (L : List Int) (hs : s.size ≤ 200) (hg : gd 1 s = some L) (hc : 1 ≤ code ∧ code ≤ 3) (h0 : 0 ≤ N) (h1 : N ≤ (D.size : Int)) (hD : D.size ≤ 1048576) (I : Bool) (hI : Hid (trIn D N (txAl code) ((tlB s L code).size : Int) = I)) (hT : UTabs w) :
    Calls Tryd.prog 32 #[.pointer (some ⟨r + 1, 0, none⟩), .string s] w fun e w' => ∃ R', e = .returned (.tuple #[.int .i64 (if I = true then upA N (txAl code) else 0), .int .i64 (tlN s L code), .bool I]) ∧ Lay w' r c R' (if I = true then laidOver D (upA N (txAl code)).toNat (tlB s L code) else D) (if I = true then upA N (txAl code) + ((tlB s L code).size : Int) else N) code ∧ LFr r w w' := by
  have htab := h.tab
  have hbl := tlB_len (code := code) (gd_some hg).2 hs
  have HA := implTextAs s L code hs hg hc w hT
  have HAL := implTextAlign code
  have hal := txAl_in code
  have hU := upA_in (N := N) hal
  have HTK : Hid (∀ W, Below w.heap.size w W → Calls Tryd.prog 24 #[.pointer (some ⟨r + 1, 0, none⟩), .agg #[.int .i64 ((tlB s L code).size : Int), .int .i64 (txAl code)]] W fun e w' => e = .returned (.tuple #[.int .i64 (if I = true then upA N (txAl code) else 0), .bool I]) ∧ Lay w' r c R D (if I = true then upA N (txAl code) + ((tlB s L code).size : Int) else N) code ∧ LFr r W w') := fun W hW =>
    lTake W r c R D N code _ _ (h.below hW) hal h0 h1 hD (by omega) I hI
  have hfit : I = true → (upA N (txAl code)).toNat + (tlB s L code).size ≤ D.size ∧ ((upA N (txAl code)).toNat : Int) = upA N (txAl code) := fun hi => by
    have h9 := hI.out
    rw [hi] at h9
    unfold trIn at h9
    simp at h9
    omega
  have k3 : w.cell? ⟨r + 1, 3, none⟩ = some (.int .i64 code) := (cell_of_block h.box 3).trans rfl
  have HB : Hid (∀ W, Below w.heap.size w W → W.cell? ⟨r + 1, 3, none⟩ = some (.int .i64 code)) := fun W hW => (hW.cell (p := ⟨r + 1, 3, none⟩) (by show r + 1 < _; omega)).trans k3
  generalize txAl code = al at *
  generalize tlN s L code = cnt at *
  generalize tlB s L code = b at *
  obtain ⟨n, hn⟩ : ∃ n : Int, (b.size : Int) = n := ⟨_, rfl⟩
  rw [hn] at HTK ⊢
  have hwr : r ≤ w.heap.size := by omega
  have hlow : r + 2 < w.heap.size := htab
  clear hI h hs hg hc h0 h1 hD hT hU hal htab hbl
  cases I with
  | false =>
    simp only [Bool.false_eq_true, if_false] at HTK ⊢
    go_enter Tryd.func32, Tryd.ntmps32
    go_wp2_with fail
    refine HA.mono ?_
    rintro e w1 ⟨rfl, B1⟩
    have q3 := HB.out w1 B1
    have H2 := HTK.out w1 B1
    clear HA HTK HB k3
    go_wp2_with (go_at_call 56; refine (HAL _).mono ?_; rintro e w' ⟨rfl, hw⟩; obtain rfl := hw.symm; clear HAL hw)
    refine H2.mono ?_
    rintro e w2 ⟨rfl, L2, F2⟩
    clear H2 q3
    go_wp2
    go_ret3
    exact ⟨R, rfl, L2, (LFr.of_below B1 hwr).trans F2⟩
  | true =>
    simp only [if_true] at HTK ⊢
    obtain ⟨hf, hUn⟩ := hfit rfl
    clear hfit
    generalize upA N al = U at *
    obtain ⟨u, hu⟩ : ∃ u, U.toNat = u := ⟨_, rfl⟩
    rw [hu] at hf hUn ⊢
    subst hUn
    have hsl := sliced_from r u c D.size (by omega)
    clear hu
    go_enter Tryd.func32, Tryd.ntmps32
    go_wp2_with fail
    refine HA.mono ?_
    rintro e w1 ⟨rfl, B1⟩
    have q3 := HB.out w1 B1
    have H2 := HTK.out w1 B1
    clear HA HTK HB k3
    go_wp2_with (go_at_call 56; refine (HAL _).mono ?_; rintro e w' ⟨rfl, hw⟩; obtain rfl := hw.symm; clear HAL hw)
    refine H2.mono ?_
    rintro e w2 ⟨rfl, L2, F2⟩
    replace hsl := hsl L2.hD
    have hbx := L2.box
    have d0 : w2.cell? ⟨r + 1, 0, none⟩ = some (.slice (some ⟨r, 0, none⟩) D.size c) := (cell_of_block hbx 0).trans rfl
    obtain ⟨W3, R', hcp, L3, F3⟩ := lCopy w2 r c R D _ code L2 u b hf
    have L3' : Hid (Lay W3 r c R' (laidOver D u b) ((u : Int) + n) code) := L3
    have F3' : Hid (LFr r w W3) := ((LFr.of_below B1 hwr).trans F2).trans F3
    obtain ⟨ca, hca⟩ : ∃ x, cutAddr r u (c - u) = x := ⟨_, rfl⟩
    rw [hca] at hsl hcp
    obtain ⟨m1, hm1⟩ : ∃ x, D.size - u = x := ⟨_, rfl⟩
    obtain ⟨m2, hm2⟩ : ∃ x, c - u = x := ⟨_, rfl⟩
    rw [hm1, hm2] at hsl hcp
    clear H2 q3 L2 F2 L3 F3 hbx hca hm1 hm2 hf B1
    go_wp2
    go_ret3
    exact ⟨R', rfl, L3'.out, F3'.out⟩

/-- Which texts may be laid. -/
def ftB (s : ByteArray) : Bool := (gd 1 s).isSome && decide (s.size ≤ 200)
theorem implFits12 (s : ByteArray) (hs : s.size ≤ 1048576) (w : World) (hT : UTabs w) :
    Calls Tryd.prog 30 #[.int .i64 12, .string s] w fun e w' => e = .returned (.bool (ftB s)) ∧ Below w.heap.size w w' := by
  have HC := implCount s hs w hT
  have hl : decide ((s.size : Int) ≤ 200) = decide (s.size ≤ 200) := by rw [decide_eq_decide]; omega
  obtain ⟨n, hn⟩ : ∃ n : Int, (s.size : Int) = n := ⟨_, rfl⟩
  rw [hn] at hl
  unfold ftB
  rw [← hl]
  clear hl hs
  rcases hg : gd 1 s with _ | L
  · rw [ct_none hg] at HC
    clear hg
    go_enter Tryd.func30, Tryd.ntmps30
    go_wp2_with (go_at_call 54; refine HC.mono ?_; rintro e w1 ⟨rfl, hb⟩; clear HC)
    go_ret
    exact ⟨rfl, by assumption⟩
  · rw [ct_some hg] at HC
    clear hg
    go_enter Tryd.func30, Tryd.ntmps30
    go_wp2_with (go_at_call 54; refine HC.mono ?_; rintro e w1 ⟨rfl, hb⟩; clear HC)
    go_ret
    exact ⟨rfl, by assumption⟩

def lwL (s : ByteArray) : List Int := (gd 1 s).getD []
def lwB (s : ByteArray) (code : Int) : ByteArray := tlB s (lwL s) code
def lwOk (M : Int) (D : ByteArray) (N : Int) (s : ByteArray) (code : Int) : Bool := goodH M D N && (ftB s && cdB code)
def lwIn (D : ByteArray) (N : Int) (s : ByteArray) (code : Int) : Bool := trIn D N (txAl code) ((lwB s code).size : Int)
def lwV (M : Int) (D : ByteArray) (N : Int) (s : ByteArray) (code : Int) : Value :=
  if lwOk M D N s code = true then (if lwIn D N s code = true then .tuple #[hpV M (laidOver D (upA N (txAl code)).toNat (lwB s code)) (upA N (txAl code) + ((lwB s code).size : Int)), .int .i64 (upA N (txAl code)), .int .i64 (tlN s (lwL s) code), .int .i64 0] else .tuple #[hpV M D N, .int .i64 0, .int .i64 0, .int .i64 2])
  else .tuple #[hpV (kM M D N) (kD M D N) (kN M D N), .int .i64 0, .int .i64 0, .int .i64 1]
theorem ft_some {s : ByteArray} (h : ftB s = true) : gd 1 s = some (lwL s) ∧ s.size ≤ 200 := by
  unfold ftB at h
  simp at h
  refine ⟨?_, h.2⟩
  unfold lwL
  rcases hg : gd 1 s with _ | L
  · rw [hg] at h; simp at h
  · rfl

set_option maxRecDepth 2000000 in
set_option maxHeartbeats 1600000 in
theorem implLowerT_bad (M : Int) (D : ByteArray) (N : Int) (s : ByteArray) (code : Int) (h : D.size ≤ 1048576) (hs : s.size ≤ 1048576) (hb : lwOk M D N s code = false) (w : World) (hT : UTabs w) :
    Calls Tryd.prog 12 #[hpV M D N, .string s, .int .i64 code] w fun e w' => e = .returned (lwV M D N s code) ∧ Below w.heap.size w w' := by
  have HG := implGoodHeap M D N h
  have HFT : Hid (∀ W, Below w.heap.size w W → Calls Tryd.prog 30 #[.int .i64 12, .string s] W fun e w' => e = .returned (.bool (ftB s)) ∧ Below W.heap.size W w') := fun W hW => implFits12 s hs W (Utf8Tabs_below hT hW)
  have HC := implCode code
  rw [show decide (1 ≤ code ∧ code ≤ 3) = cdB code from rfl] at HC
  have HW := heapAsItWas M D N h
  rw [show lwV M D N s code = .tuple #[hpV (kM M D N) (kD M D N) (kN M D N), .int .i64 0, .int .i64 0, .int .i64 1] by unfold lwV; rw [hb]; rfl]
  generalize kM M D N = M' at *
  generalize kD M D N = D' at *
  generalize kN M D N = N' at *
  obtain ⟨g, hgs⟩ : ∃ g, w.heap.size = g := ⟨_, rfl⟩
  unfold lwOk at hb
  generalize goodH M D N = G at *
  generalize ftB s = FT at *
  generalize cdB code = K at *
  have HB : Hid ((G && (FT && K)) = false) := hb
  clear hb h hs hT
  go_enter Tryd.func12, Tryd.ntmps12
  go_wp2_with fail
  refine (HG _).mono ?_
  rintro e w1 ⟨rfl, B1⟩
  have hs1 := B1.size
  simp at hs1
  have hB : Below w.heap.size w w1 := by ((repeat (first | refine bel_alloc ?_ _ | refine bel_dN ?_ _ | refine Below.drew ?_ | refine Below.setCell ?_ (by first | (simp; done) | (simp; omega)) _)); refine bel_step ?_ B1; (repeat (first | refine bel_alloc ?_ _ | refine bel_dN ?_ _ | refine Below.drew ?_ | refine Below.setCell ?_ (by first | (simp; done) | (simp; omega)) _)); exact Below.refl _ _)
  have e0 : w1.heap[g]? = some (.cells #[.int .i64 M, .string D, .int .i64 N] 29 (0, 0)) := (B1.block _ (by simp; omega)).trans (heap_old (heap_blk hgs))
  have e1 : w1.heap[g + 1]? = some (.cells #[.int .i64 0, .string ⟨#[]⟩, .int .i64 0] 29 (0, 0)) := (B1.block _ (by simp; omega)).trans (heap_blk (by simp; omega))
  have p0 : w1.cell? ⟨g, 0, none⟩ = some (.int .i64 M) := (cell_of_block e0 0).trans rfl
  have p1 : w1.cell? ⟨g, 1, none⟩ = some (.string D) := (cell_of_block e0 1).trans rfl
  have p2 : w1.cell? ⟨g, 2, none⟩ = some (.int .i64 N) := (cell_of_block e0 2).trans rfl
  clear B1 HG
  have hbw : g + 1 < w1.heap.size := by omega
  cases G with
  | false =>
    clear HC HB HFT
    have hBx := hB
    have e1x := e1
    clear e0 e1 hB
    go_wp2_with fail
    refine (HW _).mono ?_
    rintro e w2 ⟨rfl, b2⟩
    have hb2 := bel_stepK hBx b2
    have e1 := (b2.block (g + 1) (by omega)).trans e1x
    have hl := b2.size
    clear HW b2 p0 p1 p2 e1x hBx
    have q0 : w2.cell? ⟨g + 1, 0, none⟩ = some (.int .i64 0) := (cell_of_block e1 0).trans rfl
    have q1 : w2.cell? ⟨g + 1, 1, none⟩ = some (.string ⟨#[]⟩) := (cell_of_block e1 1).trans rfl
    have q2 : w2.cell? ⟨g + 1, 2, none⟩ = some (.int .i64 0) := (cell_of_block e1 2).trans rfl
    have z0 := free_of_block e1 0
    have z1 := free_of_block e1 1
    have z2 := free_of_block e1 2
    have F := set3 e1 (.int .i64 M') (.string D') (.int .i64 N') rfl
    have k7 := (cell_of_block F 0).trans (show _ = some (Value.int .i64 M') from rfl)
    have k8 := (cell_of_block F 1).trans (show _ = some (Value.string D') from rfl)
    have k9 := (cell_of_block F 2).trans (show _ = some (Value.int .i64 N') from rfl)
    clear e1 F 
    go_wp2
    refine bodyPost_ret (v := .tuple #[hpV M' D' N', .int .i64 0, .int .i64 0, .int .i64 1]) (by simp [results, Tryd.results12, go_sem, k7, k8, k9]) rfl ⟨rfl, ?_⟩
    refine Below.setCell (Below.setCell (Below.setCell hb2 ?_ _) ?_ _) ?_ _ <;> simp <;> omega
  | true =>
    have H2 := HFT.out w1 hB
    clear HFT
    go_wp2_with fail
    refine H2.mono ?_
    rintro e wa ⟨rfl, Ba⟩
    have hsa := Ba.size
    have hBx := bel_stepK hB Ba
    have e1x := (Ba.block (g + 1) (by omega)).trans e1
    replace e0 := (Ba.block g (by omega)).trans e0
    clear p0 p1 p2
    have p0 : wa.cell? ⟨g, 0, none⟩ = some (.int .i64 M) := (cell_of_block e0 0).trans rfl
    have p1 : wa.cell? ⟨g, 1, none⟩ = some (.string D) := (cell_of_block e0 1).trans rfl
    have p2 : wa.cell? ⟨g, 2, none⟩ = some (.int .i64 N) := (cell_of_block e0 2).trans rfl
    clear H2 Ba hB e0 e1
    cases FT with
    | false =>
      clear HC HB
      go_wp2_with fail
      refine (HW _).mono ?_
      rintro e w2 ⟨rfl, b2⟩
      have hb2 := bel_stepK hBx b2
      have e1 := (b2.block (g + 1) (by omega)).trans e1x
      have hl := b2.size
      clear HW b2 p0 p1 p2 e1x hBx
      have q0 : w2.cell? ⟨g + 1, 0, none⟩ = some (.int .i64 0) := (cell_of_block e1 0).trans rfl
      have q1 : w2.cell? ⟨g + 1, 1, none⟩ = some (.string ⟨#[]⟩) := (cell_of_block e1 1).trans rfl
      have q2 : w2.cell? ⟨g + 1, 2, none⟩ = some (.int .i64 0) := (cell_of_block e1 2).trans rfl
      have z0 := free_of_block e1 0
      have z1 := free_of_block e1 1
      have z2 := free_of_block e1 2
      have F := set3 e1 (.int .i64 M') (.string D') (.int .i64 N') rfl
      have k7 := (cell_of_block F 0).trans (show _ = some (Value.int .i64 M') from rfl)
      have k8 := (cell_of_block F 1).trans (show _ = some (Value.string D') from rfl)
      have k9 := (cell_of_block F 2).trans (show _ = some (Value.int .i64 N') from rfl)
      clear e1 F 
      go_wp2
      refine bodyPost_ret (v := .tuple #[hpV M' D' N', .int .i64 0, .int .i64 0, .int .i64 1]) (by simp [results, Tryd.results12, go_sem, k7, k8, k9]) rfl ⟨rfl, ?_⟩
      refine Below.setCell (Below.setCell (Below.setCell hb2 ?_ _) ?_ _) ?_ _ <;> simp <;> omega
    | true =>
      obtain rfl : K = false := by have := HB.out; simpa using this
      clear HB
      go_wp2_with (go_at_call 31; refine (HC _).mono ?_; rintro e w' ⟨rfl, hw⟩; obtain rfl := hw.symm; clear HC hw)
      refine (HW _).mono ?_
      rintro e w2 ⟨rfl, b2⟩
      have hb2 := bel_stepK hBx b2
      have e1 := (b2.block (g + 1) (by omega)).trans e1x
      have hl := b2.size
      clear HW b2 p0 p1 p2 e1x hBx
      have q0 : w2.cell? ⟨g + 1, 0, none⟩ = some (.int .i64 0) := (cell_of_block e1 0).trans rfl
      have q1 : w2.cell? ⟨g + 1, 1, none⟩ = some (.string ⟨#[]⟩) := (cell_of_block e1 1).trans rfl
      have q2 : w2.cell? ⟨g + 1, 2, none⟩ = some (.int .i64 0) := (cell_of_block e1 2).trans rfl
      have z0 := free_of_block e1 0
      have z1 := free_of_block e1 1
      have z2 := free_of_block e1 2
      have F := set3 e1 (.int .i64 M') (.string D') (.int .i64 N') rfl
      have k7 := (cell_of_block F 0).trans (show _ = some (Value.int .i64 M') from rfl)
      have k8 := (cell_of_block F 1).trans (show _ = some (Value.string D') from rfl)
      have k9 := (cell_of_block F 2).trans (show _ = some (Value.int .i64 N') from rfl)
      clear e1 F 
      go_wp2
      refine bodyPost_ret (v := .tuple #[hpV M' D' N', .int .i64 0, .int .i64 0, .int .i64 1]) (by simp [results, Tryd.results12, go_sem, k7, k8, k9]) rfl ⟨rfl, ?_⟩
      refine Below.setCell (Below.setCell (Below.setCell hb2 ?_ _) ?_ _) ?_ _ <;> simp <;> omega

set_option maxRecDepth 2000000 in
set_option maxHeartbeats 1600000 in
theorem implLowerT_good (M : Int) (D : ByteArray) (N : Int) (s : ByteArray) (code : Int) (h : D.size ≤ 1048576) (hs : s.size ≤ 1048576) (hb : lwOk M D N s code = true) (w : World) (hT : UTabs w) :
    Calls Tryd.prog 12 #[hpV M D N, .string s, .int .i64 code] w fun e w' => e = .returned (lwV M D N s code) ∧ Below w.heap.size w w' := by
  obtain ⟨g1, g2, g3⟩ : goodH M D N = true ∧ ftB s = true ∧ cdB code = true := by simpa [lwOk] using hb
  obtain ⟨_, g4, g5⟩ := goodH_yes g1
  obtain ⟨t1, t2⟩ := ft_some g2
  have hc3 : 1 ≤ code ∧ code ≤ 3 := by simpa [cdB] using g3
  have HG := implGoodHeap M D N h
  have HFT : Hid (∀ W, Below w.heap.size w W → Calls Tryd.prog 30 #[.int .i64 12, .string s] W fun e w' => e = .returned (.bool true) ∧ Below W.heap.size W w') := fun W hW => by have := implFits12 s hs W (Utf8Tabs_below hT hW); rw [g2] at this; exact this
  have HC := implCode code
  rw [show decide (1 ≤ code ∧ code ≤ 3) = cdB code from rfl, g3] at HC
  have HW := heapAsItWas M D N h
  unfold kM kD kN at HW
  rw [g1] at HG HW
  simp only [if_true] at HW
  have HL := newLayer D N code
  obtain ⟨I, hI⟩ : ∃ I, lwIn D N s code = I := ⟨_, rfl⟩
  have HT : Hid (∀ W r c R, Lay W r c R D N code → Below w.heap.size w W → Calls Tryd.prog 32 #[.pointer (some ⟨r + 1, 0, none⟩), .string s] W fun e w' => ∃ R', e = .returned (.tuple #[.int .i64 (if I = true then upA N (txAl code) else 0), .int .i64 (tlN s (lwL s) code), .bool I]) ∧ Lay w' r c R' (if I = true then laidOver D (upA N (txAl code)).toNat (lwB s code) else D) (if I = true then upA N (txAl code) + ((lwB s code).size : Int) else N) code ∧ LFr r W w') := fun W r c R hl hW =>
    lTakeText W r c R D N code hl s (lwL s) t2 t1 hc3 g4 g5 h I hI (Utf8Tabs_below hT hW)
  have HTV : Hid (lwV M D N s code = if I = true then .tuple #[hpV M (laidOver D (upA N (txAl code)).toNat (lwB s code)) (upA N (txAl code) + ((lwB s code).size : Int)), .int .i64 (upA N (txAl code)), .int .i64 (tlN s (lwL s) code), .int .i64 0] else .tuple #[hpV M D N, .int .i64 0, .int .i64 0, .int .i64 2]) := by unfold Hid lwV; rw [hb, hI]; rfl
  obtain ⟨g, hgs⟩ : ∃ g, w.heap.size = g := ⟨_, rfl⟩
  rw [HTV.out]
  generalize laidOver D (upA N (txAl code)).toNat (lwB s code) = D2 at *
  generalize upA N (txAl code) + ((lwB s code).size : Int) = N2 at *
  generalize upA N (txAl code) = U at *
  generalize tlN s (lwL s) code = cnt at *
  clear HTV hI hb h hs hT g1 g2 g3 g4 g5 t1 t2 hc3
  cases I with
  | false =>
    simp only [Bool.false_eq_true, if_false] at HT ⊢
    go_enter Tryd.func12, Tryd.ntmps12
    go_wp2_with fail
    refine (HG _).mono ?_
    rintro e w1 ⟨rfl, B1⟩
    have hs1 := B1.size
    simp at hs1
    have hB : Below w.heap.size w w1 := by ((repeat (first | refine bel_alloc ?_ _ | refine bel_dN ?_ _ | refine Below.drew ?_ | refine Below.setCell ?_ (by first | (simp; done) | (simp; omega)) _)); refine bel_step ?_ B1; (repeat (first | refine bel_alloc ?_ _ | refine bel_dN ?_ _ | refine Below.drew ?_ | refine Below.setCell ?_ (by first | (simp; done) | (simp; omega)) _)); exact Below.refl _ _)
    have e0 : w1.heap[g]? = some (.cells #[.int .i64 M, .string D, .int .i64 N] 29 (0, 0)) := (B1.block _ (by simp; omega)).trans (heap_old (heap_blk hgs))
    have e1 : w1.heap[g + 1]? = some (.cells #[.int .i64 0, .string ⟨#[]⟩, .int .i64 0] 29 (0, 0)) := (B1.block _ (by simp; omega)).trans (heap_blk (by simp; omega))
    have p0 : w1.cell? ⟨g, 0, none⟩ = some (.int .i64 M) := (cell_of_block e0 0).trans rfl
    have p1 : w1.cell? ⟨g, 1, none⟩ = some (.string D) := (cell_of_block e0 1).trans rfl
    have p2 : w1.cell? ⟨g, 2, none⟩ = some (.int .i64 N) := (cell_of_block e0 2).trans rfl
    clear B1 HG
    have H2 := HFT.out w1 hB
    go_wp2_with fail
    refine H2.mono ?_
    rintro e wa ⟨rfl, Ba⟩
    have hsa := Ba.size
    replace hB := bel_stepK hB Ba
    replace e0 := (Ba.block g (by omega)).trans e0
    replace e1 := (Ba.block (g + 1) (by omega)).trans e1
    clear p0 p1 p2 H2 HFT Ba
    have p0 : wa.cell? ⟨g, 0, none⟩ = some (.int .i64 M) := (cell_of_block e0 0).trans rfl
    have p1 : wa.cell? ⟨g, 1, none⟩ = some (.string D) := (cell_of_block e0 1).trans rfl
    have p2 : wa.cell? ⟨g, 2, none⟩ = some (.int .i64 N) := (cell_of_block e0 2).trans rfl
    go_wp2_with (go_at_call 31; refine (HC _).mono ?_; rintro e w' ⟨rfl, hw⟩; obtain rfl := hw.symm; clear HC hw)
    refine (HL _).mono ?_
    rintro e w2 ⟨c, R, rfl, L2, b2⟩
    have ht2 := L2.tab
    clear HL p0 p1 p2
    obtain ⟨r, hr⟩ : ∃ r, wa.heap.size = r := ⟨_, rfl⟩
    have hB2 : Below w.heap.size w w2 := bel_stepK hB b2
    rw [hr] at L2 b2 hsa ht2 ⊢
    have HTT := HT.out w2 r c R L2 hB2
    clear HT L2 hB2
    go_wp2_with fail
    refine HTT.mono ?_
    rintro e w3 ⟨R3, rfl, L3, f3⟩
    clear HTT
    have b3 : Below r wa w3 := b2.trans f3.1
    have s3 := f3.2.1
    replace e0 := (b3.block g (by omega)).trans e0
    have e1x := (b3.block (g + 1) (by omega)).trans e1
    have hBx : Below w.heap.size w w3 := hB.trans (b3.mono (by omega))
    have p0 : w3.cell? ⟨g, 0, none⟩ = some (.int .i64 M) := (cell_of_block e0 0).trans rfl
    have p1 : w3.cell? ⟨g, 1, none⟩ = some (.string D) := (cell_of_block e0 1).trans rfl
    have p2 : w3.cell? ⟨g, 2, none⟩ = some (.int .i64 N) := (cell_of_block e0 2).trans rfl
    clear e0 e1 b2 b3 f3 hB
    clear L3
    go_wp2_with fail
    refine (HW _).mono ?_
    rintro e w4 ⟨rfl, b4⟩
    have hb4 := bel_stepK hBx b4
    have e1 := (b4.block (g + 1) (by omega)).trans e1x
    have hl := b4.size
    clear b4 p0 p1 p2 e1x hBx
    have q0 : w4.cell? ⟨g + 1, 0, none⟩ = some (.int .i64 0) := (cell_of_block e1 0).trans rfl
    have q1 : w4.cell? ⟨g + 1, 1, none⟩ = some (.string ⟨#[]⟩) := (cell_of_block e1 1).trans rfl
    have q2 : w4.cell? ⟨g + 1, 2, none⟩ = some (.int .i64 0) := (cell_of_block e1 2).trans rfl
    have z0 := free_of_block e1 0
    have z1 := free_of_block e1 1
    have z2 := free_of_block e1 2
    have F := set3 e1 (.int .i64 M) (.string D) (.int .i64 N) rfl
    have k7 := (cell_of_block F 0).trans (show _ = some (Value.int .i64 M) from rfl)
    have k8 := (cell_of_block F 1).trans (show _ = some (Value.string D) from rfl)
    have k9 := (cell_of_block F 2).trans (show _ = some (Value.int .i64 N) from rfl)
    clear e1 F 
    go_wp2
    refine bodyPost_ret (v := .tuple #[hpV M D N, .int .i64 0, .int .i64 0, .int .i64 2]) (by simp [results, Tryd.results12, go_sem, k7, k8, k9]) rfl ⟨rfl, ?_⟩
    refine Below.setCell (Below.setCell (Below.setCell hb4 ?_ _) ?_ _) ?_ _ <;> simp <;> omega
  | true =>
    simp only [if_true] at HT ⊢
    go_enter Tryd.func12, Tryd.ntmps12
    go_wp2_with fail
    refine (HG _).mono ?_
    rintro e w1 ⟨rfl, B1⟩
    have hs1 := B1.size
    simp at hs1
    have hB : Below w.heap.size w w1 := by ((repeat (first | refine bel_alloc ?_ _ | refine bel_dN ?_ _ | refine Below.drew ?_ | refine Below.setCell ?_ (by first | (simp; done) | (simp; omega)) _)); refine bel_step ?_ B1; (repeat (first | refine bel_alloc ?_ _ | refine bel_dN ?_ _ | refine Below.drew ?_ | refine Below.setCell ?_ (by first | (simp; done) | (simp; omega)) _)); exact Below.refl _ _)
    have e0 : w1.heap[g]? = some (.cells #[.int .i64 M, .string D, .int .i64 N] 29 (0, 0)) := (B1.block _ (by simp; omega)).trans (heap_old (heap_blk hgs))
    have e1 : w1.heap[g + 1]? = some (.cells #[.int .i64 0, .string ⟨#[]⟩, .int .i64 0] 29 (0, 0)) := (B1.block _ (by simp; omega)).trans (heap_blk (by simp; omega))
    have p0 : w1.cell? ⟨g, 0, none⟩ = some (.int .i64 M) := (cell_of_block e0 0).trans rfl
    have p1 : w1.cell? ⟨g, 1, none⟩ = some (.string D) := (cell_of_block e0 1).trans rfl
    have p2 : w1.cell? ⟨g, 2, none⟩ = some (.int .i64 N) := (cell_of_block e0 2).trans rfl
    clear B1 HG
    have H2 := HFT.out w1 hB
    go_wp2_with fail
    refine H2.mono ?_
    rintro e wa ⟨rfl, Ba⟩
    have hsa := Ba.size
    replace hB := bel_stepK hB Ba
    replace e0 := (Ba.block g (by omega)).trans e0
    replace e1 := (Ba.block (g + 1) (by omega)).trans e1
    clear p0 p1 p2 H2 HFT Ba
    have p0 : wa.cell? ⟨g, 0, none⟩ = some (.int .i64 M) := (cell_of_block e0 0).trans rfl
    have p1 : wa.cell? ⟨g, 1, none⟩ = some (.string D) := (cell_of_block e0 1).trans rfl
    have p2 : wa.cell? ⟨g, 2, none⟩ = some (.int .i64 N) := (cell_of_block e0 2).trans rfl
    go_wp2_with (go_at_call 31; refine (HC _).mono ?_; rintro e w' ⟨rfl, hw⟩; obtain rfl := hw.symm; clear HC hw)
    refine (HL _).mono ?_
    rintro e w2 ⟨c, R, rfl, L2, b2⟩
    have ht2 := L2.tab
    clear HL p0 p1 p2
    obtain ⟨r, hr⟩ : ∃ r, wa.heap.size = r := ⟨_, rfl⟩
    have hB2 : Below w.heap.size w w2 := bel_stepK hB b2
    rw [hr] at L2 b2 hsa ht2 ⊢
    have HTT := HT.out w2 r c R L2 hB2
    clear HT L2 hB2
    go_wp2_with fail
    refine HTT.mono ?_
    rintro e w3 ⟨R3, rfl, L3, f3⟩
    clear HTT
    have b3 : Below r wa w3 := b2.trans f3.1
    have s3 := f3.2.1
    replace e0 := (b3.block g (by omega)).trans e0
    have e1x := (b3.block (g + 1) (by omega)).trans e1
    have hBx : Below w.heap.size w w3 := hB.trans (b3.mono (by omega))
    have p0 : w3.cell? ⟨g, 0, none⟩ = some (.int .i64 M) := (cell_of_block e0 0).trans rfl
    have p1 : w3.cell? ⟨g, 1, none⟩ = some (.string D) := (cell_of_block e0 1).trans rfl
    have p2 : w3.cell? ⟨g, 2, none⟩ = some (.int .i64 N) := (cell_of_block e0 2).trans rfl
    clear e0 e1 b2 b3 f3 hB
    have HH := lHeap w3 r c R3 D2 N2 code M N D L3
    clear L3 HW
    go_wp2_with fail
    refine HH.mono ?_
    rintro e w4 ⟨rfl, b4⟩
    have hb4 := bel_stepK hBx b4
    have e1 := (b4.block (g + 1) (by omega)).trans e1x
    have hl := b4.size
    clear b4 p0 p1 p2 e1x hBx
    have q0 : w4.cell? ⟨g + 1, 0, none⟩ = some (.int .i64 0) := (cell_of_block e1 0).trans rfl
    have q1 : w4.cell? ⟨g + 1, 1, none⟩ = some (.string ⟨#[]⟩) := (cell_of_block e1 1).trans rfl
    have q2 : w4.cell? ⟨g + 1, 2, none⟩ = some (.int .i64 0) := (cell_of_block e1 2).trans rfl
    have z0 := free_of_block e1 0
    have z1 := free_of_block e1 1
    have z2 := free_of_block e1 2
    have F := set3 e1 (.int .i64 M) (.string D2) (.int .i64 N2) rfl
    have k7 := (cell_of_block F 0).trans (show _ = some (Value.int .i64 M) from rfl)
    have k8 := (cell_of_block F 1).trans (show _ = some (Value.string D2) from rfl)
    have k9 := (cell_of_block F 2).trans (show _ = some (Value.int .i64 N2) from rfl)
    clear e1 F 
    go_wp2
    refine bodyPost_ret (v := .tuple #[hpV M D2 N2, .int .i64 U, .int .i64 cnt, .int .i64 0]) (by simp [results, Tryd.results12, go_sem, k7, k8, k9]) rfl ⟨rfl, ?_⟩
    refine Below.setCell (Below.setCell (Below.setCell hb4 ?_ _) ?_ _) ?_ _ <;> simp <;> omega

theorem implLowerText (M : Int) (D : ByteArray) (N : Int) (s : ByteArray) (code : Int) (h : D.size ≤ 1048576) (hs : s.size ≤ 1048576) (w : World) (hT : UTabs w) :
    Calls Tryd.prog 12 #[hpV M D N, .string s, .int .i64 code] w fun e w' => e = .returned (lwV M D N s code) ∧ Below w.heap.size w w' := by
  cases hb : lwOk M D N s code with
  | false => exact implLowerT_bad M D N s code h hs hb w hT
  | true => exact implLowerT_good M D N s code h hs hb w hT

end Go.Proofs.YtgepplddhmgifaaDoor

namespace Go.Proofs.YtgepplddhmgifaaDoor
open Go.ChangeShapes Go.WideShapes Go.ChangeAt Go.RowKit Go.PlainAid

/-- What lays values down, at block k. -/
def SW (w : World) (k : Nat) (M : Int) (D : ByteArray) (N code : Int) (rm dr : Bool) : Prop := w.heap[k]? = some (.cells #[.int .i64 M, .string D, .int .i64 N, .int .i64 code, .bool rm, .bool dr] 60 (0, 0))
/-- Nothing is written but that block. -/
def SFr (k : Nat) (w w' : World) : Prop := Below k w w' ∧ w.heap.size ≤ w'.heap.size ∧ ∀ g, g < w.heap.size → k < g → w'.heap[g]? = w.heap[g]?
theorem SFr.of_below {k : Nat} {w w' : World} (h : Below w.heap.size w w') (hr : k ≤ w.heap.size) : SFr k w w' := ⟨h.mono hr, h.size, fun g hg _ => h.block g hg⟩
theorem SFr.trans {k : Nat} {a b c : World} (h : SFr k a b) (q : SFr k b c) : SFr k a c := ⟨h.1.trans q.1, Nat.le_trans h.2.1 q.2.1, fun g hg hr => (q.2.2 g (Nat.lt_of_lt_of_le hg h.2.1) hr).trans (h.2.2 g hg hr)⟩
theorem SFr.set {k : Nat} {w w' : World} (h : SFr k w w') (j : Nat) (v : Value) : SFr k w (w'.setCell ⟨k, j, none⟩ v) := ⟨h.1.setCell (Nat.le_refl _) _, by simpa using h.2.1, fun g hg hr => (heap_setCell_other _ _ _ _ (by simp; omega)).trans (h.2.2 g hg hr)⟩
theorem SFr.alloc {k : Nat} {w w' : World} (h : SFr k w w') (o : Obj) (hk : k ≤ w'.heap.size) : SFr k w (w'.alloc o) := h.trans (SFr.of_below ((Below.refl _ _).alloc (Nat.le_refl _) _) hk)
theorem SW.below {w w' : World} {k : Nat} {M N code : Int} {D : ByteArray} {rm dr : Bool} (h : SW w k M D N code rm dr) (hb : Below w.heap.size w w') : SW w' k M D N code rm dr := (hb.block k (lt_of_block h)).trans h

set_option maxRecDepth 2000000 in
set_option maxHeartbeats 1600000 in
theorem specWTake (w : World) (k : Nat) (M : Int) (D : ByteArray) (N code : Int) (dr : Bool) (h : SW w k M D N code false dr) (A S : Int) (hD : D.size ≤ 1048576) (hA : A = 1 ∨ A = 2 ∨ A = 4 ∨ A = 8) (h0 : 0 ≤ N) (h1 : N ≤ (D.size : Int)) (hS : 0 ≤ S) (I : Bool) (hI : Hid (trIn D N A S = I)) :
    Calls Tryd.prog 52 #[.pointer (some ⟨k, 0, none⟩), .int .i64 A, .int .i64 S] w fun e w' => e = .returned (.int .i64 (if I = true then upA N A else 0)) ∧ SW w' k M D (if I = true then upA N A + S else N) code (!I) dr ∧ SFr k w w' := by
  have HT := specTake M D N A S hD hA h0 h1 hS I hI w
  have hk := lt_of_block h
  have c0 : w.cell? ⟨k, 0, none⟩ = some (.int .i64 M) := (cell_of_block h 0).trans rfl
  have c1 : w.cell? ⟨k, 1, none⟩ = some (.string D) := (cell_of_block h 1).trans rfl
  have c2 : w.cell? ⟨k, 2, none⟩ = some (.int .i64 N) := (cell_of_block h 2).trans rfl
  generalize upA N A = U at *
  generalize U + S = N2 at *
  clear hI hA h0 h1 hS hD
  cases I with
  | false =>
    simp only [Bool.false_eq_true, if_false, Bool.not_false] at HT ⊢
    go_enter Tryd.func52, Tryd.ntmps52
    go_wp2_with fail
    refine HT.mono ?_
    rintro e w1 ⟨rfl, B1⟩
    have h2 := (SW.below h B1)
    have s1 := B1.size
    have F1 := SFr.of_below (k := k) B1 (by omega)
    have d4 : w1.cell? ⟨k, 4, none⟩ = some (.bool false) := (cell_of_block h2 4).trans rfl
    have f4 := free_of_block h2 4
    have H2 := heap_old (o := .cells #[.int .i64 M, .string D, .int .i64 N] 29) h2
    have g4 := (cell_of_block H2 4).trans (show _ = some (Value.bool false) from rfl)
    have z4 := free_of_block H2 4
    have hk1 : k < w1.heap.size := by omega
    have HE : Hid (SW ((w1.setCell ⟨k, 4, none⟩ (.bool true)).alloc (.cells #[.int .i64 M, .string D, .int .i64 N] 29)) k M D N code true dr ∧ SFr k w ((w1.setCell ⟨k, 4, none⟩ (.bool true)).alloc (.cells #[.int .i64 M, .string D, .int .i64 N] 29))) := by
      refine ⟨heap_old ?_, (F1.set 4 _).alloc _ (by simp; omega)⟩
      rw [heap_setCell_same _ _ _ _ _ _ h2]; rfl
    clear HT B1 h2 c0 c1 c2 F1 H2
    go_wp2
    go_ret
    exact ⟨rfl, HE.out.1, HE.out.2⟩
  | true =>
    simp only [if_true, Bool.not_true] at HT ⊢
    go_enter Tryd.func52, Tryd.ntmps52
    go_wp2_with fail
    refine HT.mono ?_
    rintro e w1 ⟨rfl, B1⟩
    have h2 := (SW.below h B1)
    have s1 := B1.size
    have F1 := SFr.of_below (k := k) B1 (by omega)
    have hk1 : k < w1.heap.size := by omega
    have H2 := heap_old (o := .cells #[.int .i64 M, .string D, .int .i64 N2] 29) h2
    have d0 : w1.cell? ⟨k, 0, none⟩ = some (.int .i64 M) := (cell_of_block h2 0).trans rfl
    have d1 : w1.cell? ⟨k, 1, none⟩ = some (.string D) := (cell_of_block h2 1).trans rfl
    have d2 : w1.cell? ⟨k, 2, none⟩ = some (.int .i64 N) := (cell_of_block h2 2).trans rfl
    have f0 := free_of_block h2 0
    have f1 := free_of_block h2 1
    have f2 := free_of_block h2 2
    have g0 := (cell_of_block H2 0).trans (show _ = some (Value.int .i64 M) from rfl)
    have g1 := (cell_of_block H2 1).trans (show _ = some (Value.string D) from rfl)
    have g2 := (cell_of_block H2 2).trans (show _ = some (Value.int .i64 N) from rfl)
    have z0 := free_of_block H2 0
    have z1 := free_of_block H2 1
    have z2 := free_of_block H2 2
    have HE : Hid (SW ((((w1.setCell ⟨k, 0, none⟩ (.int .i64 M)).setCell ⟨k, 1, none⟩ (.string D)).setCell ⟨k, 2, none⟩ (.int .i64 N2)).alloc (.cells #[.int .i64 M, .string D, .int .i64 N2] 29)) k M D N2 code false dr ∧ SFr k w ((((w1.setCell ⟨k, 0, none⟩ (.int .i64 M)).setCell ⟨k, 1, none⟩ (.string D)).setCell ⟨k, 2, none⟩ (.int .i64 N2)).alloc (.cells #[.int .i64 M, .string D, .int .i64 N2] 29))) := by
      refine ⟨heap_old ?_, (((F1.set 0 _).set 1 _).set 2 _).alloc _ (by simp; omega)⟩
      rw [heap_setCell_same _ _ _ _ _ _ (heap_setCell_same _ _ _ _ _ _ (heap_setCell_same _ _ _ _ _ _ h2))]; rfl
    clear HT B1 h2 c0 c1 c2 F1 H2
    go_wp2
    go_ret
    exact ⟨rfl, HE.out.1, HE.out.2⟩

set_option maxRecDepth 2000000 in
set_option maxHeartbeats 1600000 in
theorem specWLay_no (w : World) (k : Nat) (M : Int) (D : ByteArray) (N code : Int) (rm dr : Bool) (h : SW w k M D N code rm dr) (hn : (rm || dr) = true) (at' : Int) (s : ByteArray) :
    Calls Tryd.prog 53 #[.pointer (some ⟨k, 0, none⟩), .int .i64 at', .string s] w fun e w' => e = .returned (.tuple #[]) ∧ w' = w := by
  have c4 : w.cell? ⟨k, 4, none⟩ = some (.bool rm) := (cell_of_block h 4).trans rfl
  have c5 : w.cell? ⟨k, 5, none⟩ = some (.bool dr) := (cell_of_block h 5).trans rfl
  clear h
  cases rm with
  | true =>
    clear hn
    go_enter Tryd.func53, Tryd.ntmps53
    go_wp2
    exact bodyPost_end (v := .tuple #[]) (by simp [results, Tryd.results53, go_sem]) rfl ⟨rfl, rfl⟩
  | false =>
    obtain rfl : dr = true := by simpa using hn
    clear hn
    go_enter Tryd.func53, Tryd.ntmps53
    go_wp2
    exact bodyPost_end (v := .tuple #[]) (by simp [results, Tryd.results53, go_sem]) rfl ⟨rfl, rfl⟩

set_option maxRecDepth 2000000 in
set_option maxHeartbeats 1600000 in
theorem specWLay (w : World) (k : Nat) (M : Int) (D : ByteArray) (N code : Int) (h : SW w k M D N code false false) (hD : D.size ≤ 1048576) (a : Nat) (s : ByteArray) (hf : a + s.size ≤ D.size) :
    Calls Tryd.prog 53 #[.pointer (some ⟨k, 0, none⟩), .int .i64 (a : Int), .string s] w fun e w' => e = .returned (.tuple #[]) ∧ SW w' k M (laidOver D a s) N code false false ∧ SFr k w w' := by
  have HS := l5Store M D hD a s hf w
  have hk := lt_of_block h
  have c0 : w.cell? ⟨k, 0, none⟩ = some (.int .i64 M) := (cell_of_block h 0).trans rfl
  have c1 : w.cell? ⟨k, 1, none⟩ = some (.string D) := (cell_of_block h 1).trans rfl
  have c4 : w.cell? ⟨k, 4, none⟩ = some (.bool false) := (cell_of_block h 4).trans rfl
  have c5 : w.cell? ⟨k, 5, none⟩ = some (.bool false) := (cell_of_block h 5).trans rfl
  generalize laidOver D a s = X at *
  clear hf hD
  go_enter Tryd.func53, Tryd.ntmps53
  go_wp2_with fail
  refine HS.mono ?_
  rintro e w1 ⟨rfl, B1⟩
  have h2 := (SW.below h B1)
  have s1 := B1.size
  have F1 := SFr.of_below (k := k) B1 (by omega)
  have d0 : w1.cell? ⟨k, 0, none⟩ = some (.int .i64 M) := (cell_of_block h2 0).trans rfl
  have d1 : w1.cell? ⟨k, 1, none⟩ = some (.string D) := (cell_of_block h2 1).trans rfl
  have f0 := free_of_block h2 0
  have f1 := free_of_block h2 1
  have HE : Hid (SW ((w1.setCell ⟨k, 0, none⟩ (.int .i64 M)).setCell ⟨k, 1, none⟩ (.string X)) k M X N code false false ∧ SFr k w ((w1.setCell ⟨k, 0, none⟩ (.int .i64 M)).setCell ⟨k, 1, none⟩ (.string X))) := by
    refine ⟨?_, (F1.set 0 _).set 1 _⟩
    unfold SW
    rw [heap_setCell_same _ _ _ _ _ _ (heap_setCell_same _ _ _ _ _ _ h2)]; rfl
  clear HS B1 h2 c0 c1 c4 c5 F1 h
  go_wp2
  exact bodyPost_end (v := .tuple #[]) (by simp [results, Tryd.results53, go_sem]) rfl ⟨rfl, HE.out.1, HE.out.2⟩

set_option maxRecDepth 2000000 in
set_option maxHeartbeats 1600000 in
theorem specWText (w : World) (k : Nat) (M : Int) (D : ByteArray) (N code : Int) (dr : Bool) (h : SW w k M D N code false dr) (s : ByteArray) (L : List Int) (hs : s.size ≤ 200) (hg : gd 1 s = some L) (hc : 1 ≤ code ∧ code ≤ 3) (h0 : 0 ≤ N) (h1 : N ≤ (D.size : Int)) (hD : D.size ≤ 1048576) (I : Bool) (hI : Hid (trIn D N (txAl code) ((tlB s L code).size : Int) = I)) :
    Calls Tryd.prog 29 #[.pointer (some ⟨k, 0, none⟩), .string s] w fun e w' => e = .returned (.tuple #[.int .i64 (if I = true then upA N (txAl code) else 0), .int .i64 (tlN s L code)]) ∧ SW w' k M (if I = true ∧ dr = false then laidOver D (upA N (txAl code)).toNat (tlB s L code) else D) (if I = true then upA N (txAl code) + ((tlB s L code).size : Int) else N) code (!I) dr ∧ SFr k w w' := by
  have hk := lt_of_block h
  have hal := txAl_in code
  have hU := upA_in (N := N) hal
  have HA := specText13 s L code hs hg hc w
  have HTK : Hid (∀ W, Below w.heap.size w W → Calls Tryd.prog 52 #[.pointer (some ⟨k, 0, none⟩), .int .i64 (txAl code), .int .i64 ((tlB s L code).size : Int)] W fun e w' => e = .returned (.int .i64 (if I = true then upA N (txAl code) else 0)) ∧ SW w' k M D (if I = true then upA N (txAl code) + ((tlB s L code).size : Int) else N) code (!I) dr ∧ SFr k W w') := fun W hW =>
    specWTake W k M D N code dr (h.below hW) _ _ hD hal h0 h1 (by omega) I hI
  have hfit : I = true → (upA N (txAl code)).toNat + (tlB s L code).size ≤ D.size ∧ ((upA N (txAl code)).toNat : Int) = upA N (txAl code) := fun hi => by
    have h9 := hI.out
    rw [hi] at h9
    unfold trIn at h9
    simp at h9
    omega
  have c3 : w.cell? ⟨k, 3, none⟩ = some (.int .i64 code) := (cell_of_block h 3).trans rfl
  generalize txAl code = al at *
  generalize tlN s L code = cnt at *
  generalize tlB s L code = b at *
  obtain ⟨n, hn⟩ : ∃ n : Int, (b.size : Int) = n := ⟨_, rfl⟩
  rw [hn] at HTK ⊢
  have hkw : k ≤ w.heap.size := by omega
  clear hI h hs hg hc h0 h1 hU hal
  cases I with
  | false =>
    simp only [Bool.false_eq_true, if_false, Bool.not_false, false_and] at HTK ⊢
    go_enter Tryd.func29, Tryd.ntmps29
    go_wp2_with fail
    refine HA.mono ?_
    rintro e w1 ⟨rfl, B1⟩
    have H2 := HTK.out w1 B1
    clear HA HTK c3
    go_wp2_with fail
    refine H2.mono ?_
    rintro e w2 ⟨rfl, S2, F2⟩
    have H3 := specWLay_no w2 k M D N code true dr S2 rfl 0 b
    clear H2
    go_wp2_with fail
    refine H3.mono ?_
    rintro e w' ⟨rfl, hw⟩
    obtain rfl := hw.symm
    clear H3 hw
    go_wp2
    go_ret2
    exact ⟨rfl, S2, (SFr.of_below B1 hkw).trans F2⟩
  | true =>
    simp only [if_true, Bool.not_true, true_and] at HTK ⊢
    obtain ⟨hf, hUn⟩ := hfit rfl
    clear hfit
    generalize upA N al = U at *
    obtain ⟨u, hu⟩ : ∃ u, U.toNat = u := ⟨_, rfl⟩
    rw [hu] at hf hUn ⊢
    subst hUn
    clear hu
    cases dr with
    | true =>
      simp only [Bool.true_eq_false, if_false]
      go_enter Tryd.func29, Tryd.ntmps29
      go_wp2_with fail
      refine HA.mono ?_
      rintro e w1 ⟨rfl, B1⟩
      have H2 := HTK.out w1 B1
      clear HA HTK c3
      go_wp2_with fail
      refine H2.mono ?_
      rintro e w2 ⟨rfl, S2, F2⟩
      have H3 := specWLay_no w2 k M D _ code false true S2 rfl (u : Int) b
      clear H2
      go_wp2_with fail
      refine H3.mono ?_
      rintro e w' ⟨rfl, hw⟩
      obtain rfl := hw.symm
      clear H3 hw
      go_wp2
      go_ret2
      exact ⟨rfl, S2, (SFr.of_below B1 hkw).trans F2⟩
    | false =>
      simp only [if_true]
      go_enter Tryd.func29, Tryd.ntmps29
      go_wp2_with fail
      refine HA.mono ?_
      rintro e w1 ⟨rfl, B1⟩
      have H2 := HTK.out w1 B1
      clear HA HTK c3
      go_wp2_with fail
      refine H2.mono ?_
      rintro e w2 ⟨rfl, S2, F2⟩
      have H3 := specWLay w2 k M D _ code S2 hD u b hf
      clear H2
      go_wp2_with fail
      refine H3.mono ?_
      rintro e w3 ⟨rfl, S3, F3⟩
      have HE : Hid (SW w3 k M (laidOver D u b) ((u : Int) + n) code false false ∧ SFr k w w3) := ⟨S3, ((SFr.of_below B1 hkw).trans F2).trans F3⟩
      clear H3 S2 F2 S3 F3 B1
      go_wp2
      go_ret2
      exact ⟨rfl, HE.out.1, HE.out.2⟩

set_option maxRecDepth 2000000 in
set_option maxHeartbeats 1600000 in
theorem specDec1 (s : ByteArray) (hs : s.size ≤ 1048576) (w : World) :
    Calls Tryd.prog 27 #[.string s, .int .i64 1] w fun e w' => ∃ v, e = .returned (.tuple #[v, .bool (gd 1 s).isSome]) ∧ Below w.heap.size w w' := by
  refine (specDecode s 1 hs w).mono ?_
  rintro e w1 ⟨⟨L, v, hg, rfl, _⟩ | ⟨hg, v, rfl⟩, hb⟩
  · rw [hg]; exact ⟨v, rfl, hb⟩
  · rw [hg]; exact ⟨v, rfl, hb⟩

set_option maxRecDepth 2000000 in
set_option maxHeartbeats 1600000 in
theorem specLowerText (M : Int) (D : ByteArray) (N : Int) (s : ByteArray) (code : Int) (h : D.size ≤ 1048576) (hs : s.size ≤ 1048576) (w : World) :
    Calls Tryd.prog 11 #[hpV M D N, .string s, .int .i64 code] w fun e w' => e = .returned (lwV M D N s code) ∧ Below w.heap.size w w' := by
  have HG := specGoodHeap M D N h
  have HD := specDec1 s hs
  have HC := specCode code
  rw [show decide (1 ≤ code ∧ code ≤ 3) = cdB code from rfl] at HC
  obtain ⟨g, hgs⟩ : ∃ g, w.heap.size = g := ⟨_, rfl⟩
  cases g1 : goodH M D N with
  | false =>
    rw [g1] at HG
    rw [show lwV M D N s code = .tuple #[hpV 0 ⟨#[]⟩ 0, .int .i64 0, .int .i64 0, .int .i64 1] by unfold lwV lwOk kM kD kN; rw [g1]; rfl]
    clear g1 HC HD h hs
    go_enter Tryd.func11, Tryd.ntmps11
    go_wp2_with fail
    refine (HG _).mono ?_
    rintro e w1 ⟨rfl, B1⟩
    have hs1 := B1.size
    simp at hs1
    have hB : Below w.heap.size w w1 := by ((repeat (first | refine bel_alloc ?_ _ | refine bel_dN ?_ _ | refine Below.drew ?_ | refine Below.setCell ?_ (by first | (simp; done) | (simp; omega)) _)); refine bel_step ?_ B1; (repeat (first | refine bel_alloc ?_ _ | refine bel_dN ?_ _ | refine Below.drew ?_ | refine Below.setCell ?_ (by first | (simp; done) | (simp; omega)) _)); exact Below.refl _ _)
    have e0 : w1.heap[g]? = some (.cells #[.int .i64 M, .string D, .int .i64 N] 29 (0, 0)) := (B1.block _ (by simp; omega)).trans (heap_old (heap_blk hgs))
    have e1 : w1.heap[g + 1]? = some (.cells #[.int .i64 0, .string ⟨#[]⟩, .int .i64 0] 29 (0, 0)) := (B1.block _ (by simp; omega)).trans (heap_blk (by simp; omega))
    clear B1 HG
    have q0 : w1.cell? ⟨g + 1, 0, none⟩ = some (.int .i64 0) := (cell_of_block e1 0).trans rfl
    have q1 : w1.cell? ⟨g + 1, 1, none⟩ = some (.string ⟨#[]⟩) := (cell_of_block e1 1).trans rfl
    have q2 : w1.cell? ⟨g + 1, 2, none⟩ = some (.int .i64 0) := (cell_of_block e1 2).trans rfl
    have z0 := free_of_block e1 0
    have z1 := free_of_block e1 1
    have z2 := free_of_block e1 2
    have F := set3 e1 (.int .i64 0) (.string ⟨#[]⟩) (.int .i64 0) rfl
    have k7 := (cell_of_block F 0).trans (show _ = some (Value.int .i64 0) from rfl)
    have k8 := (cell_of_block F 1).trans (show _ = some (Value.string ⟨#[]⟩) from rfl)
    have k9 := (cell_of_block F 2).trans (show _ = some (Value.int .i64 0) from rfl)
    clear F
    clear e0 e1
    go_wp2
    refine bodyPost_ret (v := .tuple #[hpV 0 ⟨#[]⟩ 0, .int .i64 0, .int .i64 0, .int .i64 1]) (by simp [results, Tryd.results11, go_sem, k7, k8, k9]) rfl ⟨rfl, ?_⟩
    refine Below.setCell (Below.setCell (Below.setCell hB ?_ _) ?_ _) ?_ _ <;> simp <;> omega
  | true =>
    rw [g1] at HG
    obtain ⟨_, g4, g5⟩ := goodH_yes g1
    obtain ⟨P, hP⟩ : ∃ P, (gd 1 s).isSome = P := ⟨_, rfl⟩
    obtain ⟨Q, hQ⟩ : ∃ Q, decide (s.size ≤ 200) = Q := ⟨_, rfl⟩
    obtain ⟨K, hK⟩ : ∃ K, cdB code = K := ⟨_, rfl⟩
    have hQ2 : decide ((200 : Int) < (s.size : Int)) = !Q := by rw [← hQ]; by_cases h9 : s.size ≤ 200 <;> simp [h9] <;> omega
    have hft : ftB s = (P && Q) := by unfold ftB; rw [hP, hQ]
    have HP : ∀ W : World, Calls Tryd.prog 27 #[.string s, .int .i64 1] W fun e w' => ∃ v, e = .returned (.tuple #[v, .bool P]) ∧ Below W.heap.size W w' := by rw [← hP]; exact HD
    replace HD := HP
    clear HP
    rw [hK] at HC
    by_cases hbad : (P && (Q && K)) = false
    · rw [show lwV M D N s code = .tuple #[hpV M D N, .int .i64 0, .int .i64 0, .int .i64 1] by unfold lwV lwOk kM kD kN; rw [g1, hft, hK, Bool.and_assoc, hbad]; rfl]
      have HB : Hid ((P && (Q && K)) = false) := hbad
      obtain ⟨ns, hns⟩ : ∃ x : Int, (s.size : Int) = x := ⟨_, rfl⟩
      rw [hns] at hQ2
      clear g1 h hs g4 g5 hbad hft hP hQ hK
      cases P with
      | false =>
        clear HB HC
        go_enter Tryd.func11, Tryd.ntmps11
        go_wp2_with fail
        refine (HG _).mono ?_
        rintro e w1 ⟨rfl, B1⟩
        have hs1 := B1.size
        simp at hs1
        have hB : Below w.heap.size w w1 := by ((repeat (first | refine bel_alloc ?_ _ | refine bel_dN ?_ _ | refine Below.drew ?_ | refine Below.setCell ?_ (by first | (simp; done) | (simp; omega)) _)); refine bel_step ?_ B1; (repeat (first | refine bel_alloc ?_ _ | refine bel_dN ?_ _ | refine Below.drew ?_ | refine Below.setCell ?_ (by first | (simp; done) | (simp; omega)) _)); exact Below.refl _ _)
        have e0 : w1.heap[g]? = some (.cells #[.int .i64 M, .string D, .int .i64 N] 29 (0, 0)) := (B1.block _ (by simp; omega)).trans (heap_old (heap_blk hgs))
        have e1 : w1.heap[g + 1]? = some (.cells #[.int .i64 0, .string ⟨#[]⟩, .int .i64 0] 29 (0, 0)) := (B1.block _ (by simp; omega)).trans (heap_blk (by simp; omega))
        clear B1 HG
        have HDD := HD w1
        go_wp2_with fail
        refine HDD.mono ?_
        rintro e w2 ⟨vv, rfl, B2⟩
        have hs2 := B2.size
        replace hB := bel_stepK hB B2
        replace e0 := (B2.block g (by omega)).trans e0
        replace e1 := (B2.block (g + 1) (by omega)).trans e1
        have hl2 : g + 1 < w2.heap.size := by omega
        clear HDD HD B2
        have p0 : w2.cell? ⟨g, 0, none⟩ = some (.int .i64 M) := (cell_of_block e0 0).trans rfl
        have p1 : w2.cell? ⟨g, 1, none⟩ = some (.string D) := (cell_of_block e0 1).trans rfl
        have p2 : w2.cell? ⟨g, 2, none⟩ = some (.int .i64 N) := (cell_of_block e0 2).trans rfl
        have q0 : w2.cell? ⟨g + 1, 0, none⟩ = some (.int .i64 0) := (cell_of_block e1 0).trans rfl
        have q1 : w2.cell? ⟨g + 1, 1, none⟩ = some (.string ⟨#[]⟩) := (cell_of_block e1 1).trans rfl
        have q2 : w2.cell? ⟨g + 1, 2, none⟩ = some (.int .i64 0) := (cell_of_block e1 2).trans rfl
        have z0 := free_of_block e1 0
        have z1 := free_of_block e1 1
        have z2 := free_of_block e1 2
        have F := set3 e1 (.int .i64 M) (.string D) (.int .i64 N) rfl
        have k7 := (cell_of_block F 0).trans (show _ = some (Value.int .i64 M) from rfl)
        have k8 := (cell_of_block F 1).trans (show _ = some (Value.string D) from rfl)
        have k9 := (cell_of_block F 2).trans (show _ = some (Value.int .i64 N) from rfl)
        clear F
        clear e0 e1
        go_wp2
        refine bodyPost_ret (v := .tuple #[hpV M D N, .int .i64 0, .int .i64 0, .int .i64 1]) (by simp [results, Tryd.results11, go_sem, k7, k8, k9]) rfl ⟨rfl, ?_⟩
        refine Below.setCell (Below.setCell (Below.setCell hB ?_ _) ?_ _) ?_ _ <;> simp <;> omega
      | true =>
        cases Q with
        | false =>
          clear HB HC
          go_enter Tryd.func11, Tryd.ntmps11
          go_wp2_with fail
          refine (HG _).mono ?_
          rintro e w1 ⟨rfl, B1⟩
          have hs1 := B1.size
          simp at hs1
          have hB : Below w.heap.size w w1 := by ((repeat (first | refine bel_alloc ?_ _ | refine bel_dN ?_ _ | refine Below.drew ?_ | refine Below.setCell ?_ (by first | (simp; done) | (simp; omega)) _)); refine bel_step ?_ B1; (repeat (first | refine bel_alloc ?_ _ | refine bel_dN ?_ _ | refine Below.drew ?_ | refine Below.setCell ?_ (by first | (simp; done) | (simp; omega)) _)); exact Below.refl _ _)
          have e0 : w1.heap[g]? = some (.cells #[.int .i64 M, .string D, .int .i64 N] 29 (0, 0)) := (B1.block _ (by simp; omega)).trans (heap_old (heap_blk hgs))
          have e1 : w1.heap[g + 1]? = some (.cells #[.int .i64 0, .string ⟨#[]⟩, .int .i64 0] 29 (0, 0)) := (B1.block _ (by simp; omega)).trans (heap_blk (by simp; omega))
          clear B1 HG
          have HDD := HD w1
          go_wp2_with fail
          refine HDD.mono ?_
          rintro e w2 ⟨vv, rfl, B2⟩
          have hs2 := B2.size
          replace hB := bel_stepK hB B2
          replace e0 := (B2.block g (by omega)).trans e0
          replace e1 := (B2.block (g + 1) (by omega)).trans e1
          have hl2 : g + 1 < w2.heap.size := by omega
          clear HDD HD B2
          have p0 : w2.cell? ⟨g, 0, none⟩ = some (.int .i64 M) := (cell_of_block e0 0).trans rfl
          have p1 : w2.cell? ⟨g, 1, none⟩ = some (.string D) := (cell_of_block e0 1).trans rfl
          have p2 : w2.cell? ⟨g, 2, none⟩ = some (.int .i64 N) := (cell_of_block e0 2).trans rfl
          have q0 : w2.cell? ⟨g + 1, 0, none⟩ = some (.int .i64 0) := (cell_of_block e1 0).trans rfl
          have q1 : w2.cell? ⟨g + 1, 1, none⟩ = some (.string ⟨#[]⟩) := (cell_of_block e1 1).trans rfl
          have q2 : w2.cell? ⟨g + 1, 2, none⟩ = some (.int .i64 0) := (cell_of_block e1 2).trans rfl
          have z0 := free_of_block e1 0
          have z1 := free_of_block e1 1
          have z2 := free_of_block e1 2
          have F := set3 e1 (.int .i64 M) (.string D) (.int .i64 N) rfl
          have k7 := (cell_of_block F 0).trans (show _ = some (Value.int .i64 M) from rfl)
          have k8 := (cell_of_block F 1).trans (show _ = some (Value.string D) from rfl)
          have k9 := (cell_of_block F 2).trans (show _ = some (Value.int .i64 N) from rfl)
          clear F
          clear e0 e1
          go_wp2
          refine bodyPost_ret (v := .tuple #[hpV M D N, .int .i64 0, .int .i64 0, .int .i64 1]) (by simp [results, Tryd.results11, go_sem, k7, k8, k9]) rfl ⟨rfl, ?_⟩
          refine Below.setCell (Below.setCell (Below.setCell hB ?_ _) ?_ _) ?_ _ <;> simp <;> omega
        | true =>
          obtain rfl : K = false := by have := HB.out; simpa using this
          clear HB
          go_enter Tryd.func11, Tryd.ntmps11
          go_wp2_with fail
          refine (HG _).mono ?_
          rintro e w1 ⟨rfl, B1⟩
          have hs1 := B1.size
          simp at hs1
          have hB : Below w.heap.size w w1 := by ((repeat (first | refine bel_alloc ?_ _ | refine bel_dN ?_ _ | refine Below.drew ?_ | refine Below.setCell ?_ (by first | (simp; done) | (simp; omega)) _)); refine bel_step ?_ B1; (repeat (first | refine bel_alloc ?_ _ | refine bel_dN ?_ _ | refine Below.drew ?_ | refine Below.setCell ?_ (by first | (simp; done) | (simp; omega)) _)); exact Below.refl _ _)
          have e0 : w1.heap[g]? = some (.cells #[.int .i64 M, .string D, .int .i64 N] 29 (0, 0)) := (B1.block _ (by simp; omega)).trans (heap_old (heap_blk hgs))
          have e1 : w1.heap[g + 1]? = some (.cells #[.int .i64 0, .string ⟨#[]⟩, .int .i64 0] 29 (0, 0)) := (B1.block _ (by simp; omega)).trans (heap_blk (by simp; omega))
          clear B1 HG
          have HDD := HD w1
          go_wp2_with fail
          refine HDD.mono ?_
          rintro e w2 ⟨vv, rfl, B2⟩
          have hs2 := B2.size
          replace hB := bel_stepK hB B2
          replace e0 := (B2.block g (by omega)).trans e0
          replace e1 := (B2.block (g + 1) (by omega)).trans e1
          have hl2 : g + 1 < w2.heap.size := by omega
          clear HDD HD B2
          have p0 : w2.cell? ⟨g, 0, none⟩ = some (.int .i64 M) := (cell_of_block e0 0).trans rfl
          have p1 : w2.cell? ⟨g, 1, none⟩ = some (.string D) := (cell_of_block e0 1).trans rfl
          have p2 : w2.cell? ⟨g, 2, none⟩ = some (.int .i64 N) := (cell_of_block e0 2).trans rfl
          have q0 : w2.cell? ⟨g + 1, 0, none⟩ = some (.int .i64 0) := (cell_of_block e1 0).trans rfl
          have q1 : w2.cell? ⟨g + 1, 1, none⟩ = some (.string ⟨#[]⟩) := (cell_of_block e1 1).trans rfl
          have q2 : w2.cell? ⟨g + 1, 2, none⟩ = some (.int .i64 0) := (cell_of_block e1 2).trans rfl
          have z0 := free_of_block e1 0
          have z1 := free_of_block e1 1
          have z2 := free_of_block e1 2
          have F := set3 e1 (.int .i64 M) (.string D) (.int .i64 N) rfl
          have k7 := (cell_of_block F 0).trans (show _ = some (Value.int .i64 M) from rfl)
          have k8 := (cell_of_block F 1).trans (show _ = some (Value.string D) from rfl)
          have k9 := (cell_of_block F 2).trans (show _ = some (Value.int .i64 N) from rfl)
          clear F
          clear e0 e1
          go_wp2_with (go_at_call 28; refine (HC _).mono ?_; rintro e w' ⟨rfl, hw⟩; obtain rfl := hw.symm; clear HC hw)
          refine bodyPost_ret (v := .tuple #[hpV M D N, .int .i64 0, .int .i64 0, .int .i64 1]) (by simp [results, Tryd.results11, go_sem, k7, k8, k9]) rfl ⟨rfl, ?_⟩
          refine Below.setCell (Below.setCell (Below.setCell hB ?_ _) ?_ _) ?_ _ <;> simp <;> omega
    · obtain ⟨rfl, rfl, rfl⟩ : P = true ∧ Q = true ∧ K = true := by simpa using hbad
      obtain ⟨t1, t2⟩ := ft_some hft
      have hc3 : 1 ≤ code ∧ code ≤ 3 := by simpa [cdB] using hK
      obtain ⟨I, hI⟩ : ∃ I, lwIn D N s code = I := ⟨_, rfl⟩
      have HT : Hid (∀ W k, SW W k M D N code false false → Calls Tryd.prog 29 #[.pointer (some ⟨k, 0, none⟩), .string s] W fun e w' => e = .returned (.tuple #[.int .i64 (if I = true then upA N (txAl code) else 0), .int .i64 (tlN s (lwL s) code)]) ∧ SW w' k M (if I = true ∧ false = false then laidOver D (upA N (txAl code)).toNat (lwB s code) else D) (if I = true then upA N (txAl code) + ((lwB s code).size : Int) else N) code (!I) false ∧ SFr k W w') := fun W k hsw => specWText W k M D N code false hsw s (lwL s) t2 t1 hc3 g4 g5 h I hI
      rw [show lwV M D N s code = if I = true then .tuple #[hpV M (laidOver D (upA N (txAl code)).toNat (lwB s code)) (upA N (txAl code) + ((lwB s code).size : Int)), .int .i64 (upA N (txAl code)), .int .i64 (tlN s (lwL s) code), .int .i64 0] else .tuple #[hpV M D N, .int .i64 0, .int .i64 0, .int .i64 2] by unfold lwV lwOk; rw [g1, hft, hK, hI]; rfl]
      generalize laidOver D (upA N (txAl code)).toNat (lwB s code) = D2 at *
      generalize upA N (txAl code) + ((lwB s code).size : Int) = N2 at *
      generalize upA N (txAl code) = U at *
      generalize tlN s (lwL s) code = cnt at *
      obtain ⟨ns, hns⟩ : ∃ x : Int, (s.size : Int) = x := ⟨_, rfl⟩
      rw [hns] at hQ2
      simp only [Bool.not_true] at hQ2
      clear g1 h hs g4 g5 hbad hft hP hQ hK t1 t2 hc3 hI
      cases I with
      | false =>
        simp only [Bool.false_eq_true, if_false, Bool.not_false, false_and] at HT ⊢
        go_enter Tryd.func11, Tryd.ntmps11
        go_wp2_with fail
        refine (HG _).mono ?_
        rintro e w1 ⟨rfl, B1⟩
        have hs1 := B1.size
        simp at hs1
        have hB : Below w.heap.size w w1 := by ((repeat (first | refine bel_alloc ?_ _ | refine bel_dN ?_ _ | refine Below.drew ?_ | refine Below.setCell ?_ (by first | (simp; done) | (simp; omega)) _)); refine bel_step ?_ B1; (repeat (first | refine bel_alloc ?_ _ | refine bel_dN ?_ _ | refine Below.drew ?_ | refine Below.setCell ?_ (by first | (simp; done) | (simp; omega)) _)); exact Below.refl _ _)
        have e0 : w1.heap[g]? = some (.cells #[.int .i64 M, .string D, .int .i64 N] 29 (0, 0)) := (B1.block _ (by simp; omega)).trans (heap_old (heap_blk hgs))
        have e1 : w1.heap[g + 1]? = some (.cells #[.int .i64 0, .string ⟨#[]⟩, .int .i64 0] 29 (0, 0)) := (B1.block _ (by simp; omega)).trans (heap_blk (by simp; omega))
        clear B1 HG
        have HDD := HD w1
        go_wp2_with fail
        refine HDD.mono ?_
        rintro e w2 ⟨vv, rfl, B2⟩
        have hs2 := B2.size
        replace hB := bel_stepK hB B2
        replace e0 := (B2.block g (by omega)).trans e0
        replace e1 := (B2.block (g + 1) (by omega)).trans e1
        have hl2 : g + 1 < w2.heap.size := by omega
        clear HDD HD B2
        have p0 : w2.cell? ⟨g, 0, none⟩ = some (.int .i64 M) := (cell_of_block e0 0).trans rfl
        have p1 : w2.cell? ⟨g, 1, none⟩ = some (.string D) := (cell_of_block e0 1).trans rfl
        have p2 : w2.cell? ⟨g, 2, none⟩ = some (.int .i64 N) := (cell_of_block e0 2).trans rfl
        have HSW : SW (w2.alloc (.cells #[.int .i64 M, .string D, .int .i64 N, .int .i64 code, .bool false, .bool false] 60)) w2.heap.size M D N code false false := heap_alloc_new _ _
        have HTT := HT.out _ _ HSW
        have hBa : Below w.heap.size w (w2.alloc (.cells #[.int .i64 M, .string D, .int .i64 N, .int .i64 code, .bool false, .bool false] 60)) := hB.alloc hB.size _
        have e0a := heap_old (o := .cells #[.int .i64 M, .string D, .int .i64 N, .int .i64 code, .bool false, .bool false] 60) e0
        have e1a := heap_old (o := .cells #[.int .i64 M, .string D, .int .i64 N, .int .i64 code, .bool false, .bool false] 60) e1
        clear HSW HT e0 e1
        go_wp2_with (go_at_call 28; refine (HC _).mono ?_; rintro e w' ⟨rfl, hw⟩; obtain rfl := hw.symm; clear HC hw)
        refine HTT.mono ?_
        rintro e w3 ⟨rfl, S3, F3⟩
        obtain ⟨k, hk⟩ : ∃ k, w2.heap.size = k := ⟨_, rfl⟩
        rw [hk] at S3 F3 hl2
        have e0 := (F3.1.block g (by omega)).trans e0a
        have e1 := (F3.1.block (g + 1) (by omega)).trans e1a
        have hB3 : Below w.heap.size w w3 := hBa.trans (F3.1.mono (by omega))
        have s3 := lt_of_block S3
        have r4 : w3.cell? ⟨k, 4, none⟩ = some (.bool true) := (cell_of_block S3 4).trans rfl
        have r0 : w3.cell? ⟨k, 0, none⟩ = some (.int .i64 M) := (cell_of_block S3 0).trans rfl
        have r1 : w3.cell? ⟨k, 1, none⟩ = some (.string D) := (cell_of_block S3 1).trans rfl
        have r2 : w3.cell? ⟨k, 2, none⟩ = some (.int .i64 N) := (cell_of_block S3 2).trans rfl
        clear p0 p1 p2 HTT
        have p0 : w3.cell? ⟨g, 0, none⟩ = some (.int .i64 M) := (cell_of_block e0 0).trans rfl
        have p1 : w3.cell? ⟨g, 1, none⟩ = some (.string D) := (cell_of_block e0 1).trans rfl
        have p2 : w3.cell? ⟨g, 2, none⟩ = some (.int .i64 N) := (cell_of_block e0 2).trans rfl
        have q0 : w3.cell? ⟨g + 1, 0, none⟩ = some (.int .i64 0) := (cell_of_block e1 0).trans rfl
        have q1 : w3.cell? ⟨g + 1, 1, none⟩ = some (.string ⟨#[]⟩) := (cell_of_block e1 1).trans rfl
        have q2 : w3.cell? ⟨g + 1, 2, none⟩ = some (.int .i64 0) := (cell_of_block e1 2).trans rfl
        have z0 := free_of_block e1 0
        have z1 := free_of_block e1 1
        have z2 := free_of_block e1 2
        have F := set3 e1 (.int .i64 M) (.string D) (.int .i64 N) rfl
        have k7 := (cell_of_block F 0).trans (show _ = some (Value.int .i64 M) from rfl)
        have k8 := (cell_of_block F 1).trans (show _ = some (Value.string D) from rfl)
        have k9 := (cell_of_block F 2).trans (show _ = some (Value.int .i64 N) from rfl)
        clear F
        clear e0 e1 S3 F3 hBa e0a e1a hB
        go_wp2
        refine bodyPost_ret (v := .tuple #[hpV M D N, .int .i64 0, .int .i64 0, .int .i64 2]) (by simp [results, Tryd.results11, go_sem, k7, k8, k9]) rfl ⟨rfl, ?_⟩
        refine Below.setCell (Below.setCell (Below.setCell hB3 ?_ _) ?_ _) ?_ _ <;> simp <;> omega
      | true =>
        simp only [if_true, Bool.not_true, and_self] at HT ⊢
        go_enter Tryd.func11, Tryd.ntmps11
        go_wp2_with fail
        refine (HG _).mono ?_
        rintro e w1 ⟨rfl, B1⟩
        have hs1 := B1.size
        simp at hs1
        have hB : Below w.heap.size w w1 := by ((repeat (first | refine bel_alloc ?_ _ | refine bel_dN ?_ _ | refine Below.drew ?_ | refine Below.setCell ?_ (by first | (simp; done) | (simp; omega)) _)); refine bel_step ?_ B1; (repeat (first | refine bel_alloc ?_ _ | refine bel_dN ?_ _ | refine Below.drew ?_ | refine Below.setCell ?_ (by first | (simp; done) | (simp; omega)) _)); exact Below.refl _ _)
        have e0 : w1.heap[g]? = some (.cells #[.int .i64 M, .string D, .int .i64 N] 29 (0, 0)) := (B1.block _ (by simp; omega)).trans (heap_old (heap_blk hgs))
        have e1 : w1.heap[g + 1]? = some (.cells #[.int .i64 0, .string ⟨#[]⟩, .int .i64 0] 29 (0, 0)) := (B1.block _ (by simp; omega)).trans (heap_blk (by simp; omega))
        clear B1 HG
        have HDD := HD w1
        go_wp2_with fail
        refine HDD.mono ?_
        rintro e w2 ⟨vv, rfl, B2⟩
        have hs2 := B2.size
        replace hB := bel_stepK hB B2
        replace e0 := (B2.block g (by omega)).trans e0
        replace e1 := (B2.block (g + 1) (by omega)).trans e1
        have hl2 : g + 1 < w2.heap.size := by omega
        clear HDD HD B2
        have p0 : w2.cell? ⟨g, 0, none⟩ = some (.int .i64 M) := (cell_of_block e0 0).trans rfl
        have p1 : w2.cell? ⟨g, 1, none⟩ = some (.string D) := (cell_of_block e0 1).trans rfl
        have p2 : w2.cell? ⟨g, 2, none⟩ = some (.int .i64 N) := (cell_of_block e0 2).trans rfl
        have HSW : SW (w2.alloc (.cells #[.int .i64 M, .string D, .int .i64 N, .int .i64 code, .bool false, .bool false] 60)) w2.heap.size M D N code false false := heap_alloc_new _ _
        have HTT := HT.out _ _ HSW
        have hBa : Below w.heap.size w (w2.alloc (.cells #[.int .i64 M, .string D, .int .i64 N, .int .i64 code, .bool false, .bool false] 60)) := hB.alloc hB.size _
        have e0a := heap_old (o := .cells #[.int .i64 M, .string D, .int .i64 N, .int .i64 code, .bool false, .bool false] 60) e0
        have e1a := heap_old (o := .cells #[.int .i64 M, .string D, .int .i64 N, .int .i64 code, .bool false, .bool false] 60) e1
        clear HSW HT e0 e1
        go_wp2_with (go_at_call 28; refine (HC _).mono ?_; rintro e w' ⟨rfl, hw⟩; obtain rfl := hw.symm; clear HC hw)
        refine HTT.mono ?_
        rintro e w3 ⟨rfl, S3, F3⟩
        obtain ⟨k, hk⟩ : ∃ k, w2.heap.size = k := ⟨_, rfl⟩
        rw [hk] at S3 F3 hl2
        have e0 := (F3.1.block g (by omega)).trans e0a
        have e1 := (F3.1.block (g + 1) (by omega)).trans e1a
        have hB3 : Below w.heap.size w w3 := hBa.trans (F3.1.mono (by omega))
        have s3 := lt_of_block S3
        have r4 : w3.cell? ⟨k, 4, none⟩ = some (.bool false) := (cell_of_block S3 4).trans rfl
        have r0 : w3.cell? ⟨k, 0, none⟩ = some (.int .i64 M) := (cell_of_block S3 0).trans rfl
        have r1 : w3.cell? ⟨k, 1, none⟩ = some (.string D2) := (cell_of_block S3 1).trans rfl
        have r2 : w3.cell? ⟨k, 2, none⟩ = some (.int .i64 N2) := (cell_of_block S3 2).trans rfl
        clear p0 p1 p2 HTT
        have p0 : w3.cell? ⟨g, 0, none⟩ = some (.int .i64 M) := (cell_of_block e0 0).trans rfl
        have p1 : w3.cell? ⟨g, 1, none⟩ = some (.string D) := (cell_of_block e0 1).trans rfl
        have p2 : w3.cell? ⟨g, 2, none⟩ = some (.int .i64 N) := (cell_of_block e0 2).trans rfl
        have q0 : w3.cell? ⟨g + 1, 0, none⟩ = some (.int .i64 0) := (cell_of_block e1 0).trans rfl
        have q1 : w3.cell? ⟨g + 1, 1, none⟩ = some (.string ⟨#[]⟩) := (cell_of_block e1 1).trans rfl
        have q2 : w3.cell? ⟨g + 1, 2, none⟩ = some (.int .i64 0) := (cell_of_block e1 2).trans rfl
        have z0 := free_of_block e1 0
        have z1 := free_of_block e1 1
        have z2 := free_of_block e1 2
        have F := set3 e1 (.int .i64 M) (.string D2) (.int .i64 N2) rfl
        have k7 := (cell_of_block F 0).trans (show _ = some (Value.int .i64 M) from rfl)
        have k8 := (cell_of_block F 1).trans (show _ = some (Value.string D2) from rfl)
        have k9 := (cell_of_block F 2).trans (show _ = some (Value.int .i64 N2) from rfl)
        clear F
        clear e0 e1 S3 F3 hBa e0a e1a hB
        go_wp2
        refine bodyPost_ret (v := .tuple #[hpV M D2 N2, .int .i64 U, .int .i64 cnt, .int .i64 0]) (by simp [results, Tryd.results11, go_sem, k7, k8, k9]) rfl ⟨rfl, ?_⟩
        refine Below.setCell (Below.setCell (Below.setCell hB3 ?_ _) ?_ _) ?_ _ <;> simp <;> omega


theorem lwV_form (M : Int) (D : ByteArray) (N : Int) (s : ByteArray) (code : Int) : ∃ M' D' N' x y z, lwV M D N s code = .tuple #[hpV M' D' N', .int .i64 x, .int .i64 y, .int .i64 z] := by
  unfold lwV
  split
  · split
    · exact ⟨_, _, _, _, _, _, rfl⟩
    · exact ⟨_, _, _, _, _, _, rfl⟩
  · exact ⟨_, _, _, _, _, _, rfl⟩

set_option maxRecDepth 2000000 in
set_option maxHeartbeats 1000000 in
theorem lowerText_walk (M : Int) (D : ByteArray) (N : Int) (s : ByteArray) (K : Int) (wb : D.size ≤ maxLen) (_wn : (Lit.int .i64 N).wf = true) (ws : s.size ≤ maxLen) (_wK : (Lit.int .i64 K).wf = true) (w : World) (hT : UTabs w) :
    Calls Tryd.prog 4 #[hpV M D N, .string s, .int .i64 K] w fun e w' => e = .returned (.bool true) ∧ Below w.heap.size w w' := by
  unfold maxLen at *
  clear _wK
  clear _wn
  obtain ⟨g, hgs⟩ : ∃ g, w.heap.size = g := ⟨_, rfl⟩
  by_cases hs : s.size ≤ 1048576
  · have hs' : ¬ (1048576 : Int) < (s.size : Int) := by omega
    by_cases h : D.size ≤ 1048576
    · have Z := szHeap_yes M D N h
      obtain ⟨M', D', N', x0, x1, x2, hV⟩ := lwV_form M D N s K
      have HSP : Hid (∀ W, Below w.heap.size w W → Calls Tryd.prog 11 #[hpV M D N, .string s, .int .i64 K] W fun e w' => e = .returned (.tuple #[hpV M' D' N', .int .i64 x0, .int .i64 x1, .int .i64 x2]) ∧ Below W.heap.size W w') := fun W hW => by rw [← hV]; exact specLowerText M D N s K h hs W
      have HIM : Hid (∀ W, Below w.heap.size w W → Calls Tryd.prog 12 #[hpV M D N, .string s, .int .i64 K] W fun e w' => e = .returned (.tuple #[hpV M' D' N', .int .i64 x0, .int .i64 x1, .int .i64 x2]) ∧ Below W.heap.size W w') := fun W hW => by rw [← hV]; exact implLowerText M D N s K h hs W (Utf8Tabs_below hT hW)
      have T := toHeap M D N
      have E := eqHeap M' D' N'
      have k : ¬ 1048576 - (D.size : Int) < 0 := by omega
      generalize (1048576 - (D.size : Int)) = n at *
      clear h wb hV
      go_enter Tryd.func4, Tryd.ntmps4
      go_wp2_with fail
      refine (Z _).mono ?_
      rintro e w1 ⟨rfl, B1⟩
      have h1 := B1.size
      simp at h1
      have e0 : w1.heap[g]? = some (.cells #[.int .i64 M, .string D, .int .i64 N] 25 (0, 0)) := (B1.block _ (by simp; omega)).trans (heap_blk hgs)
      have q0 : w1.cell? ⟨g, 0, none⟩ = some (.int .i64 M) := (cell_of_block e0 0).trans rfl
      have q1 : w1.cell? ⟨g, 1, none⟩ = some (.string D) := (cell_of_block e0 1).trans rfl
      have q2 : w1.cell? ⟨g, 2, none⟩ = some (.int .i64 N) := (cell_of_block e0 2).trans rfl
      have hB : Below w.heap.size w w1 := by ((repeat (first | refine bel_alloc ?_ _ | refine bel_dN ?_ _ | refine Below.drew ?_ | refine Below.setCell ?_ (by first | (simp; done) | (simp; omega)) _)); refine bel_step ?_ B1; (repeat (first | refine bel_alloc ?_ _ | refine bel_dN ?_ _ | refine Below.drew ?_ | refine Below.setCell ?_ (by first | (simp; done) | (simp; omega)) _)); exact Below.refl _ _)
      clear Z B1
      go_wp2_with fail
      refine (T _).mono ?_
      rintro e w2 ⟨rfl, B2⟩
      have h2 := B2.size
      replace e0 := (B2.block g (by omega)).trans e0
      replace hB := bel_stepK hB B2
      clear B2 q0 q1 q2
      have HS := HSP.out w2 hB
      go_wp2_with fail
      refine HS.mono ?_
      rintro e w3 ⟨rfl, B3⟩
      have h3 := B3.size
      replace e0 := (B3.block g (by omega)).trans e0
      have hB3 := bel_stepK hB B3
      clear B3 HSP HS hB
      have e0' := heap_old (o := .cells #[.int .i64 M', .string D', .int .i64 N'] 29) e0
      have q0 := (cell_of_block e0' 0).trans (show _ = some (Value.int .i64 M) from rfl)
      have q1 := (cell_of_block e0' 1).trans (show _ = some (Value.string D) from rfl)
      have q2 := (cell_of_block e0' 2).trans (show _ = some (Value.int .i64 N) from rfl)
      have hB4 := hB3.alloc hB3.size (.cells #[.int .i64 M', .string D', .int .i64 N'] 29)
      have f0 : (w3.alloc (.cells #[.int .i64 M', .string D', .int .i64 N'] 29)).heap[w3.heap.size]? = some (.cells #[.int .i64 M', .string D', .int .i64 N'] 29 (0, 0)) := heap_alloc_new _ _
      clear e0' e0 hB3
      go_wp2_with fail
      refine (T _).mono ?_
      rintro e w5 ⟨rfl, B5⟩
      have h5 := B5.size
      simp at h5
      have hB5 := bel_stepK hB4 B5
      replace f0 := (B5.block _ (by simp)).trans f0
      clear B5 hB4 q0 q1 q2 T
      have HI := HIM.out w5 hB5
      go_wp2_with fail
      refine HI.mono ?_
      rintro e w6 ⟨rfl, B6⟩
      have h6 := B6.size
      replace f0 := (B6.block _ (by omega)).trans f0
      have hB6 := bel_stepK hB5 B6
      clear B6 HIM HI hB5
      obtain ⟨t, ht⟩ : ∃ t, w3.heap.size = t := ⟨_, rfl⟩
      rw [ht] at f0 h5
      have f0' := heap_old (o := .cells #[.int .i64 M', .string D', .int .i64 N'] 29) f0
      have q0 := (cell_of_block f0' 0).trans (show _ = some (Value.int .i64 M') from rfl)
      have q1 := (cell_of_block f0' 1).trans (show _ = some (Value.string D') from rfl)
      have q2 := (cell_of_block f0' 2).trans (show _ = some (Value.int .i64 N') from rfl)
      have hB7 : Hid (Below w.heap.size w (w6.alloc (.cells #[.int .i64 M', .string D', .int .i64 N'] 29))) := hB6.alloc hB6.size _
      clear f0 f0' hB6
      go_wp2_with fail
      refine (E _).mono ?_
      rintro e w7 ⟨rfl, B7⟩
      have hB8 : Hid (Below w.heap.size w w7) := bel_stepK hB7.out B7
      clear B7 E hB7 q0 q1 q2
      go_wp2
      go_ret
      exact ⟨rfl, hB8.out⟩
    · have Z := szHeap_no M D N (by omega) wb
      clear h wb
      go_enter Tryd.func4, Tryd.ntmps4
      go_wp2_with fail
      refine (Z _).mono ?_
      rintro e w1 ⟨rfl, B1⟩
      go_wp2
      go_ret
      refine ⟨rfl, ?_⟩
      ((repeat (first | refine bel_alloc ?_ _ | refine bel_dN ?_ _ | refine Below.drew ?_ | refine Below.setCell ?_ (by first | (simp; done) | (simp; omega)) _)); refine bel_step ?_ B1; (repeat (first | refine bel_alloc ?_ _ | refine bel_dN ?_ _ | refine Below.drew ?_ | refine Below.setCell ?_ (by first | (simp; done) | (simp; omega)) _)); exact Below.refl _ _)
  · have hs' : (1048576 : Int) < (s.size : Int) := by omega
    clear hs wb hT ws
    go_enter Tryd.func4, Tryd.ntmps4
    go_wp2
    go_ret
    refine ⟨rfl, ?_⟩
    (repeat (first | refine Below.alloc ?_ (by first | (simp; done) | (simp; omega)) _ | refine Below.setCell ?_ (by first | (simp; done) | (simp; omega)) _ | refine bel_dN ?_ _ | refine Below.drew ?_ | exact Below.refl _ _))

end Go.Proofs.YtgepplddhmgifaaDoor
