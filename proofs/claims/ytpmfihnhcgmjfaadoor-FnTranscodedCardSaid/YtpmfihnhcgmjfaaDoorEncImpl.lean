/-
  The walks of the program's functions that write points behind bytes that their caller owns, and of what it tells of points in a code.
-/
import Derived.Test.YtpmfihnhcgmjfaaDoorSize
import Derived.Laws.MakeOwn
namespace Go.Proofs.YtpmfihnhcgmjfaaDoor
open Go.ChangeShapes Go.WideShapes Go.ChangeAt Go.RowKit

/-- The row v holds bs, and l behind it. -/
def OwnB (w : World) (B : Nat) (v : Value) (bs : List UInt8) : Prop := w.ownsRow B 5 1 v bs.length (bv bs)
/-- The cells of a new block are what it was made of. -/
theorem cells_lit (w : World) (A : Array Value) (t : TypeId) : ∀ j u, A.toList[j]? = some u → (w.alloc (.cells A t)).cell? ((⟨w.heap.size, 0, none⟩ : Addr).add j) = some u := fun j u hj => by
  rw [Addr.add_lit, Nat.zero_add, icell_of_block (heap_alloc_new _ _), ← Array.getElem?_toList, hj]
/-- Bytes take one cell each. -/
theorem lit_one {xs : List Value} (h : ∀ u ∈ xs, ∃ z, u = .int .u8 z) : ∀ u ∈ xs, u.oneCell' = true := fun u hu => by
  obtain ⟨z, rfl⟩ := h u hu; rfl
theorem own_end {w : World} {B n : Nat} {v : Value} {bs l : List UInt8} {xs : List Value} (h : w.ownsRow B 5 1 v n (bv bs ++ xs)) (hx : bv l = xs) (hn : n = bs.length + l.length) : OwnB w B v (bs ++ l) := by
  subst hx hn
  rw [bv_app] at h
  unfold OwnB
  rw [List.length_append]
  exact h
theorem bv_u8_1 (p : Nat) (h : (p : Int) ≤ 127) : bv (u8b p) = [.int .u8 (p : Int)] := by
  rw [u8b_1 (by omega)]; simp only [bv, List.map]; rw [byte_val _ (by omega)]
theorem bv_u8_2 (p : Nat) (h0 : 128 ≤ (p : Int)) (h : (p : Int) ≤ 2047) : bv (u8b p) = [.int .u8 (192 + (p : Int) / 64), .int .u8 (128 + (p : Int) % 64)] := by
  rw [u8b_2 (by omega) (by omega)]; simp only [bv, List.map]; rw [byte_val _ (by omega), byte_val _ (by omega)]; rfl
theorem bv_u8_3 (p : Nat) (h0 : 2048 ≤ (p : Int)) (h : (p : Int) ≤ 65535) : bv (u8b p) = [.int .u8 (224 + (p : Int) / 4096), .int .u8 (128 + (p : Int) / 64 % 64), .int .u8 (128 + (p : Int) % 64)] := by
  rw [u8b_3 (by omega) (by omega)]; simp only [bv, List.map]; rw [byte_val _ (by omega), byte_val _ (by omega), byte_val _ (by omega)]; rfl
theorem bv_u8_4 (p : Nat) (h0 : 65536 ≤ (p : Int)) (h : (p : Int) ≤ 1114111) : bv (u8b p) = [.int .u8 (240 + (p : Int) / 262144), .int .u8 (128 + (p : Int) / 4096 % 64), .int .u8 (128 + (p : Int) / 64 % 64), .int .u8 (128 + (p : Int) % 64)] := by
  rw [u8b_4 (by omega)]; simp only [bv, List.map]; rw [byte_val _ (by omega), byte_val _ (by omega), byte_val _ (by omega), byte_val _ (by omega)]; rfl
theorem len_u8 (p : Nat) {xs : List Value} (h : bv (u8b p) = xs) : (u8b p).length = xs.length := by rw [← h, bv_len]
theorem bz_1 (r : Int) (h0 : 0 ≤ r) (h : r ≤ 127) : bv (u8b r.toNat) = [.int .u8 r] := by
  obtain ⟨p, rfl⟩ := Int.eq_ofNat_of_zero_le h0
  exact bv_u8_1 p h
theorem bz_2 (r : Int) (h0 : 128 ≤ r) (h : r ≤ 2047) : bv (u8b r.toNat) = [.int .u8 (192 + r / 64), .int .u8 (128 + r % 64)] := by
  obtain ⟨p, rfl⟩ := Int.eq_ofNat_of_zero_le (show 0 ≤ r by omega)
  exact bv_u8_2 p h0 h
theorem bz_3 (r : Int) (h0 : 2048 ≤ r) (h : r ≤ 65535) : bv (u8b r.toNat) = [.int .u8 (224 + r / 4096), .int .u8 (128 + r / 64 % 64), .int .u8 (128 + r % 64)] := by
  obtain ⟨p, rfl⟩ := Int.eq_ofNat_of_zero_le (show 0 ≤ r by omega)
  exact bv_u8_3 p h0 h
theorem bz_4 (r : Int) (h0 : 65536 ≤ r) (h : r ≤ 1114111) : bv (u8b r.toNat) = [.int .u8 (240 + r / 262144), .int .u8 (128 + r / 4096 % 64), .int .u8 (128 + r / 64 % 64), .int .u8 (128 + r % 64)] := by
  obtain ⟨p, rfl⟩ := Int.eq_ofNat_of_zero_le (show 0 ≤ r by omega)
  exact bv_u8_4 p h0 h

set_option maxRecDepth 100000 in
set_option maxHeartbeats 1600000 in
theorem appendNon (B : Nat) (v : Value) (bs : List UInt8) (r : Int) (w : World) (hown : w.ownsRow B 5 1 v bs.length (bv bs)) (hB : B ≤ w.heap.size) (hlen : bs.length ≤ 1000000)
    (h0 : 128 ≤ r) (h1 : r < 1114112) (h2 : r < 55296 ∨ 57344 ≤ r) :
    Calls Tryd.prog 46 #[v, .int .i32 r] w fun e w' => ∃ v', e = .returned v' ∧ OwnB w' B v' (bs ++ u8b r.toNat) ∧ Below B w w' := by
  obtain ⟨i0, hi, hz0, hz1, hz2⟩ := info_parts Tryd.infob5
  by_cases c2 : r ≤ 2047
  · have HU : Hid (bv (u8b r.toNat) = _) := bz_2 r h0 c2
    clear h1 h2
    go_enter Tryd.func46, Tryd.ntmps46
    go_wp2_with (at_builtin; refine wpList_append_own _ rfl _ _ 22 rfl B 5 i0 (.int .u8 0) 1 1 Tryd.underlying22 hi hz0 hz1 hz2 rfl (by decide) _ _ _ rfl (hown.alloc _) ⟨w.heap.size, 0, none⟩ 2 2 [.int .u8 (192 + r / 64), .int .u8 (128 + r % 64)] rfl rfl ?c1 ?c2 ?c3 ?c4 ?c5 ?_)
    try (case c1 => exact cells_lit _ _ _)
    case c2 => exact lit_one (by simp)
    case c3 => unfold maxLen; omega
    case c4 => omega
    case c5 => simp; omega
    intro v' w2 hown' hgrow _
    have hb1 : Below B w w2 := ((Below.refl _ _).alloc hB _).grown hgrow (by simp; omega) (ownsRow_block hown)
    go_wp2
    go_ret
    exact ⟨_, rfl, own_end hown' HU.out (by rw [len_u8 r.toNat HU.out]; rfl), hb1⟩
  · by_cases c3 : r ≤ 65535
    · have HU : Hid (bv (u8b r.toNat) = _) := bz_3 r (by omega) c3
      by_cases c4 : r < 55296
      · have d2 : 2048 ≤ r := by omega
        clear h0 h1 h2 c2 c3
        go_enter Tryd.func46, Tryd.ntmps46
        go_wp2_with (at_builtin; refine wpList_append_own _ rfl _ _ 22 rfl B 5 i0 (.int .u8 0) 1 1 Tryd.underlying22 hi hz0 hz1 hz2 rfl (by decide) _ _ _ rfl (hown.alloc _) ⟨w.heap.size, 0, none⟩ 3 3 [.int .u8 (224 + r / 4096), .int .u8 (128 + r / 64 % 64), .int .u8 (128 + r % 64)] rfl rfl ?c1 ?c2 ?c3 ?c4 ?c5 ?_)
        try (case c1 => exact cells_lit _ _ _)
        case c2 => exact lit_one (by simp)
        case c3 => unfold maxLen; omega
        case c4 => omega
        case c5 => simp; omega
        intro v' w2 hown' hgrow _
        have hb1 : Below B w w2 := ((Below.refl _ _).alloc hB _).grown hgrow (by simp; omega) (ownsRow_block hown)
        go_wp2
        go_ret
        exact ⟨_, rfl, own_end hown' HU.out (by rw [len_u8 r.toNat HU.out]; rfl), hb1⟩
      · have c5 : 57343 < r := by omega
        clear h0 h1 h2 c2 c4
        go_enter Tryd.func46, Tryd.ntmps46
        go_wp2_with (at_builtin; refine wpList_append_own _ rfl _ _ 22 rfl B 5 i0 (.int .u8 0) 1 1 Tryd.underlying22 hi hz0 hz1 hz2 rfl (by decide) _ _ _ rfl (hown.alloc _) ⟨w.heap.size, 0, none⟩ 3 3 [.int .u8 (224 + r / 4096), .int .u8 (128 + r / 64 % 64), .int .u8 (128 + r % 64)] rfl rfl ?c1 ?c2 ?c3 ?c4 ?c5 ?_)
        try (case c1 => exact cells_lit _ _ _)
        case c2 => exact lit_one (by simp)
        case c3 => unfold maxLen; omega
        case c4 => omega
        case c5 => simp; omega
        intro v' w2 hown' hgrow _
        have hb1 : Below B w w2 := ((Below.refl _ _).alloc hB _).grown hgrow (by simp; omega) (ownsRow_block hown)
        go_wp2
        go_ret
        exact ⟨_, rfl, own_end hown' HU.out (by rw [len_u8 r.toNat HU.out]; rfl), hb1⟩
    · have HU : Hid (bv (u8b r.toNat) = _) := bz_4 r (by omega) (by omega)
      have c6 : 65536 ≤ r := by omega
      have hp : r ≤ 1114111 := by omega
      clear h0 h1 h2 c2 c3
      go_enter Tryd.func46, Tryd.ntmps46
      go_wp2_with (at_builtin; refine wpList_append_own _ rfl _ _ 22 rfl B 5 i0 (.int .u8 0) 1 1 Tryd.underlying22 hi hz0 hz1 hz2 rfl (by decide) _ _ _ rfl (hown.alloc _) ⟨w.heap.size, 0, none⟩ 4 4 [.int .u8 (240 + r / 262144), .int .u8 (128 + r / 4096 % 64), .int .u8 (128 + r / 64 % 64), .int .u8 (128 + r % 64)] rfl rfl ?c1 ?c2 ?c3 ?c4 ?c5 ?_)
      try (case c1 => exact cells_lit _ _ _)
      case c2 => exact lit_one (by simp)
      case c3 => unfold maxLen; omega
      case c4 => omega
      case c5 => simp; omega
      intro v' w2 hown' hgrow _
      have hb1 : Below B w w2 := ((Below.refl _ _).alloc hB _).grown hgrow (by simp; omega) (ownsRow_block hown)
      go_wp2
      go_ret
      exact ⟨_, rfl, own_end hown' HU.out (by rw [len_u8 r.toNat HU.out]; rfl), hb1⟩

set_option maxRecDepth 100000 in
set_option maxHeartbeats 1600000 in
theorem appendRune (B : Nat) (v : Value) (bs : List UInt8) (r : Int) (w : World) (hown : w.ownsRow B 5 1 v bs.length (bv bs)) (hB : B ≤ w.heap.size) (hlen : bs.length ≤ 1000000)
    (h0 : 0 ≤ r) (h1 : r < 1114112) (h2 : r < 55296 ∨ 57344 ≤ r) :
    Calls Tryd.prog 37 #[v, .int .i32 r] w fun e w' => ∃ v', e = .returned v' ∧ OwnB w' B v' (bs ++ u8b r.toNat) ∧ Below B w w' := by
  obtain ⟨i0, hi, hz0, hz1, hz2⟩ := info_parts Tryd.infob5
  by_cases c1 : r ≤ 127
  · have HU : Hid (bv (u8b r.toNat) = _) := bz_1 r h0 c1
    clear h1 h2
    go_enter Tryd.func37, Tryd.ntmps37
    go_wp2_with (at_builtin; refine wpList_append_own _ rfl _ _ 22 rfl B 5 i0 (.int .u8 0) 1 1 Tryd.underlying22 hi hz0 hz1 hz2 rfl (by decide) _ _ _ rfl (hown.alloc _) ⟨w.heap.size, 0, none⟩ 1 1 [.int .u8 r] rfl rfl ?c1 ?c2 ?c3 ?c4 ?c5 ?_)
    try (case c1 => exact cell_one_new _ _ _)
    case c2 => exact lit_one (by simp)
    case c3 => unfold maxLen; omega
    case c4 => omega
    case c5 => simp; omega
    intro v' w2 hown' hgrow _
    have hb1 : Below B w w2 := ((Below.refl _ _).alloc hB _).grown hgrow (by simp; omega) (ownsRow_block hown)
    go_wp2
    go_ret
    exact ⟨_, rfl, own_end hown' HU.out (by rw [len_u8 r.toNat HU.out]; rfl), hb1⟩
  · have H := appendNon B v bs r w hown hB hlen (by omega) h1 h2
    have c2 : 128 ≤ r := by omega
    clear h2 hown c1
    go_enter Tryd.func37, Tryd.ntmps37
    go_wp2_with (go_at_call 46; refine H.mono ?_; rintro e w' ⟨v', rfl, ho, hb⟩; clear H)
    go_ret
    exact ⟨_, rfl, by assumption, by assumption⟩

/-- Two bytes, the lower one first. -/
def pair (n : Int) : List UInt8 := [.ofNat (n % 256).toNat, .ofNat (n / 256).toNat]
theorem pair_bv (n : Int) (h0 : 0 ≤ n) (h1 : n ≤ 65535) : bv (pair n) = [.int .u8 (n % 256), .int .u8 (n / 256)] := by
  simp only [pair, bv, List.map]
  rw [byte_val _ (by omega), byte_val _ (by omega), Int.toNat_of_nonneg (by omega), Int.toNat_of_nonneg (by omega)]
theorem u16_pair (r : Int) (h0 : 0 ≤ r) (h : r < 65536) : u16b r.toNat = pair r := by
  rw [u16b_2 (by omega), pair, show (r % 256).toNat = r.toNat % 256 by omega, show (r / 256).toNat = r.toNat / 256 by omega]
theorem u16_pairs (r : Int) (h0 : 65536 ≤ r) (h : r < 1114112) : u16b r.toNat = pair (55296 + (r - 65536) / 1024) ++ pair (56320 + (r - 65536) % 1024) := by
  rw [u16b_4 (by omega), pair, pair, List.cons_append, List.cons_append, List.nil_append,
    show (r.toNat - 65536) / 1024 % 256 = ((55296 + (r - 65536) / 1024) % 256).toNat by omega,
    show (55296 + (r.toNat - 65536) / 1024) / 256 = ((55296 + (r - 65536) / 1024) / 256).toNat by omega,
    show r.toNat % 256 = ((56320 + (r - 65536) % 1024) % 256).toNat by omega,
    show (56320 + r.toNat % 1024) / 256 = ((56320 + (r - 65536) % 1024) / 256).toNat by omega]

set_option maxRecDepth 100000 in
set_option maxHeartbeats 1600000 in
theorem appendPair (B : Nat) (v : Value) (bs : List UInt8) (n : Int) (w : World) (hown : w.ownsRow B 5 1 v bs.length (bv bs)) (hB : B ≤ w.heap.size) (hlen : bs.length ≤ 1000000)
    (h0 : 0 ≤ n) (h1 : n ≤ 65535) :
    Calls Tryd.prog 38 #[v, .int .i64 n] w fun e w' => ∃ v', e = .returned v' ∧ OwnB w' B v' (bs ++ pair n) ∧ Below B w w' := by
  obtain ⟨i0, hi, hz0, hz1, hz2⟩ := info_parts Tryd.infob5
  have HU : Hid (bv (pair n) = _) := pair_bv n h0 h1
  have e1 : IntKind.u8.wrap n = n % 256 := by rw [IntKind.wrap_u8]
  have e2 : IntKind.u8.wrap (n / 256) = n / 256 := by rw [IntKind.wrap_u8]; omega
  go_enter Tryd.func38, Tryd.ntmps38
  go_wp2_with (at_builtin; refine wpList_append_own _ rfl _ _ 22 rfl B 5 i0 (.int .u8 0) 1 1 Tryd.underlying22 hi hz0 hz1 hz2 rfl (by decide) _ _ _ rfl (hown.alloc _) ⟨w.heap.size, 0, none⟩ 2 2 [.int .u8 (n % 256), .int .u8 (n / 256)] rfl rfl ?c1 ?c2 ?c3 ?c4 ?c5 ?_)
  try (case c1 => exact cells_lit _ _ _)
  case c2 => exact lit_one (by simp)
  case c3 => unfold maxLen; omega
  case c4 => omega
  case c5 => simp; omega
  intro v' w2 hown' hgrow _
  have hb1 : Below B w w2 := ((Below.refl _ _).alloc hB _).grown hgrow (by simp; omega) (ownsRow_block hown)
  go_wp2
  go_ret
  exact ⟨_, rfl, own_end hown' HU.out rfl, hb1⟩

set_option maxRecDepth 100000 in
set_option maxHeartbeats 1600000 in
theorem appendPoint (B : Nat) (v : Value) (bs : List UInt8) (r code : Int) (w : World) (hown : w.ownsRow B 5 1 v bs.length (bv bs)) (hB : B ≤ w.heap.size) (hlen : bs.length ≤ 900000)
    (h0 : 0 ≤ r) (h1 : r < 1114112) (h2 : r < 55296 ∨ 57344 ≤ r) (hf : fitC code r = true) :
    Calls Tryd.prog 22 #[v, .int .i64 r, .int .i64 code] w fun e w' => ∃ v', e = .returned v' ∧ OwnB w' B v' (bs ++ encP code r.toNat) ∧ Below B w w' := by
  obtain ⟨i0, hi, hz0, hz1, hz2⟩ := info_parts Tryd.infob5
  by_cases c1 : code = 1
  · subst c1
    have H := appendRune B v bs r w hown hB (by omega) h0 h1 h2
    have HP : Hid (encP 1 r.toNat = u8b r.toNat) := encP1 _
    clear h2 hown hf
    go_enter Tryd.func22, Tryd.ntmps22
    go_wp2_with (go_at_call 37; refine H.mono ?_; rintro e w' ⟨v', rfl, ho, hb⟩; clear H)
    go_ret
    exact ⟨_, rfl, by rw [HP.out]; assumption, by assumption⟩
  · have n1 : (code == 1) = false := by simpa using c1
    by_cases c2 : code = 2
    · subst c2
      clear h2 hf n1
      by_cases c3 : r < 65536
      · have H := appendPair B v bs r w hown hB (by omega) h0 (by omega)
        have HP : Hid (encP 2 r.toNat = pair r) := (encP2 _).trans (u16_pair r h0 c3)
        clear hown
        go_enter Tryd.func22, Tryd.ntmps22
        go_wp2_with (go_at_call 38; refine H.mono ?_; rintro e w' ⟨v', rfl, ho, hb⟩; clear H)
        go_ret
        exact ⟨_, rfl, by rw [HP.out]; assumption, by assumption⟩
      · have H := appendPair B v bs (55296 + (r - 65536) / 1024) w hown hB (by omega) (by omega) (by omega)
        have HP : Hid (encP 2 r.toNat = _) := (encP2 _).trans (u16_pairs r (by omega) h1)
        clear hown
        go_enter Tryd.func22, Tryd.ntmps22
        go_wp2_with fail
        refine H.mono ?_
        rintro e w1 ⟨v1, rfl, ho1, hb1⟩
        have H2 := appendPair B v1 (bs ++ pair (55296 + (r - 65536) / 1024)) (56320 + (r - 65536) % 1024) w1 ho1 (Nat.le_trans hB hb1.size) (by simp [pair]; omega) (by omega) (by omega)
        clear ho1
        go_wp2_with (go_at_call 38; refine H2.mono ?_; rintro e w' ⟨v', rfl, ho, hb⟩; clear H2)
        go_ret
        exact ⟨_, rfl, by rw [HP.out, ← List.append_assoc]; assumption, hb1.trans (by assumption)⟩
    · have n2 : (code == 2) = false := by simpa using c2
      have h255 : r ≤ 255 := by unfold fitC at hf; have := of_decide_eq_true hf; omega
      have HP : Hid (encP code r.toNat = [UInt8.ofNat r.toNat]) := encP3 _ _ c1 c2
      have HU : Hid (bv [UInt8.ofNat r.toNat] = [.int .u8 r]) := by unfold Hid; rw [bv1 _ (by omega), Int.toNat_of_nonneg h0]
      clear h1 h2 hf
      go_enter Tryd.func22, Tryd.ntmps22
      go_wp2_with (at_builtin; refine wpList_append_own _ rfl _ _ 22 rfl B 5 i0 (.int .u8 0) 1 1 Tryd.underlying22 hi hz0 hz1 hz2 rfl (by decide) _ _ _ rfl (hown.alloc _) ⟨w.heap.size, 0, none⟩ 1 1 [.int .u8 r] rfl rfl ?c1 ?c2 ?c3 ?c4 ?c5 ?_)
      try (case c1 => exact cell_one_new _ _ _)
      case c2 => exact lit_one (by simp)
      case c3 => unfold maxLen; omega
      case c4 => omega
      case c5 => simp; omega
      intro v' w2 hown' hgrow _
      have hb1 : Below B w w2 := ((Below.refl _ _).alloc hB _).grown hgrow (by simp; omega) (ownsRow_block hown)
      go_wp2
      go_ret
      exact ⟨_, rfl, by rw [HP.out]; exact own_end hown' HU.out rfl, hb1⟩

end Go.Proofs.YtpmfihnhcgmjfaaDoor
