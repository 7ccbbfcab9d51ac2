/-
  The cursor's signed numbers, texts and bytes; numbers that are drawn in bytes.
-/
import Derived.Test.YtnimlkobcginjaaCurW
import Derived.Test.YtnimlkobcginjaaCurD
import Derived.Test.YtnimlkobcginjaaOwn
import Derived.Test.YtnimlkobcginjaaSleb
namespace Go.Proofs.Ytnimlkobcginjaa
open Go.ChangeShapes Go.WideShapes Go.ChangeAt Go.RowKit

theorem s_lo (n : Int) : -9223372036854775808 ≤ wrap64 n := by unfold wrap64; omega
theorem s_hi (n : Int) : wrap64 n ≤ 9223372036854775807 := by unfold wrap64; omega

set_option maxHeartbeats 1000000 in
theorem curSigned (g : Nat) (a : Option Addr) (n cap B m : Nat) (hm : Hid (m ≤ 700000)) (w : World) (C : Cur w g a n cap B m) :
    Calls Try.prog 50 #[.pointer (some ⟨g, 0, none⟩)] w fun e w' => ∃ r : Int, -9223372036854775808 ≤ r ∧ r ≤ 9223372036854775807 ∧ e = .returned (.int .i64 r) ∧ Cur w' g a n cap B (m + 14) ∧ Aft B g w w' := by
  go_enter Try.func50, Try.ntmps50
  go_wp2_with fail
  refine (curWord g a n cap B m (hid_le (by have := hm.out; omega)) w C).mono ?_
  rintro e w1 ⟨r, r0, r1, rfl, C1, B1⟩
  obtain ⟨x, hx⟩ : ∃ x, wrap64 r = x := ⟨_, rfl⟩
  have x0 : -9223372036854775808 ≤ x := by rw [← hx]; exact s_lo _
  have x1 : x ≤ 9223372036854775807 := by rw [← hx]; exact s_hi _
  go_wp2_with fail
  refine (curOne 2 (by omega) (by omega) g a n cap B (m + 12) (hid_le (by have := hm.out; omega)) w1 C1).mono ?_
  rintro e w2 ⟨o, rfl, C2, B2⟩
  cases o
  · go_wp2
    go_ret
    exact ⟨_, x0, x1, rfl, C2, B1.trans B2⟩
  · go_wp2
    go_ret
    exact ⟨_, s_lo _, s_hi _, rfl, C2, B1.trans B2⟩

set_option maxHeartbeats 1000000 in
theorem curBits (g : Nat) (a : Option Addr) (n cap B m : Nat) (hm : Hid (m ≤ 700000)) (w : World) (C : Cur w g a n cap B m) :
    Calls Try.prog 56 #[.pointer (some ⟨g, 0, none⟩)] w fun e w' => ∃ r : Int, -9223372036854775808 ≤ r ∧ r ≤ 9223372036854775807 ∧ e = .returned (.int .i64 r) ∧ Cur w' g a n cap B (m + 2) ∧ Aft B g w w' := by
  have hl := C.lt
  have hB := C.hg
  go_enter Try.func56, Try.ntmps56
  go_wp2_with fail
  refine (curAmong w.heap.size 10 (by omega) (by omega) g a n cap B m (hid_le (by have := hm.out; omega)) _ (C.alloc _) (row_new w [.int .i64 32, .int .i64 64, .int .i64 32, .int .i64 64, .int .i64 1, .int .i64 7, .int .i64 8, .int .i64 33, .int .i64 0, .int .i64 65] _ (by decide)) (by simp) (by omega)).mono ?_
  rintro e w2 ⟨r, r0, r1, rfl, C2, B2⟩
  go_wp2
  go_ret
  exact ⟨r, r0, r1, rfl, C2, (Aft.alloc (by omega) _).trans B2⟩

/-- Some texts of at most ten bytes lie in a block of their own. -/
def RowT (w : World) (b k : Nat) : Prop := ∀ i, i < k → ∃ s : ByteArray, s.size ≤ 10 ∧ w.cell? ⟨b, i, none⟩ = some (.string s)
def okT : Value → Bool
  | .string s => decide (s.size ≤ 10)
  | _ => false
theorem okT_str : ∀ v, okT v = true → ∃ s : ByteArray, s.size ≤ 10 ∧ v = .string s
  | .string s, h => by
    simp [okT] at h
    exact ⟨s, h, rfl⟩
theorem rowT_new (w : World) (A : List Value) (t : TypeId) (h : A.all okT = true) : RowT (w.alloc (.cells A.toArray t)) w.heap.size A.length := fun i hi => by
  obtain ⟨z, z0, hz⟩ := okT_str A[i] (List.all_eq_true.1 h _ (List.getElem_mem hi))
  refine ⟨z, z0, ?_⟩
  rw [World.cell?_alloc_at A.toArray t _ i rfl]
  simp [hi, hz]

set_option maxHeartbeats 1000000 in
theorem curOf (b k : Nat) (k0 : 1 ≤ k) (k1 : k ≤ 1000) (g : Nat) (a : Option Addr) (n cap B m : Nat) (hm : Hid (m ≤ 900000)) (w : World) (C : Cur w g a n cap B m) (hr : RowT w b k) (hb : b < w.heap.size) (hbg : b ≠ g) :
    Calls Try.prog 54 #[.pointer (some ⟨g, 0, none⟩), .slice (some ⟨b, 0, none⟩) k k] w fun e w' => ∃ s : ByteArray, s.size ≤ 10 ∧ e = .returned (.string s) ∧ Cur w' g a n cap B (m + 2) ∧ Aft B g w w' := by
  go_enter Try.func54, Try.ntmps54
  go_wp2_with fail
  refine (curPick k (by omega) (by omega) g a n cap B m hm w C).mono ?_
  rintro e w1 ⟨r, r0, r1, rfl, C1, B1⟩
  obtain ⟨j, rfl⟩ : ∃ j : Nat, r = j := ⟨r.toNat, by omega⟩
  obtain ⟨z, z0, hz⟩ := hr j (by omega)
  have hz1 : w1.cell? ⟨b, j, none⟩ = some (.string z) := (B1.keep b j hbg hb).trans hz
  go_wp2
  go_ret
  exact ⟨z, z0, rfl, C1, B1⟩

theorem own_blk {w w' : World} {B : Nat} {e : TypeId} {s n : Nat} {v : Value} {xs : List Value} (h : w.ownsRow B e s v n xs) (hk : ∀ g, B ≤ g → g < w.heap.size → w'.heap[g]? = w.heap[g]?) : w'.ownsRow B e s v n xs := by
  refine ⟨h.1, ?_⟩
  rcases h.2 with h0 | ⟨g, cap, cur, h1, h2, h3, h4⟩
  · exact Or.inl h0
  · exact Or.inr ⟨g, cap, cur, h1, h2, (hk g h2 (lt_of_block h3)).trans h3, h4⟩
theorem Cur.low {w w' : World} {g : Nat} {a : Option Addr} {n cap B m D : Nat} (C : Cur w g a n cap B m) (hD : g < D) (h : Below D w w') : Cur w' g a n cap B m := by
  obtain ⟨t, t0, t1, c1⟩ := C.at_
  obtain ⟨s, s0, s1, c2⟩ := C.seed
  have hB := C.hg
  have k : ∀ j, w'.cell? ⟨g, j, none⟩ = w.cell? ⟨g, j, none⟩ := fun j => h.cell (p := ⟨g, j, none⟩) hD
  exact ⟨(k 0).trans C.code, ⟨t, t0, t1, (k 1).trans c1⟩, ⟨s, s0, s1, (k 2).trans c2⟩, C.bys.below (h.mono (by omega)), C.hg, Nat.lt_of_lt_of_le C.lt h.size, fun j => (h.frozen (p := ⟨g, j, none⟩) hD).trans (C.fr j)⟩

set_option maxRecDepth 100000 in
set_option maxHeartbeats 1000000 in
theorem curBytes (M : Nat) (hM : M ≤ 1000) (g : Nat) (a : Option Addr) (n cap B m : Nat) (hm : Hid (m ≤ 700000)) (w : World) (C : Cur w g a n cap B m) :
    Calls Try.prog 55 #[.pointer (some ⟨g, 0, none⟩), .int .i64 (M : Int)] w fun e w' => ∃ (v : Value) (bs : List UInt8), e = .returned v ∧ bs.length ≤ M ∧ Hid (w'.ownsRow w.heap.size 5 1 v bs.length (bv bs)) ∧ Cur w' g a n cap B (m + 2 + M) ∧ Aft B g w w' := by
  obtain ⟨i0, hi, hz0, hz1, hz2⟩ := info_parts Try.info5
  have hgl := C.lt
  have hgB := C.hg
  go_enter Try.func55, Try.ntmps55
  go_wp2_with fail
  refine (curPick ((M : Int) + 1) (by omega) (by omega) g a n cap B m (hid_le (by have := hm.out; omega)) w C).mono ?_
  rintro e w1 ⟨q, q0, q1, rfl, C1, B1⟩
  obtain ⟨j, rfl⟩ : ∃ j : Nat, q = j := ⟨q.toNat, by omega⟩
  have HC1 : Hid (Cur w1 g a n cap B (m + 2) ∧ Aft B g w w1) := ⟨C1, B1⟩
  have HJ : Hid (j ≤ M ∧ g < w.heap.size ∧ B ≤ g) := ⟨by omega, hgl, hgB⟩
  clear C1 B1 C q0 q1 hgl hgB
  go_wp2
  go_loopw [5, 6] (fun vo vi wr => ∃ (k : Nat) (bs : List UInt8) (V : Value), vo = V ∧ vi = .int .i64 (k : Int) ∧ bs.length + k = j ∧ Hid (wr.ownsRow w.heap.size 5 1 V bs.length (bv bs)) ∧ Hid (Cur wr g a n cap B (m + 2 + bs.length) ∧ Aft B g w wr)) (fun _ vi _ => (intOf vi).toNat)
  case atStart => exact ⟨j, [], _, rfl, rfl, by simp, World.ownsRow_nil _ _ _ _, HC1.out⟩
  case round =>
    obtain ⟨k, bs, V, rfl, rfl, hk, hown, hC⟩ := hrel
    by_cases hlt : 0 < k
    · have hj := HJ.out
      obtain ⟨k, rfl⟩ : ∃ i, k = i + 1 := ⟨k - 1, by omega⟩
      have hki : (0 : Int) < ((k + 1 : Nat) : Int) := by omega
      have hkb : k ≤ 1000 := by omega
      go_wp2_with fail
      refine (curNext g a n cap B (m + 2 + bs.length) (hid_le (by have := hm.out; omega)) wr hC.out.1).mono ?_
      rintro e w2 ⟨r, r0, r1, rfl, C2, B2⟩
      obtain ⟨b, hb⟩ : ∃ b : UInt8, ((b.toNat : Nat) : Int) = r := ⟨UInt8.ofNat r.toNat, by simp; omega⟩
      have hw8 : IntKind.u8.wrap r = (b.toNat : Int) := by rw [IntKind.wrap_u8, hb]; omega
      have hown2 : Hid (w2.ownsRow w.heap.size 5 1 _ bs.length (bv bs)) := own_blk hown.out (fun x hx hl => B2.blk x (by omega) hl)
      have hA2 : Hid (Cur w2 g a n cap B (m + 2 + bs.length + 1) ∧ Aft B g w w2) := ⟨C2, hC.out.2.trans B2⟩
      have hsz : w.heap.size ≤ w2.heap.size := hA2.out.2.size
      clear B2 C2 hown hC hj
      go_wp2_with (at_builtin; refine wpList_append_own _ rfl _ _ 22 rfl (w.heap.size) 5 i0 (.int .u8 0) 1 1 Try.underlying22 hi hz0 hz1 hz2 rfl (by decide) _ _ _ rfl (hown2.out.alloc _) ⟨w2.heap.size, 0, none⟩ 1 1 (bv [b]) rfl rfl ?c1 ?c2 ?c3 ?c4 ?c5 ?_)
      case c1 => rw [← hb]; exact cell_one_new _ _ _
      case c2 => exact bv_one _
      case c3 => have := HJ.out; unfold maxLen; omega
      case c4 => have := HJ.out; omega
      case c5 => simp; omega
      intro v' w3 hown' hgrow' _
      rw [bv_app] at hown'
      have hb3 : Below w.heap.size w2 w3 := ((Below.refl _ _).alloc hsz _).grown hgrow' (by simp; omega) (ownsRow_block hown2.out)
      have H3 : Hid (Cur w3 g a n cap B (m + 2 + (bs ++ [b]).length) ∧ Aft B g w w3) := by
        refine ⟨(hA2.out.1.low HJ.out.2.1 hb3).more (by simp; omega), hA2.out.2.below.trans (hb3.mono (by have := HJ.out; omega)), Nat.le_trans hsz hb3.size, fun x hx hl => (hb3.block x hl).trans (hA2.out.2.blk x hx hl)⟩
      have HO3 : Hid (w3.ownsRow w.heap.size 5 1 v' (bs ++ [b]).length (bv (bs ++ [b]))) := by unfold Hid; simpa using hown'
      clear hgrow' hown' hb3 hA2 hown2
      go_wp2
      go_roundw
      case rel => exact ⟨k, bs ++ [b], _, rfl, by first | go_num | (congr 1; omega), by simp; omega, HO3, H3⟩
      case measure => first | (simp [intOf]; done) | (simp [intOf]; omega)
    · obtain rfl : k = 0 := by omega
      go_wp2
      go_ret
      have hj := HJ.out
      exact ⟨_, bs, rfl, by omega, hown, hC.out.1.more (by omega), hC.out.2⟩

theorem drawUlebBytes (a : Option Addr) (n cap : Nat) (w : World) (hb : Bys w a n w.heap.size) :
    Calls Try.prog 8 #[.slice a n cap] w fun e w' => ∃ x : Nat, x < 18446744073709551616 ∧ e = .returned (.int .u64 (x : Int)) ∧ Below w.heap.size w w' := by
  have C0 := cur_new w a n cap 69 hb
  have N0 := below_new w (.cells #[.slice a n cap, .int .i64 0, .int .u64 0] 69)
  go_enter Try.func8, Try.ntmps8
  go_wp2_with fail
  refine (curWord w.heap.size a n cap w.heap.size 0 (hid_le (by omega)) _ C0).mono ?_
  rintro e w1 ⟨r, r0, r1, rfl, C1, B1⟩
  obtain ⟨x, rfl⟩ := Int.eq_ofNat_of_zero_le r0
  have HB : Hid (Below w.heap.size w w1) := N0.trans B1.below
  clear C0 C1 B1 N0 hb
  go_wp2
  go_ret
  exact ⟨x, by omega, rfl, HB.out⟩

theorem drawSlebBytes (a : Option Addr) (n cap : Nat) (w : World) (hb : Bys w a n w.heap.size) :
    Calls Try.prog 13 #[.slice a n cap] w fun e w' => ∃ x : Int, -9223372036854775808 ≤ x ∧ x ≤ 9223372036854775807 ∧ e = .returned (.int .i64 x) ∧ Below w.heap.size w w' := by
  have C0 := cur_new w a n cap 69 hb
  have N0 := below_new w (.cells #[.slice a n cap, .int .i64 0, .int .u64 0] 69)
  go_enter Try.func13, Try.ntmps13
  go_wp2_with fail
  refine (curSigned w.heap.size a n cap w.heap.size 0 (hid_le (by omega)) _ C0).mono ?_
  rintro e w1 ⟨r, r0, r1, rfl, C1, B1⟩
  have HB : Hid (Below w.heap.size w w1) := N0.trans B1.below
  clear C0 C1 B1 N0 hb
  go_wp2
  go_ret
  exact ⟨r, r0, r1, rfl, HB.out⟩

theorem two_resL {fn : Func} {a b : Tmp} (h : fn.results = #[.tmp a, .tmp b]) (tmps : Array Value) (P : Program) (w : World) :
    (results fn tmps).run P w = .ok (.tuple #[tmps.getD a undef, tmps.getD b undef]) w := by
  simp [results, h]

set_option maxRecDepth 100000 in
set_option maxHeartbeats 1000000 in
theorem drawTakeSleb (a : Option Addr) (n cap : Nat) (w : World) (hb : Bys w a n w.heap.size) :
    Calls Try.prog 17 #[.slice a n cap] w fun e w' => ∃ (s : ByteArray) (x : Int), s.size ≤ 100 ∧ -9223372036854775808 ≤ x ∧ x ≤ 9223372036854775807 ∧ e = .returned (.tuple #[.string s, .int .i64 x]) ∧ Below w.heap.size w w' := by
  have C0 := cur_new w a n cap 69 hb
  have N0 := below_new w (.cells #[.slice a n cap, .int .i64 0, .int .u64 0] 69)
  go_enter Try.func17, Try.ntmps17
  go_wp2_with fail
  refine (curSigned w.heap.size a n cap w.heap.size 0 (hid_le (by omega)) _ C0).mono ?_
  rintro e w1 ⟨r, r0, r1, rfl, C1, B1⟩
  have SB := specSlebBytes r (sfit_i64 r r0 r1) w1
  have hlen := sl_len 10 r
  generalize sl 10 r = l at *
  have hls : (ByteArray.mk l.toArray).size = l.length := by simp [ByteArray.size]
  generalize ByteArray.mk l.toArray = S at *
  have hS : S.size ≤ 10 := by omega
  clear hls hlen r0 r1
  go_wp2_with fail
  refine SB.mono ?_
  rintro e w2 ⟨rfl, B2⟩
  have C2 := C1.kept B2
  have HB2 : Hid (Below w.heap.size w w2) := (N0.trans B1.below).trans (B2.mono (by have := (N0.trans B1.below).size; omega))
  have hl2 : w.heap.size ≤ w2.heap.size := HB2.out.size
  clear SB C1 B1 B2 C0 N0
  go_wp2_with fail
  refine (curPick 5 (by omega) (by omega) w.heap.size a n cap w.heap.size (0 + 14) (hid_le (by omega)) _ C2).mono ?_
  rintro e w3 ⟨q, q0, q1, rfl, C3, B3⟩
  have HB3 : Hid (Below w.heap.size w w3) := HB2.out.trans B3.below
  clear C2 B3 HB2
  have hl3 := C3.lt
  by_cases h0 : q = 0
  · subst h0
    go_wp2_with fail
    refine (curOf w3.heap.size 8 (by omega) (by omega) w.heap.size a n cap w.heap.size (0 + 14 + 2) (hid_le (by omega)) _ (C3.alloc _) (rowT_new w3 [.string ⟨#[]⟩, .string ⟨#[128]⟩, .string ⟨#[255, 127]⟩, .string ⟨#[255, 255, 255, 255, 127]⟩, .string ⟨#[255, 255, 255, 255, 15]⟩, .string ⟨#[128, 128, 128, 128, 120]⟩, .string ⟨#[128, 128, 128, 128, 112]⟩, .string ⟨#[128, 128, 128, 128, 128, 128, 128, 128, 128, 127]⟩] _ (by decide)) (by simp) (by omega)).mono ?_
    rintro e w4 ⟨s, hs, rfl, C4, B4⟩
    have HB4 : Hid (Below w.heap.size w w4) := (HB3.out.alloc (by omega) _).trans B4.below
    go_wp2_with fail
    refine (curBits w.heap.size a n cap w.heap.size (0 + 14 + 2 + 2) (hid_le (by omega)) _ C4).mono ?_
    rintro e w5 ⟨x, x0, x1, rfl, C5, B5⟩
    have HB5 : Hid (Below w.heap.size w w5) := HB4.out.trans B5.below
    clear C3 C4 C5 B4 B5 HB3 HB4
    go_wp2
    refine bodyPost_ret (two_resL Try.results17 _ _ _) rfl ⟨s, x, by omega, x0, x1, rfl, HB5.out⟩
  · by_cases h1 : q = 1
    · subst h1
      go_wp2_with fail
      refine (curBytes 4 (by omega) w.heap.size a n cap w.heap.size (0 + 14 + 2) (hid_le (by omega)) _ C3).mono ?_
      rintro e w4 ⟨v, bs, rfl, hbs, hown, C4, B4⟩
      have HB4 : Hid (Below w.heap.size w w4) := HB3.out.trans B4.below
      have hcv := owned_string (P := Try.prog) 22 9 5 Try.underlying22 Try.underlying5 Try.underlying9 hown.out
      have hsum : (S ++ ByteArray.mk bs.toArray).size ≤ 100 := by
        have e : (ByteArray.mk bs.toArray).size = bs.length := by simp [ByteArray.size]
        rw [ByteArray.size_append, e]; omega
      have hcat : ¬ 9223372036854775807 < S.size + (ByteArray.mk bs.toArray).size := by
        have e : (ByteArray.mk bs.toArray).size = bs.length := by simp [ByteArray.size]
        rw [e]; omega
      generalize ByteArray.mk bs.toArray = X at *
      have HSUM : Hid ((S ++ X).size ≤ 100) := hsum
      clear hsum hbs hown
      go_wp2_with fail
      refine (curBits w.heap.size a n cap w.heap.size (0 + 14 + 2 + 2 + 4) (hid_le (by omega)) _ C4).mono ?_
      rintro e w5 ⟨x, x0, x1, rfl, C5, B5⟩
      have HB5 : Hid (Below w.heap.size w w5) := HB4.out.trans B5.below
      clear C3 C4 C5 B4 B5 HB3 HB4 hcv
      go_wp2
      refine bodyPost_ret (two_resL Try.results17 _ _ _) rfl ⟨S ++ X, x, HSUM.out, x0, x1, rfl, HB5.out⟩
    · have e0 : (q == 0) = false := by simpa using h0
      have e1 : (q == 1) = false := by simpa using h1
      go_wp2_with fail
      refine (curBits w.heap.size a n cap w.heap.size (0 + 14 + 2) (hid_le (by omega)) _ C3).mono ?_
      rintro e w5 ⟨x, x0, x1, rfl, C5, B5⟩
      have HB5 : Hid (Below w.heap.size w w5) := HB3.out.trans B5.below
      clear C3 C5 B5 HB3
      go_wp2
      refine bodyPost_ret (two_resL Try.results17 _ _ _) rfl ⟨S, x, by omega, x0, x1, rfl, HB5.out⟩

end Go.Proofs.Ytnimlkobcginjaa
