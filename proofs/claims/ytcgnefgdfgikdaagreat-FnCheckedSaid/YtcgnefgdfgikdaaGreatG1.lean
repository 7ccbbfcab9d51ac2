/-
  Code is drawn. (Made by a generator.)
-/
import Derived.Test.YtcgnefgdfgikdaaGreatF3
import Derived.Test.YtcgnefgdfgikdaaGreatB1
import Derived.Test.YtcgnefgdfgikdaaGreatD1
import Derived.Test.YtcgnefgdfgikdaaGreatA4
import Derived.Deep.CutRange
import Derived.Deep.DeepCutAuto
namespace Go.Proofs.YtcgnefgdfgikdaaGreat
open Go.ChangeShapes Go.WideShapes Go.ChangeAt Go.RowKit

/-- Nothing below B, and below b0 nothing but the cursor's block, has changed. -/
structure AftR (B g b0 : Nat) (w w' : World) : Prop where
  below : Below B w w'
  size : w.heap.size ≤ w'.heap.size
  blk : ∀ b, b ≠ g → b < b0 → b < w.heap.size → w'.heap[b]? = w.heap[b]?
theorem aftR_refl (B g b0 : Nat) (w : World) : AftR B g b0 w w := ⟨Below.refl _ _, Nat.le_refl _, fun _ _ _ _ => rfl⟩
theorem aftR_cur {B g b0 : Nat} {w w1 w2 : World} (h : AftR B g b0 w w1) (k : Aft B g w1 w2) : AftR B g b0 w w2 :=
  ⟨h.below.trans k.below, Nat.le_trans h.size k.size, fun b h1 h2 h3 => (k.blk b h1 (Nat.lt_of_lt_of_le h3 h.size)).trans (h.blk b h1 h2 h3)⟩
theorem aftR_bel {B g b0 : Nat} {w w1 w2 : World} (h : AftR B g b0 w w1) (k : Below b0 w1 w2) (hB : B ≤ b0) : AftR B g b0 w w2 :=
  ⟨h.below.trans (k.mono hB), Nat.le_trans h.size k.size, fun b h1 h2 h3 => (k.block b h2).trans (h.blk b h1 h2 h3)⟩
theorem aftR_trans {B g b0 : Nat} {w w1 w2 : World} (h : AftR B g b0 w w1) (k : AftR B g b0 w1 w2) : AftR B g b0 w w2 :=
  ⟨h.below.trans k.below, Nat.le_trans h.size k.size, fun b h1 h2 h3 => (k.blk b h1 h2 (Nat.lt_of_lt_of_le h3 h.size)).trans (h.blk b h1 h2 h3)⟩
theorem cur_low {w w' : World} {g : Nat} {a : Option Addr} {n cap B m Z : Nat} (C : Cur w g a n cap B m) (h : Below Z w w') (hl : g < Z) : Cur w' g a n cap B m := by
  obtain ⟨t, t0, t1, c1⟩ := C.at_
  obtain ⟨s, s0, s1, c2⟩ := C.seed
  have hB := C.hg
  have k : ∀ j, w'.cell? ⟨g, j, none⟩ = w.cell? ⟨g, j, none⟩ := fun j => h.cell (p := ⟨g, j, none⟩) hl
  exact ⟨(k 0).trans C.code, ⟨t, t0, t1, (k 1).trans c1⟩, ⟨s, s0, s1, (k 2).trans c2⟩, C.bys.below (h.mono (by omega)), C.hg, Nat.lt_of_lt_of_le C.lt h.size, fun j => (h.frozen (p := ⟨g, j, none⟩) hl).trans (C.fr j)⟩
def OkI (x : Int × Int) : Prop := (-9223372036854775808 ≤ x.1 ∧ x.1 ≤ 9223372036854775807) ∧ (-9223372036854775808 ≤ x.2 ∧ x.2 ≤ 9223372036854775807)
def NN : Nat → Nat
  | 0 => 1
  | f + 1 => 3 * NN f + 4
def MM : Nat → Nat
  | 0 => 30
  | f + 1 => 3 * MM f + 30
def rk (want d : Int) : Nat := (if 0 < d then 2 * d.toNat else 0) + (if want = 64 then 1 else 0)
/-- What a call of gen keeps and tells. -/
def GenP (B g b0 : Nat) (a : Option Addr) (n cap f : Nat) : Prop := ∀ (want d ar : Int) (v : Value) (L : List (Int × Int)) (m : Nat) (w : World),
  (want = 64 ∨ want = 125 ∨ want = 126 ∨ want = 127) → (f : Int) - 1000 ≤ d → d ≤ 100 → rk want d ≤ f → m + MM f ≤ 600000 → L.length + NN f ≤ 100000 → b0 ≤ w.heap.size → w.ownsRow b0 41 2 v L.length (pv L) → (∀ x ∈ L, OkI x) → Cur w g a n cap B m →
  Calls Tryz.prog 43 #[.pointer (some ⟨g, 0, none⟩), v, .int .i64 want, .int .i64 d, .int .i64 ar] w fun e w' => ∃ (v' : Value) (L' : List (Int × Int)), e = .returned v' ∧ Hid (w'.ownsRow b0 41 2 v' L'.length (pv L')) ∧ Hid (L'.length ≤ L.length + NN f ∧ ∀ x ∈ L', OkI x) ∧ Cur w' g a n cap B (m + MM f) ∧ Hid (AftR B g b0 w w')
theorem okI_app {L : List (Int × Int)} (h : ∀ x ∈ L, OkI x) (op a : Int) (h1 : -9223372036854775808 ≤ op ∧ op ≤ 9223372036854775807) (h2 : -9223372036854775808 ≤ a ∧ a ≤ 9223372036854775807) : ∀ x ∈ L ++ [(op, a)], OkI x := fun x hx => by
  rcases List.mem_append.mp hx with hx | hx
  · exact h x hx
  · simp at hx; subst hx; exact ⟨h1, h2⟩
theorem dec_one (d : Int) (h0 : -1000 ≤ d) (h1 : d ≤ 100) : wrap64 (d - 1) = d - 1 := by unfold wrap64; omega
theorem dec_lo (f : Nat) (d : Int) (h0 : ((f + 1 : Nat) : Int) - 1000 ≤ d) (h1 : d ≤ 100) : (f : Int) - 1000 ≤ wrap64 (d - 1) ∧ wrap64 (d - 1) ≤ 100 := by
  rw [dec_one d (by omega) h1]
  omega
theorem rk_type (f : Nat) (w' d : Int) (hw : w' ≠ 64) (h0 : ((f + 1 : Nat) : Int) - 1000 ≤ d) (h1 : d ≤ 100) (h2 : 2 * d ≤ f + 2) : rk w' (wrap64 (d - 1)) ≤ f := by
  rw [dec_one d (by omega) h1]
  unfold rk
  rw [if_neg hw]
  split <;> omega
theorem rk_none (f : Nat) (d : Int) (h0 : ((f + 1 : Nat) : Int) - 1000 ≤ d) (h1 : d ≤ 100) (h2 : 2 * d ≤ f + 1) (hd : 0 < d) : rk 64 (wrap64 (d - 1)) ≤ f := by
  rw [dec_one d (by omega) h1]
  unfold rk
  rw [if_pos rfl]
  split <;> omega
theorem rk_64 {f : Nat} {d : Int} (h : rk 64 d ≤ f + 1) : 2 * d ≤ f := by
  unfold rk at h
  rw [if_pos rfl] at h
  split at h <;> omega
theorem rk_ty {f : Nat} {w d : Int} (hw : w ≠ 64) (h : rk w d ≤ f + 1) : 2 * d ≤ f + 1 := by
  unfold rk at h
  rw [if_neg hw] at h
  split at h <;> omega


set_option maxRecDepth 100000 in
set_option maxHeartbeats 3200000 in
theorem genLeaf32 (B g b0 : Nat) (a : Option Addr) (n cap : Nat) (X Y : Nat) (d ar : Int) (av : Option Addr) (cv : Nat) (L : List (Int × Int)) (m : Nat) (w : World)
    (hd : d ≤ 0 ∨ 120 < (L.length : Int)) (hX : Hid (X = 1 ∧ Y = 30)) (hM : m + (Y) ≤ 600000) (hK : L.length + (X) ≤ 100000) (hb0 : b0 ≤ w.heap.size) (hg0 : g < b0 ∧ B ≤ g) (hR : w.ownsRow b0 41 2 (.slice av L.length cv) L.length (pv L)) (hO : ∀ x ∈ L, OkI x) (C : Cur w g a n cap B m) :
    Calls Tryz.prog 43 #[.pointer (some ⟨g, 0, none⟩), .slice av L.length cv, .int .i64 127, .int .i64 d, .int .i64 ar] w fun e w' => ∃ (v' : Value) (L' : List (Int × Int)), e = .returned v' ∧ Hid (w'.ownsRow b0 41 2 v' L'.length (pv L')) ∧ Hid (L'.length ≤ L.length + (X) ∧ ∀ x ∈ L', OkI x) ∧ Cur w' g a n cap B (m + (Y)) ∧ Hid (AftR B g b0 w w') := by
  obtain ⟨i0, hi, hz0, hz1, hz2⟩ := info_parts Tryz.info41
  have HX := hX
  have HM : Hid (m + (Y) ≤ 600000) := hM
  have HK : Hid (L.length + (X) ≤ 100000) := hK
  have HC : Hid (g < b0 ∧ B ≤ g) := hg0
  have LB : Hid (b0 ≤ w.heap.size) := hb0
  have R : Hid (w.ownsRow b0 41 2 (.slice av L.length cv) L.length (pv L)) := hR
  have HO : Hid (∀ x ∈ L, OkI x) := hO
  have HL : Hid (L.length ≤ L.length + 0) := Nat.le_refl _
  have A : Hid (AftR B g b0 w w) := aftR_refl _ _ _ _
  clear hX hM hK hg0 hb0 hR hO
  go_enter Tryz.func43, Tryz.ntmps43
  go_upto_if 13 with fail
  go_cut [3] (fun s3 wx => ∃ d' : Int, s3 = .int .i64 d' ∧ Hid (d' ≤ 0) ∧ wx = w)
  case first =>
    have hd2 : Hid (d ≤ 0 ∨ 120 < (L.length : Int)) := hd
    clear hd
    by_cases hc : 120 < (L.length : Int)
    · go_wp2
      go_meet
      exact ⟨0, rfl, Int.le_refl _, rfl⟩
    · have hd3 : Hid (d ≤ 0) := hd2.out.resolve_right hc
      go_wp2
      go_meet
      exact ⟨d, rfl, hd3.out, rfl⟩
  case rest =>
  clear hd
  obtain ⟨d, rfl, hd2, hwc⟩ := hcut
  obtain rfl := hwc.symm
  clear hwc
  have hd := hd2.out
  clear hd2
  go_wp2_with fail
  refine (curOne 2 (by omega) (by omega) g a n cap B (m) (hid_le (by have := HM.out; omega)) w C).mono ?_
  rintro e x2 ⟨b, rfl, C1, ha⟩
  replace R : Hid (x2.ownsRow b0 41 2 (.slice av L.length cv) L.length (pv L)) := own_keep R.out (fun q hq => ha.blk q (by have h1 := (R.out.lt q hq).1; have h2 := HC.out; omega) (R.out.lt q hq).2)
  replace A : Hid (AftR B g b0 w x2) := aftR_cur A.out ha
  replace LB : Hid (b0 ≤ x2.heap.size) := Nat.le_trans LB.out ha.size
  clear ha C
  have C := C1
  clear C1
  cases b
  · go_wp2_with fail
    refine (curPick 50 (by omega) (by omega) g a n cap B (m + 2) (hid_le (by have := HM.out; omega)) x2 C).mono ?_
    rintro e x3 ⟨r, r0, r1, rfl, C1, ha⟩
    have Hr : Hid (0 ≤ r ∧ r < 50) := ⟨r0, r1⟩
    clear r0 r1
    replace R : Hid (x3.ownsRow b0 41 2 (.slice av L.length cv) L.length (pv L)) := own_keep R.out (fun q hq => ha.blk q (by have h1 := (R.out.lt q hq).1; have h2 := HC.out; omega) (R.out.lt q hq).2)
    replace A : Hid (AftR B g b0 w x3) := aftR_cur A.out ha
    replace LB : Hid (b0 ≤ x3.heap.size) := Nat.le_trans LB.out ha.size
    clear ha C
    have C := C1
    clear C1
    have hwr : wrap64 (r - 10) = r - 10 := by have := Hr.out; unfold wrap64; omega
    clear hd
    obtain ⟨y, hy⟩ : ∃ z, x3.heap.size = z := ⟨_, rfl⟩
    obtain ⟨x4, hN⟩ : ∃ W, x3.alloc (.cells #[.int .i64 65, .int .i64 (r - 10)] 41) = W := ⟨_, rfl⟩
    have bn : x4.heap[y]? = some (.cells #[.int .i64 65, .int .i64 (r - 10)] 41 (0, 0)) := by rw [← hN, ← hy]; exact heap_alloc_new _ _
    have HY0 : Hid (b0 ≤ y) := by unfold Hid; rw [← hy]; exact LB.out
    have hb : Below x3.heap.size x3 x4 := by rw [← hN]; exact (Below.refl _ _).alloc (Nat.le_refl _) _
    replace R : Hid (x4.ownsRow b0 41 2 (.slice av L.length cv) L.length (pv L)) := by unfold Hid; rw [← hN]; exact R.out.alloc _
    replace C := C.kept hb
    replace A : Hid (AftR B g b0 w x4) := aftR_bel A.out (hb.mono LB.out) (by have h2 := HC.out; omega)
    replace LB : Hid (b0 ≤ x4.heap.size) := Nat.le_trans LB.out hb.size
    clear hb
    clear HY0
    have HBN : Hid _ := bn
    clear bn
    go_wp2_with (at_builtin; refine wpList_append_own _ rfl _ _ 37 rfl b0 41 i0 (.agg #[.int .i64 0, .int .i64 0]) 2 16 Tryz.underlying37 hi hz0 hz1 hz2 rfl (by decide) _ _ _ rfl R.out ⟨y, 0, none⟩ 1 _ [.int .i64 65, .int .i64 (r - 10)] rfl rfl ?qc2 ?qc3 ?qc4 ?qc5 ?qc6 ?_)
    case qc2 =>
      intro j u hu
      have hj : j < 2 := by rcases Nat.lt_or_ge j 2 with h' | h'; exact h'; rw [List.getElem?_eq_none (by simpa using h')] at hu; cases hu
      rw [Addr.add_lit, Nat.zero_add, cell_of_block HBN.out, ← hu]
      have hjj : j = 0 ∨ j = 1 := by omega
      rcases hjj with rfl | rfl <;> rfl
    case qc3 => intro u hu; simp at hu; rcases hu with rfl | rfl <;> rfl
    case qc4 => have := HL.out; have := HK.out; unfold maxLen; omega
    case qc5 => have := HL.out; have := HK.out; omega
    case qc6 => exact LB.out
    intro v' x5 hown hgr _
    clear hN hy HBN
    have hb : Below b0 x4 x5 := (Below.refl _ _).grown hgr LB.out (fun q hq => (R.out.lt q hq).1)
    rw [pv_app L (65, (r - 10))] at hown
    have hown2 : x5.ownsRow b0 41 2 v' (L ++ [(65, (r - 10))]).length (pv (L ++ [(65, (r - 10))])) := by simpa using hown
    have HO2 : Hid (∀ x ∈ L ++ [(65, (r - 10))], OkI x) := okI_app HO.out _ _ (by decide) ⟨by have := Hr.out; omega, by have := Hr.out; omega⟩
    obtain ⟨L1, hL⟩ : ∃ M, L ++ [(65, (r - 10))] = M := ⟨_, rfl⟩
    have hlen : L1.length = L.length + 1 := by rw [← hL]; simp
    rw [hL] at hown2 HO2
    have HL2 : Hid (L1.length ≤ L.length + (1)) := by unfold Hid; have := HL.out; omega
    obtain ⟨av1, cv1, gg, hv, hgg⟩ := owned_ins hown2
    subst hv
    clear R HO HL hL hlen hown hgg hgr
    have R : Hid (x5.ownsRow b0 41 2 (.slice av1 L1.length cv1) L1.length (pv L1)) := hown2
    have HO := HO2
    have HL := HL2
    clear HO2 HL2 hown2
    replace C := cur_low C hb (by have h2 := HC.out; omega)
    replace A : Hid (AftR B g b0 w x5) := aftR_bel A.out hb (by have h2 := HC.out; omega)
    replace LB : Hid (b0 ≤ x5.heap.size) := Nat.le_trans LB.out hb.size
    clear hb
    go_wp2
    go_ret
    exact ⟨_, L1, rfl, R, ⟨by have := HL.out; have := HX.out; omega, HO.out⟩, C.more (by have := HX.out; omega), A⟩
  · go_wp2_with fail
    refine (curPick 2 (by omega) (by omega) g a n cap B (m + 2) (hid_le (by have := HM.out; omega)) x2 C).mono ?_
    rintro e x3 ⟨r, r0, r1, rfl, C1, ha⟩
    have Hr : Hid (0 ≤ r ∧ r < 2) := ⟨r0, r1⟩
    clear r0 r1
    replace R : Hid (x3.ownsRow b0 41 2 (.slice av L.length cv) L.length (pv L)) := own_keep R.out (fun q hq => ha.blk q (by have h1 := (R.out.lt q hq).1; have h2 := HC.out; omega) (R.out.lt q hq).2)
    replace A : Hid (AftR B g b0 w x3) := aftR_cur A.out ha
    replace LB : Hid (b0 ≤ x3.heap.size) := Nat.le_trans LB.out ha.size
    clear ha C
    have C := C1
    clear C1
    clear hd
    obtain ⟨y, hy⟩ : ∃ z, x3.heap.size = z := ⟨_, rfl⟩
    obtain ⟨x4, hN⟩ : ∃ W, x3.alloc (.cells #[.int .i64 32, .int .i64 r] 41) = W := ⟨_, rfl⟩
    have bn : x4.heap[y]? = some (.cells #[.int .i64 32, .int .i64 r] 41 (0, 0)) := by rw [← hN, ← hy]; exact heap_alloc_new _ _
    have HY0 : Hid (b0 ≤ y) := by unfold Hid; rw [← hy]; exact LB.out
    have hb : Below x3.heap.size x3 x4 := by rw [← hN]; exact (Below.refl _ _).alloc (Nat.le_refl _) _
    replace R : Hid (x4.ownsRow b0 41 2 (.slice av L.length cv) L.length (pv L)) := by unfold Hid; rw [← hN]; exact R.out.alloc _
    replace C := C.kept hb
    replace A : Hid (AftR B g b0 w x4) := aftR_bel A.out (hb.mono LB.out) (by have h2 := HC.out; omega)
    replace LB : Hid (b0 ≤ x4.heap.size) := Nat.le_trans LB.out hb.size
    clear hb
    clear HY0
    have HBN : Hid _ := bn
    clear bn
    go_wp2_with (at_builtin; refine wpList_append_own _ rfl _ _ 37 rfl b0 41 i0 (.agg #[.int .i64 0, .int .i64 0]) 2 16 Tryz.underlying37 hi hz0 hz1 hz2 rfl (by decide) _ _ _ rfl R.out ⟨y, 0, none⟩ 1 _ [.int .i64 32, .int .i64 r] rfl rfl ?qc2 ?qc3 ?qc4 ?qc5 ?qc6 ?_)
    case qc2 =>
      intro j u hu
      have hj : j < 2 := by rcases Nat.lt_or_ge j 2 with h' | h'; exact h'; rw [List.getElem?_eq_none (by simpa using h')] at hu; cases hu
      rw [Addr.add_lit, Nat.zero_add, cell_of_block HBN.out, ← hu]
      have hjj : j = 0 ∨ j = 1 := by omega
      rcases hjj with rfl | rfl <;> rfl
    case qc3 => intro u hu; simp at hu; rcases hu with rfl | rfl <;> rfl
    case qc4 => have := HL.out; have := HK.out; unfold maxLen; omega
    case qc5 => have := HL.out; have := HK.out; omega
    case qc6 => exact LB.out
    intro v' x5 hown hgr _
    clear hN hy HBN
    have hb : Below b0 x4 x5 := (Below.refl _ _).grown hgr LB.out (fun q hq => (R.out.lt q hq).1)
    rw [pv_app L (32, r)] at hown
    have hown2 : x5.ownsRow b0 41 2 v' (L ++ [(32, r)]).length (pv (L ++ [(32, r)])) := by simpa using hown
    have HO2 : Hid (∀ x ∈ L ++ [(32, r)], OkI x) := okI_app HO.out _ _ (by decide) ⟨by have := Hr.out; omega, by have := Hr.out; omega⟩
    obtain ⟨L1, hL⟩ : ∃ M, L ++ [(32, r)] = M := ⟨_, rfl⟩
    have hlen : L1.length = L.length + 1 := by rw [← hL]; simp
    rw [hL] at hown2 HO2
    have HL2 : Hid (L1.length ≤ L.length + (1)) := by unfold Hid; have := HL.out; omega
    obtain ⟨av1, cv1, gg, hv, hgg⟩ := owned_ins hown2
    subst hv
    clear R HO HL hL hlen hown hgg hgr
    have R : Hid (x5.ownsRow b0 41 2 (.slice av1 L1.length cv1) L1.length (pv L1)) := hown2
    have HO := HO2
    have HL := HL2
    clear HO2 HL2 hown2
    replace C := cur_low C hb (by have h2 := HC.out; omega)
    replace A : Hid (AftR B g b0 w x5) := aftR_bel A.out hb (by have h2 := HC.out; omega)
    replace LB : Hid (b0 ≤ x5.heap.size) := Nat.le_trans LB.out hb.size
    clear hb
    go_wp2
    go_ret
    exact ⟨_, L1, rfl, R, ⟨by have := HL.out; have := HX.out; omega, HO.out⟩, C.more (by have := HX.out; omega), A⟩

set_option maxRecDepth 100000 in
set_option maxHeartbeats 3200000 in
theorem genLeaf64 (B g b0 : Nat) (a : Option Addr) (n cap : Nat) (X Y : Nat) (d ar : Int) (av : Option Addr) (cv : Nat) (L : List (Int × Int)) (m : Nat) (w : World)
    (hd : d ≤ 0 ∨ 120 < (L.length : Int)) (hX : Hid (X = 1 ∧ Y = 30)) (hM : m + (Y) ≤ 600000) (hK : L.length + (X) ≤ 100000) (hb0 : b0 ≤ w.heap.size) (hg0 : g < b0 ∧ B ≤ g) (hR : w.ownsRow b0 41 2 (.slice av L.length cv) L.length (pv L)) (hO : ∀ x ∈ L, OkI x) (C : Cur w g a n cap B m) :
    Calls Tryz.prog 43 #[.pointer (some ⟨g, 0, none⟩), .slice av L.length cv, .int .i64 126, .int .i64 d, .int .i64 ar] w fun e w' => ∃ (v' : Value) (L' : List (Int × Int)), e = .returned v' ∧ Hid (w'.ownsRow b0 41 2 v' L'.length (pv L')) ∧ Hid (L'.length ≤ L.length + (X) ∧ ∀ x ∈ L', OkI x) ∧ Cur w' g a n cap B (m + (Y)) ∧ Hid (AftR B g b0 w w') := by
  obtain ⟨i0, hi, hz0, hz1, hz2⟩ := info_parts Tryz.info41
  have HX := hX
  have HM : Hid (m + (Y) ≤ 600000) := hM
  have HK : Hid (L.length + (X) ≤ 100000) := hK
  have HC : Hid (g < b0 ∧ B ≤ g) := hg0
  have LB : Hid (b0 ≤ w.heap.size) := hb0
  have R : Hid (w.ownsRow b0 41 2 (.slice av L.length cv) L.length (pv L)) := hR
  have HO : Hid (∀ x ∈ L, OkI x) := hO
  have HL : Hid (L.length ≤ L.length + 0) := Nat.le_refl _
  have A : Hid (AftR B g b0 w w) := aftR_refl _ _ _ _
  clear hX hM hK hg0 hb0 hR hO
  go_enter Tryz.func43, Tryz.ntmps43
  go_upto_if 13 with fail
  go_cut [3] (fun s3 wx => ∃ d' : Int, s3 = .int .i64 d' ∧ Hid (d' ≤ 0) ∧ wx = w)
  case first =>
    have hd2 : Hid (d ≤ 0 ∨ 120 < (L.length : Int)) := hd
    clear hd
    by_cases hc : 120 < (L.length : Int)
    · go_wp2
      go_meet
      exact ⟨0, rfl, Int.le_refl _, rfl⟩
    · have hd3 : Hid (d ≤ 0) := hd2.out.resolve_right hc
      go_wp2
      go_meet
      exact ⟨d, rfl, hd3.out, rfl⟩
  case rest =>
  clear hd
  obtain ⟨d, rfl, hd2, hwc⟩ := hcut
  obtain rfl := hwc.symm
  clear hwc
  have hd := hd2.out
  clear hd2
  go_wp2_with fail
  refine (curOne 2 (by omega) (by omega) g a n cap B (m) (hid_le (by have := HM.out; omega)) w C).mono ?_
  rintro e x2 ⟨b, rfl, C1, ha⟩
  replace R : Hid (x2.ownsRow b0 41 2 (.slice av L.length cv) L.length (pv L)) := own_keep R.out (fun q hq => ha.blk q (by have h1 := (R.out.lt q hq).1; have h2 := HC.out; omega) (R.out.lt q hq).2)
  replace A : Hid (AftR B g b0 w x2) := aftR_cur A.out ha
  replace LB : Hid (b0 ≤ x2.heap.size) := Nat.le_trans LB.out ha.size
  clear ha C
  have C := C1
  clear C1
  cases b
  · go_wp2_with fail
    refine (curSigned g a n cap B (m + 2) (hid_le (by have := HM.out; omega)) x2 C).mono ?_
    rintro e x3 ⟨r, r0, r1, rfl, C1, ha⟩
    replace R : Hid (x3.ownsRow b0 41 2 (.slice av L.length cv) L.length (pv L)) := own_keep R.out (fun q hq => ha.blk q (by have h1 := (R.out.lt q hq).1; have h2 := HC.out; omega) (R.out.lt q hq).2)
    replace A : Hid (AftR B g b0 w x3) := aftR_cur A.out ha
    replace LB : Hid (b0 ≤ x3.heap.size) := Nat.le_trans LB.out ha.size
    clear ha C
    have C := C1
    clear C1
    have Hr : Hid (-9223372036854775808 ≤ r ∧ r ≤ 9223372036854775807) := ⟨r0, r1⟩
    clear r0 r1 hd
    obtain ⟨y, hy⟩ : ∃ z, x3.heap.size = z := ⟨_, rfl⟩
    obtain ⟨x4, hN⟩ : ∃ W, x3.alloc (.cells #[.int .i64 66, .int .i64 r] 41) = W := ⟨_, rfl⟩
    have bn : x4.heap[y]? = some (.cells #[.int .i64 66, .int .i64 r] 41 (0, 0)) := by rw [← hN, ← hy]; exact heap_alloc_new _ _
    have HY0 : Hid (b0 ≤ y) := by unfold Hid; rw [← hy]; exact LB.out
    have hb : Below x3.heap.size x3 x4 := by rw [← hN]; exact (Below.refl _ _).alloc (Nat.le_refl _) _
    replace R : Hid (x4.ownsRow b0 41 2 (.slice av L.length cv) L.length (pv L)) := by unfold Hid; rw [← hN]; exact R.out.alloc _
    replace C := C.kept hb
    replace A : Hid (AftR B g b0 w x4) := aftR_bel A.out (hb.mono LB.out) (by have h2 := HC.out; omega)
    replace LB : Hid (b0 ≤ x4.heap.size) := Nat.le_trans LB.out hb.size
    clear hb
    clear HY0
    have HBN : Hid _ := bn
    clear bn
    go_wp2_with (at_builtin; refine wpList_append_own _ rfl _ _ 37 rfl b0 41 i0 (.agg #[.int .i64 0, .int .i64 0]) 2 16 Tryz.underlying37 hi hz0 hz1 hz2 rfl (by decide) _ _ _ rfl R.out ⟨y, 0, none⟩ 1 _ [.int .i64 66, .int .i64 r] rfl rfl ?qc2 ?qc3 ?qc4 ?qc5 ?qc6 ?_)
    case qc2 =>
      intro j u hu
      have hj : j < 2 := by rcases Nat.lt_or_ge j 2 with h' | h'; exact h'; rw [List.getElem?_eq_none (by simpa using h')] at hu; cases hu
      rw [Addr.add_lit, Nat.zero_add, cell_of_block HBN.out, ← hu]
      have hjj : j = 0 ∨ j = 1 := by omega
      rcases hjj with rfl | rfl <;> rfl
    case qc3 => intro u hu; simp at hu; rcases hu with rfl | rfl <;> rfl
    case qc4 => have := HL.out; have := HK.out; unfold maxLen; omega
    case qc5 => have := HL.out; have := HK.out; omega
    case qc6 => exact LB.out
    intro v' x5 hown hgr _
    clear hN hy HBN
    have hb : Below b0 x4 x5 := (Below.refl _ _).grown hgr LB.out (fun q hq => (R.out.lt q hq).1)
    rw [pv_app L (66, r)] at hown
    have hown2 : x5.ownsRow b0 41 2 v' (L ++ [(66, r)]).length (pv (L ++ [(66, r)])) := by simpa using hown
    have HO2 : Hid (∀ x ∈ L ++ [(66, r)], OkI x) := okI_app HO.out _ _ (by decide) Hr.out
    obtain ⟨L1, hL⟩ : ∃ M, L ++ [(66, r)] = M := ⟨_, rfl⟩
    have hlen : L1.length = L.length + 1 := by rw [← hL]; simp
    rw [hL] at hown2 HO2
    have HL2 : Hid (L1.length ≤ L.length + (1)) := by unfold Hid; have := HL.out; omega
    obtain ⟨av1, cv1, gg, hv, hgg⟩ := owned_ins hown2
    subst hv
    clear R HO HL hL hlen hown hgg hgr
    have R : Hid (x5.ownsRow b0 41 2 (.slice av1 L1.length cv1) L1.length (pv L1)) := hown2
    have HO := HO2
    have HL := HL2
    clear HO2 HL2 hown2
    replace C := cur_low C hb (by have h2 := HC.out; omega)
    replace A : Hid (AftR B g b0 w x5) := aftR_bel A.out hb (by have h2 := HC.out; omega)
    replace LB : Hid (b0 ≤ x5.heap.size) := Nat.le_trans LB.out hb.size
    clear hb
    go_wp2
    go_ret
    exact ⟨_, L1, rfl, R, ⟨by have := HL.out; have := HX.out; omega, HO.out⟩, C.more (by have := HX.out; omega), A⟩
  · obtain ⟨y, hy⟩ : ∃ z, x2.heap.size = z := ⟨_, rfl⟩
    obtain ⟨x3, hN⟩ : ∃ W, x2.alloc (.cells #[.int .i64 32, .int .i64 2] 41) = W := ⟨_, rfl⟩
    have bn : x3.heap[y]? = some (.cells #[.int .i64 32, .int .i64 2] 41 (0, 0)) := by rw [← hN, ← hy]; exact heap_alloc_new _ _
    have HY0 : Hid (b0 ≤ y) := by unfold Hid; rw [← hy]; exact LB.out
    have hb : Below x2.heap.size x2 x3 := by rw [← hN]; exact (Below.refl _ _).alloc (Nat.le_refl _) _
    replace R : Hid (x3.ownsRow b0 41 2 (.slice av L.length cv) L.length (pv L)) := by unfold Hid; rw [← hN]; exact R.out.alloc _
    replace C := C.kept hb
    replace A : Hid (AftR B g b0 w x3) := aftR_bel A.out (hb.mono LB.out) (by have h2 := HC.out; omega)
    replace LB : Hid (b0 ≤ x3.heap.size) := Nat.le_trans LB.out hb.size
    clear hb
    clear HY0
    have HBN : Hid _ := bn
    clear bn
    go_wp2_with (at_builtin; refine wpList_append_own _ rfl _ _ 37 rfl b0 41 i0 (.agg #[.int .i64 0, .int .i64 0]) 2 16 Tryz.underlying37 hi hz0 hz1 hz2 rfl (by decide) _ _ _ rfl R.out ⟨y, 0, none⟩ 1 _ [.int .i64 32, .int .i64 2] rfl rfl ?qc2 ?qc3 ?qc4 ?qc5 ?qc6 ?_)
    case qc2 =>
      intro j u hu
      have hj : j < 2 := by rcases Nat.lt_or_ge j 2 with h' | h'; exact h'; rw [List.getElem?_eq_none (by simpa using h')] at hu; cases hu
      rw [Addr.add_lit, Nat.zero_add, cell_of_block HBN.out, ← hu]
      have hjj : j = 0 ∨ j = 1 := by omega
      rcases hjj with rfl | rfl <;> rfl
    case qc3 => intro u hu; simp at hu; rcases hu with rfl | rfl <;> rfl
    case qc4 => have := HL.out; have := HK.out; unfold maxLen; omega
    case qc5 => have := HL.out; have := HK.out; omega
    case qc6 => exact LB.out
    intro v' x4 hown hgr _
    clear hN hy HBN
    have hb : Below b0 x3 x4 := (Below.refl _ _).grown hgr LB.out (fun q hq => (R.out.lt q hq).1)
    rw [pv_app L (32, 2)] at hown
    have hown2 : x4.ownsRow b0 41 2 v' (L ++ [(32, 2)]).length (pv (L ++ [(32, 2)])) := by simpa using hown
    have HO2 : Hid (∀ x ∈ L ++ [(32, 2)], OkI x) := okI_app HO.out _ _ (by decide) (by decide)
    obtain ⟨L1, hL⟩ : ∃ M, L ++ [(32, 2)] = M := ⟨_, rfl⟩
    have hlen : L1.length = L.length + 1 := by rw [← hL]; simp
    rw [hL] at hown2 HO2
    have HL2 : Hid (L1.length ≤ L.length + (1)) := by unfold Hid; have := HL.out; omega
    obtain ⟨av1, cv1, gg, hv, hgg⟩ := owned_ins hown2
    subst hv
    clear R HO HL hL hlen hown hgg hgr
    have R : Hid (x4.ownsRow b0 41 2 (.slice av1 L1.length cv1) L1.length (pv L1)) := hown2
    have HO := HO2
    have HL := HL2
    clear HO2 HL2 hown2
    replace C := cur_low C hb (by have h2 := HC.out; omega)
    replace A : Hid (AftR B g b0 w x4) := aftR_bel A.out hb (by have h2 := HC.out; omega)
    replace LB : Hid (b0 ≤ x4.heap.size) := Nat.le_trans LB.out hb.size
    clear hb
    go_wp2
    go_ret
    exact ⟨_, L1, rfl, R, ⟨by have := HL.out; have := HX.out; omega, HO.out⟩, C.more (by have := HX.out; omega), A⟩

set_option maxRecDepth 100000 in
set_option maxHeartbeats 3200000 in
theorem genLeafF (B g b0 : Nat) (a : Option Addr) (n cap : Nat) (X Y : Nat) (d ar : Int) (av : Option Addr) (cv : Nat) (L : List (Int × Int)) (m : Nat) (w : World)
    (hd : d ≤ 0 ∨ 120 < (L.length : Int)) (hX : Hid (X = 1 ∧ Y = 30)) (hM : m + (Y) ≤ 600000) (hK : L.length + (X) ≤ 100000) (hb0 : b0 ≤ w.heap.size) (hg0 : g < b0 ∧ B ≤ g) (hR : w.ownsRow b0 41 2 (.slice av L.length cv) L.length (pv L)) (hO : ∀ x ∈ L, OkI x) (C : Cur w g a n cap B m) :
    Calls Tryz.prog 43 #[.pointer (some ⟨g, 0, none⟩), .slice av L.length cv, .int .i64 125, .int .i64 d, .int .i64 ar] w fun e w' => ∃ (v' : Value) (L' : List (Int × Int)), e = .returned v' ∧ Hid (w'.ownsRow b0 41 2 v' L'.length (pv L')) ∧ Hid (L'.length ≤ L.length + (X) ∧ ∀ x ∈ L', OkI x) ∧ Cur w' g a n cap B (m + (Y)) ∧ Hid (AftR B g b0 w w') := by
  obtain ⟨i0, hi, hz0, hz1, hz2⟩ := info_parts Tryz.info41
  have HX := hX
  have HM : Hid (m + (Y) ≤ 600000) := hM
  have HK : Hid (L.length + (X) ≤ 100000) := hK
  have HC : Hid (g < b0 ∧ B ≤ g) := hg0
  have LB : Hid (b0 ≤ w.heap.size) := hb0
  have R : Hid (w.ownsRow b0 41 2 (.slice av L.length cv) L.length (pv L)) := hR
  have HO : Hid (∀ x ∈ L, OkI x) := hO
  have HL : Hid (L.length ≤ L.length + 0) := Nat.le_refl _
  have A : Hid (AftR B g b0 w w) := aftR_refl _ _ _ _
  clear hX hM hK hg0 hb0 hR hO
  go_enter Tryz.func43, Tryz.ntmps43
  go_upto_if 13 with fail
  go_cut [3] (fun s3 wx => ∃ d' : Int, s3 = .int .i64 d' ∧ Hid (d' ≤ 0) ∧ wx = w)
  case first =>
    have hd2 : Hid (d ≤ 0 ∨ 120 < (L.length : Int)) := hd
    clear hd
    by_cases hc : 120 < (L.length : Int)
    · go_wp2
      go_meet
      exact ⟨0, rfl, Int.le_refl _, rfl⟩
    · have hd3 : Hid (d ≤ 0) := hd2.out.resolve_right hc
      go_wp2
      go_meet
      exact ⟨d, rfl, hd3.out, rfl⟩
  case rest =>
  clear hd
  obtain ⟨d, rfl, hd2, hwc⟩ := hcut
  obtain rfl := hwc.symm
  clear hwc
  have hd := hd2.out
  clear hd2
  go_wp2_with fail
  refine (curFloat32 g a n cap B (m) (hid_le (by have := HM.out; omega)) w C).mono ?_
  rintro e x2 ⟨r, r0, r1, rfl, C1, ha⟩
  replace R : Hid (x2.ownsRow b0 41 2 (.slice av L.length cv) L.length (pv L)) := own_keep R.out (fun q hq => ha.blk q (by have h1 := (R.out.lt q hq).1; have h2 := HC.out; omega) (R.out.lt q hq).2)
  replace A : Hid (AftR B g b0 w x2) := aftR_cur A.out ha
  replace LB : Hid (b0 ≤ x2.heap.size) := Nat.le_trans LB.out ha.size
  clear ha C
  have C := C1
  clear C1
  have Hr : Hid (0 ≤ r ∧ r ≤ 4294967295) := ⟨r0, r1⟩
  clear hd
  obtain ⟨y, hy⟩ : ∃ z, x2.heap.size = z := ⟨_, rfl⟩
  obtain ⟨x3, hN⟩ : ∃ W, x2.alloc (.cells #[.int .i64 67, .int .i64 r] 41) = W := ⟨_, rfl⟩
  have bn : x3.heap[y]? = some (.cells #[.int .i64 67, .int .i64 r] 41 (0, 0)) := by rw [← hN, ← hy]; exact heap_alloc_new _ _
  have HY0 : Hid (b0 ≤ y) := by unfold Hid; rw [← hy]; exact LB.out
  have hb : Below x2.heap.size x2 x3 := by rw [← hN]; exact (Below.refl _ _).alloc (Nat.le_refl _) _
  replace R : Hid (x3.ownsRow b0 41 2 (.slice av L.length cv) L.length (pv L)) := by unfold Hid; rw [← hN]; exact R.out.alloc _
  replace C := C.kept hb
  replace A : Hid (AftR B g b0 w x3) := aftR_bel A.out (hb.mono LB.out) (by have h2 := HC.out; omega)
  replace LB : Hid (b0 ≤ x3.heap.size) := Nat.le_trans LB.out hb.size
  clear hb
  clear HY0
  have HBN : Hid _ := bn
  clear bn
  go_wp2_with (at_builtin; refine wpList_append_own _ rfl _ _ 37 rfl b0 41 i0 (.agg #[.int .i64 0, .int .i64 0]) 2 16 Tryz.underlying37 hi hz0 hz1 hz2 rfl (by decide) _ _ _ rfl R.out ⟨y, 0, none⟩ 1 _ [.int .i64 67, .int .i64 r] rfl rfl ?qc2 ?qc3 ?qc4 ?qc5 ?qc6 ?_)
  case qc2 =>
    intro j u hu
    have hj : j < 2 := by rcases Nat.lt_or_ge j 2 with h' | h'; exact h'; rw [List.getElem?_eq_none (by simpa using h')] at hu; cases hu
    rw [Addr.add_lit, Nat.zero_add, cell_of_block HBN.out, ← hu]
    have hjj : j = 0 ∨ j = 1 := by omega
    rcases hjj with rfl | rfl <;> rfl
  case qc3 => intro u hu; simp at hu; rcases hu with rfl | rfl <;> rfl
  case qc4 => have := HL.out; have := HK.out; unfold maxLen; omega
  case qc5 => have := HL.out; have := HK.out; omega
  case qc6 => exact LB.out
  intro v' x4 hown hgr _
  clear hN hy HBN
  have hb : Below b0 x3 x4 := (Below.refl _ _).grown hgr LB.out (fun q hq => (R.out.lt q hq).1)
  rw [pv_app L (67, r)] at hown
  have hown2 : x4.ownsRow b0 41 2 v' (L ++ [(67, r)]).length (pv (L ++ [(67, r)])) := by simpa using hown
  have HO2 : Hid (∀ x ∈ L ++ [(67, r)], OkI x) := okI_app HO.out _ _ (by decide) ⟨by have := Hr.out; omega, by have := Hr.out; omega⟩
  obtain ⟨L1, hL⟩ : ∃ M, L ++ [(67, r)] = M := ⟨_, rfl⟩
  have hlen : L1.length = L.length + 1 := by rw [← hL]; simp
  rw [hL] at hown2 HO2
  have HL2 : Hid (L1.length ≤ L.length + (1)) := by unfold Hid; have := HL.out; omega
  obtain ⟨av1, cv1, gg, hv, hgg⟩ := owned_ins hown2
  subst hv
  clear R HO HL hL hlen hown hgg hgr
  have R : Hid (x4.ownsRow b0 41 2 (.slice av1 L1.length cv1) L1.length (pv L1)) := hown2
  have HO := HO2
  have HL := HL2
  clear HO2 HL2 hown2
  replace C := cur_low C hb (by have h2 := HC.out; omega)
  replace A : Hid (AftR B g b0 w x4) := aftR_bel A.out hb (by have h2 := HC.out; omega)
  replace LB : Hid (b0 ≤ x4.heap.size) := Nat.le_trans LB.out hb.size
  clear hb
  go_wp2
  go_ret
  exact ⟨_, L1, rfl, R, ⟨by have := HL.out; have := HX.out; omega, HO.out⟩, C.more (by have := HX.out; omega), A⟩

end Go.Proofs.YtcgnefgdfgikdaaGreat

namespace Go.Proofs.YtcgnefgdfgikdaaGreat
open Go.ChangeShapes Go.WideShapes Go.ChangeAt Go.RowKit

set_option maxRecDepth 100000 in
set_option maxHeartbeats 3200000 in
theorem genNone (B g b0 : Nat) (a : Option Addr) (n cap f : Nat) (IH : Hid (GenP B g b0 a n cap f)) (d ar : Int) (av : Option Addr) (cv : Nat) (L : List (Int × Int)) (m : Nat) (w : World)
    (hlo : ((f + 1 : Nat) : Int) - 1000 ≤ d) (hhi : d ≤ 100) (hrk : 2 * d ≤ f + 0) (hf : f ≤ 500) (hX : Hid (0 ≤ NN f ∧ 0 ≤ MM f)) (hM : m + (3 * MM f + 30) ≤ 600000) (hK : L.length + (3 * NN f + 4) ≤ 100000) (hb0 : b0 ≤ w.heap.size) (hg0 : g < b0 ∧ B ≤ g) (hR : w.ownsRow b0 41 2 (.slice av L.length cv) L.length (pv L)) (hO : ∀ x ∈ L, OkI x) (C : Cur w g a n cap B m) :
    Calls Tryz.prog 43 #[.pointer (some ⟨g, 0, none⟩), .slice av L.length cv, .int .i64 64, .int .i64 d, .int .i64 ar] w fun e w' => ∃ (v' : Value) (L' : List (Int × Int)), e = .returned v' ∧ Hid (w'.ownsRow b0 41 2 v' L'.length (pv L')) ∧ Hid (L'.length ≤ L.length + (3 * NN f + 4) ∧ ∀ x ∈ L', OkI x) ∧ Cur w' g a n cap B (m + (3 * MM f + 30)) ∧ Hid (AftR B g b0 w w') := by
  obtain ⟨i0, hi, hz0, hz1, hz2⟩ := info_parts Tryz.info41
  have HX := hX
  have HM : Hid (m + (3 * MM f + 30) ≤ 600000) := hM
  have HK : Hid (L.length + (3 * NN f + 4) ≤ 100000) := hK
  have HC : Hid (g < b0 ∧ B ≤ g) := hg0
  have LB : Hid (b0 ≤ w.heap.size) := hb0
  have R : Hid (w.ownsRow b0 41 2 (.slice av L.length cv) L.length (pv L)) := hR
  have HO : Hid (∀ x ∈ L, OkI x) := hO
  have HL : Hid (L.length ≤ L.length + 0) := Nat.le_refl _
  have A : Hid (AftR B g b0 w w) := aftR_refl _ _ _ _
  clear hX hM hK hg0 hb0 hR hO
  have HF : Hid (f ≤ 500) := hf
  have HD : Hid (((f + 1 : Nat) : Int) - 1000 ≤ d ∧ d ≤ 100 ∧ 2 * d ≤ f + 0) := ⟨hlo, hhi, hrk⟩
  clear hlo hhi hrk hf
  go_enter Tryz.func43, Tryz.ntmps43
  go_upto_if 13 with fail
  go_cut [3] (fun s3 wx => ∃ d' : Int, s3 = .int .i64 d' ∧ Hid (((f + 1 : Nat) : Int) - 1000 ≤ d' ∧ d' ≤ 100 ∧ 2 * d' ≤ f) ∧ wx = w)
  case first =>
    by_cases hc : 120 < (L.length : Int)
    · go_wp2
      go_meet
      exact ⟨0, rfl, (by have := HF.out; unfold Hid; omega), rfl⟩
    · go_wp2
      go_meet
      exact ⟨d, rfl, HD.out, rfl⟩
  case rest =>
  clear HD
  obtain ⟨d, rfl, HD, hwc⟩ := hcut
  obtain rfl := hwc.symm
  clear hwc
  have HDa : Hid ((f : Int) - 1000 ≤ wrap64 (d - 1) ∧ wrap64 (d - 1) ≤ 100) := dec_lo f d HD.out.1 HD.out.2.1
  have HDr : Hid (∀ w' : Int, w' ≠ 64 → rk w' (wrap64 (d - 1)) ≤ f) := fun w' hw => rk_type f w' d hw HD.out.1 HD.out.2.1 (by have := HD.out.2.2; omega)
  have HDn : Hid (0 < d → rk 64 (wrap64 (d - 1)) ≤ f) := fun h => rk_none f d HD.out.1 HD.out.2.1 (by have := HD.out.2.2; omega) h
  go_wp2_with fail
  refine (curPick 7 (by omega) (by omega) g a n cap B (m) (hid_le (by have := HM.out; omega)) w C).mono ?_
  rintro e x2 ⟨q, q0, q1, rfl, C1, ha⟩
  have Hq : Hid (0 ≤ q ∧ q < 7) := ⟨q0, q1⟩
  clear q0 q1
  replace R : Hid (x2.ownsRow b0 41 2 (.slice av L.length cv) L.length (pv L)) := own_keep R.out (fun q hq => ha.blk q (by have h1 := (R.out.lt q hq).1; have h2 := HC.out; omega) (R.out.lt q hq).2)
  replace A : Hid (AftR B g b0 w x2) := aftR_cur A.out ha
  replace LB : Hid (b0 ≤ x2.heap.size) := Nat.le_trans LB.out ha.size
  clear ha C
  have C := C1
  clear C1
  have hq : q = 0 ∨ q = 1 ∨ q = 2 ∨ q = 3 ∨ q = 4 ∨ q = 5 ∨ q = 6 := by have := Hq.out; omega
  clear Hq
  rcases hq with rfl | rfl | rfl | rfl | rfl | rfl | rfl
  · obtain ⟨y, hy⟩ : ∃ z, x2.heap.size = z := ⟨_, rfl⟩
    obtain ⟨x3, hN⟩ : ∃ W, x2.alloc (.cells #[.int .i64 1, .int .i64 0] 41) = W := ⟨_, rfl⟩
    have bn : x3.heap[y]? = some (.cells #[.int .i64 1, .int .i64 0] 41 (0, 0)) := by rw [← hN, ← hy]; exact heap_alloc_new _ _
    have HY0 : Hid (b0 ≤ y) := by unfold Hid; rw [← hy]; exact LB.out
    have hb : Below x2.heap.size x2 x3 := by rw [← hN]; exact (Below.refl _ _).alloc (Nat.le_refl _) _
    replace R : Hid (x3.ownsRow b0 41 2 (.slice av L.length cv) L.length (pv L)) := by unfold Hid; rw [← hN]; exact R.out.alloc _
    replace C := C.kept hb
    replace A : Hid (AftR B g b0 w x3) := aftR_bel A.out (hb.mono LB.out) (by have h2 := HC.out; omega)
    replace LB : Hid (b0 ≤ x3.heap.size) := Nat.le_trans LB.out hb.size
    clear hb
    clear HY0
    have HBN : Hid _ := bn
    clear bn
    go_wp2_with (at_builtin; refine wpList_append_own _ rfl _ _ 37 rfl b0 41 i0 (.agg #[.int .i64 0, .int .i64 0]) 2 16 Tryz.underlying37 hi hz0 hz1 hz2 rfl (by decide) _ _ _ rfl R.out ⟨y, 0, none⟩ 1 _ [.int .i64 1, .int .i64 0] rfl rfl ?qc2 ?qc3 ?qc4 ?qc5 ?qc6 ?_)
    case qc2 =>
      intro j u hu
      have hj : j < 2 := by rcases Nat.lt_or_ge j 2 with h' | h'; exact h'; rw [List.getElem?_eq_none (by simpa using h')] at hu; cases hu
      rw [Addr.add_lit, Nat.zero_add, cell_of_block HBN.out, ← hu]
      have hjj : j = 0 ∨ j = 1 := by omega
      rcases hjj with rfl | rfl <;> rfl
    case qc3 => intro u hu; simp at hu; rcases hu with rfl | rfl <;> rfl
    case qc4 => have := HL.out; have := HK.out; unfold maxLen; omega
    case qc5 => have := HL.out; have := HK.out; omega
    case qc6 => exact LB.out
    intro v' x4 hown hgr _
    clear hN hy HBN
    have hb : Below b0 x3 x4 := (Below.refl _ _).grown hgr LB.out (fun q hq => (R.out.lt q hq).1)
    rw [pv_app L (1, 0)] at hown
    have hown2 : x4.ownsRow b0 41 2 v' (L ++ [(1, 0)]).length (pv (L ++ [(1, 0)])) := by simpa using hown
    have HO2 : Hid (∀ x ∈ L ++ [(1, 0)], OkI x) := okI_app HO.out _ _ (by decide) (by decide)
    obtain ⟨L1, hL⟩ : ∃ M, L ++ [(1, 0)] = M := ⟨_, rfl⟩
    have hlen : L1.length = L.length + 1 := by rw [← hL]; simp
    rw [hL] at hown2 HO2
    have HL2 : Hid (L1.length ≤ L.length + (1)) := by unfold Hid; have := HL.out; omega
    obtain ⟨av1, cv1, gg, hv, hgg⟩ := owned_ins hown2
    subst hv
    clear R HO HL hL hlen hown hgg hgr
    have R : Hid (x4.ownsRow b0 41 2 (.slice av1 L1.length cv1) L1.length (pv L1)) := hown2
    have HO := HO2
    have HL := HL2
    clear HO2 HL2 hown2
    replace C := cur_low C hb (by have h2 := HC.out; omega)
    replace A : Hid (AftR B g b0 w x4) := aftR_bel A.out hb (by have h2 := HC.out; omega)
    replace LB : Hid (b0 ≤ x4.heap.size) := Nat.le_trans LB.out hb.size
    clear hb
    go_wp2
    go_ret
    exact ⟨_, L1, rfl, R, ⟨by have := HL.out; have := HX.out; omega, HO.out⟩, C.more (by have := HX.out; omega), A⟩
  · go_wp2_with fail
    refine (IH.out 127 (wrap64 (d - 1)) ar (.slice av L.length cv) L (m + 2) x2 (by decide) HDa.out.1 HDa.out.2 (HDr.out _ (by decide)) (by have := HM.out; have := HX.out; omega) (by have := HL.out; have := HK.out; have := HX.out; omega) LB.out R.out HO.out C).mono ?_
    rintro e x3 ⟨v', L1, rfl, R1, HQ, C1, A1⟩
    have HL2 : Hid (L1.length ≤ L.length + (NN f)) := by unfold Hid; have := HL.out; have := HQ.out.1; omega
    obtain ⟨av1, cv1, gg, hv, hgg⟩ := owned_ins R1.out
    subst hv
    clear R HO HL C hgg
    have R : Hid (x3.ownsRow b0 41 2 (.slice av1 L1.length cv1) L1.length (pv L1)) := R1
    have HO : Hid (∀ x ∈ L1, OkI x) := HQ.out.2
    have HL := HL2
    have C := C1
    replace A : Hid (AftR B g b0 w x3) := aftR_trans A.out A1.out
    replace LB : Hid (b0 ≤ x3.heap.size) := Nat.le_trans LB.out A1.out.size
    clear R1 HQ C1 A1 HL2
    go_wp2_with fail
    refine (curPick 2 (by omega) (by omega) g a n cap B (m + 2 + MM f) (hid_le (by have := HM.out; omega)) x3 C).mono ?_
    rintro e x4 ⟨r, r0, r1, rfl, C1, ha⟩
    have Hr : Hid (0 ≤ r ∧ r < 2) := ⟨r0, r1⟩
    clear r0 r1
    replace R : Hid (x4.ownsRow b0 41 2 (.slice av1 L1.length cv1) L1.length (pv L1)) := own_keep R.out (fun q hq => ha.blk q (by have h1 := (R.out.lt q hq).1; have h2 := HC.out; omega) (R.out.lt q hq).2)
    replace A : Hid (AftR B g b0 w x4) := aftR_cur A.out ha
    replace LB : Hid (b0 ≤ x4.heap.size) := Nat.le_trans LB.out ha.size
    clear ha C
    have C := C1
    clear C1
    obtain ⟨y, hy⟩ : ∃ z, x4.heap.size = z := ⟨_, rfl⟩
    obtain ⟨x5, hN⟩ : ∃ W, x4.alloc (.cells #[.int .i64 33, .int .i64 r] 41) = W := ⟨_, rfl⟩
    have bn : x5.heap[y]? = some (.cells #[.int .i64 33, .int .i64 r] 41 (0, 0)) := by rw [← hN, ← hy]; exact heap_alloc_new _ _
    have HY0 : Hid (b0 ≤ y) := by unfold Hid; rw [← hy]; exact LB.out
    have hb : Below x4.heap.size x4 x5 := by rw [← hN]; exact (Below.refl _ _).alloc (Nat.le_refl _) _
    replace R : Hid (x5.ownsRow b0 41 2 (.slice av1 L1.length cv1) L1.length (pv L1)) := by unfold Hid; rw [← hN]; exact R.out.alloc _
    replace C := C.kept hb
    replace A : Hid (AftR B g b0 w x5) := aftR_bel A.out (hb.mono LB.out) (by have h2 := HC.out; omega)
    replace LB : Hid (b0 ≤ x5.heap.size) := Nat.le_trans LB.out hb.size
    clear hb
    clear HY0
    have HBN : Hid _ := bn
    clear bn
    go_wp2_with (at_builtin; refine wpList_append_own _ rfl _ _ 37 rfl b0 41 i0 (.agg #[.int .i64 0, .int .i64 0]) 2 16 Tryz.underlying37 hi hz0 hz1 hz2 rfl (by decide) _ _ _ rfl R.out ⟨y, 0, none⟩ 1 _ [.int .i64 33, .int .i64 r] rfl rfl ?qc2 ?qc3 ?qc4 ?qc5 ?qc6 ?_)
    case qc2 =>
      intro j u hu
      have hj : j < 2 := by rcases Nat.lt_or_ge j 2 with h' | h'; exact h'; rw [List.getElem?_eq_none (by simpa using h')] at hu; cases hu
      rw [Addr.add_lit, Nat.zero_add, cell_of_block HBN.out, ← hu]
      have hjj : j = 0 ∨ j = 1 := by omega
      rcases hjj with rfl | rfl <;> rfl
    case qc3 => intro u hu; simp at hu; rcases hu with rfl | rfl <;> rfl
    case qc4 => have := HL.out; have := HK.out; unfold maxLen; omega
    case qc5 => have := HL.out; have := HK.out; omega
    case qc6 => exact LB.out
    intro v' x6 hown hgr _
    clear hN hy HBN
    have hb : Below b0 x5 x6 := (Below.refl _ _).grown hgr LB.out (fun q hq => (R.out.lt q hq).1)
    rw [pv_app L1 (33, r)] at hown
    have hown2 : x6.ownsRow b0 41 2 v' (L1 ++ [(33, r)]).length (pv (L1 ++ [(33, r)])) := by simpa using hown
    have HO2 : Hid (∀ x ∈ L1 ++ [(33, r)], OkI x) := okI_app HO.out _ _ (by decide) ⟨by have := Hr.out; omega, by have := Hr.out; omega⟩
    obtain ⟨L2, hL⟩ : ∃ M, L1 ++ [(33, r)] = M := ⟨_, rfl⟩
    have hlen : L2.length = L1.length + 1 := by rw [← hL]; simp
    rw [hL] at hown2 HO2
    have HL2 : Hid (L2.length ≤ L.length + (NN f + 1)) := by unfold Hid; have := HL.out; omega
    obtain ⟨av2, cv2, gg, hv, hgg⟩ := owned_ins hown2
    subst hv
    clear R HO HL hL hlen hown hgg hgr
    have R : Hid (x6.ownsRow b0 41 2 (.slice av2 L2.length cv2) L2.length (pv L2)) := hown2
    have HO := HO2
    have HL := HL2
    clear HO2 HL2 hown2
    replace C := cur_low C hb (by have h2 := HC.out; omega)
    replace A : Hid (AftR B g b0 w x6) := aftR_bel A.out hb (by have h2 := HC.out; omega)
    replace LB : Hid (b0 ≤ x6.heap.size) := Nat.le_trans LB.out hb.size
    clear hb
    go_wp2
    go_ret
    exact ⟨_, L2, rfl, R, ⟨by have := HL.out; have := HX.out; omega, HO.out⟩, C.more (by have := HX.out; omega), A⟩
  · go_wp2_with fail
    refine (IH.out 127 (wrap64 (d - 1)) ar (.slice av L.length cv) L (m + 2) x2 (by decide) HDa.out.1 HDa.out.2 (HDr.out _ (by decide)) (by have := HM.out; have := HX.out; omega) (by have := HL.out; have := HK.out; have := HX.out; omega) LB.out R.out HO.out C).mono ?_
    rintro e x3 ⟨v', L1, rfl, R1, HQ, C1, A1⟩
    have HL2 : Hid (L1.length ≤ L.length + (NN f)) := by unfold Hid; have := HL.out; have := HQ.out.1; omega
    obtain ⟨av1, cv1, gg, hv, hgg⟩ := owned_ins R1.out
    subst hv
    clear R HO HL C hgg
    have R : Hid (x3.ownsRow b0 41 2 (.slice av1 L1.length cv1) L1.length (pv L1)) := R1
    have HO : Hid (∀ x ∈ L1, OkI x) := HQ.out.2
    have HL := HL2
    have C := C1
    replace A : Hid (AftR B g b0 w x3) := aftR_trans A.out A1.out
    replace LB : Hid (b0 ≤ x3.heap.size) := Nat.le_trans LB.out A1.out.size
    clear R1 HQ C1 A1 HL2
    go_wp2_with fail
    refine (curPick 2 (by omega) (by omega) g a n cap B (m + 2 + MM f) (hid_le (by have := HM.out; omega)) x3 C).mono ?_
    rintro e x4 ⟨r, r0, r1, rfl, C1, ha⟩
    have Hr : Hid (0 ≤ r ∧ r < 2) := ⟨r0, r1⟩
    clear r0 r1
    replace R : Hid (x4.ownsRow b0 41 2 (.slice av1 L1.length cv1) L1.length (pv L1)) := own_keep R.out (fun q hq => ha.blk q (by have h1 := (R.out.lt q hq).1; have h2 := HC.out; omega) (R.out.lt q hq).2)
    replace A : Hid (AftR B g b0 w x4) := aftR_cur A.out ha
    replace LB : Hid (b0 ≤ x4.heap.size) := Nat.le_trans LB.out ha.size
    clear ha C
    have C := C1
    clear C1
    obtain ⟨y, hy⟩ : ∃ z, x4.heap.size = z := ⟨_, rfl⟩
    obtain ⟨x5, hN⟩ : ∃ W, x4.alloc (.cells #[.int .i64 33, .int .i64 r] 41) = W := ⟨_, rfl⟩
    have bn : x5.heap[y]? = some (.cells #[.int .i64 33, .int .i64 r] 41 (0, 0)) := by rw [← hN, ← hy]; exact heap_alloc_new _ _
    have HY0 : Hid (b0 ≤ y) := by unfold Hid; rw [← hy]; exact LB.out
    have hb : Below x4.heap.size x4 x5 := by rw [← hN]; exact (Below.refl _ _).alloc (Nat.le_refl _) _
    replace R : Hid (x5.ownsRow b0 41 2 (.slice av1 L1.length cv1) L1.length (pv L1)) := by unfold Hid; rw [← hN]; exact R.out.alloc _
    replace C := C.kept hb
    replace A : Hid (AftR B g b0 w x5) := aftR_bel A.out (hb.mono LB.out) (by have h2 := HC.out; omega)
    replace LB : Hid (b0 ≤ x5.heap.size) := Nat.le_trans LB.out hb.size
    clear hb
    clear HY0
    have HBN : Hid _ := bn
    clear bn
    go_wp2_with (at_builtin; refine wpList_append_own _ rfl _ _ 37 rfl b0 41 i0 (.agg #[.int .i64 0, .int .i64 0]) 2 16 Tryz.underlying37 hi hz0 hz1 hz2 rfl (by decide) _ _ _ rfl R.out ⟨y, 0, none⟩ 1 _ [.int .i64 33, .int .i64 r] rfl rfl ?qc2 ?qc3 ?qc4 ?qc5 ?qc6 ?_)
    case qc2 =>
      intro j u hu
      have hj : j < 2 := by rcases Nat.lt_or_ge j 2 with h' | h'; exact h'; rw [List.getElem?_eq_none (by simpa using h')] at hu; cases hu
      rw [Addr.add_lit, Nat.zero_add, cell_of_block HBN.out, ← hu]
      have hjj : j = 0 ∨ j = 1 := by omega
      rcases hjj with rfl | rfl <;> rfl
    case qc3 => intro u hu; simp at hu; rcases hu with rfl | rfl <;> rfl
    case qc4 => have := HL.out; have := HK.out; unfold maxLen; omega
    case qc5 => have := HL.out; have := HK.out; omega
    case qc6 => exact LB.out
    intro v' x6 hown hgr _
    clear hN hy HBN
    have hb : Below b0 x5 x6 := (Below.refl _ _).grown hgr LB.out (fun q hq => (R.out.lt q hq).1)
    rw [pv_app L1 (33, r)] at hown
    have hown2 : x6.ownsRow b0 41 2 v' (L1 ++ [(33, r)]).length (pv (L1 ++ [(33, r)])) := by simpa using hown
    have HO2 : Hid (∀ x ∈ L1 ++ [(33, r)], OkI x) := okI_app HO.out _ _ (by decide) ⟨by have := Hr.out; omega, by have := Hr.out; omega⟩
    obtain ⟨L2, hL⟩ : ∃ M, L1 ++ [(33, r)] = M := ⟨_, rfl⟩
    have hlen : L2.length = L1.length + 1 := by rw [← hL]; simp
    rw [hL] at hown2 HO2
    have HL2 : Hid (L2.length ≤ L.length + (NN f + 1)) := by unfold Hid; have := HL.out; omega
    obtain ⟨av2, cv2, gg, hv, hgg⟩ := owned_ins hown2
    subst hv
    clear R HO HL hL hlen hown hgg hgr
    have R : Hid (x6.ownsRow b0 41 2 (.slice av2 L2.length cv2) L2.length (pv L2)) := hown2
    have HO := HO2
    have HL := HL2
    clear HO2 HL2 hown2
    replace C := cur_low C hb (by have h2 := HC.out; omega)
    replace A : Hid (AftR B g b0 w x6) := aftR_bel A.out hb (by have h2 := HC.out; omega)
    replace LB : Hid (b0 ≤ x6.heap.size) := Nat.le_trans LB.out hb.size
    clear hb
    go_wp2
    go_ret
    exact ⟨_, L2, rfl, R, ⟨by have := HL.out; have := HX.out; omega, HO.out⟩, C.more (by have := HX.out; omega), A⟩
  · by_cases hd : 0 < d
    · have HDN : Hid (rk 64 (wrap64 (d - 1)) ≤ f) := HDn.out hd
      obtain ⟨y, hy⟩ : ∃ z, x2.heap.size = z := ⟨_, rfl⟩
      have hr := row_new x2 [.int .i64 2, .int .i64 3] 3 (by decide)
      obtain ⟨x3, hN⟩ : ∃ W, x2.alloc (.cells #[.int .i64 2, .int .i64 3] 3) = W := ⟨_, rfl⟩
      have hr2 : Row x3 y 2 := by rw [hy] at hr; rw [← hN]; exact hr
      have HY0 : Hid (b0 ≤ y) := by unfold Hid; rw [← hy]; exact LB.out
      have hb : Below x2.heap.size x2 x3 := by rw [← hN]; exact (Below.refl _ _).alloc (Nat.le_refl _) _
      replace R : Hid (x3.ownsRow b0 41 2 (.slice av L.length cv) L.length (pv L)) := by unfold Hid; rw [← hN]; exact R.out.alloc _
      replace C := C.kept hb
      replace A : Hid (AftR B g b0 w x3) := aftR_bel A.out (hb.mono LB.out) (by have h2 := HC.out; omega)
      replace LB : Hid (b0 ≤ x3.heap.size) := Nat.le_trans LB.out hb.size
      clear hb
      have hyl : y < x3.heap.size := by rw [← hN]; simp [hy]
      have hyg : y ≠ g := by have h1 := HC.out; have h2 := HY0.out; omega
      clear hr
      go_wp2_with fail
      clear hN hy HY0
      refine (curAmong y 2 (by omega) (by omega) g a n cap B (m + 2) (hid_le (by have := HM.out; omega)) x3 C hr2 hyl hyg).mono ?_
      clear hr2 hyl hyg
      rintro e x4 ⟨k, k0, k1, rfl, C1, ha⟩
      have Hk : Hid (-9223372036854775808 ≤ k ∧ k ≤ 9223372036854775807) := ⟨k0, k1⟩
      clear k0 k1
      replace R : Hid (x4.ownsRow b0 41 2 (.slice av L.length cv) L.length (pv L)) := own_keep R.out (fun q hq => ha.blk q (by have h1 := (R.out.lt q hq).1; have h2 := HC.out; omega) (R.out.lt q hq).2)
      replace A : Hid (AftR B g b0 w x4) := aftR_cur A.out ha
      replace LB : Hid (b0 ≤ x4.heap.size) := Nat.le_trans LB.out ha.size
      clear ha C
      have C := C1
      clear C1
      obtain ⟨y, hy⟩ : ∃ z, x4.heap.size = z := ⟨_, rfl⟩
      obtain ⟨x5, hN⟩ : ∃ W, x4.alloc (.cells #[.int .i64 k, .int .i64 64] 41) = W := ⟨_, rfl⟩
      have bn : x5.heap[y]? = some (.cells #[.int .i64 k, .int .i64 64] 41 (0, 0)) := by rw [← hN, ← hy]; exact heap_alloc_new _ _
      have HY0 : Hid (b0 ≤ y) := by unfold Hid; rw [← hy]; exact LB.out
      have hb : Below x4.heap.size x4 x5 := by rw [← hN]; exact (Below.refl _ _).alloc (Nat.le_refl _) _
      replace R : Hid (x5.ownsRow b0 41 2 (.slice av L.length cv) L.length (pv L)) := by unfold Hid; rw [← hN]; exact R.out.alloc _
      replace C := C.kept hb
      replace A : Hid (AftR B g b0 w x5) := aftR_bel A.out (hb.mono LB.out) (by have h2 := HC.out; omega)
      replace LB : Hid (b0 ≤ x5.heap.size) := Nat.le_trans LB.out hb.size
      clear hb
      clear HY0
      have HBN : Hid _ := bn
      clear bn
      go_wp2_with (at_builtin; refine wpList_append_own _ rfl _ _ 37 rfl b0 41 i0 (.agg #[.int .i64 0, .int .i64 0]) 2 16 Tryz.underlying37 hi hz0 hz1 hz2 rfl (by decide) _ _ _ rfl R.out ⟨y, 0, none⟩ 1 _ [.int .i64 k, .int .i64 64] rfl rfl ?qc2 ?qc3 ?qc4 ?qc5 ?qc6 ?_)
      case qc2 =>
        intro j u hu
        have hj : j < 2 := by rcases Nat.lt_or_ge j 2 with h' | h'; exact h'; rw [List.getElem?_eq_none (by simpa using h')] at hu; cases hu
        rw [Addr.add_lit, Nat.zero_add, cell_of_block HBN.out, ← hu]
        have hjj : j = 0 ∨ j = 1 := by omega
        rcases hjj with rfl | rfl <;> rfl
      case qc3 => intro u hu; simp at hu; rcases hu with rfl | rfl <;> rfl
      case qc4 => have := HL.out; have := HK.out; unfold maxLen; omega
      case qc5 => have := HL.out; have := HK.out; omega
      case qc6 => exact LB.out
      intro v' x6 hown hgr _
      clear hN hy HBN
      have hb : Below b0 x5 x6 := (Below.refl _ _).grown hgr LB.out (fun q hq => (R.out.lt q hq).1)
      rw [pv_app L (k, 64)] at hown
      have hown2 : x6.ownsRow b0 41 2 v' (L ++ [(k, 64)]).length (pv (L ++ [(k, 64)])) := by simpa using hown
      have HO2 : Hid (∀ x ∈ L ++ [(k, 64)], OkI x) := okI_app HO.out _ _ Hk.out (by decide)
      obtain ⟨L1, hL⟩ : ∃ M, L ++ [(k, 64)] = M := ⟨_, rfl⟩
      have hlen : L1.length = L.length + 1 := by rw [← hL]; simp
      rw [hL] at hown2 HO2
      have HL2 : Hid (L1.length ≤ L.length + (1)) := by unfold Hid; have := HL.out; omega
      obtain ⟨av1, cv1, gg, hv, hgg⟩ := owned_ins hown2
      subst hv
      clear R HO HL hL hlen hown hgg hgr
      have R : Hid (x6.ownsRow b0 41 2 (.slice av1 L1.length cv1) L1.length (pv L1)) := hown2
      have HO := HO2
      have HL := HL2
      clear HO2 HL2 hown2
      replace C := cur_low C hb (by have h2 := HC.out; omega)
      replace A : Hid (AftR B g b0 w x6) := aftR_bel A.out hb (by have h2 := HC.out; omega)
      replace LB : Hid (b0 ≤ x6.heap.size) := Nat.le_trans LB.out hb.size
      clear hb
      go_wp2_with fail
      refine (IH.out 64 (wrap64 (d - 1)) (wrap64 (ar + 1)) (.slice av1 L1.length cv1) L1 (m + 2 + 2) x6 (by decide) HDa.out.1 HDa.out.2 HDN.out (by have := HM.out; have := HX.out; omega) (by have := HL.out; have := HK.out; have := HX.out; omega) LB.out R.out HO.out C).mono ?_
      rintro e x7 ⟨v', L2, rfl, R1, HQ, C1, A1⟩
      have HL2 : Hid (L2.length ≤ L.length + (1 + NN f)) := by unfold Hid; have := HL.out; have := HQ.out.1; omega
      obtain ⟨av2, cv2, gg, hv, hgg⟩ := owned_ins R1.out
      subst hv
      clear R HO HL C hgg
      have R : Hid (x7.ownsRow b0 41 2 (.slice av2 L2.length cv2) L2.length (pv L2)) := R1
      have HO : Hid (∀ x ∈ L2, OkI x) := HQ.out.2
      have HL := HL2
      have C := C1
      replace A : Hid (AftR B g b0 w x7) := aftR_trans A.out A1.out
      replace LB : Hid (b0 ≤ x7.heap.size) := Nat.le_trans LB.out A1.out.size
      clear R1 HQ C1 A1 HL2
      go_wp2_with fail
      refine (curOne 2 (by omega) (by omega) g a n cap B (m + 2 + 2 + MM f) (hid_le (by have := HM.out; omega)) x7 C).mono ?_
      rintro e x8 ⟨b, rfl, C1, ha⟩
      replace R : Hid (x8.ownsRow b0 41 2 (.slice av2 L2.length cv2) L2.length (pv L2)) := own_keep R.out (fun q hq => ha.blk q (by have h1 := (R.out.lt q hq).1; have h2 := HC.out; omega) (R.out.lt q hq).2)
      replace A : Hid (AftR B g b0 w x8) := aftR_cur A.out ha
      replace LB : Hid (b0 ≤ x8.heap.size) := Nat.le_trans LB.out ha.size
      clear ha C
      have C := C1
      clear C1
      cases b
      · obtain ⟨y, hy⟩ : ∃ z, x8.heap.size = z := ⟨_, rfl⟩
        obtain ⟨x9, hN⟩ : ∃ W, x8.alloc (.cells #[.int .i64 11, .int .i64 0] 41) = W := ⟨_, rfl⟩
        have bn : x9.heap[y]? = some (.cells #[.int .i64 11, .int .i64 0] 41 (0, 0)) := by rw [← hN, ← hy]; exact heap_alloc_new _ _
        have HY0 : Hid (b0 ≤ y) := by unfold Hid; rw [← hy]; exact LB.out
        have hb : Below x8.heap.size x8 x9 := by rw [← hN]; exact (Below.refl _ _).alloc (Nat.le_refl _) _
        replace R : Hid (x9.ownsRow b0 41 2 (.slice av2 L2.length cv2) L2.length (pv L2)) := by unfold Hid; rw [← hN]; exact R.out.alloc _
        replace C := C.kept hb
        replace A : Hid (AftR B g b0 w x9) := aftR_bel A.out (hb.mono LB.out) (by have h2 := HC.out; omega)
        replace LB : Hid (b0 ≤ x9.heap.size) := Nat.le_trans LB.out hb.size
        clear hb
        clear HY0
        have HBN : Hid _ := bn
        clear bn
        go_wp2_with (at_builtin; refine wpList_append_own _ rfl _ _ 37 rfl b0 41 i0 (.agg #[.int .i64 0, .int .i64 0]) 2 16 Tryz.underlying37 hi hz0 hz1 hz2 rfl (by decide) _ _ _ rfl R.out ⟨y, 0, none⟩ 1 _ [.int .i64 11, .int .i64 0] rfl rfl ?qc2 ?qc3 ?qc4 ?qc5 ?qc6 ?_)
        case qc2 =>
          intro j u hu
          have hj : j < 2 := by rcases Nat.lt_or_ge j 2 with h' | h'; exact h'; rw [List.getElem?_eq_none (by simpa using h')] at hu; cases hu
          rw [Addr.add_lit, Nat.zero_add, cell_of_block HBN.out, ← hu]
          have hjj : j = 0 ∨ j = 1 := by omega
          rcases hjj with rfl | rfl <;> rfl
        case qc3 => intro u hu; simp at hu; rcases hu with rfl | rfl <;> rfl
        case qc4 => have := HL.out; have := HK.out; unfold maxLen; omega
        case qc5 => have := HL.out; have := HK.out; omega
        case qc6 => exact LB.out
        intro v' x10 hown hgr _
        clear hN hy HBN
        have hb : Below b0 x9 x10 := (Below.refl _ _).grown hgr LB.out (fun q hq => (R.out.lt q hq).1)
        rw [pv_app L2 (11, 0)] at hown
        have hown2 : x10.ownsRow b0 41 2 v' (L2 ++ [(11, 0)]).length (pv (L2 ++ [(11, 0)])) := by simpa using hown
        have HO2 : Hid (∀ x ∈ L2 ++ [(11, 0)], OkI x) := okI_app HO.out _ _ (by decide) (by decide)
        obtain ⟨L3, hL⟩ : ∃ M, L2 ++ [(11, 0)] = M := ⟨_, rfl⟩
        have hlen : L3.length = L2.length + 1 := by rw [← hL]; simp
        rw [hL] at hown2 HO2
        have HL2 : Hid (L3.length ≤ L.length + (1 + NN f + 1)) := by unfold Hid; have := HL.out; omega
        obtain ⟨av3, cv3, gg, hv, hgg⟩ := owned_ins hown2
        subst hv
        clear R HO HL hL hlen hown hgg hgr
        have R : Hid (x10.ownsRow b0 41 2 (.slice av3 L3.length cv3) L3.length (pv L3)) := hown2
        have HO := HO2
        have HL := HL2
        clear HO2 HL2 hown2
        replace C := cur_low C hb (by have h2 := HC.out; omega)
        replace A : Hid (AftR B g b0 w x10) := aftR_bel A.out hb (by have h2 := HC.out; omega)
        replace LB : Hid (b0 ≤ x10.heap.size) := Nat.le_trans LB.out hb.size
        clear hb
        go_wp2
        go_ret
        exact ⟨_, L3, rfl, R, ⟨by have := HL.out; have := HX.out; omega, HO.out⟩, C.more (by have := HX.out; omega), A⟩
      · go_wp2_with fail
        refine (IH.out 127 0 (wrap64 (ar + 1)) (.slice av2 L2.length cv2) L2 (m + 2 + 2 + MM f + 2) x8 (by decide) (by have := HF.out; omega) (by omega) (Nat.zero_le _) (by have := HM.out; have := HX.out; omega) (by have := HL.out; have := HK.out; have := HX.out; omega) LB.out R.out HO.out C).mono ?_
        rintro e x9 ⟨v', L3, rfl, R1, HQ, C1, A1⟩
        have HL2 : Hid (L3.length ≤ L.length + (1 + NN f + NN f)) := by unfold Hid; have := HL.out; have := HQ.out.1; omega
        obtain ⟨av3, cv3, gg, hv, hgg⟩ := owned_ins R1.out
        subst hv
        clear R HO HL C hgg
        have R : Hid (x9.ownsRow b0 41 2 (.slice av3 L3.length cv3) L3.length (pv L3)) := R1
        have HO : Hid (∀ x ∈ L3, OkI x) := HQ.out.2
        have HL := HL2
        have C := C1
        replace A : Hid (AftR B g b0 w x9) := aftR_trans A.out A1.out
        replace LB : Hid (b0 ≤ x9.heap.size) := Nat.le_trans LB.out A1.out.size
        clear R1 HQ C1 A1 HL2
        obtain ⟨y, hy⟩ : ∃ z, x9.heap.size = z := ⟨_, rfl⟩
        obtain ⟨x10, hN⟩ : ∃ W, x9.alloc (.cells #[.int .i64 13, .int .i64 0] 41) = W := ⟨_, rfl⟩
        have bn : x10.heap[y]? = some (.cells #[.int .i64 13, .int .i64 0] 41 (0, 0)) := by rw [← hN, ← hy]; exact heap_alloc_new _ _
        have HY0 : Hid (b0 ≤ y) := by unfold Hid; rw [← hy]; exact LB.out
        have hb : Below x9.heap.size x9 x10 := by rw [← hN]; exact (Below.refl _ _).alloc (Nat.le_refl _) _
        replace R : Hid (x10.ownsRow b0 41 2 (.slice av3 L3.length cv3) L3.length (pv L3)) := by unfold Hid; rw [← hN]; exact R.out.alloc _
        replace C := C.kept hb
        replace A : Hid (AftR B g b0 w x10) := aftR_bel A.out (hb.mono LB.out) (by have h2 := HC.out; omega)
        replace LB : Hid (b0 ≤ x10.heap.size) := Nat.le_trans LB.out hb.size
        clear hb
        clear HY0
        have HBN : Hid _ := bn
        clear bn
        go_wp2_with (at_builtin; refine wpList_append_own _ rfl _ _ 37 rfl b0 41 i0 (.agg #[.int .i64 0, .int .i64 0]) 2 16 Tryz.underlying37 hi hz0 hz1 hz2 rfl (by decide) _ _ _ rfl R.out ⟨y, 0, none⟩ 1 _ [.int .i64 13, .int .i64 0] rfl rfl ?qc2 ?qc3 ?qc4 ?qc5 ?qc6 ?_)
        case qc2 =>
          intro j u hu
          have hj : j < 2 := by rcases Nat.lt_or_ge j 2 with h' | h'; exact h'; rw [List.getElem?_eq_none (by simpa using h')] at hu; cases hu
          rw [Addr.add_lit, Nat.zero_add, cell_of_block HBN.out, ← hu]
          have hjj : j = 0 ∨ j = 1 := by omega
          rcases hjj with rfl | rfl <;> rfl
        case qc3 => intro u hu; simp at hu; rcases hu with rfl | rfl <;> rfl
        case qc4 => have := HL.out; have := HK.out; unfold maxLen; omega
        case qc5 => have := HL.out; have := HK.out; omega
        case qc6 => exact LB.out
        intro v' x11 hown hgr _
        clear hN hy HBN
        have hb : Below b0 x10 x11 := (Below.refl _ _).grown hgr LB.out (fun q hq => (R.out.lt q hq).1)
        rw [pv_app L3 (13, 0)] at hown
        have hown2 : x11.ownsRow b0 41 2 v' (L3 ++ [(13, 0)]).length (pv (L3 ++ [(13, 0)])) := by simpa using hown
        have HO2 : Hid (∀ x ∈ L3 ++ [(13, 0)], OkI x) := okI_app HO.out _ _ (by decide) (by decide)
        obtain ⟨L4, hL⟩ : ∃ M, L3 ++ [(13, 0)] = M := ⟨_, rfl⟩
        have hlen : L4.length = L3.length + 1 := by rw [← hL]; simp
        rw [hL] at hown2 HO2
        have HL2 : Hid (L4.length ≤ L.length + (1 + NN f + NN f + 1)) := by unfold Hid; have := HL.out; omega
        obtain ⟨av4, cv4, gg, hv, hgg⟩ := owned_ins hown2
        subst hv
        clear R HO HL hL hlen hown hgg hgr
        have R : Hid (x11.ownsRow b0 41 2 (.slice av4 L4.length cv4) L4.length (pv L4)) := hown2
        have HO := HO2
        have HL := HL2
        clear HO2 HL2 hown2
        replace C := cur_low C hb (by have h2 := HC.out; omega)
        replace A : Hid (AftR B g b0 w x11) := aftR_bel A.out hb (by have h2 := HC.out; omega)
        replace LB : Hid (b0 ≤ x11.heap.size) := Nat.le_trans LB.out hb.size
        clear hb
        obtain ⟨y, hy⟩ : ∃ z, x11.heap.size = z := ⟨_, rfl⟩
        obtain ⟨x12, hN⟩ : ∃ W, x11.alloc (.cells #[.int .i64 11, .int .i64 0] 41) = W := ⟨_, rfl⟩
        have bn : x12.heap[y]? = some (.cells #[.int .i64 11, .int .i64 0] 41 (0, 0)) := by rw [← hN, ← hy]; exact heap_alloc_new _ _
        have HY0 : Hid (b0 ≤ y) := by unfold Hid; rw [← hy]; exact LB.out
        have hb : Below x11.heap.size x11 x12 := by rw [← hN]; exact (Below.refl _ _).alloc (Nat.le_refl _) _
        replace R : Hid (x12.ownsRow b0 41 2 (.slice av4 L4.length cv4) L4.length (pv L4)) := by unfold Hid; rw [← hN]; exact R.out.alloc _
        replace C := C.kept hb
        replace A : Hid (AftR B g b0 w x12) := aftR_bel A.out (hb.mono LB.out) (by have h2 := HC.out; omega)
        replace LB : Hid (b0 ≤ x12.heap.size) := Nat.le_trans LB.out hb.size
        clear hb
        clear HY0
        have HBN : Hid _ := bn
        clear bn
        go_wp2_with (at_builtin; refine wpList_append_own _ rfl _ _ 37 rfl b0 41 i0 (.agg #[.int .i64 0, .int .i64 0]) 2 16 Tryz.underlying37 hi hz0 hz1 hz2 rfl (by decide) _ _ _ rfl R.out ⟨y, 0, none⟩ 1 _ [.int .i64 11, .int .i64 0] rfl rfl ?qc2 ?qc3 ?qc4 ?qc5 ?qc6 ?_)
        case qc2 =>
          intro j u hu
          have hj : j < 2 := by rcases Nat.lt_or_ge j 2 with h' | h'; exact h'; rw [List.getElem?_eq_none (by simpa using h')] at hu; cases hu
          rw [Addr.add_lit, Nat.zero_add, cell_of_block HBN.out, ← hu]
          have hjj : j = 0 ∨ j = 1 := by omega
          rcases hjj with rfl | rfl <;> rfl
        case qc3 => intro u hu; simp at hu; rcases hu with rfl | rfl <;> rfl
        case qc4 => have := HL.out; have := HK.out; unfold maxLen; omega
        case qc5 => have := HL.out; have := HK.out; omega
        case qc6 => exact LB.out
        intro v' x13 hown hgr _
        clear hN hy HBN
        have hb : Below b0 x12 x13 := (Below.refl _ _).grown hgr LB.out (fun q hq => (R.out.lt q hq).1)
        rw [pv_app L4 (11, 0)] at hown
        have hown2 : x13.ownsRow b0 41 2 v' (L4 ++ [(11, 0)]).length (pv (L4 ++ [(11, 0)])) := by simpa using hown
        have HO2 : Hid (∀ x ∈ L4 ++ [(11, 0)], OkI x) := okI_app HO.out _ _ (by decide) (by decide)
        obtain ⟨L5, hL⟩ : ∃ M, L4 ++ [(11, 0)] = M := ⟨_, rfl⟩
        have hlen : L5.length = L4.length + 1 := by rw [← hL]; simp
        rw [hL] at hown2 HO2
        have HL2 : Hid (L5.length ≤ L.length + (1 + NN f + NN f + 1 + 1)) := by unfold Hid; have := HL.out; omega
        obtain ⟨av5, cv5, gg, hv, hgg⟩ := owned_ins hown2
        subst hv
        clear R HO HL hL hlen hown hgg hgr
        have R : Hid (x13.ownsRow b0 41 2 (.slice av5 L5.length cv5) L5.length (pv L5)) := hown2
        have HO := HO2
        have HL := HL2
        clear HO2 HL2 hown2
        replace C := cur_low C hb (by have h2 := HC.out; omega)
        replace A : Hid (AftR B g b0 w x13) := aftR_bel A.out hb (by have h2 := HC.out; omega)
        replace LB : Hid (b0 ≤ x13.heap.size) := Nat.le_trans LB.out hb.size
        clear hb
        go_wp2
        go_ret
        exact ⟨_, L5, rfl, R, ⟨by have := HL.out; have := HX.out; omega, HO.out⟩, C.more (by have := HX.out; omega), A⟩
    · go_wp2_with fail
      refine (IH.out 127 (wrap64 (d - 1)) ar (.slice av L.length cv) L (m + 2) x2 (by decide) HDa.out.1 HDa.out.2 (HDr.out _ (by decide)) (by have := HM.out; have := HX.out; omega) (by have := HL.out; have := HK.out; have := HX.out; omega) LB.out R.out HO.out C).mono ?_
      rintro e x3 ⟨v', L1, rfl, R1, HQ, C1, A1⟩
      have HL2 : Hid (L1.length ≤ L.length + (NN f)) := by unfold Hid; have := HL.out; have := HQ.out.1; omega
      obtain ⟨av1, cv1, gg, hv, hgg⟩ := owned_ins R1.out
      subst hv
      clear R HO HL C hgg
      have R : Hid (x3.ownsRow b0 41 2 (.slice av1 L1.length cv1) L1.length (pv L1)) := R1
      have HO : Hid (∀ x ∈ L1, OkI x) := HQ.out.2
      have HL := HL2
      have C := C1
      replace A : Hid (AftR B g b0 w x3) := aftR_trans A.out A1.out
      replace LB : Hid (b0 ≤ x3.heap.size) := Nat.le_trans LB.out A1.out.size
      clear R1 HQ C1 A1 HL2
      obtain ⟨y, hy⟩ : ∃ z, x3.heap.size = z := ⟨_, rfl⟩
      obtain ⟨x4, hN⟩ : ∃ W, x3.alloc (.cells #[.int .i64 26, .int .i64 0] 41) = W := ⟨_, rfl⟩
      have bn : x4.heap[y]? = some (.cells #[.int .i64 26, .int .i64 0] 41 (0, 0)) := by rw [← hN, ← hy]; exact heap_alloc_new _ _
      have HY0 : Hid (b0 ≤ y) := by unfold Hid; rw [← hy]; exact LB.out
      have hb : Below x3.heap.size x3 x4 := by rw [← hN]; exact (Below.refl _ _).alloc (Nat.le_refl _) _
      replace R : Hid (x4.ownsRow b0 41 2 (.slice av1 L1.length cv1) L1.length (pv L1)) := by unfold Hid; rw [← hN]; exact R.out.alloc _
      replace C := C.kept hb
      replace A : Hid (AftR B g b0 w x4) := aftR_bel A.out (hb.mono LB.out) (by have h2 := HC.out; omega)
      replace LB : Hid (b0 ≤ x4.heap.size) := Nat.le_trans LB.out hb.size
      clear hb
      clear HY0
      have HBN : Hid _ := bn
      clear bn
      go_wp2_with (at_builtin; refine wpList_append_own _ rfl _ _ 37 rfl b0 41 i0 (.agg #[.int .i64 0, .int .i64 0]) 2 16 Tryz.underlying37 hi hz0 hz1 hz2 rfl (by decide) _ _ _ rfl R.out ⟨y, 0, none⟩ 1 _ [.int .i64 26, .int .i64 0] rfl rfl ?qc2 ?qc3 ?qc4 ?qc5 ?qc6 ?_)
      case qc2 =>
        intro j u hu
        have hj : j < 2 := by rcases Nat.lt_or_ge j 2 with h' | h'; exact h'; rw [List.getElem?_eq_none (by simpa using h')] at hu; cases hu
        rw [Addr.add_lit, Nat.zero_add, cell_of_block HBN.out, ← hu]
        have hjj : j = 0 ∨ j = 1 := by omega
        rcases hjj with rfl | rfl <;> rfl
      case qc3 => intro u hu; simp at hu; rcases hu with rfl | rfl <;> rfl
      case qc4 => have := HL.out; have := HK.out; unfold maxLen; omega
      case qc5 => have := HL.out; have := HK.out; omega
      case qc6 => exact LB.out
      intro v' x5 hown hgr _
      clear hN hy HBN
      have hb : Below b0 x4 x5 := (Below.refl _ _).grown hgr LB.out (fun q hq => (R.out.lt q hq).1)
      rw [pv_app L1 (26, 0)] at hown
      have hown2 : x5.ownsRow b0 41 2 v' (L1 ++ [(26, 0)]).length (pv (L1 ++ [(26, 0)])) := by simpa using hown
      have HO2 : Hid (∀ x ∈ L1 ++ [(26, 0)], OkI x) := okI_app HO.out _ _ (by decide) (by decide)
      obtain ⟨L2, hL⟩ : ∃ M, L1 ++ [(26, 0)] = M := ⟨_, rfl⟩
      have hlen : L2.length = L1.length + 1 := by rw [← hL]; simp
      rw [hL] at hown2 HO2
      have HL2 : Hid (L2.length ≤ L.length + (NN f + 1)) := by unfold Hid; have := HL.out; omega
      obtain ⟨av2, cv2, gg, hv, hgg⟩ := owned_ins hown2
      subst hv
      clear R HO HL hL hlen hown hgg hgr
      have R : Hid (x5.ownsRow b0 41 2 (.slice av2 L2.length cv2) L2.length (pv L2)) := hown2
      have HO := HO2
      have HL := HL2
      clear HO2 HL2 hown2
      replace C := cur_low C hb (by have h2 := HC.out; omega)
      replace A : Hid (AftR B g b0 w x5) := aftR_bel A.out hb (by have h2 := HC.out; omega)
      replace LB : Hid (b0 ≤ x5.heap.size) := Nat.le_trans LB.out hb.size
      clear hb
      go_wp2
      go_ret
      exact ⟨_, L2, rfl, R, ⟨by have := HL.out; have := HX.out; omega, HO.out⟩, C.more (by have := HX.out; omega), A⟩
  · go_wp2_with fail
    refine (curPick 300 (by omega) (by omega) g a n cap B (m + 2) (hid_le (by have := HM.out; omega)) x2 C).mono ?_
    rintro e x3 ⟨r, r0, r1, rfl, C1, ha⟩
    have Hr : Hid (0 ≤ r ∧ r < 300) := ⟨r0, r1⟩
    clear r0 r1
    replace R : Hid (x3.ownsRow b0 41 2 (.slice av L.length cv) L.length (pv L)) := own_keep R.out (fun q hq => ha.blk q (by have h1 := (R.out.lt q hq).1; have h2 := HC.out; omega) (R.out.lt q hq).2)
    replace A : Hid (AftR B g b0 w x3) := aftR_cur A.out ha
    replace LB : Hid (b0 ≤ x3.heap.size) := Nat.le_trans LB.out ha.size
    clear ha C
    have C := C1
    clear C1
    obtain ⟨y, hy⟩ : ∃ z, x3.heap.size = z := ⟨_, rfl⟩
    obtain ⟨x4, hN⟩ : ∃ W, x3.alloc (.cells #[.int .i64 65, .int .i64 r] 41) = W := ⟨_, rfl⟩
    have bn : x4.heap[y]? = some (.cells #[.int .i64 65, .int .i64 r] 41 (0, 0)) := by rw [← hN, ← hy]; exact heap_alloc_new _ _
    have HY0 : Hid (b0 ≤ y) := by unfold Hid; rw [← hy]; exact LB.out
    have hb : Below x3.heap.size x3 x4 := by rw [← hN]; exact (Below.refl _ _).alloc (Nat.le_refl _) _
    replace R : Hid (x4.ownsRow b0 41 2 (.slice av L.length cv) L.length (pv L)) := by unfold Hid; rw [← hN]; exact R.out.alloc _
    replace C := C.kept hb
    replace A : Hid (AftR B g b0 w x4) := aftR_bel A.out (hb.mono LB.out) (by have h2 := HC.out; omega)
    replace LB : Hid (b0 ≤ x4.heap.size) := Nat.le_trans LB.out hb.size
    clear hb
    clear HY0
    have HBN : Hid _ := bn
    clear bn
    go_wp2_with (at_builtin; refine wpList_append_own _ rfl _ _ 37 rfl b0 41 i0 (.agg #[.int .i64 0, .int .i64 0]) 2 16 Tryz.underlying37 hi hz0 hz1 hz2 rfl (by decide) _ _ _ rfl R.out ⟨y, 0, none⟩ 1 _ [.int .i64 65, .int .i64 r] rfl rfl ?qc2 ?qc3 ?qc4 ?qc5 ?qc6 ?_)
    case qc2 =>
      intro j u hu
      have hj : j < 2 := by rcases Nat.lt_or_ge j 2 with h' | h'; exact h'; rw [List.getElem?_eq_none (by simpa using h')] at hu; cases hu
      rw [Addr.add_lit, Nat.zero_add, cell_of_block HBN.out, ← hu]
      have hjj : j = 0 ∨ j = 1 := by omega
      rcases hjj with rfl | rfl <;> rfl
    case qc3 => intro u hu; simp at hu; rcases hu with rfl | rfl <;> rfl
    case qc4 => have := HL.out; have := HK.out; unfold maxLen; omega
    case qc5 => have := HL.out; have := HK.out; omega
    case qc6 => exact LB.out
    intro v' x5 hown hgr _
    clear hN hy HBN
    have hb : Below b0 x4 x5 := (Below.refl _ _).grown hgr LB.out (fun q hq => (R.out.lt q hq).1)
    rw [pv_app L (65, r)] at hown
    have hown2 : x5.ownsRow b0 41 2 v' (L ++ [(65, r)]).length (pv (L ++ [(65, r)])) := by simpa using hown
    have HO2 : Hid (∀ x ∈ L ++ [(65, r)], OkI x) := okI_app HO.out _ _ (by decide) ⟨by have := Hr.out; omega, by have := Hr.out; omega⟩
    obtain ⟨L1, hL⟩ : ∃ M, L ++ [(65, r)] = M := ⟨_, rfl⟩
    have hlen : L1.length = L.length + 1 := by rw [← hL]; simp
    rw [hL] at hown2 HO2
    have HL2 : Hid (L1.length ≤ L.length + (1)) := by unfold Hid; have := HL.out; omega
    obtain ⟨av1, cv1, gg, hv, hgg⟩ := owned_ins hown2
    subst hv
    clear R HO HL hL hlen hown hgg hgr
    have R : Hid (x5.ownsRow b0 41 2 (.slice av1 L1.length cv1) L1.length (pv L1)) := hown2
    have HO := HO2
    have HL := HL2
    clear HO2 HL2 hown2
    replace C := cur_low C hb (by have h2 := HC.out; omega)
    replace A : Hid (AftR B g b0 w x5) := aftR_bel A.out hb (by have h2 := HC.out; omega)
    replace LB : Hid (b0 ≤ x5.heap.size) := Nat.le_trans LB.out hb.size
    clear hb
    go_wp2_with fail
    refine (IH.out 127 (wrap64 (d - 1)) ar (.slice av1 L1.length cv1) L1 (m + 2 + 2) x5 (by decide) HDa.out.1 HDa.out.2 (HDr.out _ (by decide)) (by have := HM.out; have := HX.out; omega) (by have := HL.out; have := HK.out; have := HX.out; omega) LB.out R.out HO.out C).mono ?_
    rintro e x6 ⟨v', L2, rfl, R1, HQ, C1, A1⟩
    have HL2 : Hid (L2.length ≤ L.length + (1 + NN f)) := by unfold Hid; have := HL.out; have := HQ.out.1; omega
    obtain ⟨av2, cv2, gg, hv, hgg⟩ := owned_ins R1.out
    subst hv
    clear R HO HL C hgg
    have R : Hid (x6.ownsRow b0 41 2 (.slice av2 L2.length cv2) L2.length (pv L2)) := R1
    have HO : Hid (∀ x ∈ L2, OkI x) := HQ.out.2
    have HL := HL2
    have C := C1
    replace A : Hid (AftR B g b0 w x6) := aftR_trans A.out A1.out
    replace LB : Hid (b0 ≤ x6.heap.size) := Nat.le_trans LB.out A1.out.size
    clear R1 HQ C1 A1 HL2
    go_wp2_with fail
    refine (curPick 9 (by omega) (by omega) g a n cap B (m + 2 + 2 + MM f) (hid_le (by have := HM.out; omega)) x6 C).mono ?_
    rintro e x7 ⟨k, k0, k1, rfl, C1, ha⟩
    have Hk : Hid (0 ≤ k ∧ k < 9) := ⟨k0, k1⟩
    clear k0 k1
    replace R : Hid (x7.ownsRow b0 41 2 (.slice av2 L2.length cv2) L2.length (pv L2)) := own_keep R.out (fun q hq => ha.blk q (by have h1 := (R.out.lt q hq).1; have h2 := HC.out; omega) (R.out.lt q hq).2)
    replace A : Hid (AftR B g b0 w x7) := aftR_cur A.out ha
    replace LB : Hid (b0 ≤ x7.heap.size) := Nat.le_trans LB.out ha.size
    clear ha C
    have C := C1
    clear C1
    obtain ⟨y, hy⟩ : ∃ z, x7.heap.size = z := ⟨_, rfl⟩
    obtain ⟨x8, hN⟩ : ∃ W, x7.alloc (.cells #[.int .i64 54, .int .i64 k] 41) = W := ⟨_, rfl⟩
    have bn : x8.heap[y]? = some (.cells #[.int .i64 54, .int .i64 k] 41 (0, 0)) := by rw [← hN, ← hy]; exact heap_alloc_new _ _
    have HY0 : Hid (b0 ≤ y) := by unfold Hid; rw [← hy]; exact LB.out
    have hb : Below x7.heap.size x7 x8 := by rw [← hN]; exact (Below.refl _ _).alloc (Nat.le_refl _) _
    replace R : Hid (x8.ownsRow b0 41 2 (.slice av2 L2.length cv2) L2.length (pv L2)) := by unfold Hid; rw [← hN]; exact R.out.alloc _
    replace C := C.kept hb
    replace A : Hid (AftR B g b0 w x8) := aftR_bel A.out (hb.mono LB.out) (by have h2 := HC.out; omega)
    replace LB : Hid (b0 ≤ x8.heap.size) := Nat.le_trans LB.out hb.size
    clear hb
    clear HY0
    have HBN : Hid _ := bn
    clear bn
    go_wp2_with (at_builtin; refine wpList_append_own _ rfl _ _ 37 rfl b0 41 i0 (.agg #[.int .i64 0, .int .i64 0]) 2 16 Tryz.underlying37 hi hz0 hz1 hz2 rfl (by decide) _ _ _ rfl R.out ⟨y, 0, none⟩ 1 _ [.int .i64 54, .int .i64 k] rfl rfl ?qc2 ?qc3 ?qc4 ?qc5 ?qc6 ?_)
    case qc2 =>
      intro j u hu
      have hj : j < 2 := by rcases Nat.lt_or_ge j 2 with h' | h'; exact h'; rw [List.getElem?_eq_none (by simpa using h')] at hu; cases hu
      rw [Addr.add_lit, Nat.zero_add, cell_of_block HBN.out, ← hu]
      have hjj : j = 0 ∨ j = 1 := by omega
      rcases hjj with rfl | rfl <;> rfl
    case qc3 => intro u hu; simp at hu; rcases hu with rfl | rfl <;> rfl
    case qc4 => have := HL.out; have := HK.out; unfold maxLen; omega
    case qc5 => have := HL.out; have := HK.out; omega
    case qc6 => exact LB.out
    intro v' x9 hown hgr _
    clear hN hy HBN
    have hb : Below b0 x8 x9 := (Below.refl _ _).grown hgr LB.out (fun q hq => (R.out.lt q hq).1)
    rw [pv_app L2 (54, k)] at hown
    have hown2 : x9.ownsRow b0 41 2 v' (L2 ++ [(54, k)]).length (pv (L2 ++ [(54, k)])) := by simpa using hown
    have HO2 : Hid (∀ x ∈ L2 ++ [(54, k)], OkI x) := okI_app HO.out _ _ (by decide) ⟨by have := Hk.out; omega, by have := Hk.out; omega⟩
    obtain ⟨L3, hL⟩ : ∃ M, L2 ++ [(54, k)] = M := ⟨_, rfl⟩
    have hlen : L3.length = L2.length + 1 := by rw [← hL]; simp
    rw [hL] at hown2 HO2
    have HL2 : Hid (L3.length ≤ L.length + (1 + NN f + 1)) := by unfold Hid; have := HL.out; omega
    obtain ⟨av3, cv3, gg, hv, hgg⟩ := owned_ins hown2
    subst hv
    clear R HO HL hL hlen hown hgg hgr
    have R : Hid (x9.ownsRow b0 41 2 (.slice av3 L3.length cv3) L3.length (pv L3)) := hown2
    have HO := HO2
    have HL := HL2
    clear HO2 HL2 hown2
    replace C := cur_low C hb (by have h2 := HC.out; omega)
    replace A : Hid (AftR B g b0 w x9) := aftR_bel A.out hb (by have h2 := HC.out; omega)
    replace LB : Hid (b0 ≤ x9.heap.size) := Nat.le_trans LB.out hb.size
    clear hb
    go_wp2
    go_ret
    exact ⟨_, L3, rfl, R, ⟨by have := HL.out; have := HX.out; omega, HO.out⟩, C.more (by have := HX.out; omega), A⟩
  · go_wp2_with fail
    refine (IH.out 126 (wrap64 (d - 1)) ar (.slice av L.length cv) L (m + 2) x2 (by decide) HDa.out.1 HDa.out.2 (HDr.out _ (by decide)) (by have := HM.out; have := HX.out; omega) (by have := HL.out; have := HK.out; have := HX.out; omega) LB.out R.out HO.out C).mono ?_
    rintro e x3 ⟨v', L1, rfl, R1, HQ, C1, A1⟩
    have HL2 : Hid (L1.length ≤ L.length + (NN f)) := by unfold Hid; have := HL.out; have := HQ.out.1; omega
    obtain ⟨av1, cv1, gg, hv, hgg⟩ := owned_ins R1.out
    subst hv
    clear R HO HL C hgg
    have R : Hid (x3.ownsRow b0 41 2 (.slice av1 L1.length cv1) L1.length (pv L1)) := R1
    have HO : Hid (∀ x ∈ L1, OkI x) := HQ.out.2
    have HL := HL2
    have C := C1
    replace A : Hid (AftR B g b0 w x3) := aftR_trans A.out A1.out
    replace LB : Hid (b0 ≤ x3.heap.size) := Nat.le_trans LB.out A1.out.size
    clear R1 HQ C1 A1 HL2
    obtain ⟨y, hy⟩ : ∃ z, x3.heap.size = z := ⟨_, rfl⟩
    obtain ⟨x4, hN⟩ : ∃ W, x3.alloc (.cells #[.int .i64 33, .int .i64 2] 41) = W := ⟨_, rfl⟩
    have bn : x4.heap[y]? = some (.cells #[.int .i64 33, .int .i64 2] 41 (0, 0)) := by rw [← hN, ← hy]; exact heap_alloc_new _ _
    have HY0 : Hid (b0 ≤ y) := by unfold Hid; rw [← hy]; exact LB.out
    have hb : Below x3.heap.size x3 x4 := by rw [← hN]; exact (Below.refl _ _).alloc (Nat.le_refl _) _
    replace R : Hid (x4.ownsRow b0 41 2 (.slice av1 L1.length cv1) L1.length (pv L1)) := by unfold Hid; rw [← hN]; exact R.out.alloc _
    replace C := C.kept hb
    replace A : Hid (AftR B g b0 w x4) := aftR_bel A.out (hb.mono LB.out) (by have h2 := HC.out; omega)
    replace LB : Hid (b0 ≤ x4.heap.size) := Nat.le_trans LB.out hb.size
    clear hb
    clear HY0
    have HBN : Hid _ := bn
    clear bn
    go_wp2_with (at_builtin; refine wpList_append_own _ rfl _ _ 37 rfl b0 41 i0 (.agg #[.int .i64 0, .int .i64 0]) 2 16 Tryz.underlying37 hi hz0 hz1 hz2 rfl (by decide) _ _ _ rfl R.out ⟨y, 0, none⟩ 1 _ [.int .i64 33, .int .i64 2] rfl rfl ?qc2 ?qc3 ?qc4 ?qc5 ?qc6 ?_)
    case qc2 =>
      intro j u hu
      have hj : j < 2 := by rcases Nat.lt_or_ge j 2 with h' | h'; exact h'; rw [List.getElem?_eq_none (by simpa using h')] at hu; cases hu
      rw [Addr.add_lit, Nat.zero_add, cell_of_block HBN.out, ← hu]
      have hjj : j = 0 ∨ j = 1 := by omega
      rcases hjj with rfl | rfl <;> rfl
    case qc3 => intro u hu; simp at hu; rcases hu with rfl | rfl <;> rfl
    case qc4 => have := HL.out; have := HK.out; unfold maxLen; omega
    case qc5 => have := HL.out; have := HK.out; omega
    case qc6 => exact LB.out
    intro v' x5 hown hgr _
    clear hN hy HBN
    have hb : Below b0 x4 x5 := (Below.refl _ _).grown hgr LB.out (fun q hq => (R.out.lt q hq).1)
    rw [pv_app L1 (33, 2)] at hown
    have hown2 : x5.ownsRow b0 41 2 v' (L1 ++ [(33, 2)]).length (pv (L1 ++ [(33, 2)])) := by simpa using hown
    have HO2 : Hid (∀ x ∈ L1 ++ [(33, 2)], OkI x) := okI_app HO.out _ _ (by decide) (by decide)
    obtain ⟨L2, hL⟩ : ∃ M, L1 ++ [(33, 2)] = M := ⟨_, rfl⟩
    have hlen : L2.length = L1.length + 1 := by rw [← hL]; simp
    rw [hL] at hown2 HO2
    have HL2 : Hid (L2.length ≤ L.length + (NN f + 1)) := by unfold Hid; have := HL.out; omega
    obtain ⟨av2, cv2, gg, hv, hgg⟩ := owned_ins hown2
    subst hv
    clear R HO HL hL hlen hown hgg hgr
    have R : Hid (x5.ownsRow b0 41 2 (.slice av2 L2.length cv2) L2.length (pv L2)) := hown2
    have HO := HO2
    have HL := HL2
    clear HO2 HL2 hown2
    replace C := cur_low C hb (by have h2 := HC.out; omega)
    replace A : Hid (AftR B g b0 w x5) := aftR_bel A.out hb (by have h2 := HC.out; omega)
    replace LB : Hid (b0 ≤ x5.heap.size) := Nat.le_trans LB.out hb.size
    clear hb
    go_wp2
    go_ret
    exact ⟨_, L2, rfl, R, ⟨by have := HL.out; have := HX.out; omega, HO.out⟩, C.more (by have := HX.out; omega), A⟩
  · go_wp2_with fail
    refine (IH.out 127 (wrap64 (d - 1)) ar (.slice av L.length cv) L (m + 2) x2 (by decide) HDa.out.1 HDa.out.2 (HDr.out _ (by decide)) (by have := HM.out; have := HX.out; omega) (by have := HL.out; have := HK.out; have := HX.out; omega) LB.out R.out HO.out C).mono ?_
    rintro e x3 ⟨v', L1, rfl, R1, HQ, C1, A1⟩
    have HL2 : Hid (L1.length ≤ L.length + (NN f)) := by unfold Hid; have := HL.out; have := HQ.out.1; omega
    obtain ⟨av1, cv1, gg, hv, hgg⟩ := owned_ins R1.out
    subst hv
    clear R HO HL C hgg
    have R : Hid (x3.ownsRow b0 41 2 (.slice av1 L1.length cv1) L1.length (pv L1)) := R1
    have HO : Hid (∀ x ∈ L1, OkI x) := HQ.out.2
    have HL := HL2
    have C := C1
    replace A : Hid (AftR B g b0 w x3) := aftR_trans A.out A1.out
    replace LB : Hid (b0 ≤ x3.heap.size) := Nat.le_trans LB.out A1.out.size
    clear R1 HQ C1 A1 HL2
    obtain ⟨y, hy⟩ : ∃ z, x3.heap.size = z := ⟨_, rfl⟩
    obtain ⟨x4, hN⟩ : ∃ W, x3.alloc (.cells #[.int .i64 26, .int .i64 0] 41) = W := ⟨_, rfl⟩
    have bn : x4.heap[y]? = some (.cells #[.int .i64 26, .int .i64 0] 41 (0, 0)) := by rw [← hN, ← hy]; exact heap_alloc_new _ _
    have HY0 : Hid (b0 ≤ y) := by unfold Hid; rw [← hy]; exact LB.out
    have hb : Below x3.heap.size x3 x4 := by rw [← hN]; exact (Below.refl _ _).alloc (Nat.le_refl _) _
    replace R : Hid (x4.ownsRow b0 41 2 (.slice av1 L1.length cv1) L1.length (pv L1)) := by unfold Hid; rw [← hN]; exact R.out.alloc _
    replace C := C.kept hb
    replace A : Hid (AftR B g b0 w x4) := aftR_bel A.out (hb.mono LB.out) (by have h2 := HC.out; omega)
    replace LB : Hid (b0 ≤ x4.heap.size) := Nat.le_trans LB.out hb.size
    clear hb
    clear HY0
    have HBN : Hid _ := bn
    clear bn
    go_wp2_with (at_builtin; refine wpList_append_own _ rfl _ _ 37 rfl b0 41 i0 (.agg #[.int .i64 0, .int .i64 0]) 2 16 Tryz.underlying37 hi hz0 hz1 hz2 rfl (by decide) _ _ _ rfl R.out ⟨y, 0, none⟩ 1 _ [.int .i64 26, .int .i64 0] rfl rfl ?qc2 ?qc3 ?qc4 ?qc5 ?qc6 ?_)
    case qc2 =>
      intro j u hu
      have hj : j < 2 := by rcases Nat.lt_or_ge j 2 with h' | h'; exact h'; rw [List.getElem?_eq_none (by simpa using h')] at hu; cases hu
      rw [Addr.add_lit, Nat.zero_add, cell_of_block HBN.out, ← hu]
      have hjj : j = 0 ∨ j = 1 := by omega
      rcases hjj with rfl | rfl <;> rfl
    case qc3 => intro u hu; simp at hu; rcases hu with rfl | rfl <;> rfl
    case qc4 => have := HL.out; have := HK.out; unfold maxLen; omega
    case qc5 => have := HL.out; have := HK.out; omega
    case qc6 => exact LB.out
    intro v' x5 hown hgr _
    clear hN hy HBN
    have hb : Below b0 x4 x5 := (Below.refl _ _).grown hgr LB.out (fun q hq => (R.out.lt q hq).1)
    rw [pv_app L1 (26, 0)] at hown
    have hown2 : x5.ownsRow b0 41 2 v' (L1 ++ [(26, 0)]).length (pv (L1 ++ [(26, 0)])) := by simpa using hown
    have HO2 : Hid (∀ x ∈ L1 ++ [(26, 0)], OkI x) := okI_app HO.out _ _ (by decide) (by decide)
    obtain ⟨L2, hL⟩ : ∃ M, L1 ++ [(26, 0)] = M := ⟨_, rfl⟩
    have hlen : L2.length = L1.length + 1 := by rw [← hL]; simp
    rw [hL] at hown2 HO2
    have HL2 : Hid (L2.length ≤ L.length + (NN f + 1)) := by unfold Hid; have := HL.out; omega
    obtain ⟨av2, cv2, gg, hv, hgg⟩ := owned_ins hown2
    subst hv
    clear R HO HL hL hlen hown hgg hgr
    have R : Hid (x5.ownsRow b0 41 2 (.slice av2 L2.length cv2) L2.length (pv L2)) := hown2
    have HO := HO2
    have HL := HL2
    clear HO2 HL2 hown2
    replace C := cur_low C hb (by have h2 := HC.out; omega)
    replace A : Hid (AftR B g b0 w x5) := aftR_bel A.out hb (by have h2 := HC.out; omega)
    replace LB : Hid (b0 ≤ x5.heap.size) := Nat.le_trans LB.out hb.size
    clear hb
    go_wp2
    go_ret
    exact ⟨_, L2, rfl, R, ⟨by have := HL.out; have := HX.out; omega, HO.out⟩, C.more (by have := HX.out; omega), A⟩

end Go.Proofs.YtcgnefgdfgikdaaGreat
