/-
  Plain facts on reading instructions out of bytes: nothing of the program stands here.
-/
import Derived.Test.YtcgnefgdfgikdaaGreatT2
import Derived.Test.YtcgnefgdfgikdaaGreatU5
import Derived.Test.YtcgnefgdfgikdaaGreatRows
import Derived.WalkKit
import Derived.Test.YtcgnefgdfgikdaaGreatU4
import Derived.Test.YtcgnefgdfgikdaaGreatA1
namespace Go.Proofs.YtcgnefgdfgikdaaGreat
open Go.ChangeShapes Go.WideShapes Go.PlainAid Go.RowKit

theorem bt_list (t : ByteArray) (k : Nat) : bt t k = ((t.data.toList.getD k 0).toNat : Int) := by
  unfold bt
  by_cases h : k < t.size
  · have h' : k < t.data.size := h
    rw [dif_pos h, List.getD, Array.getElem?_toList, Array.getElem?_eq_getElem h']; rfl
  · have h' : t.data.size ≤ k := Nat.le_of_not_lt h
    rw [dif_neg h, List.getD, Array.getElem?_toList, Array.getElem?_eq_none h']; rfl
theorem drop_list (t : ByteArray) (n : Nat) : (t.extract n t.size).data.toList = t.data.toList.drop n := by
  simp only [ByteArray.data_extract, Array.toList_extract]
  rw [List.extract_eq_take_drop]
  apply List.take_of_length_le
  simp
theorem bt_ext (s : ByteArray) (i k : Nat) : bt (s.extract i s.size) k = bt s (i + k) := by
  rw [bt_list, bt_list, drop_list]
  simp [List.getD, List.getElem?_drop]
theorem ext_ext (s : ByteArray) (i n : Nat) : (s.extract i s.size).extract n (s.extract i s.size).size = s.extract (i + n) s.size := by
  apply WideShapes.bytes_inj
  rw [drop_list, drop_list, drop_list, List.drop_drop]
theorem ext_zero (s : ByteArray) : s.extract 0 s.size = s := by
  apply WideShapes.bytes_inj
  rw [drop_list, List.drop_zero]
theorem tu_facts (s : ByteArray) (b : Nat) (hb : b ≤ 64) : (tu s b).2 ≤ s.size ∧ (tu s b).2 ≤ 10 ∧ 0 ≤ (tu s b).1 ∧ (tu s b).1 ≤ 18446744073709551615 := by
  rcases h : scan s (most b) 0 with _ | j
  · rw [tu_none s b h]; simp
  · have hi := scan_is s _ _ _ h
    have hm : most b ≤ 10 := by unfold most; omega
    by_cases hg : pt s j / 2 ^ (b - 7 * j) = 0
    · rw [tu_good s b j h hg]
      have ha := acc_in s (j + 1)
      exact ⟨by show j + 1 ≤ _; omega, by show j + 1 ≤ _; omega, ha.1, ha.2⟩
    · rw [tu_bad s b j h hg]; simp
theorem ts_facts (s : ByteArray) (b : Nat) (hb : b ≤ 64) : (ts s b).2 ≤ s.size ∧ (ts s b).2 ≤ 10 ∧ -9223372036854775808 ≤ (ts s b).1 ∧ (ts s b).1 ≤ 9223372036854775807 := by
  rcases h : scan s (most b) 0 with _ | j
  · rw [ts_none s b h]; simp
  · have hi := scan_is s _ _ _ h
    have hm : most b ≤ 10 := by unfold most; omega
    by_cases hg : okS s b j
    · rw [ts_good s b j h hg]
      refine ⟨by show j + 1 ≤ _; omega, by show j + 1 ≤ _; omega, ?_, ?_⟩
      · show -9223372036854775808 ≤ wrap64 _; unfold wrap64; omega
      · show wrap64 _ ≤ 9223372036854775807; unfold wrap64; omega
    · rw [ts_bad s b j h hg]; simp

/-- What is taken of bytes as A of kind k: A, how many bytes, and whether there is one. -/
def tk (r : ByteArray) (k : Int) : Int × Nat × Bool :=
  if k = 0 then (0, 0, true)
  else if k = 1 then (if r.size < 1 then (0, 0, false) else (bt r 0, 1, true))
  else if k = 2 then (wrap64 (tu r 32).1, (tu r 32).2, decide ((0 : Int) < (tu r 32).2))
  else if k = 3 then (wrap64 (tu r 32).1, (tu r 32).2, decide ((0 : Int) < (tu r 32).2))
  else if k = 4 then ((ts r 32).1, (ts r 32).2, decide ((0 : Int) < (ts r 32).2))
  else if k = 5 then ((ts r 64).1, (ts r 64).2, decide ((0 : Int) < (ts r 64).2))
  else if k = 6 then (if r.size < 4 then (0, 0, false) else ((leN (r.extract 0 4) 4 : Nat), 4, true))
  else (0, 0, false)
theorem wrap64_in (x : Int) : -9223372036854775808 ≤ wrap64 x ∧ wrap64 x ≤ 9223372036854775807 := by unfold wrap64; omega
theorem tk_facts (r : ByteArray) (k : Int) : (tk r k).2.1 ≤ r.size ∧ (tk r k).2.1 ≤ 10 ∧ -9223372036854775808 ≤ (tk r k).1 ∧ (tk r k).1 ≤ 9223372036854775807 := by
  have h1 := bt_nonneg r 0
  have h2 := bt_le r 0
  have h3 := leN_lt (r.extract 0 4) 4
  have h4 := tu_facts r 32 (by omega)
  have h5 := ts_facts r 32 (by omega)
  have h6 := ts_facts r 64 (by omega)
  have h7 := wrap64_in (tu r 32).1
  unfold tk
  repeat' split
  all_goals simp only
  all_goals first | omega | exact ⟨h4.1, h4.2.1, h7.1, h7.2⟩ | exact h5 | exact h6
/-- The instruction at a place of the bytes, and how many they are. -/
def stp (s : ByteArray) (at_ : Nat) : Option ((Int × Int) × Nat) :=
  if ((tk (s.extract (at_ + 1) s.size) (shp (bt s at_))).2.2 && gi (bt s at_) (tk (s.extract (at_ + 1) s.size) (shp (bt s at_))).1) = true
  then some ((bt s at_, (tk (s.extract (at_ + 1) s.size) (shp (bt s at_))).1), 1 + (tk (s.extract (at_ + 1) s.size) (shp (bt s at_))).2.1) else none
theorem stp_fits {s : ByteArray} {p t : Nat} {x : Int × Int} (h : p < s.size) (e : stp s p = some (x, t)) : 1 ≤ t ∧ p + t ≤ s.size := by
  have hf := tk_facts (s.extract (p + 1) s.size) (shp (bt s p))
  have hs : (s.extract (p + 1) s.size).size = s.size - (p + 1) := by simp [ByteArray.size_extract]
  rw [hs] at hf
  unfold stp at e
  split at e
  · simp only [Option.some.injEq, Prod.mk.injEq] at e
    omega
  · simp at e
/-- The instructions from a place on, where n stand ahead of it. -/
def rdc (s : ByteArray) : Nat → Nat → Nat → Option (List (Int × Int))
  | 0, _, _ => none
  | f + 1, p, n => if s.size ≤ p then some [] else match stp s p with
    | none => none
    | some (x, t) => if n = 200 then none else (rdc s f (p + t) (n + 1)).map (x :: ·)
theorem rdc_end (s : ByteArray) (f p n : Nat) (h : s.size ≤ p) : rdc s (f + 1) p n = some [] := by simp [rdc, h]
theorem rdc_none (s : ByteArray) (f p n : Nat) (h : ¬ s.size ≤ p) (e : stp s p = none) : rdc s (f + 1) p n = none := by simp [rdc, h, e]
theorem rdc_full (s : ByteArray) (f p : Nat) (h : ¬ s.size ≤ p) : rdc s (f + 1) p 200 = none := by
  simp only [rdc, if_neg h]; split <;> simp
theorem rdc_some (s : ByteArray) (f p n t : Nat) (x : Int × Int) (h : ¬ s.size ≤ p) (e : stp s p = some (x, t)) (hn : n ≠ 200) : rdc s (f + 1) p n = (rdc s f (p + t) (n + 1)).map (x :: ·) := by simp [rdc, h, e, hn]
theorem rdc_len (s : ByteArray) (f : Nat) : ∀ p n L, n ≤ 200 → rdc s f p n = some L → n + L.length ≤ 200 := by
  induction f with
  | zero => intro p n L _ h; simp [rdc] at h
  | succ f ih =>
    intro p n L hn h
    by_cases h0 : s.size ≤ p
    · rw [rdc_end s f p n h0] at h; simp at h; subst h; simpa using hn
    · rcases hs : stp s p with _ | ⟨x, t⟩
      · rw [rdc_none s f p n h0 hs] at h; simp at h
      · by_cases h2 : n = 200
        · subst h2; rw [rdc_full s f p h0] at h; simp at h
        · rw [rdc_some s f p n t x h0 hs h2] at h
          rcases hr : rdc s f (p + t) (n + 1) with _ | M
          · rw [hr] at h; simp at h
          · rw [hr] at h; simp at h; subst h; have := ih _ _ M (by omega) hr; simp; omega
def rc (s : ByteArray) : Option (List (Int × Int)) := rdc s (s.size + 1) 0 0
theorem rc_len (s : ByteArray) : ((rc s).getD []).length ≤ 200 := by
  rcases h : rc s with _ | L
  · simp
  · have := rdc_len s _ _ _ L (by omega) h; simpa using (by omega : L.length ≤ 200)

end Go.Proofs.YtcgnefgdfgikdaaGreat

namespace Go.Proofs.YtcgnefgdfgikdaaGreat
open Go.RowKit

theorem ta_blockType_blockType (v : Value) (w : World) : (Instr.typeAssert (.iface 85 v) 130 85 true).run Tryz.prog w = .ok (.tuple #[v, .bool true]) w := by kernel_rfl
theorem ta_blockType_upTo (v : Value) (w : World) : (Instr.typeAssert (.iface 85 v) 130 133 true).run Tryz.prog w = .ok (.tuple #[.int .i64 0, .bool false]) w := by kernel_rfl
theorem ta_blockType_signedBits (v : Value) (w : World) : (Instr.typeAssert (.iface 85 v) 130 134 true).run Tryz.prog w = .ok (.tuple #[.int .i64 0, .bool false]) w := by kernel_rfl
theorem ta_blockType_floatBits (v : Value) (w : World) : (Instr.typeAssert (.iface 85 v) 130 135 true).run Tryz.prog w = .ok (.tuple #[.agg #[], .bool false]) w := by kernel_rfl
theorem ta_blockType_noOperand (v : Value) (w : World) : (Instr.typeAssert (.iface 85 v) 130 136 true).run Tryz.prog w = .ok (.tuple #[.agg #[], .bool false]) w := by kernel_rfl
theorem ta_upTo_blockType (v : Value) (w : World) : (Instr.typeAssert (.iface 133 v) 130 85 true).run Tryz.prog w = .ok (.tuple #[.agg #[], .bool false]) w := by kernel_rfl
theorem ta_upTo_upTo (v : Value) (w : World) : (Instr.typeAssert (.iface 133 v) 130 133 true).run Tryz.prog w = .ok (.tuple #[v, .bool true]) w := by kernel_rfl
theorem ta_upTo_signedBits (v : Value) (w : World) : (Instr.typeAssert (.iface 133 v) 130 134 true).run Tryz.prog w = .ok (.tuple #[.int .i64 0, .bool false]) w := by kernel_rfl
theorem ta_upTo_floatBits (v : Value) (w : World) : (Instr.typeAssert (.iface 133 v) 130 135 true).run Tryz.prog w = .ok (.tuple #[.agg #[], .bool false]) w := by kernel_rfl
theorem ta_upTo_noOperand (v : Value) (w : World) : (Instr.typeAssert (.iface 133 v) 130 136 true).run Tryz.prog w = .ok (.tuple #[.agg #[], .bool false]) w := by kernel_rfl
theorem ta_signedBits_blockType (v : Value) (w : World) : (Instr.typeAssert (.iface 134 v) 130 85 true).run Tryz.prog w = .ok (.tuple #[.agg #[], .bool false]) w := by kernel_rfl
theorem ta_signedBits_upTo (v : Value) (w : World) : (Instr.typeAssert (.iface 134 v) 130 133 true).run Tryz.prog w = .ok (.tuple #[.int .i64 0, .bool false]) w := by kernel_rfl
theorem ta_signedBits_signedBits (v : Value) (w : World) : (Instr.typeAssert (.iface 134 v) 130 134 true).run Tryz.prog w = .ok (.tuple #[v, .bool true]) w := by kernel_rfl
theorem ta_signedBits_floatBits (v : Value) (w : World) : (Instr.typeAssert (.iface 134 v) 130 135 true).run Tryz.prog w = .ok (.tuple #[.agg #[], .bool false]) w := by kernel_rfl
theorem ta_signedBits_noOperand (v : Value) (w : World) : (Instr.typeAssert (.iface 134 v) 130 136 true).run Tryz.prog w = .ok (.tuple #[.agg #[], .bool false]) w := by kernel_rfl
theorem ta_floatBits_blockType (v : Value) (w : World) : (Instr.typeAssert (.iface 135 v) 130 85 true).run Tryz.prog w = .ok (.tuple #[.agg #[], .bool false]) w := by kernel_rfl
theorem ta_floatBits_upTo (v : Value) (w : World) : (Instr.typeAssert (.iface 135 v) 130 133 true).run Tryz.prog w = .ok (.tuple #[.int .i64 0, .bool false]) w := by kernel_rfl
theorem ta_floatBits_signedBits (v : Value) (w : World) : (Instr.typeAssert (.iface 135 v) 130 134 true).run Tryz.prog w = .ok (.tuple #[.int .i64 0, .bool false]) w := by kernel_rfl
theorem ta_floatBits_floatBits (v : Value) (w : World) : (Instr.typeAssert (.iface 135 v) 130 135 true).run Tryz.prog w = .ok (.tuple #[v, .bool true]) w := by kernel_rfl
theorem ta_floatBits_noOperand (v : Value) (w : World) : (Instr.typeAssert (.iface 135 v) 130 136 true).run Tryz.prog w = .ok (.tuple #[.agg #[], .bool false]) w := by kernel_rfl
theorem ta_noOperand_blockType (v : Value) (w : World) : (Instr.typeAssert (.iface 136 v) 130 85 true).run Tryz.prog w = .ok (.tuple #[.agg #[], .bool false]) w := by kernel_rfl
theorem ta_noOperand_upTo (v : Value) (w : World) : (Instr.typeAssert (.iface 136 v) 130 133 true).run Tryz.prog w = .ok (.tuple #[.int .i64 0, .bool false]) w := by kernel_rfl
theorem ta_noOperand_signedBits (v : Value) (w : World) : (Instr.typeAssert (.iface 136 v) 130 134 true).run Tryz.prog w = .ok (.tuple #[.int .i64 0, .bool false]) w := by kernel_rfl
theorem ta_noOperand_floatBits (v : Value) (w : World) : (Instr.typeAssert (.iface 136 v) 130 135 true).run Tryz.prog w = .ok (.tuple #[.agg #[], .bool false]) w := by kernel_rfl
theorem ta_noOperand_noOperand (v : Value) (w : World) : (Instr.typeAssert (.iface 136 v) 130 136 true).run Tryz.prog w = .ok (.tuple #[v, .bool true]) w := by kernel_rfl
theorem ta_nil_blockType (w : World) : (Instr.typeAssert .nilIface 130 85 true).run Tryz.prog w = .ok (.tuple #[.agg #[], .bool false]) w := by kernel_rfl
theorem ta_nil_upTo (w : World) : (Instr.typeAssert .nilIface 130 133 true).run Tryz.prog w = .ok (.tuple #[.int .i64 0, .bool false]) w := by kernel_rfl
theorem ta_nil_signedBits (w : World) : (Instr.typeAssert .nilIface 130 134 true).run Tryz.prog w = .ok (.tuple #[.int .i64 0, .bool false]) w := by kernel_rfl
theorem ta_nil_floatBits (w : World) : (Instr.typeAssert .nilIface 130 135 true).run Tryz.prog w = .ok (.tuple #[.agg #[], .bool false]) w := by kernel_rfl
theorem ta_nil_noOperand (w : World) : (Instr.typeAssert .nilIface 130 136 true).run Tryz.prog w = .ok (.tuple #[.agg #[], .bool false]) w := by kernel_rfl

end Go.Proofs.YtcgnefgdfgikdaaGreat

namespace Go.Proofs.YtcgnefgdfgikdaaGreat
open Go.ChangeShapes Go.WideShapes Go.ChangeAt Go.RowKit Go.PlainAid

theorem slice_front {P : Program} (T : TypeId) (hu : P.underlying T = some .string) (s : ByteArray) (n : Nat) (h : n ≤ s.size) (wx : World) :
    (Instr.slice T (.string s) none (some (.int .i64 (n : Int))) none).run P wx = .ok (.string (s.extract 0 n)) wx := by
  have H := run_slice_string_to_if (P := P) (w := wx) T s .i64 (n : Int) hu
  have e : ((n : Int)).toNat = n := by omega
  rw [e, if_pos (by omega)] at H
  exact H
theorem slice_from {P : Program} (T : TypeId) (hu : P.underlying T = some .string) (s : ByteArray) (n : Nat) (h : n ≤ s.size) (wx : World) :
    (Instr.slice T (.string s) (some (.int .i64 (n : Int))) none none).run P wx = .ok (.string (s.extract n s.size)) wx := by
  have H := run_slice_string_from_if (P := P) (w := wx) T s .i64 (n : Int) hu
  have e : ((n : Int)).toNat = n := by omega
  rw [e, if_pos (by omega)] at H
  exact H
theorem bt_front (s : ByteArray) (n k : Nat) (h : k < n) : bt (s.extract 0 n) k = bt s k := by
  rw [bt_list, bt_list]
  simp only [ByteArray.data_extract, Array.toList_extract, List.extract_eq_take_drop]
  simp [List.getD, h]

end Go.Proofs.YtcgnefgdfgikdaaGreat

namespace Go.Proofs.YtcgnefgdfgikdaaGreat
open Go.ChangeShapes Go.WideShapes Go.ChangeAt Go.RowKit Go.PlainAid

end Go.Proofs.YtcgnefgdfgikdaaGreat
