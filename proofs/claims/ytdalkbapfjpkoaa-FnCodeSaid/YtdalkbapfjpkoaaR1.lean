/-
  Plain facts on reading instructions out of bytes: nothing of the program stands here.
-/
import Derived.Test.YtdalkbapfjpkoaaT2
import Derived.Test.YtdalkbapfjpkoaaCBytes
import Derived.Test.YtdalkbapfjpkoaaRows
import Derived.WalkKit
import Derived.Test.YtdalkbapfjpkoaaQHide
import Derived.Test.YtdalkbapfjpkoaaKeep
namespace Go.Proofs.Ytdalkbapfjpkoaa
open Go.ChangeShapes Go.WideShapes Go.PlainAid Go.RowKit

theorem bt_list (t : ByteArray) (k : Nat) : bt t k = ((t.data.toList.getD k 0).toNat : Int) := by
  unfold bt
  by_cases h : k < t.size
  · have h' : k < t.data.size := h
    rw [dif_pos h, List.getD, Array.getElem?_toList, Array.getElem?_eq_getElem h']; rfl
  · have h' : t.data.size ≤ k := Nat.le_of_not_lt h
    rw [dif_neg h, List.getD, Array.getElem?_toList, Array.getElem?_eq_none h']; rfl
theorem drop_list (t : ByteArray) (n : Nat) : (t.extract n t.size).data.toList = t.data.toList.drop n := by
  simp only [ByteArray.data_extract, Array.toList_extract]
  rw [List.extract_eq_take_drop]
  apply List.take_of_length_le
  simp
theorem bt_ext (s : ByteArray) (i k : Nat) : bt (s.extract i s.size) k = bt s (i + k) := by
  rw [bt_list, bt_list, drop_list]
  simp [List.getD, List.getElem?_drop]
theorem ext_ext (s : ByteArray) (i n : Nat) : (s.extract i s.size).extract n (s.extract i s.size).size = s.extract (i + n) s.size := by
  apply WideShapes.bytes_inj
  rw [drop_list, drop_list, drop_list, List.drop_drop]
theorem ext_zero (s : ByteArray) : s.extract 0 s.size = s := by
  apply WideShapes.bytes_inj
  rw [drop_list, List.drop_zero]
theorem tu_facts (s : ByteArray) (b : Nat) (hb : b ≤ 64) : (tu s b).2 ≤ s.size ∧ (tu s b).2 ≤ 10 ∧ 0 ≤ (tu s b).1 ∧ (tu s b).1 ≤ 18446744073709551615 := by
  rcases h : scan s (most b) 0 with _ | j
  · rw [tu_none s b h]; simp
  · have hi := scan_is s _ _ _ h
    have hm : most b ≤ 10 := by unfold most; omega
    by_cases hg : pt s j / 2 ^ (b - 7 * j) = 0
    · rw [tu_good s b j h hg]
      have ha := acc_in s (j + 1)
      exact ⟨by show j + 1 ≤ _; omega, by show j + 1 ≤ _; omega, ha.1, ha.2⟩
    · rw [tu_bad s b j h hg]; simp
theorem ts_facts (s : ByteArray) (b : Nat) (hb : b ≤ 64) : (ts s b).2 ≤ s.size ∧ (ts s b).2 ≤ 10 ∧ -9223372036854775808 ≤ (ts s b).1 ∧ (ts s b).1 ≤ 9223372036854775807 := by
  rcases h : scan s (most b) 0 with _ | j
  · rw [ts_none s b h]; simp
  · have hi := scan_is s _ _ _ h
    have hm : most b ≤ 10 := by unfold most; omega
    by_cases hg : okS s b j
    · rw [ts_good s b j h hg]
      refine ⟨by show j + 1 ≤ _; omega, by show j + 1 ≤ _; omega, ?_, ?_⟩
      · show -9223372036854775808 ≤ wrap64 _; unfold wrap64; omega
      · show wrap64 _ ≤ 9223372036854775807; unfold wrap64; omega
    · rw [ts_bad s b j h hg]; simp

/-- What is taken of bytes as A of kind k: A, how many bytes, and whether there is one. -/
def tk (r : ByteArray) (k : Int) : Int × Nat × Bool :=
  if k = 0 then (0, 0, true)
  else if k = 1 then (if r.size < 1 then (0, 0, false) else (bt r 0, 1, true))
  else if k = 2 then (wrap64 (tu r 32).1, (tu r 32).2, decide ((0 : Int) < (tu r 32).2))
  else if k = 3 then (wrap64 (tu r 32).1, (tu r 32).2, decide ((0 : Int) < (tu r 32).2))
  else if k = 4 then ((ts r 32).1, (ts r 32).2, decide ((0 : Int) < (ts r 32).2))
  else if k = 5 then ((ts r 64).1, (ts r 64).2, decide ((0 : Int) < (ts r 64).2))
  else if k = 6 then (if r.size < 4 then (0, 0, false) else ((leN (r.extract 0 4) 4 : Nat), 4, true))
  else (0, 0, false)
theorem wrap64_in (x : Int) : -9223372036854775808 ≤ wrap64 x ∧ wrap64 x ≤ 9223372036854775807 := by unfold wrap64; omega
theorem tk_facts (r : ByteArray) (k : Int) : (tk r k).2.1 ≤ r.size ∧ (tk r k).2.1 ≤ 10 ∧ -9223372036854775808 ≤ (tk r k).1 ∧ (tk r k).1 ≤ 9223372036854775807 := by
  have h1 := bt_nonneg r 0
  have h2 := bt_le r 0
  have h3 := leN_lt (r.extract 0 4) 4
  have h4 := tu_facts r 32 (by omega)
  have h5 := ts_facts r 32 (by omega)
  have h6 := ts_facts r 64 (by omega)
  have h7 := wrap64_in (tu r 32).1
  unfold tk
  repeat' split
  all_goals simp only
  all_goals first | omega | exact ⟨h4.1, h4.2.1, h7.1, h7.2⟩ | exact h5 | exact h6
/-- The instruction at a place of the bytes, and how many they are. -/
def stp (s : ByteArray) (at_ : Nat) : Option ((Int × Int) × Nat) :=
  if ((tk (s.extract (at_ + 1) s.size) (shp (bt s at_))).2.2 && gi (bt s at_) (tk (s.extract (at_ + 1) s.size) (shp (bt s at_))).1) = true
  then some ((bt s at_, (tk (s.extract (at_ + 1) s.size) (shp (bt s at_))).1), 1 + (tk (s.extract (at_ + 1) s.size) (shp (bt s at_))).2.1) else none
theorem stp_fits {s : ByteArray} {p t : Nat} {x : Int × Int} (h : p < s.size) (e : stp s p = some (x, t)) : 1 ≤ t ∧ p + t ≤ s.size := by
  have hf := tk_facts (s.extract (p + 1) s.size) (shp (bt s p))
  have hs : (s.extract (p + 1) s.size).size = s.size - (p + 1) := by simp [ByteArray.size_extract]
  rw [hs] at hf
  unfold stp at e
  split at e
  · simp only [Option.some.injEq, Prod.mk.injEq] at e
    omega
  · simp at e
/-- The instructions from a place on, where n stand ahead of it. -/
def rdc (s : ByteArray) : Nat → Nat → Nat → Option (List (Int × Int))
  | 0, _, _ => none
  | f + 1, p, n => if s.size ≤ p then some [] else match stp s p with
    | none => none
    | some (x, t) => if n = 200 then none else (rdc s f (p + t) (n + 1)).map (x :: ·)
theorem rdc_end (s : ByteArray) (f p n : Nat) (h : s.size ≤ p) : rdc s (f + 1) p n = some [] := by simp [rdc, h]
theorem rdc_none (s : ByteArray) (f p n : Nat) (h : ¬ s.size ≤ p) (e : stp s p = none) : rdc s (f + 1) p n = none := by simp [rdc, h, e]
theorem rdc_full (s : ByteArray) (f p : Nat) (h : ¬ s.size ≤ p) : rdc s (f + 1) p 200 = none := by
  simp only [rdc, if_neg h]; split <;> simp
theorem rdc_some (s : ByteArray) (f p n t : Nat) (x : Int × Int) (h : ¬ s.size ≤ p) (e : stp s p = some (x, t)) (hn : n ≠ 200) : rdc s (f + 1) p n = (rdc s f (p + t) (n + 1)).map (x :: ·) := by simp [rdc, h, e, hn]
theorem rdc_len (s : ByteArray) (f : Nat) : ∀ p n L, n ≤ 200 → rdc s f p n = some L → n + L.length ≤ 200 := by
  induction f with
  | zero => intro p n L _ h; simp [rdc] at h
  | succ f ih =>
    intro p n L hn h
    by_cases h0 : s.size ≤ p
    · rw [rdc_end s f p n h0] at h; simp at h; subst h; simpa using hn
    · rcases hs : stp s p with _ | ⟨x, t⟩
      · rw [rdc_none s f p n h0 hs] at h; simp at h
      · by_cases h2 : n = 200
        · subst h2; rw [rdc_full s f p h0] at h; simp at h
        · rw [rdc_some s f p n t x h0 hs h2] at h
          rcases hr : rdc s f (p + t) (n + 1) with _ | M
          · rw [hr] at h; simp at h
          · rw [hr] at h; simp at h; subst h; have := ih _ _ M (by omega) hr; simp; omega
def rc (s : ByteArray) : Option (List (Int × Int)) := rdc s (s.size + 1) 0 0
theorem rc_len (s : ByteArray) : ((rc s).getD []).length ≤ 200 := by
  rcases h : rc s with _ | L
  · simp
  · have := rdc_len s _ _ _ L (by omega) h; simpa using (by omega : L.length ≤ 200)

end Go.Proofs.Ytdalkbapfjpkoaa

namespace Go.Proofs.Ytdalkbapfjpkoaa
open Go.RowKit

theorem ta_blockType_blockType (v : Value) (w : World) : (Instr.typeAssert (.iface 67 v) 49 67 true).run Try.prog w = .ok (.tuple #[v, .bool true]) w := by kernel_rfl
theorem ta_blockType_upTo (v : Value) (w : World) : (Instr.typeAssert (.iface 67 v) 49 69 true).run Try.prog w = .ok (.tuple #[.int .i64 0, .bool false]) w := by kernel_rfl
theorem ta_blockType_signedBits (v : Value) (w : World) : (Instr.typeAssert (.iface 67 v) 49 71 true).run Try.prog w = .ok (.tuple #[.int .i64 0, .bool false]) w := by kernel_rfl
theorem ta_blockType_floatBits (v : Value) (w : World) : (Instr.typeAssert (.iface 67 v) 49 73 true).run Try.prog w = .ok (.tuple #[.agg #[], .bool false]) w := by kernel_rfl
theorem ta_blockType_noOperand (v : Value) (w : World) : (Instr.typeAssert (.iface 67 v) 49 74 true).run Try.prog w = .ok (.tuple #[.agg #[], .bool false]) w := by kernel_rfl
theorem ta_upTo_blockType (v : Value) (w : World) : (Instr.typeAssert (.iface 69 v) 49 67 true).run Try.prog w = .ok (.tuple #[.agg #[], .bool false]) w := by kernel_rfl
theorem ta_upTo_upTo (v : Value) (w : World) : (Instr.typeAssert (.iface 69 v) 49 69 true).run Try.prog w = .ok (.tuple #[v, .bool true]) w := by kernel_rfl
theorem ta_upTo_signedBits (v : Value) (w : World) : (Instr.typeAssert (.iface 69 v) 49 71 true).run Try.prog w = .ok (.tuple #[.int .i64 0, .bool false]) w := by kernel_rfl
theorem ta_upTo_floatBits (v : Value) (w : World) : (Instr.typeAssert (.iface 69 v) 49 73 true).run Try.prog w = .ok (.tuple #[.agg #[], .bool false]) w := by kernel_rfl
theorem ta_upTo_noOperand (v : Value) (w : World) : (Instr.typeAssert (.iface 69 v) 49 74 true).run Try.prog w = .ok (.tuple #[.agg #[], .bool false]) w := by kernel_rfl
theorem ta_signedBits_blockType (v : Value) (w : World) : (Instr.typeAssert (.iface 71 v) 49 67 true).run Try.prog w = .ok (.tuple #[.agg #[], .bool false]) w := by kernel_rfl
theorem ta_signedBits_upTo (v : Value) (w : World) : (Instr.typeAssert (.iface 71 v) 49 69 true).run Try.prog w = .ok (.tuple #[.int .i64 0, .bool false]) w := by kernel_rfl
theorem ta_signedBits_signedBits (v : Value) (w : World) : (Instr.typeAssert (.iface 71 v) 49 71 true).run Try.prog w = .ok (.tuple #[v, .bool true]) w := by kernel_rfl
theorem ta_signedBits_floatBits (v : Value) (w : World) : (Instr.typeAssert (.iface 71 v) 49 73 true).run Try.prog w = .ok (.tuple #[.agg #[], .bool false]) w := by kernel_rfl
theorem ta_signedBits_noOperand (v : Value) (w : World) : (Instr.typeAssert (.iface 71 v) 49 74 true).run Try.prog w = .ok (.tuple #[.agg #[], .bool false]) w := by kernel_rfl
theorem ta_floatBits_blockType (v : Value) (w : World) : (Instr.typeAssert (.iface 73 v) 49 67 true).run Try.prog w = .ok (.tuple #[.agg #[], .bool false]) w := by kernel_rfl
theorem ta_floatBits_upTo (v : Value) (w : World) : (Instr.typeAssert (.iface 73 v) 49 69 true).run Try.prog w = .ok (.tuple #[.int .i64 0, .bool false]) w := by kernel_rfl
theorem ta_floatBits_signedBits (v : Value) (w : World) : (Instr.typeAssert (.iface 73 v) 49 71 true).run Try.prog w = .ok (.tuple #[.int .i64 0, .bool false]) w := by kernel_rfl
theorem ta_floatBits_floatBits (v : Value) (w : World) : (Instr.typeAssert (.iface 73 v) 49 73 true).run Try.prog w = .ok (.tuple #[v, .bool true]) w := by kernel_rfl
theorem ta_floatBits_noOperand (v : Value) (w : World) : (Instr.typeAssert (.iface 73 v) 49 74 true).run Try.prog w = .ok (.tuple #[.agg #[], .bool false]) w := by kernel_rfl
theorem ta_noOperand_blockType (v : Value) (w : World) : (Instr.typeAssert (.iface 74 v) 49 67 true).run Try.prog w = .ok (.tuple #[.agg #[], .bool false]) w := by kernel_rfl
theorem ta_noOperand_upTo (v : Value) (w : World) : (Instr.typeAssert (.iface 74 v) 49 69 true).run Try.prog w = .ok (.tuple #[.int .i64 0, .bool false]) w := by kernel_rfl
theorem ta_noOperand_signedBits (v : Value) (w : World) : (Instr.typeAssert (.iface 74 v) 49 71 true).run Try.prog w = .ok (.tuple #[.int .i64 0, .bool false]) w := by kernel_rfl
theorem ta_noOperand_floatBits (v : Value) (w : World) : (Instr.typeAssert (.iface 74 v) 49 73 true).run Try.prog w = .ok (.tuple #[.agg #[], .bool false]) w := by kernel_rfl
theorem ta_noOperand_noOperand (v : Value) (w : World) : (Instr.typeAssert (.iface 74 v) 49 74 true).run Try.prog w = .ok (.tuple #[v, .bool true]) w := by kernel_rfl
theorem ta_nil_blockType (w : World) : (Instr.typeAssert .nilIface 49 67 true).run Try.prog w = .ok (.tuple #[.agg #[], .bool false]) w := by kernel_rfl
theorem ta_nil_upTo (w : World) : (Instr.typeAssert .nilIface 49 69 true).run Try.prog w = .ok (.tuple #[.int .i64 0, .bool false]) w := by kernel_rfl
theorem ta_nil_signedBits (w : World) : (Instr.typeAssert .nilIface 49 71 true).run Try.prog w = .ok (.tuple #[.int .i64 0, .bool false]) w := by kernel_rfl
theorem ta_nil_floatBits (w : World) : (Instr.typeAssert .nilIface 49 73 true).run Try.prog w = .ok (.tuple #[.agg #[], .bool false]) w := by kernel_rfl
theorem ta_nil_noOperand (w : World) : (Instr.typeAssert .nilIface 49 74 true).run Try.prog w = .ok (.tuple #[.agg #[], .bool false]) w := by kernel_rfl

end Go.Proofs.Ytdalkbapfjpkoaa

namespace Go.Proofs.Ytdalkbapfjpkoaa
open Go.ChangeShapes Go.WideShapes Go.ChangeAt Go.RowKit Go.PlainAid

theorem slice_front {P : Program} (T : TypeId) (hu : P.underlying T = some .string) (s : ByteArray) (n : Nat) (h : n ≤ s.size) (wx : World) :
    (Instr.slice T (.string s) none (some (.int .i64 (n : Int))) none).run P wx = .ok (.string (s.extract 0 n)) wx := by
  have H := run_slice_string_to_if (P := P) (w := wx) T s .i64 (n : Int) hu
  have e : ((n : Int)).toNat = n := by omega
  rw [e, if_pos (by omega)] at H
  exact H
theorem slice_from {P : Program} (T : TypeId) (hu : P.underlying T = some .string) (s : ByteArray) (n : Nat) (h : n ≤ s.size) (wx : World) :
    (Instr.slice T (.string s) (some (.int .i64 (n : Int))) none none).run P wx = .ok (.string (s.extract n s.size)) wx := by
  have H := run_slice_string_from_if (P := P) (w := wx) T s .i64 (n : Int) hu
  have e : ((n : Int)).toNat = n := by omega
  rw [e, if_pos (by omega)] at H
  exact H
theorem bt_front (s : ByteArray) (n k : Nat) (h : k < n) : bt (s.extract 0 n) k = bt s k := by
  rw [bt_list, bt_list]
  simp only [ByteArray.data_extract, Array.toList_extract, List.extract_eq_take_drop]
  simp [List.getD, h]

set_option maxRecDepth 100000 in
set_option maxHeartbeats 800000 in
theorem takeFixed_no (r : ByteArray) (n : Nat) (h : r.size < n) (w : World) :
    Calls Try.prog 46 #[.string r, .int .i64 (n : Int)] w fun e w' => e = .returned (.tuple #[.int .i64 0, .int .i64 0, .bool false]) ∧ w' = w := by
  go_enter Try.func46, Try.ntmps46
  go_wp2
  refine bodyPost_ret (v := .tuple #[.int .i64 0, .int .i64 0, .bool false]) (by simp [results, Try.results46, go_sem]) rfl ⟨rfl, rfl⟩

set_option maxRecDepth 100000 in
set_option maxHeartbeats 800000 in
theorem takeFixed_yes (r : ByteArray) (n : Nat) (h : n ≤ r.size) (hn : n ≤ 4) (w : World) :
    Calls Try.prog 46 #[.string r, .int .i64 (n : Int)] w fun e w' => e = .returned (.tuple #[.int .i64 (leN (r.extract 0 n) n : Nat), .int .i64 (n : Int), .bool true]) ∧ w' = w := by
  have hsl := slice_front (P := Try.prog) 9 Try.underlying9 r n h
  have hsz : (r.extract 0 n).size = n := by simp [ByteArray.size_extract]; omega
  have N := numberOf (r.extract 0 n) (by omega)
  rw [hsz] at N
  have hl := leN_lt (r.extract 0 n) n
  have hp : 2 ^ (8 * n) ≤ 2 ^ 32 := Nat.pow_le_pow_right (by omega) (by omega)
  have hl2 : leN (r.extract 0 n) n < 4294967296 := by omega
  clear hl hp
  obtain ⟨X, hX⟩ : ∃ X : Int, ((leN (r.extract 0 n) n : Nat) : Int) = X := ⟨_, rfl⟩
  rw [hX] at N ⊢
  have hw : wrap64 X = X := by unfold wrap64; omega
  have hw2 : IntKind.i64.wrap X = X := IntWalk.i64_in _ ⟨by omega, by omega⟩
  have hlt : ¬ (r.size : Int) < n := by omega
  clear hX hl2 hsz
  go_enter Try.func46, Try.ntmps46
  go_wp2_with (go_at_call 53; refine (N _).mono ?_; rintro e w1 ⟨rfl, hww⟩; obtain rfl := hww.symm)
  refine bodyPost_ret (v := .tuple #[.int .i64 X, .int .i64 (n : Int), .bool true]) (by simp [results, Try.results46, go_sem]) rfl ⟨rfl, rfl⟩

set_option maxRecDepth 100000 in
set_option maxHeartbeats 1600000 in
theorem takeOperand_eq (r : ByteArray) (hr : r.size ≤ 1048576) (k : Int) (hk : k = 0 ∨ k = 1 ∨ k = 2 ∨ k = 3 ∨ k = 4 ∨ k = 5 ∨ k = 6 ∨ k = -1) (w : World) :
    Calls Try.prog 38 #[.string r, opv k] w fun e w' => e = .returned (.tuple #[.int .i64 (tk r k).1, .int .i64 ((tk r k).2.1 : Nat), .bool (tk r k).2.2]) ∧ Below w.heap.size w w' := by
  rcases hk with rfl | rfl | rfl | rfl | rfl | rfl | rfl | rfl
  · have e : opv 0 = .iface 74 (.agg #[]) := rfl
    rw [e]
    clear e
    have t0 := ta_noOperand_noOperand (.agg #[])
    go_enter Try.func38, Try.ntmps38
    go_wp2
    refine bodyPost_ret (v := .tuple #[.int .i64 0, .int .i64 0, .bool true]) (by simp [results, Try.results38, go_sem]) rfl ⟨rfl, ?_⟩
    (repeat (first | refine Below.alloc ?_ (by first | (simp; done) | (simp; omega)) _ | refine Below.setCell ?_ (by first | (simp; done) | (simp; omega)) _ | refine bel_dN ?_ _ | refine Below.drew ?_ | exact Below.refl _ _))
  · have e : opv 1 = .iface 67 (.agg #[]) := rfl
    rw [e]
    clear e
    have t0 := ta_blockType_noOperand (.agg #[])
    have t1 := ta_blockType_blockType (.agg #[])
    by_cases hs : r.size < 1
    · have e : tk r 1 = (0, 0, false) := if_pos hs
      rw [e]
      have F : ∀ w : World, Calls Try.prog 46 #[.string r, .int .i64 1] w fun e w' => e = .returned (.tuple #[.int .i64 0, .int .i64 0, .bool false]) ∧ w' = w := fun w => takeFixed_no r 1 hs w
      clear e hs hr
      go_enter Try.func38, Try.ntmps38
      go_wp2_with (go_at_call 46; refine (F _).mono ?_; rintro e w1 ⟨rfl, hww⟩; obtain rfl := hww.symm)
      refine bodyPost_ret (v := .tuple #[.int .i64 0, .int .i64 0, .bool false]) (by simp [results, Try.results38, go_sem]) rfl ⟨rfl, ?_⟩
      (repeat (first | refine Below.alloc ?_ (by first | (simp; done) | (simp; omega)) _ | refine Below.setCell ?_ (by first | (simp; done) | (simp; omega)) _ | refine bel_dN ?_ _ | refine Below.drew ?_ | exact Below.refl _ _))
    · have e : tk r 1 = (bt r 0, 1, true) := if_neg hs
      rw [e]
      have F : ∀ w : World, Calls Try.prog 46 #[.string r, .int .i64 1] w fun e w' => e = .returned (.tuple #[.int .i64 (bt r 0), .int .i64 1, .bool true]) ∧ w' = w := fun w => by
        have H := takeFixed_yes r 1 (by omega) (by omega) w
        have e1 : ((leN (r.extract 0 1) 1 : Nat) : Int) = bt r 0 := by
          have h0 := bt_nonneg r 0
          have e2 : leN (r.extract 0 1) 1 = 0 + (bt (r.extract 0 1) 0).toNat * 2 ^ (8 * 0) := rfl
          rw [e2, bt_front r 1 0 (by omega)]
          omega
        rw [e1] at H
        exact H
      clear e hs hr
      generalize bt r 0 = X at F ⊢
      go_enter Try.func38, Try.ntmps38
      go_wp2_with (go_at_call 46; refine (F _).mono ?_; rintro e w1 ⟨rfl, hww⟩; obtain rfl := hww.symm)
      refine bodyPost_ret (v := .tuple #[.int .i64 X, .int .i64 1, .bool true]) (by simp [results, Try.results38, go_sem]) rfl ⟨rfl, ?_⟩
      (repeat (first | refine Below.alloc ?_ (by first | (simp; done) | (simp; omega)) _ | refine Below.setCell ?_ (by first | (simp; done) | (simp; omega)) _ | refine bel_dN ?_ _ | refine Below.drew ?_ | exact Below.refl _ _))
  · have e : opv 2 = .iface 69 (.int .i64 1000) := rfl
    rw [e]
    clear e
    have t0 := ta_upTo_noOperand (.int .i64 1000)
    have t1 := ta_upTo_blockType (.int .i64 1000)
    have t2 := ta_upTo_upTo (.int .i64 1000)
    have F := implTakeU r 32 hr (by omega) (by omega)
    have e : tk r 2 = (wrap64 (tu r 32).1, (tu r 32).2, decide ((0 : Int) < (tu r 32).2)) := rfl
    rw [e]
    clear e hr
    generalize tu r 32 = p at F ⊢
    obtain ⟨n, t⟩ := p
    simp only at F ⊢
    obtain ⟨c, hc⟩ : ∃ c, decide ((0 : Int) < (t : Int)) = c := ⟨_, rfl⟩
    have hc2 : decide (0 < t) = c := by rw [← hc]; simp
    rw [hc]
    have HF : Hid (∀ w : World, Calls Try.prog 47 #[.string r, .int .i64 32] w fun e w' => e = .returned (.tuple #[.int .u64 n, .int .i64 t]) ∧ ∃ n, w' = w.drewN n) := F
    clear F
    go_enter Try.func38, Try.ntmps38
    go_wp2_with (go_at_call 47; refine (HF.out _).mono ?_; rintro e w1 ⟨rfl, nd, hww⟩; subst hww)
    refine bodyPost_ret (v := .tuple #[.int .i64 (wrap64 n), .int .i64 (t : Int), .bool c]) (by simp [results, Try.results38, go_sem]) rfl ⟨rfl, ?_⟩
    (repeat (first | refine Below.alloc ?_ (by first | (simp; done) | (simp; omega)) _ | refine Below.setCell ?_ (by first | (simp; done) | (simp; omega)) _ | refine bel_dN ?_ _ | refine Below.drew ?_ | exact Below.refl _ _))
  · have e : opv 3 = .iface 69 (.int .i64 10000) := rfl
    rw [e]
    clear e
    have t0 := ta_upTo_noOperand (.int .i64 10000)
    have t1 := ta_upTo_blockType (.int .i64 10000)
    have t2 := ta_upTo_upTo (.int .i64 10000)
    have F := implTakeU r 32 hr (by omega) (by omega)
    have e : tk r 3 = (wrap64 (tu r 32).1, (tu r 32).2, decide ((0 : Int) < (tu r 32).2)) := rfl
    rw [e]
    clear e hr
    generalize tu r 32 = p at F ⊢
    obtain ⟨n, t⟩ := p
    simp only at F ⊢
    obtain ⟨c, hc⟩ : ∃ c, decide ((0 : Int) < (t : Int)) = c := ⟨_, rfl⟩
    have hc2 : decide (0 < t) = c := by rw [← hc]; simp
    rw [hc]
    have HF : Hid (∀ w : World, Calls Try.prog 47 #[.string r, .int .i64 32] w fun e w' => e = .returned (.tuple #[.int .u64 n, .int .i64 t]) ∧ ∃ n, w' = w.drewN n) := F
    clear F
    go_enter Try.func38, Try.ntmps38
    go_wp2_with (go_at_call 47; refine (HF.out _).mono ?_; rintro e w1 ⟨rfl, nd, hww⟩; subst hww)
    refine bodyPost_ret (v := .tuple #[.int .i64 (wrap64 n), .int .i64 (t : Int), .bool c]) (by simp [results, Try.results38, go_sem]) rfl ⟨rfl, ?_⟩
    (repeat (first | refine Below.alloc ?_ (by first | (simp; done) | (simp; omega)) _ | refine Below.setCell ?_ (by first | (simp; done) | (simp; omega)) _ | refine bel_dN ?_ _ | refine Below.drew ?_ | exact Below.refl _ _))
  · have e : opv 4 = .iface 71 (.int .i64 32) := rfl
    rw [e]
    clear e
    have t0 := ta_signedBits_noOperand (.int .i64 32)
    have t1 := ta_signedBits_blockType (.int .i64 32)
    have t2 := ta_signedBits_upTo (.int .i64 32)
    have t3 := ta_signedBits_signedBits (.int .i64 32)
    have F := implTakeS r 32 hr (by omega) (by omega)
    have e : tk r 4 = ((ts r 32).1, (ts r 32).2, decide ((0 : Int) < (ts r 32).2)) := rfl
    rw [e]
    clear e hr
    generalize ts r 32 = p at F ⊢
    obtain ⟨n, t⟩ := p
    simp only at F ⊢
    obtain ⟨c, hc⟩ : ∃ c, decide ((0 : Int) < (t : Int)) = c := ⟨_, rfl⟩
    have hc2 : decide (0 < t) = c := by rw [← hc]; simp
    rw [hc]
    have HF : Hid (∀ w : World, Calls Try.prog 48 #[.string r, .int .i64 32] w fun e w' => e = .returned (.tuple #[.int .i64 n, .int .i64 t]) ∧ w' = w) := F
    clear F
    go_enter Try.func38, Try.ntmps38
    go_wp2_with (go_at_call 48; refine (HF.out _).mono ?_; rintro e w1 ⟨rfl, hww⟩; obtain rfl := hww.symm)
    refine bodyPost_ret (v := .tuple #[.int .i64 n, .int .i64 (t : Int), .bool c]) (by simp [results, Try.results38, go_sem]) rfl ⟨rfl, ?_⟩
    (repeat (first | refine Below.alloc ?_ (by first | (simp; done) | (simp; omega)) _ | refine Below.setCell ?_ (by first | (simp; done) | (simp; omega)) _ | refine bel_dN ?_ _ | refine Below.drew ?_ | exact Below.refl _ _))
  · have e : opv 5 = .iface 71 (.int .i64 64) := rfl
    rw [e]
    clear e
    have t0 := ta_signedBits_noOperand (.int .i64 64)
    have t1 := ta_signedBits_blockType (.int .i64 64)
    have t2 := ta_signedBits_upTo (.int .i64 64)
    have t3 := ta_signedBits_signedBits (.int .i64 64)
    have F := implTakeS r 64 hr (by omega) (by omega)
    have e : tk r 5 = ((ts r 64).1, (ts r 64).2, decide ((0 : Int) < (ts r 64).2)) := rfl
    rw [e]
    clear e hr
    generalize ts r 64 = p at F ⊢
    obtain ⟨n, t⟩ := p
    simp only at F ⊢
    obtain ⟨c, hc⟩ : ∃ c, decide ((0 : Int) < (t : Int)) = c := ⟨_, rfl⟩
    have hc2 : decide (0 < t) = c := by rw [← hc]; simp
    rw [hc]
    have HF : Hid (∀ w : World, Calls Try.prog 48 #[.string r, .int .i64 64] w fun e w' => e = .returned (.tuple #[.int .i64 n, .int .i64 t]) ∧ w' = w) := F
    clear F
    go_enter Try.func38, Try.ntmps38
    go_wp2_with (go_at_call 48; refine (HF.out _).mono ?_; rintro e w1 ⟨rfl, hww⟩; obtain rfl := hww.symm)
    refine bodyPost_ret (v := .tuple #[.int .i64 n, .int .i64 (t : Int), .bool c]) (by simp [results, Try.results38, go_sem]) rfl ⟨rfl, ?_⟩
    (repeat (first | refine Below.alloc ?_ (by first | (simp; done) | (simp; omega)) _ | refine Below.setCell ?_ (by first | (simp; done) | (simp; omega)) _ | refine bel_dN ?_ _ | refine Below.drew ?_ | exact Below.refl _ _))
  · have e : opv 6 = .iface 73 (.agg #[]) := rfl
    rw [e]
    clear e
    have t0 := ta_floatBits_noOperand (.agg #[])
    have t1 := ta_floatBits_blockType (.agg #[])
    have t2 := ta_floatBits_upTo (.agg #[])
    have t3 := ta_floatBits_signedBits (.agg #[])
    have t4 := ta_floatBits_floatBits (.agg #[])
    by_cases hs : r.size < 4
    · have e : tk r 6 = (0, 0, false) := if_pos hs
      rw [e]
      have F : ∀ w : World, Calls Try.prog 46 #[.string r, .int .i64 4] w fun e w' => e = .returned (.tuple #[.int .i64 0, .int .i64 0, .bool false]) ∧ w' = w := fun w => takeFixed_no r 4 hs w
      clear e hs hr
      go_enter Try.func38, Try.ntmps38
      go_wp2_with (go_at_call 46; refine (F _).mono ?_; rintro e w1 ⟨rfl, hww⟩; obtain rfl := hww.symm)
      refine bodyPost_ret (v := .tuple #[.int .i64 0, .int .i64 0, .bool false]) (by simp [results, Try.results38, go_sem]) rfl ⟨rfl, ?_⟩
      (repeat (first | refine Below.alloc ?_ (by first | (simp; done) | (simp; omega)) _ | refine Below.setCell ?_ (by first | (simp; done) | (simp; omega)) _ | refine bel_dN ?_ _ | refine Below.drew ?_ | exact Below.refl _ _))
    · have e : tk r 6 = (((leN (r.extract 0 4) 4 : Nat) : Int), 4, true) := if_neg hs
      rw [e]
      have F : ∀ w : World, Calls Try.prog 46 #[.string r, .int .i64 4] w fun e w' => e = .returned (.tuple #[.int .i64 ((leN (r.extract 0 4) 4 : Nat)), .int .i64 4, .bool true]) ∧ w' = w := fun w => by
        have H := takeFixed_yes r 4 (by omega) (by omega) w
        exact H
      clear e hs hr
      generalize ((leN (r.extract 0 4) 4 : Nat) : Int) = X at F ⊢
      go_enter Try.func38, Try.ntmps38
      go_wp2_with (go_at_call 46; refine (F _).mono ?_; rintro e w1 ⟨rfl, hww⟩; obtain rfl := hww.symm)
      refine bodyPost_ret (v := .tuple #[.int .i64 X, .int .i64 4, .bool true]) (by simp [results, Try.results38, go_sem]) rfl ⟨rfl, ?_⟩
      (repeat (first | refine Below.alloc ?_ (by first | (simp; done) | (simp; omega)) _ | refine Below.setCell ?_ (by first | (simp; done) | (simp; omega)) _ | refine bel_dN ?_ _ | refine Below.drew ?_ | exact Below.refl _ _))
  · have e : opv (-1) = .nilIface := rfl
    rw [e]
    clear e hr
    have t0 := ta_nil_noOperand
    have t1 := ta_nil_blockType
    have t2 := ta_nil_upTo
    have t3 := ta_nil_signedBits
    have t4 := ta_nil_floatBits
    go_enter Try.func38, Try.ntmps38
    go_wp2
    refine bodyPost_ret (v := .tuple #[.int .i64 0, .int .i64 0, .bool false]) (by simp [results, Try.results38, go_sem]) rfl ⟨rfl, ?_⟩
    (repeat (first | refine Below.alloc ?_ (by first | (simp; done) | (simp; omega)) _ | refine Below.setCell ?_ (by first | (simp; done) | (simp; omega)) _ | refine bel_dN ?_ _ | refine Below.drew ?_ | exact Below.refl _ _))

end Go.Proofs.Ytdalkbapfjpkoaa

namespace Go.Proofs.Ytdalkbapfjpkoaa
open Go.ChangeShapes Go.WideShapes Go.ChangeAt Go.RowKit Go.PlainAid

set_option maxRecDepth 100000 in
set_option maxHeartbeats 1600000 in
theorem takeIns_none (c : ByteArray) (op a : Int) (t : Nat) (ov : Value) (h0 : 0 < c.size) (hop : bt c 0 = op) (hlo : 0 ≤ op) (hhi : op ≤ 255) (_ht : t ≤ 1048576)
    (O : ∀ w : World, Calls Try.prog 18 #[.int .i64 op] w fun e w' => e = .returned ov ∧ w' = w)
    (TO : ∀ w : World, Calls Try.prog 38 #[.string (c.extract 1 c.size), ov] w fun e w' => e = .returned (.tuple #[.int .i64 a, .int .i64 (t : Int), .bool false]) ∧ Below w.heap.size w w')
    (w : World) :
    Calls Try.prog 21 #[.string c] w fun e w' => e = .returned (.tuple #[.agg #[.int .i64 0, .int .i64 0], .int .i64 0]) ∧ Below w.heap.size w w' := by
  obtain ⟨b, hbs⟩ : ∃ b, w.heap.size = b := ⟨_, rfl⟩
  obtain ⟨W, hW⟩ : ∃ W, w.alloc (.cells #[.int .i64 0, .int .i64 0] 37) = W := ⟨_, rfl⟩
  have hWs : W.heap.size = b + 1 := by rw [← hW]; simp; omega
  have hB0 : Hid (Below w.heap.size w W) := by unfold Hid; rw [← hW]; exact (Below.refl _ _).alloc (Nat.le_refl _) _
  have p0 : W.cell? ⟨b, 0, none⟩ = some (.int .i64 0) := by rw [← hW, ← hbs]; simp
  have p1 : W.cell? ⟨b, 1, none⟩ = some (.int .i64 0) := by rw [← hW, ← hbs]; simp
  have z0 : W.frozen? ⟨b, 0, none⟩ = false := by rw [← hW, ← hbs]; simp
  have z1 : W.frozen? ⟨b, 1, none⟩ = false := by rw [← hW, ← hbs]; simp
  have e0 := get_bt c 0 h0
  rw [hop] at e0
  have hsl : ∀ wx : World, (Instr.slice 9 (.string c) (some (.int .i64 1)) none none).run Try.prog wx = .ok (.string (c.extract 1 c.size)) wx := fun wx => slice_from (P := Try.prog) 9 Try.underlying9 c 1 (by omega) wx
  clear hop
  go_enter Try.func21, Try.ntmps21
  go_wp2_with fail
  refine region_q (C := Keeps W) (by kernel_rfl) (by kernel_rfl) (by first | exact Keeps.drew W | (rw [← hW]; exact Keeps.drew _)) ?_
  (iterate 12
    (apply wpQuiet_go _ (by rfl)
     · intro wq hq
       go_simp
       first
         | (go_at_call 18; exact qsame hq (O _))
         | (go_at_call 38; exact qcall hq (TO _))
         | exact rfl
     simp only [Act.put, List.setIfInBounds_toArray, List.set_cons_succ, List.set_cons_zero]))
  refine wpQuiet_nil ?_
  intro wz hk
  have hbz : Hid (Below w.heap.size w wz) := hB0.out.trans (hk.below.mono hB0.out.size)
  have q0 : wz.cell? ⟨b, 0, none⟩ = some (.int .i64 0) := hk.cell (by omega) p0
  have q1 : wz.cell? ⟨b, 1, none⟩ = some (.int .i64 0) := hk.cell (by omega) p1
  have y0 : wz.frozen? ⟨b, 0, none⟩ = false := hk.frozen (by omega) z0
  have y1 : wz.frozen? ⟨b, 1, none⟩ = false := hk.frozen (by omega) z1
  have hzs : b < wz.heap.size := by have := hk.below.size; omega
  clear hk p0 p1 z0 z1 hB0 hW hWs O TO e0 hsl
  go_wp2
  have r0 : ∀ o, (((wz.setCell ⟨b, 0, none⟩ (.int .i64 0)).setCell ⟨b, 1, none⟩ (.int .i64 0)).alloc o).cell? ⟨b, 0, none⟩ = some (.int .i64 0) := fun o => pastCell (by first | exact hzs | (simp; exact hzs)) (by simp [go_sem, q0])
  have r1 : ∀ o, (((wz.setCell ⟨b, 0, none⟩ (.int .i64 0)).setCell ⟨b, 1, none⟩ (.int .i64 0)).alloc o).cell? ⟨b, 1, none⟩ = some (.int .i64 0) := fun o => pastCell (by first | exact hzs | (simp; exact hzs)) (by simp [go_sem, q1])
  refine bodyPost_ret (v := .tuple #[.agg #[.int .i64 0, .int .i64 0], .int .i64 0]) (by simp [results, Try.results21, go_sem, r0, r1]) rfl ⟨rfl, ?_⟩
  exact (((hbz.out.setCell (by simp; omega) _).setCell (by simp; omega) _).alloc (by first | exact hbz.out.size | (simp; exact hbz.out.size)) _)

set_option maxRecDepth 100000 in
set_option maxHeartbeats 1600000 in
theorem takeIns_bad (c : ByteArray) (op a : Int) (t : Nat) (ov : Value) (h0 : 0 < c.size) (hop : bt c 0 = op) (hlo : 0 ≤ op) (hhi : op ≤ 255) (_ht : t ≤ 1048576)
    (O : ∀ w : World, Calls Try.prog 18 #[.int .i64 op] w fun e w' => e = .returned ov ∧ w' = w)
    (TO : ∀ w : World, Calls Try.prog 38 #[.string (c.extract 1 c.size), ov] w fun e w' => e = .returned (.tuple #[.int .i64 a, .int .i64 (t : Int), .bool true]) ∧ Below w.heap.size w w')
    (GI : Hid (∀ w : World, Calls Try.prog 28 #[.agg #[.int .i64 op, .int .i64 a]] w fun e w' => e = .returned (.bool false) ∧ Below w.heap.size w w')) (w : World) :
    Calls Try.prog 21 #[.string c] w fun e w' => e = .returned (.tuple #[.agg #[.int .i64 0, .int .i64 0], .int .i64 0]) ∧ Below w.heap.size w w' := by
  obtain ⟨b, hbs⟩ : ∃ b, w.heap.size = b := ⟨_, rfl⟩
  obtain ⟨W, hW⟩ : ∃ W, w.alloc (.cells #[.int .i64 0, .int .i64 0] 37) = W := ⟨_, rfl⟩
  have hWs : W.heap.size = b + 1 := by rw [← hW]; simp; omega
  have hB0 : Hid (Below w.heap.size w W) := by unfold Hid; rw [← hW]; exact (Below.refl _ _).alloc (Nat.le_refl _) _
  have p0 : W.cell? ⟨b, 0, none⟩ = some (.int .i64 0) := by rw [← hW, ← hbs]; simp
  have p1 : W.cell? ⟨b, 1, none⟩ = some (.int .i64 0) := by rw [← hW, ← hbs]; simp
  have z0 : W.frozen? ⟨b, 0, none⟩ = false := by rw [← hW, ← hbs]; simp
  have z1 : W.frozen? ⟨b, 1, none⟩ = false := by rw [← hW, ← hbs]; simp
  have e0 := get_bt c 0 h0
  rw [hop] at e0
  have hsl : ∀ wx : World, (Instr.slice 9 (.string c) (some (.int .i64 1)) none none).run Try.prog wx = .ok (.string (c.extract 1 c.size)) wx := fun wx => slice_from (P := Try.prog) 9 Try.underlying9 c 1 (by omega) wx
  clear hop
  go_enter Try.func21, Try.ntmps21
  go_wp2_with fail
  refine region_q (C := Keeps W) (by kernel_rfl) (by kernel_rfl) (by first | exact Keeps.drew W | (rw [← hW]; exact Keeps.drew _)) ?_
  (iterate 12
    (apply wpQuiet_go _ (by rfl)
     · intro wq hq
       go_simp
       first
         | (go_at_call 18; exact qsame hq (O _))
         | (go_at_call 38; exact qcall hq (TO _))
         | exact rfl
     simp only [Act.put, List.setIfInBounds_toArray, List.set_cons_succ, List.set_cons_zero]))
  refine wpQuiet_nil ?_
  intro wz hk
  have hbz : Hid (Below w.heap.size w wz) := hB0.out.trans (hk.below.mono hB0.out.size)
  have q0 : wz.cell? ⟨b, 0, none⟩ = some (.int .i64 0) := hk.cell (by omega) p0
  have q1 : wz.cell? ⟨b, 1, none⟩ = some (.int .i64 0) := hk.cell (by omega) p1
  have y0 : wz.frozen? ⟨b, 0, none⟩ = false := hk.frozen (by omega) z0
  have y1 : wz.frozen? ⟨b, 1, none⟩ = false := hk.frozen (by omega) z1
  have hzs : b < wz.heap.size := by have := hk.below.size; omega
  clear hk p0 p1 z0 z1 hB0 hW hWs O TO e0 hsl
  go_wp2_with fail
  refine (GI.out _).mono ?_
  rintro e w2 ⟨rfl, hb2⟩
  have hb2s := hb2.size
  simp at hb2s
  have r0 : w2.cell? ⟨b, 0, none⟩ = some (.int .i64 0) := keepCell hb2 (by simp; omega) (pastCell hzs q0)
  have r1 : w2.cell? ⟨b, 1, none⟩ = some (.int .i64 0) := keepCell hb2 (by simp; omega) (pastCell hzs q1)
  have x0 : w2.frozen? ⟨b, 0, none⟩ = false := keepFree hb2 (by simp; omega) (pastFree hzs y0)
  have x1 : w2.frozen? ⟨b, 1, none⟩ = false := keepFree hb2 (by simp; omega) (pastFree hzs y1)
  have s0 : w2.cell? ⟨wz.heap.size, 0, none⟩ = some (.int .i64 op) := (hb2.cell (p := ⟨wz.heap.size, 0, none⟩) (by simp)).trans (by simp)
  have s1 : w2.cell? ⟨wz.heap.size, 1, none⟩ = some (.int .i64 a) := (hb2.cell (p := ⟨wz.heap.size, 1, none⟩) (by simp)).trans (by simp)
  have hbw : Hid (Below w.heap.size w w2) := below2 (hbz.out.alloc hbz.out.size _) hb2
  clear hb2 q0 q1 y0 y1
  go_wp2
  refine bodyPost_ret (v := .tuple #[.agg #[.int .i64 0, .int .i64 0], .int .i64 0]) (by simp [results, Try.results21, go_sem, r0, r1]) rfl ⟨rfl, ?_⟩
  exact (hbw.out.setCell (by simp; omega) _).setCell (by simp; omega) _

set_option maxRecDepth 100000 in
set_option maxHeartbeats 1600000 in
theorem takeIns_good (c : ByteArray) (op a : Int) (t : Nat) (ov : Value) (h0 : 0 < c.size) (hop : bt c 0 = op) (hlo : 0 ≤ op) (hhi : op ≤ 255) (ht : t ≤ 1048576)
    (O : ∀ w : World, Calls Try.prog 18 #[.int .i64 op] w fun e w' => e = .returned ov ∧ w' = w)
    (TO : ∀ w : World, Calls Try.prog 38 #[.string (c.extract 1 c.size), ov] w fun e w' => e = .returned (.tuple #[.int .i64 a, .int .i64 (t : Int), .bool true]) ∧ Below w.heap.size w w')
    (GI : Hid (∀ w : World, Calls Try.prog 28 #[.agg #[.int .i64 op, .int .i64 a]] w fun e w' => e = .returned (.bool true) ∧ Below w.heap.size w w')) (w : World) :
    Calls Try.prog 21 #[.string c] w fun e w' => e = .returned (.tuple #[.agg #[.int .i64 op, .int .i64 a], .int .i64 (1 + (t : Int))]) ∧ Below w.heap.size w w' := by
  obtain ⟨b, hbs⟩ : ∃ b, w.heap.size = b := ⟨_, rfl⟩
  obtain ⟨W, hW⟩ : ∃ W, w.alloc (.cells #[.int .i64 0, .int .i64 0] 37) = W := ⟨_, rfl⟩
  have hWs : W.heap.size = b + 1 := by rw [← hW]; simp; omega
  have hB0 : Hid (Below w.heap.size w W) := by unfold Hid; rw [← hW]; exact (Below.refl _ _).alloc (Nat.le_refl _) _
  have p0 : W.cell? ⟨b, 0, none⟩ = some (.int .i64 0) := by rw [← hW, ← hbs]; simp
  have p1 : W.cell? ⟨b, 1, none⟩ = some (.int .i64 0) := by rw [← hW, ← hbs]; simp
  have z0 : W.frozen? ⟨b, 0, none⟩ = false := by rw [← hW, ← hbs]; simp
  have z1 : W.frozen? ⟨b, 1, none⟩ = false := by rw [← hW, ← hbs]; simp
  have e0 := get_bt c 0 h0
  rw [hop] at e0
  have hsl : ∀ wx : World, (Instr.slice 9 (.string c) (some (.int .i64 1)) none none).run Try.prog wx = .ok (.string (c.extract 1 c.size)) wx := fun wx => slice_from (P := Try.prog) 9 Try.underlying9 c 1 (by omega) wx
  clear hop
  go_enter Try.func21, Try.ntmps21
  go_wp2_with fail
  refine region_q (C := Keeps W) (by kernel_rfl) (by kernel_rfl) (by first | exact Keeps.drew W | (rw [← hW]; exact Keeps.drew _)) ?_
  (iterate 12
    (apply wpQuiet_go _ (by rfl)
     · intro wq hq
       go_simp
       first
         | (go_at_call 18; exact qsame hq (O _))
         | (go_at_call 38; exact qcall hq (TO _))
         | exact rfl
     simp only [Act.put, List.setIfInBounds_toArray, List.set_cons_succ, List.set_cons_zero]))
  refine wpQuiet_nil ?_
  intro wz hk
  have hbz : Hid (Below w.heap.size w wz) := hB0.out.trans (hk.below.mono hB0.out.size)
  have q0 : wz.cell? ⟨b, 0, none⟩ = some (.int .i64 0) := hk.cell (by omega) p0
  have q1 : wz.cell? ⟨b, 1, none⟩ = some (.int .i64 0) := hk.cell (by omega) p1
  have y0 : wz.frozen? ⟨b, 0, none⟩ = false := hk.frozen (by omega) z0
  have y1 : wz.frozen? ⟨b, 1, none⟩ = false := hk.frozen (by omega) z1
  have hzs : b < wz.heap.size := by have := hk.below.size; omega
  clear hk p0 p1 z0 z1 hB0 hW hWs O TO e0 hsl
  go_wp2_with fail
  refine (GI.out _).mono ?_
  rintro e w2 ⟨rfl, hb2⟩
  have hb2s := hb2.size
  simp at hb2s
  have r0 : w2.cell? ⟨b, 0, none⟩ = some (.int .i64 0) := keepCell hb2 (by simp; omega) (pastCell hzs q0)
  have r1 : w2.cell? ⟨b, 1, none⟩ = some (.int .i64 0) := keepCell hb2 (by simp; omega) (pastCell hzs q1)
  have x0 : w2.frozen? ⟨b, 0, none⟩ = false := keepFree hb2 (by simp; omega) (pastFree hzs y0)
  have x1 : w2.frozen? ⟨b, 1, none⟩ = false := keepFree hb2 (by simp; omega) (pastFree hzs y1)
  have s0 : w2.cell? ⟨wz.heap.size, 0, none⟩ = some (.int .i64 op) := (hb2.cell (p := ⟨wz.heap.size, 0, none⟩) (by simp)).trans (by simp)
  have s1 : w2.cell? ⟨wz.heap.size, 1, none⟩ = some (.int .i64 a) := (hb2.cell (p := ⟨wz.heap.size, 1, none⟩) (by simp)).trans (by simp)
  have hbw : Hid (Below w.heap.size w w2) := below2 (hbz.out.alloc hbz.out.size _) hb2
  clear hb2 q0 q1 y0 y1
  go_wp2
  refine bodyPost_ret (v := .tuple #[.agg #[.int .i64 op, .int .i64 a], .int .i64 (1 + (t : Int))]) (by simp [results, Try.results21, go_sem, r0, r1]) rfl ⟨rfl, ?_⟩
  exact (hbw.out.setCell (by simp; omega) _).setCell (by simp; omega) _

end Go.Proofs.Ytdalkbapfjpkoaa
