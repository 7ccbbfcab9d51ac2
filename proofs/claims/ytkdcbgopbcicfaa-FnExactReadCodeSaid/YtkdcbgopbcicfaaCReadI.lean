/-
  Reading one instruction: the program's own side.
-/
import Derived.Test.YtkdcbgopbcicfaaCRead
import Derived.Test.YtkdcbgopbcicfaaCAssert
namespace Go.Proofs.Ytkdcbgopbcicfaa
open Go.ChangeShapes Go.WideShapes Go.ChangeAt Go.RowKit Go.PlainAid

theorem slice_front {P : Program} (T : TypeId) (hu : P.underlying T = some .string) (s : ByteArray) (n : Nat) (h : n ≤ s.size) (wx : World) :
    (Instr.slice T (.string s) none (some (.int .i64 (n : Int))) none).run P wx = .ok (.string (s.extract 0 n)) wx := by
  have H := run_slice_string_to_if (P := P) (w := wx) T s .i64 (n : Int) hu
  have e : ((n : Int)).toNat = n := by omega
  rw [e, if_pos (by omega)] at H
  exact H
theorem slice_from {P : Program} (T : TypeId) (hu : P.underlying T = some .string) (s : ByteArray) (n : Nat) (h : n ≤ s.size) (wx : World) :
    (Instr.slice T (.string s) (some (.int .i64 (n : Int))) none none).run P wx = .ok (.string (s.extract n s.size)) wx := by
  have H := run_slice_string_from_if (P := P) (w := wx) T s .i64 (n : Int) hu
  have e : ((n : Int)).toNat = n := by omega
  rw [e, if_pos (by omega)] at H
  exact H
theorem bt_front (s : ByteArray) (n k : Nat) (h : k < n) : bt (s.extract 0 n) k = bt s k := by
  rw [bt_list, bt_list]
  simp only [ByteArray.data_extract, Array.toList_extract, List.extract_eq_take_drop]
  simp [List.getD, h]

set_option maxRecDepth 100000 in
set_option maxHeartbeats 800000 in
theorem takeFixed_no (r : ByteArray) (n : Nat) (h : r.size < n) (w : World) :
    Calls Try.prog 55 #[.string r, .int .i64 (n : Int)] w fun e w' => e = .returned (.tuple #[.int .i64 0, .int .i64 0, .bool false]) ∧ w' = w := by
  go_enter Try.func55, Try.ntmps55
  go_wp2
  refine bodyPost_ret (v := .tuple #[.int .i64 0, .int .i64 0, .bool false]) (by simp [results, Try.results55, go_sem]) rfl ⟨rfl, rfl⟩

set_option maxRecDepth 100000 in
set_option maxHeartbeats 800000 in
theorem takeFixed_yes (r : ByteArray) (n : Nat) (h : n ≤ r.size) (hn : n ≤ 4) (w : World) :
    Calls Try.prog 55 #[.string r, .int .i64 (n : Int)] w fun e w' => e = .returned (.tuple #[.int .i64 (leN (r.extract 0 n) n : Nat), .int .i64 (n : Int), .bool true]) ∧ w' = w := by
  have hsl := slice_front (P := Try.prog) 9 Try.underlying9 r n h
  have hsz : (r.extract 0 n).size = n := by simp [ByteArray.size_extract]; omega
  have N := numberOf (r.extract 0 n) (by omega)
  rw [hsz] at N
  have hl := leN_lt (r.extract 0 n) n
  have hp : 2 ^ (8 * n) ≤ 2 ^ 32 := Nat.pow_le_pow_right (by omega) (by omega)
  have hl2 : leN (r.extract 0 n) n < 4294967296 := by omega
  clear hl hp
  obtain ⟨X, hX⟩ : ∃ X : Int, ((leN (r.extract 0 n) n : Nat) : Int) = X := ⟨_, rfl⟩
  rw [hX] at N ⊢
  have hw : wrap64 X = X := by unfold wrap64; omega
  have hw2 : IntKind.i64.wrap X = X := IntWalk.i64_in _ ⟨by omega, by omega⟩
  have hlt : ¬ (r.size : Int) < n := by omega
  clear hX hl2 hsz
  go_enter Try.func55, Try.ntmps55
  go_wp2_with (go_at_call 60; refine (N _).mono ?_; rintro e w1 ⟨rfl, hww⟩; obtain rfl := hww.symm)
  refine bodyPost_ret (v := .tuple #[.int .i64 X, .int .i64 (n : Int), .bool true]) (by simp [results, Try.results55, go_sem]) rfl ⟨rfl, rfl⟩

set_option maxRecDepth 100000 in
set_option maxHeartbeats 1600000 in
theorem takeOperand_eq (r : ByteArray) (hr : r.size ≤ 1048576) (k : Int) (hk : k = 0 ∨ k = 1 ∨ k = 2 ∨ k = 3 ∨ k = 4 ∨ k = 5 ∨ k = 6 ∨ k = -1) (w : World) :
    Calls Try.prog 50 #[.string r, opv k] w fun e w' => e = .returned (.tuple #[.int .i64 (tk r k).1, .int .i64 ((tk r k).2.1 : Nat), .bool (tk r k).2.2]) ∧ Below w.heap.size w w' := by
  rcases hk with rfl | rfl | rfl | rfl | rfl | rfl | rfl | rfl
  · have e : opv 0 = .iface 72 (.agg #[]) := rfl
    rw [e]
    clear e
    have t0 := ta_noOperand_noOperand (.agg #[])
    go_enter Try.func50, Try.ntmps50
    go_wp2
    refine bodyPost_ret (v := .tuple #[.int .i64 0, .int .i64 0, .bool true]) (by simp [results, Try.results50, go_sem]) rfl ⟨rfl, ?_⟩
    (repeat (first | refine Below.alloc ?_ (by first | (simp; done) | (simp; omega)) _ | refine Below.setCell ?_ (by first | (simp; done) | (simp; omega)) _ | refine bel_dN ?_ _ | refine Below.drew ?_ | exact Below.refl _ _))
  · have e : opv 1 = .iface 68 (.agg #[]) := rfl
    rw [e]
    clear e
    have t0 := ta_blockType_noOperand (.agg #[])
    have t1 := ta_blockType_blockType (.agg #[])
    by_cases hs : r.size < 1
    · have e : tk r 1 = (0, 0, false) := if_pos hs
      rw [e]
      have F : ∀ w : World, Calls Try.prog 55 #[.string r, .int .i64 1] w fun e w' => e = .returned (.tuple #[.int .i64 0, .int .i64 0, .bool false]) ∧ w' = w := fun w => takeFixed_no r 1 hs w
      clear e hs hr
      go_enter Try.func50, Try.ntmps50
      go_wp2_with (go_at_call 55; refine (F _).mono ?_; rintro e w1 ⟨rfl, hww⟩; obtain rfl := hww.symm)
      refine bodyPost_ret (v := .tuple #[.int .i64 0, .int .i64 0, .bool false]) (by simp [results, Try.results50, go_sem]) rfl ⟨rfl, ?_⟩
      (repeat (first | refine Below.alloc ?_ (by first | (simp; done) | (simp; omega)) _ | refine Below.setCell ?_ (by first | (simp; done) | (simp; omega)) _ | refine bel_dN ?_ _ | refine Below.drew ?_ | exact Below.refl _ _))
    · have e : tk r 1 = (bt r 0, 1, true) := if_neg hs
      rw [e]
      have F : ∀ w : World, Calls Try.prog 55 #[.string r, .int .i64 1] w fun e w' => e = .returned (.tuple #[.int .i64 (bt r 0), .int .i64 1, .bool true]) ∧ w' = w := fun w => by
        have H := takeFixed_yes r 1 (by omega) (by omega) w
        have e1 : ((leN (r.extract 0 1) 1 : Nat) : Int) = bt r 0 := by
          have h0 := bt_nonneg r 0
          have e2 : leN (r.extract 0 1) 1 = 0 + (bt (r.extract 0 1) 0).toNat * 2 ^ (8 * 0) := rfl
          rw [e2, bt_front r 1 0 (by omega)]
          omega
        rw [e1] at H
        exact H
      clear e hs hr
      generalize bt r 0 = X at F ⊢
      go_enter Try.func50, Try.ntmps50
      go_wp2_with (go_at_call 55; refine (F _).mono ?_; rintro e w1 ⟨rfl, hww⟩; obtain rfl := hww.symm)
      refine bodyPost_ret (v := .tuple #[.int .i64 X, .int .i64 1, .bool true]) (by simp [results, Try.results50, go_sem]) rfl ⟨rfl, ?_⟩
      (repeat (first | refine Below.alloc ?_ (by first | (simp; done) | (simp; omega)) _ | refine Below.setCell ?_ (by first | (simp; done) | (simp; omega)) _ | refine bel_dN ?_ _ | refine Below.drew ?_ | exact Below.refl _ _))
  · have e : opv 2 = .iface 69 (.int .i64 1000) := rfl
    rw [e]
    clear e
    have t0 := ta_upTo_noOperand (.int .i64 1000)
    have t1 := ta_upTo_blockType (.int .i64 1000)
    have t2 := ta_upTo_upTo (.int .i64 1000)
    have F := implTakeU r 32 hr (by omega) (by omega)
    have e : tk r 2 = (wrap64 (tu r 32).1, (tu r 32).2, decide ((0 : Int) < (tu r 32).2)) := rfl
    rw [e]
    clear e hr
    generalize tu r 32 = p at F ⊢
    obtain ⟨n, t⟩ := p
    simp only at F ⊢
    obtain ⟨c, hc⟩ : ∃ c, decide ((0 : Int) < (t : Int)) = c := ⟨_, rfl⟩
    have hc2 : decide (0 < t) = c := by rw [← hc]; simp
    rw [hc]
    have HF : Hid (∀ w : World, Calls Try.prog 56 #[.string r, .int .i64 32] w fun e w' => e = .returned (.tuple #[.int .u64 n, .int .i64 t]) ∧ ∃ n, w' = w.drewN n) := F
    clear F
    go_enter Try.func50, Try.ntmps50
    go_wp2_with (go_at_call 56; refine (HF.out _).mono ?_; rintro e w1 ⟨rfl, nd, hww⟩; subst hww)
    refine bodyPost_ret (v := .tuple #[.int .i64 (wrap64 n), .int .i64 (t : Int), .bool c]) (by simp [results, Try.results50, go_sem]) rfl ⟨rfl, ?_⟩
    (repeat (first | refine Below.alloc ?_ (by first | (simp; done) | (simp; omega)) _ | refine Below.setCell ?_ (by first | (simp; done) | (simp; omega)) _ | refine bel_dN ?_ _ | refine Below.drew ?_ | exact Below.refl _ _))
  · have e : opv 3 = .iface 69 (.int .i64 10000) := rfl
    rw [e]
    clear e
    have t0 := ta_upTo_noOperand (.int .i64 10000)
    have t1 := ta_upTo_blockType (.int .i64 10000)
    have t2 := ta_upTo_upTo (.int .i64 10000)
    have F := implTakeU r 32 hr (by omega) (by omega)
    have e : tk r 3 = (wrap64 (tu r 32).1, (tu r 32).2, decide ((0 : Int) < (tu r 32).2)) := rfl
    rw [e]
    clear e hr
    generalize tu r 32 = p at F ⊢
    obtain ⟨n, t⟩ := p
    simp only at F ⊢
    obtain ⟨c, hc⟩ : ∃ c, decide ((0 : Int) < (t : Int)) = c := ⟨_, rfl⟩
    have hc2 : decide (0 < t) = c := by rw [← hc]; simp
    rw [hc]
    have HF : Hid (∀ w : World, Calls Try.prog 56 #[.string r, .int .i64 32] w fun e w' => e = .returned (.tuple #[.int .u64 n, .int .i64 t]) ∧ ∃ n, w' = w.drewN n) := F
    clear F
    go_enter Try.func50, Try.ntmps50
    go_wp2_with (go_at_call 56; refine (HF.out _).mono ?_; rintro e w1 ⟨rfl, nd, hww⟩; subst hww)
    refine bodyPost_ret (v := .tuple #[.int .i64 (wrap64 n), .int .i64 (t : Int), .bool c]) (by simp [results, Try.results50, go_sem]) rfl ⟨rfl, ?_⟩
    (repeat (first | refine Below.alloc ?_ (by first | (simp; done) | (simp; omega)) _ | refine Below.setCell ?_ (by first | (simp; done) | (simp; omega)) _ | refine bel_dN ?_ _ | refine Below.drew ?_ | exact Below.refl _ _))
  · have e : opv 4 = .iface 70 (.int .i64 32) := rfl
    rw [e]
    clear e
    have t0 := ta_signedBits_noOperand (.int .i64 32)
    have t1 := ta_signedBits_blockType (.int .i64 32)
    have t2 := ta_signedBits_upTo (.int .i64 32)
    have t3 := ta_signedBits_signedBits (.int .i64 32)
    have F := implTakeS r 32 hr (by omega) (by omega)
    have e : tk r 4 = ((ts r 32).1, (ts r 32).2, decide ((0 : Int) < (ts r 32).2)) := rfl
    rw [e]
    clear e hr
    generalize ts r 32 = p at F ⊢
    obtain ⟨n, t⟩ := p
    simp only at F ⊢
    obtain ⟨c, hc⟩ : ∃ c, decide ((0 : Int) < (t : Int)) = c := ⟨_, rfl⟩
    have hc2 : decide (0 < t) = c := by rw [← hc]; simp
    rw [hc]
    have HF : Hid (∀ w : World, Calls Try.prog 57 #[.string r, .int .i64 32] w fun e w' => e = .returned (.tuple #[.int .i64 n, .int .i64 t]) ∧ w' = w) := F
    clear F
    go_enter Try.func50, Try.ntmps50
    go_wp2_with (go_at_call 57; refine (HF.out _).mono ?_; rintro e w1 ⟨rfl, hww⟩; obtain rfl := hww.symm)
    refine bodyPost_ret (v := .tuple #[.int .i64 n, .int .i64 (t : Int), .bool c]) (by simp [results, Try.results50, go_sem]) rfl ⟨rfl, ?_⟩
    (repeat (first | refine Below.alloc ?_ (by first | (simp; done) | (simp; omega)) _ | refine Below.setCell ?_ (by first | (simp; done) | (simp; omega)) _ | refine bel_dN ?_ _ | refine Below.drew ?_ | exact Below.refl _ _))
  · have e : opv 5 = .iface 70 (.int .i64 64) := rfl
    rw [e]
    clear e
    have t0 := ta_signedBits_noOperand (.int .i64 64)
    have t1 := ta_signedBits_blockType (.int .i64 64)
    have t2 := ta_signedBits_upTo (.int .i64 64)
    have t3 := ta_signedBits_signedBits (.int .i64 64)
    have F := implTakeS r 64 hr (by omega) (by omega)
    have e : tk r 5 = ((ts r 64).1, (ts r 64).2, decide ((0 : Int) < (ts r 64).2)) := rfl
    rw [e]
    clear e hr
    generalize ts r 64 = p at F ⊢
    obtain ⟨n, t⟩ := p
    simp only at F ⊢
    obtain ⟨c, hc⟩ : ∃ c, decide ((0 : Int) < (t : Int)) = c := ⟨_, rfl⟩
    have hc2 : decide (0 < t) = c := by rw [← hc]; simp
    rw [hc]
    have HF : Hid (∀ w : World, Calls Try.prog 57 #[.string r, .int .i64 64] w fun e w' => e = .returned (.tuple #[.int .i64 n, .int .i64 t]) ∧ w' = w) := F
    clear F
    go_enter Try.func50, Try.ntmps50
    go_wp2_with (go_at_call 57; refine (HF.out _).mono ?_; rintro e w1 ⟨rfl, hww⟩; obtain rfl := hww.symm)
    refine bodyPost_ret (v := .tuple #[.int .i64 n, .int .i64 (t : Int), .bool c]) (by simp [results, Try.results50, go_sem]) rfl ⟨rfl, ?_⟩
    (repeat (first | refine Below.alloc ?_ (by first | (simp; done) | (simp; omega)) _ | refine Below.setCell ?_ (by first | (simp; done) | (simp; omega)) _ | refine bel_dN ?_ _ | refine Below.drew ?_ | exact Below.refl _ _))
  · have e : opv 6 = .iface 71 (.agg #[]) := rfl
    rw [e]
    clear e
    have t0 := ta_floatBits_noOperand (.agg #[])
    have t1 := ta_floatBits_blockType (.agg #[])
    have t2 := ta_floatBits_upTo (.agg #[])
    have t3 := ta_floatBits_signedBits (.agg #[])
    have t4 := ta_floatBits_floatBits (.agg #[])
    by_cases hs : r.size < 4
    · have e : tk r 6 = (0, 0, false) := if_pos hs
      rw [e]
      have F : ∀ w : World, Calls Try.prog 55 #[.string r, .int .i64 4] w fun e w' => e = .returned (.tuple #[.int .i64 0, .int .i64 0, .bool false]) ∧ w' = w := fun w => takeFixed_no r 4 hs w
      clear e hs hr
      go_enter Try.func50, Try.ntmps50
      go_wp2_with (go_at_call 55; refine (F _).mono ?_; rintro e w1 ⟨rfl, hww⟩; obtain rfl := hww.symm)
      refine bodyPost_ret (v := .tuple #[.int .i64 0, .int .i64 0, .bool false]) (by simp [results, Try.results50, go_sem]) rfl ⟨rfl, ?_⟩
      (repeat (first | refine Below.alloc ?_ (by first | (simp; done) | (simp; omega)) _ | refine Below.setCell ?_ (by first | (simp; done) | (simp; omega)) _ | refine bel_dN ?_ _ | refine Below.drew ?_ | exact Below.refl _ _))
    · have e : tk r 6 = (((leN (r.extract 0 4) 4 : Nat) : Int), 4, true) := if_neg hs
      rw [e]
      have F : ∀ w : World, Calls Try.prog 55 #[.string r, .int .i64 4] w fun e w' => e = .returned (.tuple #[.int .i64 ((leN (r.extract 0 4) 4 : Nat)), .int .i64 4, .bool true]) ∧ w' = w := fun w => by
        have H := takeFixed_yes r 4 (by omega) (by omega) w
        exact H
      clear e hs hr
      generalize ((leN (r.extract 0 4) 4 : Nat) : Int) = X at F ⊢
      go_enter Try.func50, Try.ntmps50
      go_wp2_with (go_at_call 55; refine (F _).mono ?_; rintro e w1 ⟨rfl, hww⟩; obtain rfl := hww.symm)
      refine bodyPost_ret (v := .tuple #[.int .i64 X, .int .i64 4, .bool true]) (by simp [results, Try.results50, go_sem]) rfl ⟨rfl, ?_⟩
      (repeat (first | refine Below.alloc ?_ (by first | (simp; done) | (simp; omega)) _ | refine Below.setCell ?_ (by first | (simp; done) | (simp; omega)) _ | refine bel_dN ?_ _ | refine Below.drew ?_ | exact Below.refl _ _))
  · have e : opv (-1) = .nilIface := rfl
    rw [e]
    clear e hr
    have t0 := ta_nil_noOperand
    have t1 := ta_nil_blockType
    have t2 := ta_nil_upTo
    have t3 := ta_nil_signedBits
    have t4 := ta_nil_floatBits
    go_enter Try.func50, Try.ntmps50
    go_wp2
    refine bodyPost_ret (v := .tuple #[.int .i64 0, .int .i64 0, .bool false]) (by simp [results, Try.results50, go_sem]) rfl ⟨rfl, ?_⟩
    (repeat (first | refine Below.alloc ?_ (by first | (simp; done) | (simp; omega)) _ | refine Below.setCell ?_ (by first | (simp; done) | (simp; omega)) _ | refine bel_dN ?_ _ | refine Below.drew ?_ | exact Below.refl _ _))

end Go.Proofs.Ytkdcbgopbcicfaa
