/-
  Which type an operand is of: by its value.
-/
import Derived.Test.YtokaljglaholnaaRows
import Derived.WalkKit
import Derived.Test.YtokaljglaholnaaCBytes
import Derived.Test.YtokaljglaholnaaCAll
import Derived.Test.YtokaljglaholnaaCKeep
namespace Go.Proofs.Ytokaljglaholnaa
open Go.RowKit

theorem ta_blockType_blockType (v : Value) (w : World) : (Instr.typeAssert (.iface 105 v) 114 105 true).run Try.prog w = .ok (.tuple #[v, .bool true]) w := by kernel_rfl
theorem ta_blockType_upTo (v : Value) (w : World) : (Instr.typeAssert (.iface 105 v) 114 133 true).run Try.prog w = .ok (.tuple #[.int .i64 0, .bool false]) w := by kernel_rfl
theorem ta_blockType_signedBits (v : Value) (w : World) : (Instr.typeAssert (.iface 105 v) 114 134 true).run Try.prog w = .ok (.tuple #[.int .i64 0, .bool false]) w := by kernel_rfl
theorem ta_blockType_floatBits (v : Value) (w : World) : (Instr.typeAssert (.iface 105 v) 114 135 true).run Try.prog w = .ok (.tuple #[.agg #[], .bool false]) w := by kernel_rfl
theorem ta_blockType_noOperand (v : Value) (w : World) : (Instr.typeAssert (.iface 105 v) 114 136 true).run Try.prog w = .ok (.tuple #[.agg #[], .bool false]) w := by kernel_rfl
theorem ta_upTo_blockType (v : Value) (w : World) : (Instr.typeAssert (.iface 133 v) 114 105 true).run Try.prog w = .ok (.tuple #[.agg #[], .bool false]) w := by kernel_rfl
theorem ta_upTo_upTo (v : Value) (w : World) : (Instr.typeAssert (.iface 133 v) 114 133 true).run Try.prog w = .ok (.tuple #[v, .bool true]) w := by kernel_rfl
theorem ta_upTo_signedBits (v : Value) (w : World) : (Instr.typeAssert (.iface 133 v) 114 134 true).run Try.prog w = .ok (.tuple #[.int .i64 0, .bool false]) w := by kernel_rfl
theorem ta_upTo_floatBits (v : Value) (w : World) : (Instr.typeAssert (.iface 133 v) 114 135 true).run Try.prog w = .ok (.tuple #[.agg #[], .bool false]) w := by kernel_rfl
theorem ta_upTo_noOperand (v : Value) (w : World) : (Instr.typeAssert (.iface 133 v) 114 136 true).run Try.prog w = .ok (.tuple #[.agg #[], .bool false]) w := by kernel_rfl
theorem ta_signedBits_blockType (v : Value) (w : World) : (Instr.typeAssert (.iface 134 v) 114 105 true).run Try.prog w = .ok (.tuple #[.agg #[], .bool false]) w := by kernel_rfl
theorem ta_signedBits_upTo (v : Value) (w : World) : (Instr.typeAssert (.iface 134 v) 114 133 true).run Try.prog w = .ok (.tuple #[.int .i64 0, .bool false]) w := by kernel_rfl
theorem ta_signedBits_signedBits (v : Value) (w : World) : (Instr.typeAssert (.iface 134 v) 114 134 true).run Try.prog w = .ok (.tuple #[v, .bool true]) w := by kernel_rfl
theorem ta_signedBits_floatBits (v : Value) (w : World) : (Instr.typeAssert (.iface 134 v) 114 135 true).run Try.prog w = .ok (.tuple #[.agg #[], .bool false]) w := by kernel_rfl
theorem ta_signedBits_noOperand (v : Value) (w : World) : (Instr.typeAssert (.iface 134 v) 114 136 true).run Try.prog w = .ok (.tuple #[.agg #[], .bool false]) w := by kernel_rfl
theorem ta_floatBits_blockType (v : Value) (w : World) : (Instr.typeAssert (.iface 135 v) 114 105 true).run Try.prog w = .ok (.tuple #[.agg #[], .bool false]) w := by kernel_rfl
theorem ta_floatBits_upTo (v : Value) (w : World) : (Instr.typeAssert (.iface 135 v) 114 133 true).run Try.prog w = .ok (.tuple #[.int .i64 0, .bool false]) w := by kernel_rfl
theorem ta_floatBits_signedBits (v : Value) (w : World) : (Instr.typeAssert (.iface 135 v) 114 134 true).run Try.prog w = .ok (.tuple #[.int .i64 0, .bool false]) w := by kernel_rfl
theorem ta_floatBits_floatBits (v : Value) (w : World) : (Instr.typeAssert (.iface 135 v) 114 135 true).run Try.prog w = .ok (.tuple #[v, .bool true]) w := by kernel_rfl
theorem ta_floatBits_noOperand (v : Value) (w : World) : (Instr.typeAssert (.iface 135 v) 114 136 true).run Try.prog w = .ok (.tuple #[.agg #[], .bool false]) w := by kernel_rfl
theorem ta_noOperand_blockType (v : Value) (w : World) : (Instr.typeAssert (.iface 136 v) 114 105 true).run Try.prog w = .ok (.tuple #[.agg #[], .bool false]) w := by kernel_rfl
theorem ta_noOperand_upTo (v : Value) (w : World) : (Instr.typeAssert (.iface 136 v) 114 133 true).run Try.prog w = .ok (.tuple #[.int .i64 0, .bool false]) w := by kernel_rfl
theorem ta_noOperand_signedBits (v : Value) (w : World) : (Instr.typeAssert (.iface 136 v) 114 134 true).run Try.prog w = .ok (.tuple #[.int .i64 0, .bool false]) w := by kernel_rfl
theorem ta_noOperand_floatBits (v : Value) (w : World) : (Instr.typeAssert (.iface 136 v) 114 135 true).run Try.prog w = .ok (.tuple #[.agg #[], .bool false]) w := by kernel_rfl
theorem ta_noOperand_noOperand (v : Value) (w : World) : (Instr.typeAssert (.iface 136 v) 114 136 true).run Try.prog w = .ok (.tuple #[v, .bool true]) w := by kernel_rfl
theorem ta_nil_blockType (w : World) : (Instr.typeAssert .nilIface 114 105 true).run Try.prog w = .ok (.tuple #[.agg #[], .bool false]) w := by kernel_rfl
theorem ta_nil_upTo (w : World) : (Instr.typeAssert .nilIface 114 133 true).run Try.prog w = .ok (.tuple #[.int .i64 0, .bool false]) w := by kernel_rfl
theorem ta_nil_signedBits (w : World) : (Instr.typeAssert .nilIface 114 134 true).run Try.prog w = .ok (.tuple #[.int .i64 0, .bool false]) w := by kernel_rfl
theorem ta_nil_floatBits (w : World) : (Instr.typeAssert .nilIface 114 135 true).run Try.prog w = .ok (.tuple #[.agg #[], .bool false]) w := by kernel_rfl
theorem ta_nil_noOperand (w : World) : (Instr.typeAssert .nilIface 114 136 true).run Try.prog w = .ok (.tuple #[.agg #[], .bool false]) w := by kernel_rfl

end Go.Proofs.Ytokaljglaholnaa

namespace Go.Proofs.Ytokaljglaholnaa
open Go.ChangeShapes Go.WideShapes Go.ChangeAt Go.RowKit

set_option maxRecDepth 100000 in
set_option maxHeartbeats 1600000 in
theorem operandBytes_eq (k a : Int) (hk : k = 0 ∨ k = 1 ∨ k = 2 ∨ k = 3 ∨ k = 4 ∨ k = 5 ∨ k = 6) (hm : mayK k a = true) (h0 : -9223372036854775808 ≤ a) (h1 : a ≤ 9223372036854775807) (w : World) :
    Calls Try.prog 72 #[opv k, .int .i64 a] w fun e w' => e = .returned (.string ⟨(ob k a).toArray⟩) ∧ Below w.heap.size w w' := by
  rcases hk with rfl | rfl | rfl | rfl | rfl | rfl | rfl
  · have e : opv 0 = .iface 136 (.agg #[]) := rfl
    rw [e]
    clear e
    have t0 := ta_noOperand_blockType (.agg #[])
    have t1 := ta_noOperand_upTo (.agg #[])
    have t2 := ta_noOperand_signedBits (.agg #[])
    have t3 := ta_noOperand_floatBits (.agg #[])
    clear hm h0 h1
    go_enter Try.func72, Try.ntmps72
    go_wp2
    go_ret
    exact ⟨rfl, Below.refl _ _⟩
  · have e : opv 1 = .iface 105 (.agg #[]) := rfl
    rw [e]
    clear e
    have t0 := ta_blockType_blockType (.agg #[])
    obtain ⟨g0, g1⟩ := may_nat (by omega) hm
    obtain ⟨n, rfl⟩ : ∃ n : Nat, a = n := ⟨a.toNat, by omega⟩
    have hw : IntKind.u64.wrap (n : Int) = n := by rw [IntKind.wrap_u64]; omega
    have H : Hid (∀ w : World, Calls Try.prog 61 #[.int .u64 (n : Int), .int .i64 1] w fun e w' => e = .returned (.string ⟨(leB n 1).toArray⟩) ∧ Below w.heap.size w w') := fun w => numberBytes n 1 (by omega) w
    clear hm h0 h1
    clear g0 g1
    go_enter Try.func72, Try.ntmps72
    go_wp2_with (go_at_call 61; refine (H.out _).mono ?_; rintro e w1 ⟨rfl, hb⟩; clear H)
    go_ret
    exact ⟨rfl, by assumption⟩
  · have e : opv 2 = .iface 133 (.int .i64 1000) := rfl
    rw [e]
    clear e
    have t0 := ta_upTo_blockType (.int .i64 1000)
    have t1 := ta_upTo_upTo (.int .i64 1000)
    obtain ⟨g0, g1⟩ := may_nat (by omega) hm
    obtain ⟨n, rfl⟩ : ∃ n : Nat, a = n := ⟨a.toNat, by omega⟩
    have hw : IntKind.u64.wrap (n : Int) = n := by rw [IntKind.wrap_u64]; omega
    have H : Hid (∀ w : World, Calls Try.prog 59 #[.int .u64 (n : Int)] w fun e w' => e = .returned (.string ⟨(ul 10 n).toArray⟩) ∧ Below w.heap.size w w') := fun w => implUlebBytes n (by unfold Hid; omega) w
    clear hm h0 h1
    clear g0 g1
    go_enter Try.func72, Try.ntmps72
    go_wp2_with (go_at_call 59; refine (H.out _).mono ?_; rintro e w1 ⟨rfl, hb⟩; clear H)
    go_ret
    exact ⟨rfl, by assumption⟩
  · have e : opv 3 = .iface 133 (.int .i64 10000) := rfl
    rw [e]
    clear e
    have t0 := ta_upTo_blockType (.int .i64 10000)
    have t1 := ta_upTo_upTo (.int .i64 10000)
    obtain ⟨g0, g1⟩ := may_nat (by omega) hm
    obtain ⟨n, rfl⟩ : ∃ n : Nat, a = n := ⟨a.toNat, by omega⟩
    have hw : IntKind.u64.wrap (n : Int) = n := by rw [IntKind.wrap_u64]; omega
    have H : Hid (∀ w : World, Calls Try.prog 59 #[.int .u64 (n : Int)] w fun e w' => e = .returned (.string ⟨(ul 10 n).toArray⟩) ∧ Below w.heap.size w w') := fun w => implUlebBytes n (by unfold Hid; omega) w
    clear hm h0 h1
    clear g0 g1
    go_enter Try.func72, Try.ntmps72
    go_wp2_with (go_at_call 59; refine (H.out _).mono ?_; rintro e w1 ⟨rfl, hb⟩; clear H)
    go_ret
    exact ⟨rfl, by assumption⟩
  · have e : opv 4 = .iface 134 (.int .i64 32) := rfl
    rw [e]
    clear e
    have t0 := ta_signedBits_blockType (.int .i64 32)
    have t1 := ta_signedBits_upTo (.int .i64 32)
    have t2 := ta_signedBits_signedBits (.int .i64 32)
    have H : Hid (∀ w : World, Calls Try.prog 89 #[.int .i64 a] w fun e w' => e = .returned (.string ⟨(sl 10 a).toArray⟩) ∧ Below w.heap.size w w') := fun w => implSleb a (sfit_i64 a h0 h1) w
    clear hm h0 h1
    go_enter Try.func72, Try.ntmps72
    go_wp2_with (go_at_call 89; refine (H.out _).mono ?_; rintro e w1 ⟨rfl, hb⟩; clear H)
    go_ret
    exact ⟨rfl, by assumption⟩
  · have e : opv 5 = .iface 134 (.int .i64 64) := rfl
    rw [e]
    clear e
    have t0 := ta_signedBits_blockType (.int .i64 64)
    have t1 := ta_signedBits_upTo (.int .i64 64)
    have t2 := ta_signedBits_signedBits (.int .i64 64)
    have H : Hid (∀ w : World, Calls Try.prog 89 #[.int .i64 a] w fun e w' => e = .returned (.string ⟨(sl 10 a).toArray⟩) ∧ Below w.heap.size w w') := fun w => implSleb a (sfit_i64 a h0 h1) w
    clear hm h0 h1
    go_enter Try.func72, Try.ntmps72
    go_wp2_with (go_at_call 89; refine (H.out _).mono ?_; rintro e w1 ⟨rfl, hb⟩; clear H)
    go_ret
    exact ⟨rfl, by assumption⟩
  · have e : opv 6 = .iface 135 (.agg #[]) := rfl
    rw [e]
    clear e
    have t0 := ta_floatBits_blockType (.agg #[])
    have t1 := ta_floatBits_upTo (.agg #[])
    have t2 := ta_floatBits_signedBits (.agg #[])
    have t3 := ta_floatBits_floatBits (.agg #[])
    obtain ⟨g0, g1⟩ := may_nat (by omega) hm
    obtain ⟨n, rfl⟩ : ∃ n : Nat, a = n := ⟨a.toNat, by omega⟩
    have hw : IntKind.u64.wrap (n : Int) = n := by rw [IntKind.wrap_u64]; omega
    have H : Hid (∀ w : World, Calls Try.prog 61 #[.int .u64 (n : Int), .int .i64 4] w fun e w' => e = .returned (.string ⟨(leB n 4).toArray⟩) ∧ Below w.heap.size w w') := fun w => numberBytes n 4 (by omega) w
    clear hm h0 h1
    clear g0 g1
    go_enter Try.func72, Try.ntmps72
    go_wp2_with (go_at_call 61; refine (H.out _).mono ?_; rintro e w1 ⟨rfl, hb⟩; clear H)
    go_ret
    exact ⟨rfl, by assumption⟩

end Go.Proofs.Ytokaljglaholnaa

namespace Go.Proofs.Ytokaljglaholnaa
open Go.ChangeShapes Go.WideShapes Go.ChangeAt Go.RowKit

def codeRes (L : List (Int × Int)) : Value := if (allG L && decide (L.length ≤ 200)) = true then .tuple #[.string ⟨(cb L).toArray⟩, .bool true] else .tuple #[.string ⟨#[]⟩, .bool false]
theorem str_bv (l : List UInt8) : Lib.strCells ⟨l.toArray⟩ = bv l := by simp [Lib.strCells, bv]

set_option maxRecDepth 100000 in
set_option maxHeartbeats 3200000 in
theorem implCode (a : Option Addr) (b off cap : Nat) (L : List (Int × Int)) (w : World) (ha : Hid (L ≠ [] → a = some ⟨b, off, none⟩ ∧ b < w.heap.size)) (hL : insAt w b off L) (hf : fits L) (hlen : L.length ≤ 1048576) :
    Calls Try.prog 37 #[.slice a L.length cap] w fun e w' => e = .returned (codeRes L) ∧ Below w.heap.size w w' := by
  have HG := implAll a b off cap L w ha hL hf hlen
  obtain ⟨i0, hi, hz0, hz1, hz2⟩ := info_parts Try.info5
  by_cases hg : (allG L && decide (L.length ≤ 200)) = true
  · have hR : codeRes L = .tuple #[.string ⟨(cb L).toArray⟩, .bool true] := if_pos hg
    rw [hR, ← hR]
    rw [hg] at HG
    simp only [Bool.and_eq_true, decide_eq_true_eq] at hg
    obtain ⟨hg1, hg2⟩ := hg
    have HR : Hid (codeRes L = .tuple #[.string ⟨(cb L).toArray⟩, .bool true]) := hR
    have HA : Hid (allG L = true) := hg1
    clear hR hg1 hlen
    go_enter Try.func37, Try.ntmps37
    go_wp2_with (go_at_call 71; refine HG.mono ?_; rintro e w0 ⟨rfl, hb0⟩; clear HG)
    go_loopw [4, 12] (fun v i wr => ∃ (k : Nat) (cs : List UInt8), k ≤ L.length ∧ i = .int .i64 k ∧ Hid (cs = cb (L.take k)) ∧ cs.length ≤ 11 * k ∧ wr.ownsRow w.heap.size 5 1 v cs.length (bv cs) ∧ Below w.heap.size w wr) (fun _ i _ => L.length - (intOf i).toNat)
    case atStart => exact ⟨0, [], by omega, rfl, by simp [Hid, cb], by simp, World.ownsRow_nil _ _ _ _, hb0⟩
    case round =>
      clear hb0
      obtain ⟨k, cs, hk, rfl, hcs, hcl, hown, hnx⟩ := hrel
      have hsz := hnx.size
      by_cases hlt : k < L.length
      · obtain ⟨rfl, hb⟩ := ha.out (fun h => by simp [h] at hlt)
        have hc := hL k hlt
        have hfk := hf k hlt
        have hsn := cb_snoc L k hlt
        have hgk := allG_at L k hlt HA.out
        obtain ⟨x, hx⟩ : ∃ x, x = L[k] := ⟨_, rfl⟩
        rw [← hx] at hc hfk hsn hgk
        obtain ⟨op, y⟩ := x
        clear hx
        simp only at hc hfk hsn hgk
        have HS : Hid (cb (L.take (k + 1)) = (cs ++ [opByte op]) ++ ob (shp op) y) := by
          unfold Hid; rw [hsn, hcs.out]; simp [ib]
        clear hsn
        have hc0 : wr.cell? ⟨b, off + k * 2, none⟩ = some (.int .i64 op) := (hnx.cell (by exact hb)).trans hc.1
        have hc1 : wr.cell? ⟨b, off + k * 2 + 1, none⟩ = some (.int .i64 y) := (hnx.cell (by exact hb)).trans hc.2
        have O := operandOf_eq op
        have OB := operandBytes_eq (shp op) y (kinds_of hgk) hgk hfk.1 hfk.2
        have hol := ob_len (shp op) y
        generalize opv (shp op) = ov at O OB
        generalize ob (shp op) y = os at OB hol HS
        have hcl2 : cs.length ≤ 2200 := by omega
        have HO : Hid (∀ w : World, Calls Try.prog 73 #[.int .i64 op] w fun e w' => e = .returned ov ∧ w' = w) := O
        have HOB : Hid (∀ w : World, Calls Try.prog 72 #[ov, .int .i64 y] w fun e w' => e = .returned (.string ⟨os.toArray⟩) ∧ Below w.heap.size w w') := OB
        clear hc hfk hgk O OB
        go_wp2_with (at_builtin; refine wpList_append_own _ rfl _ _ 73 rfl w.heap.size 5 i0 (.int .u8 0) 1 1 Try.underlying73 hi hz0 hz1 hz2 rfl (by decide) _ _ _ rfl ((hown.alloc _).alloc _) ⟨wr.heap.size + 1, 0, none⟩ 1 1 (bv [opByte op]) rfl rfl ?c1 ?c2 ?c3 ?c4 ?c5 ?_)
        case c1 =>
          rw [← opByte_int]
          simp [bv]
        case c2 => exact bv_one _
        case c3 => unfold maxLen; omega
        case c4 => omega
        case c5 => omega
        intro v1 w1 hown1 hgrow1 _
        rw [bv_app] at hown1
        have hown1' : w1.ownsRow w.heap.size 5 1 v1 (cs ++ [opByte op]).length (bv (cs ++ [opByte op])) := by simpa using hown1
        have hb1 : Hid (Below w.heap.size w w1) := ((hnx.alloc hsz _).alloc (by simp; omega) _).grown hgrow1 (by simp; omega) (ownsRow_block hown)
        have hx1 := other_block (by decide) (hown.alloc (.cells #[.int .i64 op, .int .i64 y] 101)) hgrow1 (heap_alloc_new wr (.cells #[.int .i64 op, .int .i64 y] 101))
        have d0 : w1.cell? ⟨wr.heap.size, 0, none⟩ = some (.int .i64 op) := by rw [cell_of_block hx1]; rfl
        have d1 : w1.cell? ⟨wr.heap.size, 1, none⟩ = some (.int .i64 y) := by rw [cell_of_block hx1]; rfl
        have hlt1 := lt_of_block hx1
        have k0 : ∀ w, Keeps w1 w → w.cell? ⟨wr.heap.size, 0, none⟩ = some (.int .i64 op) := fun w h => h.cell hlt1 d0
        have k1 : ∀ w, Keeps w1 w → w.cell? ⟨wr.heap.size, 1, none⟩ = some (.int .i64 y) := fun w h => h.cell hlt1 d1
        have O : ∀ w : World, Calls Try.prog 73 #[.int .i64 op] w fun e w' => e = .returned ov ∧ w' = w := HO.out
        have OB : ∀ w : World, Calls Try.prog 72 #[ov, .int .i64 y] w fun e w' => e = .returned (.string ⟨os.toArray⟩) ∧ Below w.heap.size w w' := HOB.out
        clear hown1 hgrow1 hx1 d0 d1 hown HO HOB hc0 hc1
        go_wp2_with fail
        refine region_qtail (C := Keeps w1) 7 (by kernel_rfl) (by kernel_rfl) (Keeps.drew w1) ?_
        (iterate 7
    (apply wpQuiet_go _ (by rfl)
     · intro wq hq
       go_simp
       first
         | (go_at_call 73; exact qsame hq (O _))
         | (go_at_call 72; exact qcall hq (OB _))
         | exact rfl
     simp only [Act.put, List.setIfInBounds_toArray, List.set_cons_succ, List.set_cons_zero]))
        refine wpQuiet_nil ?_
        intro wz hkz
        have hownz := owns_below hown1' hkz.below
        have hbz : Hid (Below w.heap.size w wz) := hb1.out.trans (hkz.below.mono hb1.out.size)
        clear hown1' hkz k0 k1 O OB hb1
        have hszz := hbz.out.size
        simp only [List.drop_succ_cons, List.drop_zero]
        refine Lib.wpList_append_own_string _ (by rfl) _ _ 73 9 (by rfl) w.heap.size 5 i0 Try.underlying73 Try.underlying9 hi hz0 hz1 hz2 _ _ _ (by rfl) hownz ⟨os.toArray⟩ (by rfl) ?e1 ?e2 ?e3 ?_
        case e1 => unfold maxLen; simp [ByteArray.size]; omega
        case e2 => simp [ByteArray.size]; omega
        case e3 => exact hszz
        intro v3 w3 hown3 hgrow3 _
        have hown4 : w3.ownsRow w.heap.size 5 1 v3 (cs ++ [opByte op] ++ os).length (bv (cs ++ [opByte op] ++ os)) := by
          rw [str_bv, bv_app] at hown3
          have e5 : (cs ++ [opByte op]).length + (ByteArray.mk os.toArray).size = (cs ++ [opByte op] ++ os).length := by simp [ByteArray.size]; omega
          rw [e5] at hown3; exact hown3
        have hb4 : Below w.heap.size w w3 := hbz.out.grown hgrow3 hszz (ownsRow_block hownz)
        clear hown3 hgrow3 hownz
        go_wp2
        go_roundw
        case rel => exact ⟨k + 1, _, by omega, by go_num, HS.out.symm, by simp; omega, hown4, hb4⟩
        case measure => simp [intOf]; omega
      · have e : L.take k = L := List.take_of_length_le (by omega)
        have hcs' := hcs.out
        rw [e] at hcs'
        subst hcs'
        clear hcs e
        have hcv := owned_string (P := Try.prog) 73 9 5 Try.underlying73 Try.underlying5 Try.underlying9 hown
        obtain ⟨ao, cp, rfl⟩ := ownsRow_shape hown
        go_wp2
        go_ret2
        exact ⟨by rw [HR.out]; rfl, hnx⟩
  · have hR : codeRes L = .tuple #[.string ⟨#[]⟩, .bool false] := if_neg hg
    rw [hR]
    have hg' : (allG L && decide (L.length ≤ 200)) = false := by simpa using hg
    rw [hg'] at HG
    clear hg hg'
    go_enter Try.func37, Try.ntmps37
    go_wp2_with (go_at_call 71; refine HG.mono ?_; rintro e w0 ⟨rfl, hb0⟩; clear HG)
    go_ret2
    exact ⟨rfl, by assumption⟩

end Go.Proofs.Ytokaljglaholnaa

namespace Go.Proofs.Ytokaljglaholnaa
open Go.ChangeShapes Go.WideShapes Go.ChangeAt Go.RowKit

theorem insAt_below {w w' : World} {B b off : Nat} {L : List (Int × Int)} (h : Below B w w') (hb : b < B) (hL : insAt w b off L) : insAt w' b off L :=
  fun i hi => ⟨(h.cell (p := ⟨b, off + i * 2, none⟩) hb).trans (hL i hi).1, (h.cell (p := ⟨b, off + i * 2 + 1, none⟩) hb).trans (hL i hi).2⟩
theorem insAt_nil {w w' : World} {b off : Nat} {L : List (Int × Int)} (h : Below w.heap.size w w') (hb : L ≠ [] → b < w.heap.size) (hL : insAt w b off L) : insAt w' b off L := by
  by_cases e : L = []
  · subst e; intro i hi; simp at hi
  · exact insAt_below h (hb e) hL
def str (l : List UInt8) : ByteArray := ⟨l.toArray⟩
theorem str_app (l m : List UInt8) : str l ++ str m = str (l ++ m) := by
  apply ByteArray.ext; simp [str]
theorem str_size (l : List UInt8) : (str l).size = l.length := by simp [str, ByteArray.size]
/-- One byte as a string. -/
theorem byte_string (op : Int) (N : Nat) (W : World) (hc : W.cell? ⟨N, 0, none⟩ = some (.int .u8 (op % 256))) : (convert 73 9 (.slice (some ⟨N, 0, none⟩) 1 1)).run Try.prog W = .ok (.string (str [opByte op])) W := by
  have H := run_convert_bytes_back (P := Try.prog) W 73 9 5 ⟨N, 0, none⟩ 1 [opByte op] Try.underlying73 Try.underlying5 Try.underlying9 (fun j hj => by
    obtain rfl : j = 0 := by simpa using hj
    simp only [List.getElem_cons_zero]
    rw [opByte_int]
    exact hc)
  exact H
theorem leB_one (n : Nat) : leB n 1 = [opByte (n : Int)] := by
  unfold leB opByte
  simp
  apply UInt8.toNat_inj.1
  rw [UInt8.toNat_ofNat', UInt8.toNat_ofNat']
  omega

set_option maxRecDepth 100000 in
set_option maxHeartbeats 3200000 in
theorem specBytes (a : Option Addr) (b off cap : Nat) (L : List (Int × Int)) (w : World) (ha : Hid (L ≠ [] → a = some ⟨b, off, none⟩ ∧ b < w.heap.size)) (hL : insAt w b off L) (hf : fits L) (hlen : L.length ≤ 200) (hA : Hid (allG L = true)) :
    Calls Try.prog 65 #[.slice a L.length cap] w fun e w' => e = .returned (.string (str (cb L))) ∧ Below w.heap.size w w' := by
  go_enter Try.func65, Try.ntmps65
  go_wp2
  go_loopw [3, 8] (fun v i wr => ∃ (k : Nat) (cs : List UInt8), k ≤ L.length ∧ i = .int .i64 k ∧ v = .string (str cs) ∧ Hid (cs = cb (L.take k)) ∧ cs.length ≤ 11 * k ∧ Below w.heap.size w wr) (fun _ i _ => L.length - (intOf i).toNat)
  case atStart => exact ⟨0, [], by omega, rfl, rfl, by simp [Hid, cb], by simp, Below.refl _ _⟩
  case round =>
    obtain ⟨k, cs, hk, rfl, rfl, hcs, hcl, hnx⟩ := hrel
    have hsz := hnx.size
    by_cases hlt : k < L.length
    · obtain ⟨rfl, hb⟩ := ha.out (fun h => by simp [h] at hlt)
      have hc := hL k hlt
      have hfk := hf k hlt
      have hsn := cb_snoc L k hlt
      have hgk := allG_at L k hlt hA.out
      obtain ⟨x, hx⟩ : ∃ x, x = L[k] := ⟨_, rfl⟩
      rw [← hx] at hc hfk hsn hgk
      obtain ⟨op, y⟩ := x
      clear hx
      simp only at hc hfk hsn hgk
      have HS : Hid (cb (L.take (k + 1)) = (cs ++ [opByte op]) ++ ob (shp op) y) := by
        unfold Hid; rw [hsn, hcs.out]; simp [ib]
      clear hsn
      have hc0 : wr.cell? ⟨b, off + k * 2, none⟩ = some (.int .i64 op) := (hnx.cell (by exact hb)).trans hc.1
      have hc1 : wr.cell? ⟨b, off + k * 2 + 1, none⟩ = some (.int .i64 y) := (hnx.cell (by exact hb)).trans hc.2
      have O := specShape op
      have hol := ob_len (shp op) y
      have hkd := kinds_of hgk
      have hmk : mayK (shp op) y = true := hgk
      have hcv := byte_string op
      have ha1 := str_app cs [opByte op]
      have hcl2 : cs.length ≤ 2200 := by omega
      have hs1 := str_size cs
      have hs2 : (str [opByte op]).size = 1 := rfl
      have hs3 : (str (cs ++ [opByte op])).size = cs.length + 1 := by rw [str_size]; simp
      have HX : Hid (Below w.heap.size w wr) := hnx
      clear hc hgk
      generalize shp op = sk at O HS hol hkd hmk
      rcases hkd with rfl | rfl | rfl | rfl | rfl | rfl | rfl
      · have HS2 : Hid (cb (L.take (k + 1)) = cs ++ [opByte op]) := by unfold Hid; rw [HS.out]; simp [ob]
        clear HS hmk hol hfk hs3
        go_wp2_with (go_at_call 84; refine (O _).mono ?_; rintro e w1 ⟨rfl, hw⟩; obtain rfl := hw.symm; clear O)
        go_roundw
        case rel =>
          refine ⟨k + 1, _, by omega, by go_num, rfl, HS2.out.symm, by simp; omega, ?_⟩
          exact bel_alloc (bel_alloc HX.out _) _
        case measure => simp [intOf]; omega
      · obtain ⟨g0, g1⟩ := may_nat (by omega) hmk
        obtain ⟨n, rfl⟩ : ∃ n : Nat, y = n := ⟨y.toNat, by omega⟩
        have hcv2 := byte_string (n : Int)
        have HS2 : Hid (cb (L.take (k + 1)) = (cs ++ [opByte op]) ++ [opByte (n : Int)]) := by unfold Hid; rw [HS.out]; simp [ob, leB_one]
        have ha2 := str_app (cs ++ [opByte op]) [opByte (n : Int)]
        have hs4 : (str [opByte (n : Int)]).size = 1 := rfl
        clear HS hmk hol g0 g1
        clear hfk
        go_wp2_with (go_at_call 84; refine (O _).mono ?_; rintro e w1 ⟨rfl, hw⟩; obtain rfl := hw.symm; clear O)
        go_roundw
        case rel =>
          refine ⟨k + 1, _, by omega, by go_num, rfl, by unfold Hid; rw [HS2.out]; simp, by simp; omega, ?_⟩
          exact bel_alloc (bel_alloc (bel_alloc HX.out _) _) _
        case measure => simp [intOf]; omega
      · obtain ⟨g0, g1⟩ := may_nat (by omega) hmk
        obtain ⟨n, rfl⟩ : ∃ n : Nat, y = n := ⟨y.toNat, by omega⟩
        have hwn : IntKind.u64.wrap (n : Int) = n := by rw [IntKind.wrap_u64]; omega
        have HS2 : Hid (cb (L.take (k + 1)) = (cs ++ [opByte op]) ++ ul 10 n) := by unfold Hid; rw [HS.out]; rfl
        have hol2 : (ul 10 n).length ≤ 10 := ul_len 10 _
        have H : Hid (∀ w : World, Calls Try.prog 48 #[.int .u64 (n : Int)] w fun e w' => e = .returned (.string (str (ul 10 n))) ∧ Below w.heap.size w w') := fun w => specUleb n (by unfold Hid; omega) w
        generalize ul 10 n = os at H HS2 hol2
        have ha2 := str_app (cs ++ [opByte op]) os
        have hs4 := str_size os
        clear HS hmk hol g0 g1
        clear hfk
        go_wp2_with (first | (go_at_call 84; refine (O _).mono ?_; rintro e w1 ⟨rfl, hw⟩; obtain rfl := hw.symm; clear O) | (go_at_call 48; refine (H.out _).mono ?_; rintro e w2 ⟨rfl, hb2⟩; clear H))
        go_roundw
        case rel =>
          refine ⟨k + 1, _, by omega, by go_num, rfl, by unfold Hid; rw [HS2.out]; simp, by simp; omega, ?_⟩
          exact below2 (bel_alloc (bel_alloc HX.out _) _) hb2
        case measure => simp [intOf]; omega
      · obtain ⟨g0, g1⟩ := may_nat (by omega) hmk
        obtain ⟨n, rfl⟩ : ∃ n : Nat, y = n := ⟨y.toNat, by omega⟩
        have hwn : IntKind.u64.wrap (n : Int) = n := by rw [IntKind.wrap_u64]; omega
        have HS2 : Hid (cb (L.take (k + 1)) = (cs ++ [opByte op]) ++ ul 10 n) := by unfold Hid; rw [HS.out]; rfl
        have hol2 : (ul 10 n).length ≤ 10 := ul_len 10 _
        have H : Hid (∀ w : World, Calls Try.prog 48 #[.int .u64 (n : Int)] w fun e w' => e = .returned (.string (str (ul 10 n))) ∧ Below w.heap.size w w') := fun w => specUleb n (by unfold Hid; omega) w
        generalize ul 10 n = os at H HS2 hol2
        have ha2 := str_app (cs ++ [opByte op]) os
        have hs4 := str_size os
        clear HS hmk hol g0 g1
        clear hfk
        go_wp2_with (first | (go_at_call 84; refine (O _).mono ?_; rintro e w1 ⟨rfl, hw⟩; obtain rfl := hw.symm; clear O) | (go_at_call 48; refine (H.out _).mono ?_; rintro e w2 ⟨rfl, hb2⟩; clear H))
        go_roundw
        case rel =>
          refine ⟨k + 1, _, by omega, by go_num, rfl, by unfold Hid; rw [HS2.out]; simp, by simp; omega, ?_⟩
          exact below2 (bel_alloc (bel_alloc HX.out _) _) hb2
        case measure => simp [intOf]; omega
      · have HS2 : Hid (cb (L.take (k + 1)) = (cs ++ [opByte op]) ++ sl 10 y) := by unfold Hid; rw [HS.out]; rfl
        have hol2 : (sl 10 y).length ≤ 10 := sl_len 10 _
        have H : Hid (∀ w : World, Calls Try.prog 85 #[.int .i64 y] w fun e w' => e = .returned (.string (str (sl 10 y))) ∧ Below w.heap.size w w') := fun w => specSleb y (sfit_i64 y hfk.1 hfk.2) w
        generalize sl 10 y = os at H HS2 hol2
        have ha2 := str_app (cs ++ [opByte op]) os
        have hs4 := str_size os
        clear HS hmk hol
        clear hfk
        go_wp2_with (first | (go_at_call 84; refine (O _).mono ?_; rintro e w1 ⟨rfl, hw⟩; obtain rfl := hw.symm; clear O) | (go_at_call 85; refine (H.out _).mono ?_; rintro e w2 ⟨rfl, hb2⟩; clear H))
        go_roundw
        case rel =>
          refine ⟨k + 1, _, by omega, by go_num, rfl, by unfold Hid; rw [HS2.out]; simp, by simp; omega, ?_⟩
          exact below2 (bel_alloc (bel_alloc HX.out _) _) hb2
        case measure => simp [intOf]; omega
      · have HS2 : Hid (cb (L.take (k + 1)) = (cs ++ [opByte op]) ++ sl 10 y) := by unfold Hid; rw [HS.out]; rfl
        have hol2 : (sl 10 y).length ≤ 10 := sl_len 10 _
        have H : Hid (∀ w : World, Calls Try.prog 85 #[.int .i64 y] w fun e w' => e = .returned (.string (str (sl 10 y))) ∧ Below w.heap.size w w') := fun w => specSleb y (sfit_i64 y hfk.1 hfk.2) w
        generalize sl 10 y = os at H HS2 hol2
        have ha2 := str_app (cs ++ [opByte op]) os
        have hs4 := str_size os
        clear HS hmk hol
        clear hfk
        go_wp2_with (first | (go_at_call 84; refine (O _).mono ?_; rintro e w1 ⟨rfl, hw⟩; obtain rfl := hw.symm; clear O) | (go_at_call 85; refine (H.out _).mono ?_; rintro e w2 ⟨rfl, hb2⟩; clear H))
        go_roundw
        case rel =>
          refine ⟨k + 1, _, by omega, by go_num, rfl, by unfold Hid; rw [HS2.out]; simp, by simp; omega, ?_⟩
          exact below2 (bel_alloc (bel_alloc HX.out _) _) hb2
        case measure => simp [intOf]; omega
      · obtain ⟨g0, g1⟩ := may_nat (by omega) hmk
        obtain ⟨n, rfl⟩ : ∃ n : Nat, y = n := ⟨y.toNat, by omega⟩
        have hwn : IntKind.u64.wrap (n : Int) = n := by rw [IntKind.wrap_u64]; omega
        have HS2 : Hid (cb (L.take (k + 1)) = (cs ++ [opByte op]) ++ leB n 4) := by unfold Hid; rw [HS.out]; rfl
        have hol2 : (leB n 4).length ≤ 10 := (by rw [leB_len]; omega)
        have H : Hid (∀ w : World, Calls Try.prog 50 #[.int .u64 (n : Int), .int .i64 4] w fun e w' => e = .returned (.string (str (leB n 4))) ∧ Below w.heap.size w w') := fun w => l5Bytes n 4 (by omega) w
        generalize leB n 4 = os at H HS2 hol2
        have ha2 := str_app (cs ++ [opByte op]) os
        have hs4 := str_size os
        clear HS hmk hol g0 g1
        clear hfk
        go_wp2_with (first | (go_at_call 84; refine (O _).mono ?_; rintro e w1 ⟨rfl, hw⟩; obtain rfl := hw.symm; clear O) | (go_at_call 50; refine (H.out _).mono ?_; rintro e w2 ⟨rfl, hb2⟩; clear H))
        go_roundw
        case rel =>
          refine ⟨k + 1, _, by omega, by go_num, rfl, by unfold Hid; rw [HS2.out]; simp, by simp; omega, ?_⟩
          exact below2 (bel_alloc (bel_alloc HX.out _) _) hb2
        case measure => simp [intOf]; omega
    · have e : L.take k = L := List.take_of_length_le (by omega)
      have hcs' := hcs.out
      rw [e] at hcs'
      subst hcs'
      clear hcs e
      go_wp2
      go_ret
      exact ⟨rfl, hnx⟩

end Go.Proofs.Ytokaljglaholnaa
