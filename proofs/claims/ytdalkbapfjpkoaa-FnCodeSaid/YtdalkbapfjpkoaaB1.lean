/-
  The bytes of instructions: the program's own side.
-/
import Derived.Test.YtdalkbapfjpkoaaCBytes
import Derived.Test.YtdalkbapfjpkoaaR1
import Derived.Test.YtdalkbapfjpkoaaCAllB
import Derived.Test.YtdalkbapfjpkoaaBel
import Derived.Test.YtdalkbapfjpkoaaCGoodL
namespace Go.Proofs.Ytdalkbapfjpkoaa
open Go.ChangeShapes Go.WideShapes Go.ChangeAt Go.RowKit

set_option maxRecDepth 100000 in
set_option maxHeartbeats 1600000 in
theorem operandBytes_eq (k a : Int) (hk : k = 0 ∨ k = 1 ∨ k = 2 ∨ k = 3 ∨ k = 4 ∨ k = 5 ∨ k = 6) (hm : mayK k a = true) (h0 : -9223372036854775808 ≤ a) (h1 : a ≤ 9223372036854775807) (w : World) :
    Calls Try.prog 17 #[opv k, .int .i64 a] w fun e w' => e = .returned (.string ⟨(ob k a).toArray⟩) ∧ Below w.heap.size w w' := by
  rcases hk with rfl | rfl | rfl | rfl | rfl | rfl | rfl
  · have e : opv 0 = .iface 74 (.agg #[]) := rfl
    rw [e]
    clear e
    have t0 := ta_noOperand_blockType (.agg #[])
    have t1 := ta_noOperand_upTo (.agg #[])
    have t2 := ta_noOperand_signedBits (.agg #[])
    have t3 := ta_noOperand_floatBits (.agg #[])
    clear hm h0 h1
    go_enter Try.func17, Try.ntmps17
    go_wp2
    go_ret
    exact ⟨rfl, Below.refl _ _⟩
  · have e : opv 1 = .iface 67 (.agg #[]) := rfl
    rw [e]
    clear e
    have t0 := ta_blockType_blockType (.agg #[])
    obtain ⟨g0, g1⟩ := may_nat (by omega) hm
    obtain ⟨n, rfl⟩ : ∃ n : Nat, a = n := ⟨a.toNat, by omega⟩
    have hw : IntKind.u64.wrap (n : Int) = n := by rw [IntKind.wrap_u64]; omega
    have H : Hid (∀ w : World, Calls Try.prog 29 #[.int .u64 (n : Int), .int .i64 1] w fun e w' => e = .returned (.string ⟨(leB n 1).toArray⟩) ∧ Below w.heap.size w w') := fun w => numberBytes n 1 (by omega) w
    clear hm h0 h1
    clear g0 g1
    go_enter Try.func17, Try.ntmps17
    go_wp2_with (go_at_call 29; refine (H.out _).mono ?_; rintro e w1 ⟨rfl, hb⟩; clear H)
    go_ret
    exact ⟨rfl, by assumption⟩
  · have e : opv 2 = .iface 69 (.int .i64 1000) := rfl
    rw [e]
    clear e
    have t0 := ta_upTo_blockType (.int .i64 1000)
    have t1 := ta_upTo_upTo (.int .i64 1000)
    obtain ⟨g0, g1⟩ := may_nat (by omega) hm
    obtain ⟨n, rfl⟩ : ∃ n : Nat, a = n := ⟨a.toNat, by omega⟩
    have hw : IntKind.u64.wrap (n : Int) = n := by rw [IntKind.wrap_u64]; omega
    have H : Hid (∀ w : World, Calls Try.prog 30 #[.int .u64 (n : Int)] w fun e w' => e = .returned (.string ⟨(ul 10 n).toArray⟩) ∧ Below w.heap.size w w') := fun w => implUlebBytes n (by unfold Hid; omega) w
    clear hm h0 h1
    clear g0 g1
    go_enter Try.func17, Try.ntmps17
    go_wp2_with (go_at_call 30; refine (H.out _).mono ?_; rintro e w1 ⟨rfl, hb⟩; clear H)
    go_ret
    exact ⟨rfl, by assumption⟩
  · have e : opv 3 = .iface 69 (.int .i64 10000) := rfl
    rw [e]
    clear e
    have t0 := ta_upTo_blockType (.int .i64 10000)
    have t1 := ta_upTo_upTo (.int .i64 10000)
    obtain ⟨g0, g1⟩ := may_nat (by omega) hm
    obtain ⟨n, rfl⟩ : ∃ n : Nat, a = n := ⟨a.toNat, by omega⟩
    have hw : IntKind.u64.wrap (n : Int) = n := by rw [IntKind.wrap_u64]; omega
    have H : Hid (∀ w : World, Calls Try.prog 30 #[.int .u64 (n : Int)] w fun e w' => e = .returned (.string ⟨(ul 10 n).toArray⟩) ∧ Below w.heap.size w w') := fun w => implUlebBytes n (by unfold Hid; omega) w
    clear hm h0 h1
    clear g0 g1
    go_enter Try.func17, Try.ntmps17
    go_wp2_with (go_at_call 30; refine (H.out _).mono ?_; rintro e w1 ⟨rfl, hb⟩; clear H)
    go_ret
    exact ⟨rfl, by assumption⟩
  · have e : opv 4 = .iface 71 (.int .i64 32) := rfl
    rw [e]
    clear e
    have t0 := ta_signedBits_blockType (.int .i64 32)
    have t1 := ta_signedBits_upTo (.int .i64 32)
    have t2 := ta_signedBits_signedBits (.int .i64 32)
    have H : Hid (∀ w : World, Calls Try.prog 31 #[.int .i64 a] w fun e w' => e = .returned (.string ⟨(sl 10 a).toArray⟩) ∧ Below w.heap.size w w') := fun w => implSleb a (sfit_i64 a h0 h1) w
    clear hm h0 h1
    go_enter Try.func17, Try.ntmps17
    go_wp2_with (go_at_call 31; refine (H.out _).mono ?_; rintro e w1 ⟨rfl, hb⟩; clear H)
    go_ret
    exact ⟨rfl, by assumption⟩
  · have e : opv 5 = .iface 71 (.int .i64 64) := rfl
    rw [e]
    clear e
    have t0 := ta_signedBits_blockType (.int .i64 64)
    have t1 := ta_signedBits_upTo (.int .i64 64)
    have t2 := ta_signedBits_signedBits (.int .i64 64)
    have H : Hid (∀ w : World, Calls Try.prog 31 #[.int .i64 a] w fun e w' => e = .returned (.string ⟨(sl 10 a).toArray⟩) ∧ Below w.heap.size w w') := fun w => implSleb a (sfit_i64 a h0 h1) w
    clear hm h0 h1
    go_enter Try.func17, Try.ntmps17
    go_wp2_with (go_at_call 31; refine (H.out _).mono ?_; rintro e w1 ⟨rfl, hb⟩; clear H)
    go_ret
    exact ⟨rfl, by assumption⟩
  · have e : opv 6 = .iface 73 (.agg #[]) := rfl
    rw [e]
    clear e
    have t0 := ta_floatBits_blockType (.agg #[])
    have t1 := ta_floatBits_upTo (.agg #[])
    have t2 := ta_floatBits_signedBits (.agg #[])
    have t3 := ta_floatBits_floatBits (.agg #[])
    obtain ⟨g0, g1⟩ := may_nat (by omega) hm
    obtain ⟨n, rfl⟩ : ∃ n : Nat, a = n := ⟨a.toNat, by omega⟩
    have hw : IntKind.u64.wrap (n : Int) = n := by rw [IntKind.wrap_u64]; omega
    have H : Hid (∀ w : World, Calls Try.prog 29 #[.int .u64 (n : Int), .int .i64 4] w fun e w' => e = .returned (.string ⟨(leB n 4).toArray⟩) ∧ Below w.heap.size w w') := fun w => numberBytes n 4 (by omega) w
    clear hm h0 h1
    clear g0 g1
    go_enter Try.func17, Try.ntmps17
    go_wp2_with (go_at_call 29; refine (H.out _).mono ?_; rintro e w1 ⟨rfl, hb⟩; clear H)
    go_ret
    exact ⟨rfl, by assumption⟩

end Go.Proofs.Ytdalkbapfjpkoaa

namespace Go.Proofs.Ytdalkbapfjpkoaa
open Go.ChangeShapes Go.WideShapes Go.ChangeAt Go.RowKit

/-- Every number of the list is an int. -/
def fits (L : List (Int × Int)) : Prop := ∀ i (h : i < L.length), -9223372036854775808 ≤ L[i].2 ∧ L[i].2 ≤ 9223372036854775807

set_option maxRecDepth 100000 in
set_option maxHeartbeats 1600000 in
theorem implAll (a : Option Addr) (b off cap : Nat) (L : List (Int × Int)) (w : World) (ha : Hid (L ≠ [] → a = some ⟨b, off, none⟩ ∧ b < w.heap.size)) (hL : insAt w b off L) (hf : fits L) (hlen : L.length ≤ 1048576) :
    Calls Try.prog 16 #[.slice a L.length cap] w fun e w' => e = .returned (.bool (allG L && decide (L.length ≤ 200))) ∧ Below w.heap.size w w' := by
  by_cases h2 : L.length ≤ 200
  · rw [decide_eq_true h2, Bool.and_true]
    go_enter Try.func16, Try.ntmps16
    go_wp2
    go_loopw [10] (fun i wr => ∃ k : Nat, k ≤ L.length ∧ i = .int .i64 k ∧ Hid (allG (L.take k) = true) ∧ Below w.heap.size w wr) (fun i _ => L.length - (intOf i).toNat)
    case atStart => exact ⟨0, by omega, rfl, by simp [Hid, allG], Below.refl _ _⟩
    case round =>
      obtain ⟨k, hk, rfl, hg, hnx⟩ := hrel
      by_cases hlt : k < L.length
      · obtain ⟨rfl, hb⟩ := ha.out (fun h => by simp [h] at hlt)
        have hc := hL k hlt
        have hfk := hf k hlt
        have ht := allG_take L k hlt
        have hn := allG_no L k hlt
        obtain ⟨x, hx⟩ : ∃ x, x = L[k] := ⟨_, rfl⟩
        rw [← hx] at hc hfk ht hn
        obtain ⟨op, y⟩ := x
        clear hx
        simp only at hc hfk ht hn
        have hc0 : wr.cell? ⟨b, off + k * 2, none⟩ = some (.int .i64 op) := (hnx.cell (by exact hb)).trans hc.1
        have hc1 : wr.cell? ⟨b, off + k * 2 + 1, none⟩ = some (.int .i64 y) := (hnx.cell (by exact hb)).trans hc.2
        have I := implGoodIns op y hfk.1 hfk.2
        have HT : Hid (allG (L.take (k + 1)) = (allG (L.take k) && gi op y)) := ht
        have HN : Hid (gi op y = false → allG L = false) := hn
        have HX : Hid (Below w.heap.size w wr) := hnx
        clear hc hfk ht hn
        generalize gi op y = r at I HT HN
        cases r
        · go_wp2_with (go_at_call 28; refine (I _).mono ?_; rintro e w1 ⟨rfl, hb1⟩; clear I)
          go_ret
          refine ⟨by rw [HN.out (by trivial)]; rfl, ?_⟩
          exact below2 (bel_alloc HX.out _) hb1
        · go_wp2_with (go_at_call 28; refine (I _).mono ?_; rintro e w1 ⟨rfl, hb1⟩; clear I)
          go_roundw
          case rel => exact ⟨k + 1, by omega, by go_num, by unfold Hid; rw [HT.out, hg.out]; rfl, below2 (bel_alloc HX.out _) hb1⟩
          case measure => simp [intOf]; omega
      · have e : L.take k = L := List.take_of_length_le (by omega)
        have hg' : Hid (allG L = true) := by have h := hg.out; rw [e] at h; exact h
        clear hg e
        go_wp2
        go_ret
        exact ⟨by rw [hg'.out]; rfl, hnx⟩
  · have h3 : (200 : Int) < L.length := by omega
    rw [decide_eq_false h2, Bool.and_false]
    clear h2
    go_enter Try.func16, Try.ntmps16
    go_wp2
    go_ret
    exact ⟨rfl, Below.refl _ _⟩

set_option maxRecDepth 100000 in
set_option maxHeartbeats 1600000 in
theorem specAll (a : Option Addr) (b off cap : Nat) (L : List (Int × Int)) (w : World) (ha : Hid (L ≠ [] → a = some ⟨b, off, none⟩ ∧ b < w.heap.size)) (hL : insAt w b off L) (hlen : L.length ≤ 1048576) :
    Calls Try.prog 19 #[.slice a L.length cap] w fun e w' => e = .returned (.bool (allG L && decide (L.length ≤ 200))) ∧ Below w.heap.size w w' := by
  go_enter Try.func19, Try.ntmps19
  go_wp2
  go_loopw [7] (fun i wr => ∃ k : Nat, k ≤ L.length ∧ i = .int .i64 k ∧ Hid (allG (L.take k) = true) ∧ Below w.heap.size w wr) (fun i _ => L.length - (intOf i).toNat)
  case atStart => exact ⟨0, by omega, rfl, by simp [Hid, allG], Below.refl _ _⟩
  case round =>
    obtain ⟨k, hk, rfl, hg, hnx⟩ := hrel
    by_cases hlt : k < L.length
    · obtain ⟨rfl, hb⟩ := ha.out (fun h => by simp [h] at hlt)
      have hc := hL k hlt
      have ht := allG_take L k hlt
      have hn := allG_no L k hlt
      obtain ⟨x, hx⟩ : ∃ x, x = L[k] := ⟨_, rfl⟩
      rw [← hx] at hc ht hn
      obtain ⟨op, y⟩ := x
      clear hx
      simp only at hc ht hn
      have hc0 : wr.cell? ⟨b, off + k * 2, none⟩ = some (.int .i64 op) := (hnx.cell (by exact hb)).trans hc.1
      have hc1 : wr.cell? ⟨b, off + k * 2 + 1, none⟩ = some (.int .i64 y) := (hnx.cell (by exact hb)).trans hc.2
      have I := specGoodIns op y
      have HT : Hid (allG (L.take (k + 1)) = (allG (L.take k) && gi op y)) := ht
      have HN : Hid (gi op y = false → allG L = false) := hn
      have HX : Hid (Below w.heap.size w wr) := hnx
      clear hc ht hn
      generalize gi op y = r at I HT HN
      cases r
      · go_wp2_with (go_at_call 33; refine (I _).mono ?_; rintro e w1 ⟨rfl, hb1⟩; clear I)
        go_ret
        refine ⟨by rw [HN.out (by trivial)]; rfl, ?_⟩
        exact below2 (bel_alloc HX.out _) hb1
      · go_wp2_with (go_at_call 33; refine (I _).mono ?_; rintro e w1 ⟨rfl, hb1⟩; clear I)
        go_roundw
        case rel => exact ⟨k + 1, by omega, by go_num, by unfold Hid; rw [HT.out, hg.out]; rfl, below2 (bel_alloc HX.out _) hb1⟩
        case measure => simp [intOf]; omega
    · have e : L.take k = L := List.take_of_length_le (by omega)
      have hg' : Hid (allG L = true) := by have h := hg.out; rw [e] at h; exact h
      obtain ⟨y, hy⟩ : ∃ y, decide ((L.length : Int) ≤ 200) = y := ⟨_, rfl⟩
      have hx : Hid (decide (L.length ≤ 200) = y) := by unfold Hid; rw [← hy]; simp; omega
      clear hg e
      go_wp2
      go_ret
      exact ⟨by rw [hg'.out, hx.out]; rfl, hnx⟩

end Go.Proofs.Ytdalkbapfjpkoaa

namespace Go.Proofs.Ytdalkbapfjpkoaa
open Go.ChangeShapes Go.WideShapes Go.ChangeAt Go.RowKit

theorem owns_below {w w' : World} {B : Nat} {e : TypeId} {size n : Nat} {v : Value} {xs : List Value} (h : w.ownsRow B e size v n xs) (hb : Below w.heap.size w w') : w'.ownsRow B e size v n xs := by
  refine ⟨h.1, ?_⟩
  rcases h.2 with h0 | ⟨g, cap, cur, h1, h2, h3, h4⟩
  · exact Or.inl h0
  · exact Or.inr ⟨g, cap, cur, h1, h2, (hb.block g (lt_of_block h3)).trans h3, h4⟩
theorem kinds_of {op y : Int} (h : gi op y = true) : shp op = 0 ∨ shp op = 1 ∨ shp op = 2 ∨ shp op = 3 ∨ shp op = 4 ∨ shp op = 5 ∨ shp op = 6 := by
  rcases shp_one op with k | k | k | k | k | k | k | k
  all_goals first | omega | skip
  unfold gi at h; rw [k] at h; simp [mayK] at h

end Go.Proofs.Ytdalkbapfjpkoaa

namespace Go.Proofs.Ytdalkbapfjpkoaa
open Go.ChangeShapes Go.WideShapes Go.ChangeAt Go.RowKit

def codeRes (L : List (Int × Int)) : Value := if (allG L && decide (L.length ≤ 200)) = true then .tuple #[.string ⟨(cb L).toArray⟩, .bool true] else .tuple #[.string ⟨#[]⟩, .bool false]
theorem str_bv (l : List UInt8) : Lib.strCells ⟨l.toArray⟩ = bv l := by simp [Lib.strCells, bv]

set_option maxRecDepth 100000 in
set_option maxHeartbeats 3200000 in
theorem implCode (a : Option Addr) (b off cap : Nat) (L : List (Int × Int)) (w : World) (ha : Hid (L ≠ [] → a = some ⟨b, off, none⟩ ∧ b < w.heap.size)) (hL : insAt w b off L) (hf : fits L) (hlen : L.length ≤ 1048576) :
    Calls Try.prog 5 #[.slice a L.length cap] w fun e w' => e = .returned (codeRes L) ∧ Below w.heap.size w w' := by
  have HG := implAll a b off cap L w ha hL hf hlen
  obtain ⟨i0, hi, hz0, hz1, hz2⟩ := info_parts Try.info5
  by_cases hg : (allG L && decide (L.length ≤ 200)) = true
  · have hR : codeRes L = .tuple #[.string ⟨(cb L).toArray⟩, .bool true] := if_pos hg
    rw [hR, ← hR]
    rw [hg] at HG
    simp only [Bool.and_eq_true, decide_eq_true_eq] at hg
    obtain ⟨hg1, hg2⟩ := hg
    have HR : Hid (codeRes L = .tuple #[.string ⟨(cb L).toArray⟩, .bool true]) := hR
    have HA : Hid (allG L = true) := hg1
    clear hR hg1 hlen
    go_enter Try.func5, Try.ntmps5
    go_wp2_with (go_at_call 16; refine HG.mono ?_; rintro e w0 ⟨rfl, hb0⟩; clear HG)
    go_loopw [4, 12] (fun v i wr => ∃ (k : Nat) (cs : List UInt8), k ≤ L.length ∧ i = .int .i64 k ∧ Hid (cs = cb (L.take k)) ∧ cs.length ≤ 11 * k ∧ wr.ownsRow w.heap.size 5 1 v cs.length (bv cs) ∧ Below w.heap.size w wr) (fun _ i _ => L.length - (intOf i).toNat)
    case atStart => exact ⟨0, [], by omega, rfl, by simp [Hid, cb], by simp, World.ownsRow_nil _ _ _ _, hb0⟩
    case round =>
      clear hb0
      obtain ⟨k, cs, hk, rfl, hcs, hcl, hown, hnx⟩ := hrel
      have hsz := hnx.size
      by_cases hlt : k < L.length
      · obtain ⟨rfl, hb⟩ := ha.out (fun h => by simp [h] at hlt)
        have hc := hL k hlt
        have hfk := hf k hlt
        have hsn := cb_snoc L k hlt
        have hgk := allG_at L k hlt HA.out
        obtain ⟨x, hx⟩ : ∃ x, x = L[k] := ⟨_, rfl⟩
        rw [← hx] at hc hfk hsn hgk
        obtain ⟨op, y⟩ := x
        clear hx
        simp only at hc hfk hsn hgk
        have HS : Hid (cb (L.take (k + 1)) = (cs ++ [opByte op]) ++ ob (shp op) y) := by
          unfold Hid; rw [hsn, hcs.out]; simp [ib]
        clear hsn
        have hc0 : wr.cell? ⟨b, off + k * 2, none⟩ = some (.int .i64 op) := (hnx.cell (by exact hb)).trans hc.1
        have hc1 : wr.cell? ⟨b, off + k * 2 + 1, none⟩ = some (.int .i64 y) := (hnx.cell (by exact hb)).trans hc.2
        have O := operandOf_eq op
        have OB := operandBytes_eq (shp op) y (kinds_of hgk) hgk hfk.1 hfk.2
        have hol := ob_len (shp op) y
        generalize opv (shp op) = ov at O OB
        generalize ob (shp op) y = os at OB hol HS
        have hcl2 : cs.length ≤ 2200 := by omega
        have HO : Hid (∀ w : World, Calls Try.prog 18 #[.int .i64 op] w fun e w' => e = .returned ov ∧ w' = w) := O
        have HOB : Hid (∀ w : World, Calls Try.prog 17 #[ov, .int .i64 y] w fun e w' => e = .returned (.string ⟨os.toArray⟩) ∧ Below w.heap.size w w') := OB
        clear hc hfk hgk O OB
        go_wp2_with (at_builtin; refine wpList_append_own _ rfl _ _ 22 rfl w.heap.size 5 i0 (.int .u8 0) 1 1 Try.underlying22 hi hz0 hz1 hz2 rfl (by decide) _ _ _ rfl ((hown.alloc _).alloc _) ⟨wr.heap.size + 1, 0, none⟩ 1 1 (bv [opByte op]) rfl rfl ?c1 ?c2 ?c3 ?c4 ?c5 ?_)
        case c1 =>
          rw [← opByte_int]
          simp [bv]
        case c2 => exact bv_one _
        case c3 => unfold maxLen; omega
        case c4 => omega
        case c5 => omega
        intro v1 w1 hown1 hgrow1 _
        rw [bv_app] at hown1
        have hown1' : w1.ownsRow w.heap.size 5 1 v1 (cs ++ [opByte op]).length (bv (cs ++ [opByte op])) := by simpa using hown1
        have hb1 : Hid (Below w.heap.size w w1) := ((hnx.alloc hsz _).alloc (by simp; omega) _).grown hgrow1 (by simp; omega) (ownsRow_block hown)
        have hx1 := other_block (by decide) (hown.alloc (.cells #[.int .i64 op, .int .i64 y] 37)) hgrow1 (heap_alloc_new wr (.cells #[.int .i64 op, .int .i64 y] 37))
        have d0 : w1.cell? ⟨wr.heap.size, 0, none⟩ = some (.int .i64 op) := by rw [cell_of_block hx1]; rfl
        have d1 : w1.cell? ⟨wr.heap.size, 1, none⟩ = some (.int .i64 y) := by rw [cell_of_block hx1]; rfl
        have hlt1 := lt_of_block hx1
        have k0 : ∀ w, Keeps w1 w → w.cell? ⟨wr.heap.size, 0, none⟩ = some (.int .i64 op) := fun w h => h.cell hlt1 d0
        have k1 : ∀ w, Keeps w1 w → w.cell? ⟨wr.heap.size, 1, none⟩ = some (.int .i64 y) := fun w h => h.cell hlt1 d1
        have O : ∀ w : World, Calls Try.prog 18 #[.int .i64 op] w fun e w' => e = .returned ov ∧ w' = w := HO.out
        have OB : ∀ w : World, Calls Try.prog 17 #[ov, .int .i64 y] w fun e w' => e = .returned (.string ⟨os.toArray⟩) ∧ Below w.heap.size w w' := HOB.out
        clear hown1 hgrow1 hx1 d0 d1 hown HO HOB hc0 hc1
        go_wp2_with fail
        refine region_qtail (C := Keeps w1) 7 (by kernel_rfl) (by kernel_rfl) (Keeps.drew w1) ?_
        (iterate 7
    (apply wpQuiet_go _ (by rfl)
     · intro wq hq
       go_simp
       first
         | (go_at_call 18; exact qsame hq (O _))
         | (go_at_call 17; exact qcall hq (OB _))
         | exact rfl
     simp only [Act.put, List.setIfInBounds_toArray, List.set_cons_succ, List.set_cons_zero]))
        refine wpQuiet_nil ?_
        intro wz hkz
        have hownz := owns_below hown1' hkz.below
        have hbz : Hid (Below w.heap.size w wz) := hb1.out.trans (hkz.below.mono hb1.out.size)
        clear hown1' hkz k0 k1 O OB hb1
        have hszz := hbz.out.size
        simp only [List.drop_succ_cons, List.drop_zero]
        refine Lib.wpList_append_own_string _ (by rfl) _ _ 22 9 (by rfl) w.heap.size 5 i0 Try.underlying22 Try.underlying9 hi hz0 hz1 hz2 _ _ _ (by rfl) hownz ⟨os.toArray⟩ (by rfl) ?e1 ?e2 ?e3 ?_
        case e1 => unfold maxLen; simp [ByteArray.size]; omega
        case e2 => simp [ByteArray.size]; omega
        case e3 => exact hszz
        intro v3 w3 hown3 hgrow3 _
        have hown4 : w3.ownsRow w.heap.size 5 1 v3 (cs ++ [opByte op] ++ os).length (bv (cs ++ [opByte op] ++ os)) := by
          rw [str_bv, bv_app] at hown3
          have e5 : (cs ++ [opByte op]).length + (ByteArray.mk os.toArray).size = (cs ++ [opByte op] ++ os).length := by simp [ByteArray.size]; omega
          rw [e5] at hown3; exact hown3
        have hb4 : Below w.heap.size w w3 := hbz.out.grown hgrow3 hszz (ownsRow_block hownz)
        clear hown3 hgrow3 hownz
        go_wp2
        go_roundw
        case rel => exact ⟨k + 1, _, by omega, by go_num, HS.out.symm, by simp; omega, hown4, hb4⟩
        case measure => simp [intOf]; omega
      · have e : L.take k = L := List.take_of_length_le (by omega)
        have hcs' := hcs.out
        rw [e] at hcs'
        subst hcs'
        clear hcs e
        have hcv := owned_string (P := Try.prog) 22 9 5 Try.underlying22 Try.underlying5 Try.underlying9 hown
        obtain ⟨ao, cp, rfl⟩ := ownsRow_shape hown
        go_wp2
        go_ret2
        exact ⟨by rw [HR.out]; rfl, hnx⟩
  · have hR : codeRes L = .tuple #[.string ⟨#[]⟩, .bool false] := if_neg hg
    rw [hR]
    have hg' : (allG L && decide (L.length ≤ 200)) = false := by simpa using hg
    rw [hg'] at HG
    clear hg hg'
    go_enter Try.func5, Try.ntmps5
    go_wp2_with (go_at_call 16; refine HG.mono ?_; rintro e w0 ⟨rfl, hb0⟩; clear HG)
    go_ret2
    exact ⟨rfl, by assumption⟩

end Go.Proofs.Ytdalkbapfjpkoaa

namespace Go.Proofs.Ytdalkbapfjpkoaa
open Go.ChangeShapes Go.WideShapes Go.ChangeAt Go.RowKit Go.PlainAid

/-- Instructions as the values of their cells. -/
def pv (L : List (Int × Int)) : List Value := L.flatMap fun x => [.int .i64 x.1, .int .i64 x.2]
theorem pv_app (L : List (Int × Int)) (x : Int × Int) : pv L ++ [.int .i64 x.1, .int .i64 x.2] = pv (L ++ [x]) := by simp [pv]
theorem pv_len (L : List (Int × Int)) : (pv L).length = L.length * 2 := by
  induction L with
  | nil => rfl
  | cons x r ih => have e : pv (x :: r) = .int .i64 x.1 :: .int .i64 x.2 :: pv r := by simp [pv]
                   rw [e, List.length_cons, List.length_cons, ih, List.length_cons]; omega
theorem pv_get (L : List (Int × Int)) : ∀ i (h : i < L.length), (pv L)[i * 2]? = some (.int .i64 L[i].1) ∧ (pv L)[i * 2 + 1]? = some (.int .i64 L[i].2) := by
  induction L with
  | nil => intro i h; simp at h
  | cons x r ih =>
    intro i h
    have e : pv (x :: r) = .int .i64 x.1 :: .int .i64 x.2 :: pv r := by simp [pv]
    rw [e]
    cases i with
    | zero => simp
    | succ i =>
      have := ih i (by simpa using h)
      rw [show (i + 1) * 2 = i * 2 + 1 + 1 by omega]
      simpa using this
theorem owned_ins {w : World} {B : Nat} {e : TypeId} {v : Value} {L : List (Int × Int)} (h : w.ownsRow B e 2 v L.length (pv L)) :
    ∃ a cap g, v = .slice a L.length cap ∧ (L ≠ [] → a = some ⟨g, 0, none⟩ ∧ g < w.heap.size) ∧ insAt w g 0 L ∧ (L ≠ [] → B ≤ g) := by
  rcases h.2 with ⟨rfl, h0⟩ | ⟨g, cap, cur, rfl, hg, hh, _, _, _, htake⟩
  · obtain rfl : L = [] := List.length_eq_zero_iff.1 h0
    exact ⟨none, 0, 0, rfl, fun h => absurd rfl h, fun i hi => absurd hi (by simp), fun h => absurd rfl h⟩
  · refine ⟨some ⟨g, 0, none⟩, cap, g, rfl, fun _ => ⟨rfl, lt_of_block hh⟩, fun i hi => ?_, fun _ => hg⟩
    have h1 := h.cellAt (i * 2) (by omega)
    have h2 := h.cellAt (i * 2 + 1) (by omega)
    have h3 := pv_get L i hi
    rw [Nat.zero_add, h1, h2]
    exact h3
theorem two_new (w : World) (x y : Value) (t : TypeId) : ∀ j u, [x, y][j]? = some u → (w.alloc (.cells #[x, y] t)).cell? ((⟨w.heap.size, 0, none⟩ : Addr).add j) = some u := by
  intro j u hj
  match j, hj with
  | 0, hj => simp at hj; subst hj; simp [Addr.add]
  | 1, hj => simp at hj; subst hj; simp [Addr.add]

/-- What one more round of reading says of the whole. -/
theorem rc_no {s : ByteArray} {f p n : Nat} {M : List (Int × Int)} (h : rc s = (rdc s (f + 1) p n).map (M ++ ·)) (hp : ¬ s.size ≤ p) (e : stp s p = none) : rc s = none := by
  rw [h, rdc_none s f p n hp e]; rfl
theorem rc_full {s : ByteArray} {f p n : Nat} {M : List (Int × Int)} (h : rc s = (rdc s (f + 1) p n).map (M ++ ·)) (hp : ¬ s.size ≤ p) (e : n = 200) : rc s = none := by
  subst e; rw [h, rdc_full s f p hp]; rfl
theorem rc_go {s : ByteArray} {f p n t : Nat} {M : List (Int × Int)} {x : Int × Int} (h : rc s = (rdc s (f + 1) p n).map (M ++ ·)) (hp : ¬ s.size ≤ p) (e : stp s p = some (x, t)) (hn : n ≠ 200) : rc s = (rdc s f (p + t) (n + 1)).map ((M ++ [x]) ++ ·) := by
  rw [h, rdc_some s f p n t x hp e hn, Option.map_map]
  congr 1
  funext K
  simp
theorem rc_end {s : ByteArray} {f p n : Nat} {M : List (Int × Int)} (h : rc s = (rdc s (f + 1) p n).map (M ++ ·)) (hp : s.size ≤ p) : rc s = some M := by
  rw [h, rdc_end s f p n hp]; simp

/-- One instruction taken of the rest of the bytes. -/
theorem takeIns_eq (s : ByteArray) (hs : s.size ≤ 1048576) (p : Nat) (hp : p < s.size) :
    (stp s p = none ∧ ∀ w : World, Calls Try.prog 21 #[.string (s.extract p s.size)] w fun e w' => e = .returned (.tuple #[.agg #[.int .i64 0, .int .i64 0], .int .i64 0]) ∧ Below w.heap.size w w') ∨
    ∃ (op a : Int) (t : Nat), stp s p = some ((op, a), 1 + t) ∧ ∀ w : World, Calls Try.prog 21 #[.string (s.extract p s.size)] w fun e w' => e = .returned (.tuple #[.agg #[.int .i64 op, .int .i64 a], .int .i64 (1 + (t : Int))]) ∧ Below w.heap.size w w' := by
  have hsz : (s.extract p s.size).size = s.size - p := by simp [ByteArray.size_extract]
  have h0 : 0 < (s.extract p s.size).size := by omega
  have hbt : bt (s.extract p s.size) 0 = bt s p := by rw [bt_ext]; rfl
  have hlo := bt_nonneg s p
  have hhi := bt_le s p
  have O := operandOf_eq (bt s p)
  obtain ⟨r, hr⟩ : ∃ r, s.extract (p + 1) s.size = r := ⟨_, rfl⟩
  have hrr : (s.extract p s.size).extract 1 (s.extract p s.size).size = r := (ext_ext s p 1).trans hr
  have hrs : r.size ≤ 1048576 := by rw [← hr]; simp [ByteArray.size_extract]; omega
  have TO := takeOperand_eq r hrs (shp (bt s p)) (shp_one _)
  have hf := tk_facts r (shp (bt s p))
  have hst : stp s p = if ((tk r (shp (bt s p))).2.2 && gi (bt s p) (tk r (shp (bt s p))).1) = true then some ((bt s p, (tk r (shp (bt s p))).1), 1 + (tk r (shp (bt s p))).2.1) else none := by rw [← hr]; rfl
  have GI := implGoodIns (bt s p) (tk r (shp (bt s p))).1 hf.2.2.1 hf.2.2.2
  generalize tk r (shp (bt s p)) = q at TO hf hst GI
  rw [← hrr] at TO hf
  obtain ⟨a, t, ok⟩ := q
  simp only at TO hf hst GI
  generalize opv (shp (bt s p)) = ov at O TO
  generalize bt s p = op at *
  generalize gi op a = g at *
  cases ok
  · exact Or.inl ⟨by rw [hst]; rfl, fun w => takeIns_none _ op a t ov h0 hbt hlo hhi (by omega) O TO w⟩
  · cases g
    · exact Or.inl ⟨by rw [hst]; rfl, fun w => takeIns_bad _ op a t ov h0 hbt hlo hhi (by omega) O TO GI w⟩
    · exact Or.inr ⟨op, a, t, by rw [hst]; rfl, fun w => takeIns_good _ op a t ov h0 hbt hlo hhi (by omega) O TO GI w⟩

set_option maxRecDepth 100000 in
set_option maxHeartbeats 1600000 in
theorem implRead (s : ByteArray) (hs : s.size ≤ 1048576) (w : World) :
    Calls Try.prog 7 #[.string s] w fun e w' => ∃ v, e = .returned (.tuple #[v, .bool (rc s).isSome]) ∧ w'.ownsRow w.heap.size 37 2 v ((rc s).getD []).length (pv ((rc s).getD [])) ∧ Below w.heap.size w w' := by
  obtain ⟨i0, hi, hz0, hz1, hz2⟩ := info_parts Try.info37
  go_enter Try.func7, Try.ntmps7
  go_wp2
  go_loopw [0, 4] (fun cv v wr => ∃ (p f : Nat) (c : ByteArray) (M : List (Int × Int)), cv = .string c ∧ Hid (c = s.extract p s.size) ∧ c.size + p = s.size ∧ p ≤ s.size ∧ s.size ≤ p + f ∧ M.length ≤ 200 ∧ Hid (rc s = (rdc s (f + 1) p M.length).map (M ++ ·)) ∧ wr.ownsRow w.heap.size 37 2 v M.length (pv M) ∧ Below w.heap.size w wr) (fun cv _ _ => match cv with | .string c => c.size | _ => 0)
  case atStart => exact ⟨0, s.size, s, [], rfl, (ext_zero s).symm, by omega, by omega, by omega, by simp, by unfold Hid rc; simp, World.ownsRow_nil _ _ _ _, Below.refl _ _⟩
  case round =>
    obtain ⟨p, f, c, M, rfl, hc, hcs, hps, hpf, hM2, hrd, hown, hnx⟩ := hrel
    have hsz := hnx.size
    by_cases hp : p < s.size
    · have hp' : ¬ s.size ≤ p := by omega
      have h0 : 0 < c.size := by omega
      rcases takeIns_eq s hs p hp with ⟨hst, T⟩ | ⟨op, a, t, hst, T⟩
      · rw [← hc.out] at T
        have hz : Hid (rc s = none) := rc_no hrd.out hp' hst
        have HT : Hid (∀ w : World, Calls Try.prog 21 #[.string c] w fun e w' => e = .returned (.tuple #[.agg #[.int .i64 0, .int .i64 0], .int .i64 0]) ∧ Below w.heap.size w w') := T
        clear T hst hrd hown
        go_wp2_with (go_at_call 21; refine (HT.out _).mono ?_; rintro e w1 ⟨rfl, hb1⟩; clear HT)
        go_ret2
        rw [hz.out]
        exact ⟨_, rfl, World.ownsRow_nil _ _ _ _, bel_alloc (below2 hnx hb1) _⟩
      · have hfit := stp_fits hp hst
        rw [← hc.out] at T
        have HT : Hid (∀ w : World, Calls Try.prog 21 #[.string c] w fun e w' => e = .returned (.tuple #[.agg #[.int .i64 op, .int .i64 a], .int .i64 (1 + (t : Int))]) ∧ Below w.heap.size w w') := T
        have ht0 : ((1 : Int) + (t : Int) == 0) = false := by simp; omega
        clear T
        by_cases h2 : M.length = 200
        · have hz : Hid (rc s = none) := rc_full hrd.out hp' h2
          have h2' : ((M.length : Int) == 200) = true := by simp; omega
          obtain ⟨av, cap, gg, hv, _⟩ := owned_ins hown
          rw [hv]
          clear hst hrd hown hfit hv h2 hM2
          go_wp2_with (go_at_call 21; refine (HT.out _).mono ?_; rintro e w1 ⟨rfl, hb1⟩; clear HT)
          go_ret2
          rw [hz.out]
          exact ⟨_, rfl, World.ownsRow_nil _ _ _ _, bel_alloc (below2 hnx hb1) _⟩
        · have h2' : ((M.length : Int) == 200) = false := by simp; omega
          have hz : Hid (rc s = (rdc s f (p + (1 + t)) (M.length + 1)).map ((M ++ [(op, a)]) ++ ·)) := rc_go hrd.out hp' hst h2
          obtain ⟨av, cap, gg, hv, _⟩ := owned_ins hown
          have hsl : ∀ wx : World, (Instr.slice 9 (.string c) (some (.int .i64 (1 + (t : Int)))) none none).run Try.prog wx = .ok (.string (c.extract (1 + t) c.size)) wx := fun wx => by
            have H := slice_from (P := Try.prog) 9 Try.underlying9 c (1 + t) (by omega) wx
            rw [show (((1 + t : Nat)) : Int) = 1 + (t : Int) by omega] at H
            exact H
          have hext : Hid (c.extract (1 + t) c.size = s.extract (p + (1 + t)) s.size) := by unfold Hid; rw [hc.out]; exact ext_ext s p (1 + t)
          have hexs : Hid ((c.extract (1 + t) c.size).size + (p + (1 + t)) = s.size) := by unfold Hid; simp only [ByteArray.size_extract]; omega
          clear hst hrd
          rw [hv] at hown
          rw [hv]
          clear hv
          go_wp2_with (first | (go_at_call 21; refine (HT.out _).mono ?_; rintro e w1 ⟨rfl, hb1⟩; clear HT; have hown1 := owns_below hown hb1; have hs1 := hb1.size) | (at_builtin; refine wpList_append_own _ rfl _ _ 23 rfl w.heap.size 37 i0 (.agg #[.int .i64 0, .int .i64 0]) 2 16 Try.underlying23 hi hz0 hz1 hz2 rfl (by decide) _ _ _ rfl ((hown1.alloc _).alloc _) ⟨w1.heap.size + 1, 0, none⟩ 1 1 [.int .i64 op, .int .i64 a] rfl rfl (by intro j u hj; simpa using two_new (w1.alloc (.cells #[.int .i64 op, .int .i64 a] 37)) _ _ _ j u hj) (by intro u hu; simp at hu; rcases hu with rfl | rfl <;> rfl) (by unfold maxLen; omega) (by omega) (by simp; omega) ?_; intro v3 w3 hown3 hgrow3 _))
          have hbw : Below w.heap.size w w3 := Below.grown (bel_alloc (bel_alloc (below2 hnx hb1) _) _) hgrow3 (by simp; omega) (ownsRow_block hown1)
          rw [pv_app M (op, a)] at hown3
          go_roundw
          case rel =>
            obtain ⟨f', rfl⟩ : ∃ f', f = f' + 1 := ⟨f - 1, by omega⟩
            exact ⟨p + (1 + t), f', _, M ++ [(op, a)], rfl, hext.out, hexs.out, by omega, by omega, by simp; omega, by unfold Hid; simpa using hz.out, by simpa using hown3, hbw⟩
          case measure => have := hexs.out; simp only; omega
    · have hc0 : ¬ 0 < c.size := by omega
      have hc0' : (c.size : Int) = 0 := by omega
      have hz : Hid (rc s = some M) := rc_end hrd.out (by omega)
      clear hrd
      go_wp2
      go_ret2
      rw [hz.out]
      exact ⟨_, rfl, hown, hnx⟩

end Go.Proofs.Ytdalkbapfjpkoaa
