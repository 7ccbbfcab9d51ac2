/-
  The bytes of code: the program's own side.
-/
import Derived.Test.YtokaljglaholnaaCBytesI
import Derived.Test.YtokaljglaholnaaCAll
import Derived.Test.YtokaljglaholnaaCKeep
namespace Go.Proofs.Ytokaljglaholnaa
open Go.ChangeShapes Go.WideShapes Go.ChangeAt Go.RowKit

def codeRes (L : List (Int × Int)) : Value := if (allG L && decide (L.length ≤ 200)) = true then .tuple #[.string ⟨(cb L).toArray⟩, .bool true] else .tuple #[.string ⟨#[]⟩, .bool false]
theorem str_bv (l : List UInt8) : Lib.strCells ⟨l.toArray⟩ = bv l := by simp [Lib.strCells, bv]

set_option maxRecDepth 100000 in
set_option maxHeartbeats 3200000 in
theorem implCode (a : Option Addr) (b off cap : Nat) (L : List (Int × Int)) (w : World) (ha : Hid (L ≠ [] → a = some ⟨b, off, none⟩ ∧ b < w.heap.size)) (hL : insAt w b off L) (hf : fits L) (hlen : L.length ≤ 1048576) :
    Calls Try.prog 37 #[.slice a L.length cap] w fun e w' => e = .returned (codeRes L) ∧ Below w.heap.size w w' := by
  have HG := implAll a b off cap L w ha hL hf hlen
  obtain ⟨i0, hi, hz0, hz1, hz2⟩ := info_parts Try.info5
  by_cases hg : (allG L && decide (L.length ≤ 200)) = true
  · have hR : codeRes L = .tuple #[.string ⟨(cb L).toArray⟩, .bool true] := if_pos hg
    rw [hR, ← hR]
    rw [hg] at HG
    simp only [Bool.and_eq_true, decide_eq_true_eq] at hg
    obtain ⟨hg1, hg2⟩ := hg
    have HR : Hid (codeRes L = .tuple #[.string ⟨(cb L).toArray⟩, .bool true]) := hR
    have HA : Hid (allG L = true) := hg1
    clear hR hg1 hlen
    go_enter Try.func37, Try.ntmps37
    go_wp2_with (go_at_call 71; refine HG.mono ?_; rintro e w0 ⟨rfl, hb0⟩; clear HG)
    go_loopw [4, 12] (fun v i wr => ∃ (k : Nat) (cs : List UInt8), k ≤ L.length ∧ i = .int .i64 k ∧ Hid (cs = cb (L.take k)) ∧ cs.length ≤ 11 * k ∧ wr.ownsRow w.heap.size 5 1 v cs.length (bv cs) ∧ Below w.heap.size w wr) (fun _ i _ => L.length - (intOf i).toNat)
    case atStart => exact ⟨0, [], by omega, rfl, by simp [Hid, cb], by simp, World.ownsRow_nil _ _ _ _, hb0⟩
    case round =>
      clear hb0
      obtain ⟨k, cs, hk, rfl, hcs, hcl, hown, hnx⟩ := hrel
      have hsz := hnx.size
      by_cases hlt : k < L.length
      · obtain ⟨rfl, hb⟩ := ha.out (fun h => by simp [h] at hlt)
        have hc := hL k hlt
        have hfk := hf k hlt
        have hsn := cb_snoc L k hlt
        have hgk := allG_at L k hlt HA.out
        obtain ⟨x, hx⟩ : ∃ x, x = L[k] := ⟨_, rfl⟩
        rw [← hx] at hc hfk hsn hgk
        obtain ⟨op, y⟩ := x
        clear hx
        simp only at hc hfk hsn hgk
        have HS : Hid (cb (L.take (k + 1)) = (cs ++ [opByte op]) ++ ob (shp op) y) := by
          unfold Hid; rw [hsn, hcs.out]; simp [ib]
        clear hsn
        have hc0 : wr.cell? ⟨b, off + k * 2, none⟩ = some (.int .i64 op) := (hnx.cell (by exact hb)).trans hc.1
        have hc1 : wr.cell? ⟨b, off + k * 2 + 1, none⟩ = some (.int .i64 y) := (hnx.cell (by exact hb)).trans hc.2
        have O := operandOf_eq op
        have OB := operandBytes_eq (shp op) y (kinds_of hgk) hgk hfk.1 hfk.2
        have hol := ob_len (shp op) y
        generalize opv (shp op) = ov at O OB
        generalize ob (shp op) y = os at OB hol HS
        have hcl2 : cs.length ≤ 2200 := by omega
        have HO : Hid (∀ w : World, Calls Try.prog 73 #[.int .i64 op] w fun e w' => e = .returned ov ∧ w' = w) := O
        have HOB : Hid (∀ w : World, Calls Try.prog 72 #[ov, .int .i64 y] w fun e w' => e = .returned (.string ⟨os.toArray⟩) ∧ Below w.heap.size w w') := OB
        clear hc hfk hgk O OB
        go_wp2_with (at_builtin; refine wpList_append_own _ rfl _ _ 73 rfl w.heap.size 5 i0 (.int .u8 0) 1 1 Try.underlying73 hi hz0 hz1 hz2 rfl (by decide) _ _ _ rfl ((hown.alloc _).alloc _) ⟨wr.heap.size + 1, 0, none⟩ 1 1 (bv [opByte op]) rfl rfl ?c1 ?c2 ?c3 ?c4 ?c5 ?_)
        case c1 =>
          rw [← opByte_int]
          simp [bv]
        case c2 => exact bv_one _
        case c3 => unfold maxLen; omega
        case c4 => omega
        case c5 => omega
        intro v1 w1 hown1 hgrow1 _
        rw [bv_app] at hown1
        have hown1' : w1.ownsRow w.heap.size 5 1 v1 (cs ++ [opByte op]).length (bv (cs ++ [opByte op])) := by simpa using hown1
        have hb1 : Hid (Below w.heap.size w w1) := ((hnx.alloc hsz _).alloc (by simp; omega) _).grown hgrow1 (by simp; omega) (ownsRow_block hown)
        have hx1 := other_block (by decide) (hown.alloc (.cells #[.int .i64 op, .int .i64 y] 101)) hgrow1 (heap_alloc_new wr (.cells #[.int .i64 op, .int .i64 y] 101))
        have d0 : w1.cell? ⟨wr.heap.size, 0, none⟩ = some (.int .i64 op) := by rw [cell_of_block hx1]; rfl
        have d1 : w1.cell? ⟨wr.heap.size, 1, none⟩ = some (.int .i64 y) := by rw [cell_of_block hx1]; rfl
        have hlt1 := lt_of_block hx1
        have k0 : ∀ w, Keeps w1 w → w.cell? ⟨wr.heap.size, 0, none⟩ = some (.int .i64 op) := fun w h => h.cell hlt1 d0
        have k1 : ∀ w, Keeps w1 w → w.cell? ⟨wr.heap.size, 1, none⟩ = some (.int .i64 y) := fun w h => h.cell hlt1 d1
        have O : ∀ w : World, Calls Try.prog 73 #[.int .i64 op] w fun e w' => e = .returned ov ∧ w' = w := HO.out
        have OB : ∀ w : World, Calls Try.prog 72 #[ov, .int .i64 y] w fun e w' => e = .returned (.string ⟨os.toArray⟩) ∧ Below w.heap.size w w' := HOB.out
        clear hown1 hgrow1 hx1 d0 d1 hown HO HOB hc0 hc1
        go_wp2_with fail
        refine region_qtail (C := Keeps w1) 7 (by kernel_rfl) (by kernel_rfl) (Keeps.drew w1) ?_
        (iterate 7
    (apply wpQuiet_go _ (by rfl)
     · intro wq hq
       go_simp
       first
         | (go_at_call 73; exact qsame hq (O _))
         | (go_at_call 72; exact qcall hq (OB _))
         | exact rfl
     simp only [Act.put, List.setIfInBounds_toArray, List.set_cons_succ, List.set_cons_zero]))
        refine wpQuiet_nil ?_
        intro wz hkz
        have hownz := owns_below hown1' hkz.below
        have hbz : Hid (Below w.heap.size w wz) := hb1.out.trans (hkz.below.mono hb1.out.size)
        clear hown1' hkz k0 k1 O OB hb1
        have hszz := hbz.out.size
        simp only [List.drop_succ_cons, List.drop_zero]
        refine Lib.wpList_append_own_string _ (by rfl) _ _ 73 9 (by rfl) w.heap.size 5 i0 Try.underlying73 Try.underlying9 hi hz0 hz1 hz2 _ _ _ (by rfl) hownz ⟨os.toArray⟩ (by rfl) ?e1 ?e2 ?e3 ?_
        case e1 => unfold maxLen; simp [ByteArray.size]; omega
        case e2 => simp [ByteArray.size]; omega
        case e3 => exact hszz
        intro v3 w3 hown3 hgrow3 _
        have hown4 : w3.ownsRow w.heap.size 5 1 v3 (cs ++ [opByte op] ++ os).length (bv (cs ++ [opByte op] ++ os)) := by
          rw [str_bv, bv_app] at hown3
          have e5 : (cs ++ [opByte op]).length + (ByteArray.mk os.toArray).size = (cs ++ [opByte op] ++ os).length := by simp [ByteArray.size]; omega
          rw [e5] at hown3; exact hown3
        have hb4 : Below w.heap.size w w3 := hbz.out.grown hgrow3 hszz (ownsRow_block hownz)
        clear hown3 hgrow3 hownz
        go_wp2
        go_roundw
        case rel => exact ⟨k + 1, _, by omega, by go_num, HS.out.symm, by simp; omega, hown4, hb4⟩
        case measure => simp [intOf]; omega
      · have e : L.take k = L := List.take_of_length_le (by omega)
        have hcs' := hcs.out
        rw [e] at hcs'
        subst hcs'
        clear hcs e
        have hcv := owned_string (P := Try.prog) 73 9 5 Try.underlying73 Try.underlying5 Try.underlying9 hown
        obtain ⟨ao, cp, rfl⟩ := ownsRow_shape hown
        go_wp2
        go_ret2
        exact ⟨by rw [HR.out]; rfl, hnx⟩
  · have hR : codeRes L = .tuple #[.string ⟨#[]⟩, .bool false] := if_neg hg
    rw [hR]
    have hg' : (allG L && decide (L.length ≤ 200)) = false := by simpa using hg
    rw [hg'] at HG
    clear hg hg'
    go_enter Try.func37, Try.ntmps37
    go_wp2_with (go_at_call 71; refine HG.mono ?_; rintro e w0 ⟨rfl, hb0⟩; clear HG)
    go_ret2
    exact ⟨rfl, by assumption⟩

end Go.Proofs.Ytokaljglaholnaa
