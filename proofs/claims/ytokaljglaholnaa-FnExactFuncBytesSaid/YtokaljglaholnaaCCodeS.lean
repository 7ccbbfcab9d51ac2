/-
  The bytes of code: the specification's side.
-/
import Derived.Test.YtokaljglaholnaaCCode
namespace Go.Proofs.Ytokaljglaholnaa
open Go.ChangeShapes Go.WideShapes Go.ChangeAt Go.RowKit

theorem insAt_below {w w' : World} {B b off : Nat} {L : List (Int × Int)} (h : Below B w w') (hb : b < B) (hL : insAt w b off L) : insAt w' b off L :=
  fun i hi => ⟨(h.cell (p := ⟨b, off + i * 2, none⟩) hb).trans (hL i hi).1, (h.cell (p := ⟨b, off + i * 2 + 1, none⟩) hb).trans (hL i hi).2⟩
theorem insAt_nil {w w' : World} {b off : Nat} {L : List (Int × Int)} (h : Below w.heap.size w w') (hb : L ≠ [] → b < w.heap.size) (hL : insAt w b off L) : insAt w' b off L := by
  by_cases e : L = []
  · subst e; intro i hi; simp at hi
  · exact insAt_below h (hb e) hL
def str (l : List UInt8) : ByteArray := ⟨l.toArray⟩
theorem str_app (l m : List UInt8) : str l ++ str m = str (l ++ m) := by
  apply ByteArray.ext; simp [str]
theorem str_size (l : List UInt8) : (str l).size = l.length := by simp [str, ByteArray.size]
/-- One byte as a string. -/
theorem byte_string (op : Int) (N : Nat) (W : World) (hc : W.cell? ⟨N, 0, none⟩ = some (.int .u8 (op % 256))) : (convert 73 9 (.slice (some ⟨N, 0, none⟩) 1 1)).run Try.prog W = .ok (.string (str [opByte op])) W := by
  have H := run_convert_bytes_back (P := Try.prog) W 73 9 5 ⟨N, 0, none⟩ 1 [opByte op] Try.underlying73 Try.underlying5 Try.underlying9 (fun j hj => by
    obtain rfl : j = 0 := by simpa using hj
    simp only [List.getElem_cons_zero]
    rw [opByte_int]
    exact hc)
  exact H
theorem leB_one (n : Nat) : leB n 1 = [opByte (n : Int)] := by
  unfold leB opByte
  simp
  apply UInt8.toNat_inj.1
  rw [UInt8.toNat_ofNat', UInt8.toNat_ofNat']
  omega

set_option maxRecDepth 100000 in
set_option maxHeartbeats 3200000 in
theorem specBytes (a : Option Addr) (b off cap : Nat) (L : List (Int × Int)) (w : World) (ha : Hid (L ≠ [] → a = some ⟨b, off, none⟩ ∧ b < w.heap.size)) (hL : insAt w b off L) (hf : fits L) (hlen : L.length ≤ 200) (hA : Hid (allG L = true)) :
    Calls Try.prog 65 #[.slice a L.length cap] w fun e w' => e = .returned (.string (str (cb L))) ∧ Below w.heap.size w w' := by
  go_enter Try.func65, Try.ntmps65
  go_wp2
  go_loopw [3, 8] (fun v i wr => ∃ (k : Nat) (cs : List UInt8), k ≤ L.length ∧ i = .int .i64 k ∧ v = .string (str cs) ∧ Hid (cs = cb (L.take k)) ∧ cs.length ≤ 11 * k ∧ Below w.heap.size w wr) (fun _ i _ => L.length - (intOf i).toNat)
  case atStart => exact ⟨0, [], by omega, rfl, rfl, by simp [Hid, cb], by simp, Below.refl _ _⟩
  case round =>
    obtain ⟨k, cs, hk, rfl, rfl, hcs, hcl, hnx⟩ := hrel
    have hsz := hnx.size
    by_cases hlt : k < L.length
    · obtain ⟨rfl, hb⟩ := ha.out (fun h => by simp [h] at hlt)
      have hc := hL k hlt
      have hfk := hf k hlt
      have hsn := cb_snoc L k hlt
      have hgk := allG_at L k hlt hA.out
      obtain ⟨x, hx⟩ : ∃ x, x = L[k] := ⟨_, rfl⟩
      rw [← hx] at hc hfk hsn hgk
      obtain ⟨op, y⟩ := x
      clear hx
      simp only at hc hfk hsn hgk
      have HS : Hid (cb (L.take (k + 1)) = (cs ++ [opByte op]) ++ ob (shp op) y) := by
        unfold Hid; rw [hsn, hcs.out]; simp [ib]
      clear hsn
      have hc0 : wr.cell? ⟨b, off + k * 2, none⟩ = some (.int .i64 op) := (hnx.cell (by exact hb)).trans hc.1
      have hc1 : wr.cell? ⟨b, off + k * 2 + 1, none⟩ = some (.int .i64 y) := (hnx.cell (by exact hb)).trans hc.2
      have O := specShape op
      have hol := ob_len (shp op) y
      have hkd := kinds_of hgk
      have hmk : mayK (shp op) y = true := hgk
      have hcv := byte_string op
      have ha1 := str_app cs [opByte op]
      have hcl2 : cs.length ≤ 2200 := by omega
      have hs1 := str_size cs
      have hs2 : (str [opByte op]).size = 1 := rfl
      have hs3 : (str (cs ++ [opByte op])).size = cs.length + 1 := by rw [str_size]; simp
      have HX : Hid (Below w.heap.size w wr) := hnx
      clear hc hgk
      generalize shp op = sk at O HS hol hkd hmk
      rcases hkd with rfl | rfl | rfl | rfl | rfl | rfl | rfl
      · have HS2 : Hid (cb (L.take (k + 1)) = cs ++ [opByte op]) := by unfold Hid; rw [HS.out]; simp [ob]
        clear HS hmk hol hfk hs3
        go_wp2_with (go_at_call 84; refine (O _).mono ?_; rintro e w1 ⟨rfl, hw⟩; obtain rfl := hw.symm; clear O)
        go_roundw
        case rel =>
          refine ⟨k + 1, _, by omega, by go_num, rfl, HS2.out.symm, by simp; omega, ?_⟩
          exact bel_alloc (bel_alloc HX.out _) _
        case measure => simp [intOf]; omega
      · obtain ⟨g0, g1⟩ := may_nat (by omega) hmk
        obtain ⟨n, rfl⟩ : ∃ n : Nat, y = n := ⟨y.toNat, by omega⟩
        have hcv2 := byte_string (n : Int)
        have HS2 : Hid (cb (L.take (k + 1)) = (cs ++ [opByte op]) ++ [opByte (n : Int)]) := by unfold Hid; rw [HS.out]; simp [ob, leB_one]
        have ha2 := str_app (cs ++ [opByte op]) [opByte (n : Int)]
        have hs4 : (str [opByte (n : Int)]).size = 1 := rfl
        clear HS hmk hol g0 g1
        clear hfk
        go_wp2_with (go_at_call 84; refine (O _).mono ?_; rintro e w1 ⟨rfl, hw⟩; obtain rfl := hw.symm; clear O)
        go_roundw
        case rel =>
          refine ⟨k + 1, _, by omega, by go_num, rfl, by unfold Hid; rw [HS2.out]; simp, by simp; omega, ?_⟩
          exact bel_alloc (bel_alloc (bel_alloc HX.out _) _) _
        case measure => simp [intOf]; omega
      · obtain ⟨g0, g1⟩ := may_nat (by omega) hmk
        obtain ⟨n, rfl⟩ : ∃ n : Nat, y = n := ⟨y.toNat, by omega⟩
        have hwn : IntKind.u64.wrap (n : Int) = n := by rw [IntKind.wrap_u64]; omega
        have HS2 : Hid (cb (L.take (k + 1)) = (cs ++ [opByte op]) ++ ul 10 n) := by unfold Hid; rw [HS.out]; rfl
        have hol2 : (ul 10 n).length ≤ 10 := ul_len 10 _
        have H : Hid (∀ w : World, Calls Try.prog 48 #[.int .u64 (n : Int)] w fun e w' => e = .returned (.string (str (ul 10 n))) ∧ Below w.heap.size w w') := fun w => specUleb n (by unfold Hid; omega) w
        generalize ul 10 n = os at H HS2 hol2
        have ha2 := str_app (cs ++ [opByte op]) os
        have hs4 := str_size os
        clear HS hmk hol g0 g1
        clear hfk
        go_wp2_with (first | (go_at_call 84; refine (O _).mono ?_; rintro e w1 ⟨rfl, hw⟩; obtain rfl := hw.symm; clear O) | (go_at_call 48; refine (H.out _).mono ?_; rintro e w2 ⟨rfl, hb2⟩; clear H))
        go_roundw
        case rel =>
          refine ⟨k + 1, _, by omega, by go_num, rfl, by unfold Hid; rw [HS2.out]; simp, by simp; omega, ?_⟩
          exact below2 (bel_alloc (bel_alloc HX.out _) _) hb2
        case measure => simp [intOf]; omega
      · obtain ⟨g0, g1⟩ := may_nat (by omega) hmk
        obtain ⟨n, rfl⟩ : ∃ n : Nat, y = n := ⟨y.toNat, by omega⟩
        have hwn : IntKind.u64.wrap (n : Int) = n := by rw [IntKind.wrap_u64]; omega
        have HS2 : Hid (cb (L.take (k + 1)) = (cs ++ [opByte op]) ++ ul 10 n) := by unfold Hid; rw [HS.out]; rfl
        have hol2 : (ul 10 n).length ≤ 10 := ul_len 10 _
        have H : Hid (∀ w : World, Calls Try.prog 48 #[.int .u64 (n : Int)] w fun e w' => e = .returned (.string (str (ul 10 n))) ∧ Below w.heap.size w w') := fun w => specUleb n (by unfold Hid; omega) w
        generalize ul 10 n = os at H HS2 hol2
        have ha2 := str_app (cs ++ [opByte op]) os
        have hs4 := str_size os
        clear HS hmk hol g0 g1
        clear hfk
        go_wp2_with (first | (go_at_call 84; refine (O _).mono ?_; rintro e w1 ⟨rfl, hw⟩; obtain rfl := hw.symm; clear O) | (go_at_call 48; refine (H.out _).mono ?_; rintro e w2 ⟨rfl, hb2⟩; clear H))
        go_roundw
        case rel =>
          refine ⟨k + 1, _, by omega, by go_num, rfl, by unfold Hid; rw [HS2.out]; simp, by simp; omega, ?_⟩
          exact below2 (bel_alloc (bel_alloc HX.out _) _) hb2
        case measure => simp [intOf]; omega
      · have HS2 : Hid (cb (L.take (k + 1)) = (cs ++ [opByte op]) ++ sl 10 y) := by unfold Hid; rw [HS.out]; rfl
        have hol2 : (sl 10 y).length ≤ 10 := sl_len 10 _
        have H : Hid (∀ w : World, Calls Try.prog 85 #[.int .i64 y] w fun e w' => e = .returned (.string (str (sl 10 y))) ∧ Below w.heap.size w w') := fun w => specSleb y (sfit_i64 y hfk.1 hfk.2) w
        generalize sl 10 y = os at H HS2 hol2
        have ha2 := str_app (cs ++ [opByte op]) os
        have hs4 := str_size os
        clear HS hmk hol
        clear hfk
        go_wp2_with (first | (go_at_call 84; refine (O _).mono ?_; rintro e w1 ⟨rfl, hw⟩; obtain rfl := hw.symm; clear O) | (go_at_call 85; refine (H.out _).mono ?_; rintro e w2 ⟨rfl, hb2⟩; clear H))
        go_roundw
        case rel =>
          refine ⟨k + 1, _, by omega, by go_num, rfl, by unfold Hid; rw [HS2.out]; simp, by simp; omega, ?_⟩
          exact below2 (bel_alloc (bel_alloc HX.out _) _) hb2
        case measure => simp [intOf]; omega
      · have HS2 : Hid (cb (L.take (k + 1)) = (cs ++ [opByte op]) ++ sl 10 y) := by unfold Hid; rw [HS.out]; rfl
        have hol2 : (sl 10 y).length ≤ 10 := sl_len 10 _
        have H : Hid (∀ w : World, Calls Try.prog 85 #[.int .i64 y] w fun e w' => e = .returned (.string (str (sl 10 y))) ∧ Below w.heap.size w w') := fun w => specSleb y (sfit_i64 y hfk.1 hfk.2) w
        generalize sl 10 y = os at H HS2 hol2
        have ha2 := str_app (cs ++ [opByte op]) os
        have hs4 := str_size os
        clear HS hmk hol
        clear hfk
        go_wp2_with (first | (go_at_call 84; refine (O _).mono ?_; rintro e w1 ⟨rfl, hw⟩; obtain rfl := hw.symm; clear O) | (go_at_call 85; refine (H.out _).mono ?_; rintro e w2 ⟨rfl, hb2⟩; clear H))
        go_roundw
        case rel =>
          refine ⟨k + 1, _, by omega, by go_num, rfl, by unfold Hid; rw [HS2.out]; simp, by simp; omega, ?_⟩
          exact below2 (bel_alloc (bel_alloc HX.out _) _) hb2
        case measure => simp [intOf]; omega
      · obtain ⟨g0, g1⟩ := may_nat (by omega) hmk
        obtain ⟨n, rfl⟩ : ∃ n : Nat, y = n := ⟨y.toNat, by omega⟩
        have hwn : IntKind.u64.wrap (n : Int) = n := by rw [IntKind.wrap_u64]; omega
        have HS2 : Hid (cb (L.take (k + 1)) = (cs ++ [opByte op]) ++ leB n 4) := by unfold Hid; rw [HS.out]; rfl
        have hol2 : (leB n 4).length ≤ 10 := (by rw [leB_len]; omega)
        have H : Hid (∀ w : World, Calls Try.prog 50 #[.int .u64 (n : Int), .int .i64 4] w fun e w' => e = .returned (.string (str (leB n 4))) ∧ Below w.heap.size w w') := fun w => l5Bytes n 4 (by omega) w
        generalize leB n 4 = os at H HS2 hol2
        have ha2 := str_app (cs ++ [opByte op]) os
        have hs4 := str_size os
        clear HS hmk hol g0 g1
        clear hfk
        go_wp2_with (first | (go_at_call 84; refine (O _).mono ?_; rintro e w1 ⟨rfl, hw⟩; obtain rfl := hw.symm; clear O) | (go_at_call 50; refine (H.out _).mono ?_; rintro e w2 ⟨rfl, hb2⟩; clear H))
        go_roundw
        case rel =>
          refine ⟨k + 1, _, by omega, by go_num, rfl, by unfold Hid; rw [HS2.out]; simp, by simp; omega, ?_⟩
          exact below2 (bel_alloc (bel_alloc HX.out _) _) hb2
        case measure => simp [intOf]; omega
    · have e : L.take k = L := List.take_of_length_le (by omega)
      have hcs' := hcs.out
      rw [e] at hcs'
      subst hcs'
      clear hcs e
      go_wp2
      go_ret
      exact ⟨rfl, hnx⟩

end Go.Proofs.Ytokaljglaholnaa
