/-
  The walk of the specification's own function that tells sections in bytes.
-/
import Derived.Test.YtokaljglaholnaaSecBytes
import Derived.Deep.RegionWith
namespace Go.Proofs.Ytokaljglaholnaa
open Go.ChangeShapes Go.WideShapes Go.ChangeAt Go.RowKit

theorem cat_bytes (cs s : ByteArray) (i : Nat) : (cs ++ (⟨#[loB i]⟩ ++ ⟨(ul 10 s.size).toArray⟩ ++ s)).data.toList = cs.data.toList ++ (loB i :: ul 10 s.size ++ s.data.toList) := by
  simp
theorem cat_size (cs s : ByteArray) (i : Nat) : (cs ++ (⟨#[loB i]⟩ ++ ⟨(ul 10 s.size).toArray⟩ ++ s)).size = cs.size + (1 + (ul 10 s.size).length + s.size) := by
  rw [ByteArray.size_append, ByteArray.size_append, ByteArray.size_append]
  rfl
theorem one_string (i : Nat) (h : i < 128) (N : Nat) (W : World) (hc : W.cell? ⟨N, 0, none⟩ = some (.int .u8 (i : Int))) : (convert 73 9 (.slice (some ⟨N, 0, none⟩) 1 1)).run Try.prog W = .ok (.string ⟨#[loB i]⟩) W := by
  have H := run_convert_bytes_back (P := Try.prog) W 73 9 5 ⟨N, 0, none⟩ 1 [loB i] Try.underlying73 Try.underlying5 Try.underlying9 (fun j hj => by
    obtain rfl : j = 0 := by simpa using hj
    simp only [List.getElem_cons_zero]
    rw [loB_nat i h]
    exact hc)
  exact H
theorem bcell {W w1 : World} (hb : Below W.heap.size W w1) : (∀ b o, b < W.heap.size → w1.cell? ⟨b, o, none⟩ = W.cell? ⟨b, o, none⟩) ∧ (∀ b o, b < W.heap.size → w1.frozen? ⟨b, o, none⟩ = W.frozen? ⟨b, o, none⟩) :=
  ⟨fun b o h => hb.cell (p := ⟨b, o, none⟩) h, fun b o h => hb.frozen (p := ⟨b, o, none⟩) h⟩

set_option maxRecDepth 100000 in
set_option maxHeartbeats 20000000 in
theorem specSecs (a : Option Addr) (b off cap : Nat) (L : List (Int × ByteArray)) (w : World) (ha : Hid (L ≠ [] → a = some ⟨b, off, none⟩ ∧ b < w.heap.size)) (hL : secAt w b off L) (hlen : L.length ≤ 1048576) (hsz : ∀ i (h : i < L.length), L[i].2.size ≤ 1048576) :
    Calls Try.prog 49 #[.slice a L.length cap] w fun e w' => e = .returned (secRes L) ∧ Below w.heap.size w w' := by
  have HG := specGood a b off cap L w ha hL hlen hsz
  by_cases hg : secGood L = true
  · rw [hg] at HG
    obtain ⟨h20, hat⟩ := secGood_at L hg
    go_enter Try.func49, Try.ntmps49
    go_wp2_with (go_at_call 78; refine HG.mono ?_; rintro e w0 ⟨rfl, hb0⟩; clear HG)
    go_loopw [4, 12] (fun v i wr => ∃ (k : Nat) (cs : ByteArray), k ≤ L.length ∧ i = .int .i64 k ∧ Hid (cs.data.toList = secBytes (L.take k)) ∧ cs.size ≤ 1011 * k ∧ v = .string cs ∧ Below w.heap.size w wr) (fun _ i _ => L.length - (intOf i).toNat)
    case atStart => exact ⟨0, ⟨#[]⟩, by omega, rfl, (show ([] : List UInt8) = secBytes (L.take 0) by simp [secBytes]), Nat.zero_le _, rfl, hb0⟩
    case round =>
      obtain ⟨k, cs, hk, rfl, hcs, hcl, rfl, hnx⟩ := hrel
      have hsz' := hnx.size
      by_cases hlt : k < L.length
      · obtain ⟨rfl, hb⟩ := ha.out (fun h => by simp [h] at hlt)
        have hc := hL k hlt
        have hak := hat k hlt
        have hsn := secBytes_snoc L k hlt
        obtain ⟨x, hx⟩ : ∃ x, x = L[k] := ⟨_, rfl⟩
        rw [← hx] at hc hak hsn
        obtain ⟨id, s⟩ := x
        clear hx
        simp only at hc hak
        obtain ⟨i, rfl⟩ : ∃ i : Nat, id = i := ⟨id.toNat, by omega⟩
        have HS : Hid (secBytes (L.take (k + 1)) = cs.data.toList ++ (loB i :: ul 10 s.size ++ s.data.toList)) := by
          unfold Hid; rw [hsn, hcs.out]; simp [secOne]
        clear hsn
        have hc0 : wr.cell? ⟨b, off + k * 2, none⟩ = some (.int .i64 (i : Int)) := (hnx.cell (by exact hb)).trans hc.1
        have hc1 : wr.cell? ⟨b, off + k * 2 + 1, none⟩ = some (.string s) := (hnx.cell (by exact hb)).trans hc.2
        clear hc
        have hi20 : i ≤ 20 := by omega
        have hs1000 : s.size ≤ 1000 := hak.2.2
        have hul := ul_len 10 s.size
        have hcl5 : cs.size ≤ 100000 := by omega
        have HU : Hid (∀ w : World, Calls Try.prog 48 #[.int .u64 (s.size : Int)] w fun e w' => e = .returned (.string ⟨(ul 10 s.size).toArray⟩) ∧ Below w.heap.size w w') := fun w => specUleb s.size (by unfold Hid; omega) w
        have hcv := one_string i (by omega)
        have hw8 : IntKind.u8.wrap (i : Int) = i := by rw [IntKind.wrap_u8]; omega
        have hw64 : IntKind.u64.wrap (s.size : Int) = s.size := by rw [IntKind.wrap_u64]; omega
        clear hat hL hsz ha hg hlen hk hak
        go_wp2
        clear hc0 hc1
        go_region_with (go_at_call 48; refine (HU.out _).mono ?_; rintro e w1 ⟨rfl, hb2⟩; obtain ⟨hcc, hff⟩ := bcell hb2; have d0 : w1.cell? ⟨wr.heap.size, 0, none⟩ = some (.int .i64 (i : Int)) := (hcc wr.heap.size 0 (by simp <;> omega)).trans (by simp); have d1 : w1.cell? ⟨wr.heap.size, 1, none⟩ = some (.string s) := (hcc wr.heap.size 1 (by simp <;> omega)).trans (by simp); have hbw : Below w.heap.size w w1 := Below.trans (by repeat (first | exact hnx | apply Below.drew | (refine Below.alloc ?_ (by first | exact hsz' | (simp; omega)) _))) (hb2.mono (by first | exact hsz' | (simp; omega))); have hl1 : wr.heap.size < w1.heap.size := Nat.lt_of_lt_of_le (by simp <;> omega) hb2.size; clear hff)
        all_goals (try go_wp2)
        all_goals
          (go_roundw
           case rel => exact ⟨k + 1, _, by omega, by go_num, (cat_bytes cs s i).trans HS.out.symm, by rw [cat_size]; omega, rfl, by first | exact hbw | exact hbw.drew | exact (hbw.alloc (by have := hbw.size; omega) _) | exact (hbw.drew.alloc (by have := hbw.size; omega) _) | exact (hbw.alloc (by have := hbw.size; omega) _).drew⟩
           case measure => simp [intOf]; omega)
      · have e : L.take k = L := List.take_of_length_le (by omega)
        have hcs' := hcs.out
        rw [e] at hcs'
        have hcb : cs = ⟨(secBytes L).toArray⟩ := by apply ByteArray.ext; apply Array.ext'; simpa using hcs'
        have hsz2 : cs.size = (secBytes L).length := by rw [hcb]; simp [ByteArray.size]
        have HC : Hid (cs = ⟨(secBytes L).toArray⟩) := hcb
        have HZ : Hid (cs.size = (secBytes L).length) := hsz2
        clear hcs hcs' hcb hsz2 e
        by_cases h4 : cs.size ≤ 4000
        · go_wp2
          go_ret2
          have h5 := HZ.out
          exact ⟨by rw [secRes_yes L hg (by omega), ← HC.out]; rfl, hnx⟩
        · have h4' : (4000 : Int) < cs.size := by omega
          go_wp2
          go_ret2
          have h5 := HZ.out
          exact ⟨by rw [secRes_no L (fun h => by omega)]; rfl, hnx⟩
  · rw [secRes_no L (fun h => hg h.1)]
    have hg' : secGood L = false := by simpa using hg
    rw [hg'] at HG
    go_enter Try.func49, Try.ntmps49
    go_wp2_with (go_at_call 78; refine HG.mono ?_; rintro e w0 ⟨rfl, hb0⟩; clear HG)
    go_ret2
    exact ⟨rfl, by assumption⟩

end Go.Proofs.Ytokaljglaholnaa
