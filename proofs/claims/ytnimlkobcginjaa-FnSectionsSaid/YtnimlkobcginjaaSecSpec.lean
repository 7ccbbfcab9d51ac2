/-
  The walk of the specification's own function that tells sections in bytes.
-/
import Derived.Test.YtnimlkobcginjaaQPick
import Derived.Test.YtnimlkobcginjaaBel
import Derived.Test.YtnimlkobcginjaaSecBytes
import Derived.Deep.RegionWith
namespace Go.Proofs.Ytnimlkobcginjaa
open Go.ChangeShapes Go.WideShapes Go.ChangeAt Go.RowKit

theorem cat_bytes (cs s : ByteArray) (i : Nat) : (cs ++ (⟨#[loB i]⟩ ++ ⟨(ul 10 s.size).toArray⟩ ++ s)).data.toList = cs.data.toList ++ (loB i :: ul 10 s.size ++ s.data.toList) := by
  simp
theorem cat_size (cs s : ByteArray) (i : Nat) : (cs ++ (⟨#[loB i]⟩ ++ ⟨(ul 10 s.size).toArray⟩ ++ s)).size = cs.size + (1 + (ul 10 s.size).length + s.size) := by
  rw [ByteArray.size_append, ByteArray.size_append, ByteArray.size_append]
  rfl
theorem one_string (i : Nat) (h : i < 128) (N : Nat) (W : World) (hc : W.cell? ⟨N, 0, none⟩ = some (.int .u8 (i : Int))) : (convert 22 9 (.slice (some ⟨N, 0, none⟩) 1 1)).run Try.prog W = .ok (.string ⟨#[loB i]⟩) W := by
  have H := run_convert_bytes_back (P := Try.prog) W 22 9 5 ⟨N, 0, none⟩ 1 [loB i] Try.underlying22 Try.underlying5 Try.underlying9 (fun j hj => by
    obtain rfl : j = 0 := by simpa using hj
    simp only [List.getElem_cons_zero]
    rw [loB_nat i h]
    exact hc)
  exact H
theorem bcell {W w1 : World} (hb : Below W.heap.size W w1) : (∀ b o, b < W.heap.size → w1.cell? ⟨b, o, none⟩ = W.cell? ⟨b, o, none⟩) ∧ (∀ b o, b < W.heap.size → w1.frozen? ⟨b, o, none⟩ = W.frozen? ⟨b, o, none⟩) :=
  ⟨fun b o h => hb.cell (p := ⟨b, o, none⟩) h, fun b o h => hb.frozen (p := ⟨b, o, none⟩) h⟩

set_option maxRecDepth 100000 in
set_option maxHeartbeats 20000000 in
theorem specSecs (a : Option Addr) (b off cap : Nat) (L : List (Int × ByteArray)) (w : World) (ha : Hid (L ≠ [] → a = some ⟨b, off, none⟩ ∧ b < w.heap.size)) (hL : secAt w b off L) (hlen : L.length ≤ 1048576) (hsz : ∀ i (h : i < L.length), L[i].2.size ≤ 1048576) :
    Calls Try.prog 21 #[.slice a L.length cap] w fun e w' => e = .returned (secRes L) ∧ Below w.heap.size w w' := by
  have HG := specGood a b off cap L w ha hL hlen hsz
  by_cases hg : secGood L = true
  · rw [hg] at HG
    obtain ⟨h20, hat⟩ := secGood_at L hg
    go_enter Try.func21, Try.ntmps21
    go_wp2_with (go_at_call 62; refine HG.mono ?_; rintro e w0 ⟨rfl, hb0⟩; clear HG)
    go_loopw [4, 12] (fun v i wr => ∃ (k : Nat) (cs : ByteArray), k ≤ L.length ∧ i = .int .i64 k ∧ Hid (cs.data.toList = secBytes (L.take k)) ∧ cs.size ≤ 1011 * k ∧ v = .string cs ∧ Below w.heap.size w wr) (fun _ i _ => L.length - (intOf i).toNat)
    case atStart => exact ⟨0, ⟨#[]⟩, by omega, rfl, (show ([] : List UInt8) = secBytes (L.take 0) by simp [secBytes]), Nat.zero_le _, rfl, hb0⟩
    case round =>
      obtain ⟨k, cs, hk, rfl, hcs, hcl, rfl, hnx⟩ := hrel
      have hsz' := hnx.size
      by_cases hlt : k < L.length
      · obtain ⟨rfl, hb⟩ := ha.out (fun h => by simp [h] at hlt)
        have hc := hL k hlt
        have hak := hat k hlt
        have hsn := secBytes_snoc L k hlt
        obtain ⟨x, hx⟩ : ∃ x, x = L[k] := ⟨_, rfl⟩
        rw [← hx] at hc hak hsn
        obtain ⟨id, s⟩ := x
        clear hx
        simp only at hc hak
        obtain ⟨i, rfl⟩ : ∃ i : Nat, id = i := ⟨id.toNat, by omega⟩
        have HS : Hid (secBytes (L.take (k + 1)) = cs.data.toList ++ (loB i :: ul 10 s.size ++ s.data.toList)) := by
          unfold Hid; rw [hsn, hcs.out]; simp [secOne]
        clear hsn
        have hc0 : wr.cell? ⟨b, off + k * 2, none⟩ = some (.int .i64 (i : Int)) := (hnx.cell (by exact hb)).trans hc.1
        have hc1 : wr.cell? ⟨b, off + k * 2 + 1, none⟩ = some (.string s) := (hnx.cell (by exact hb)).trans hc.2
        clear hc
        have hi20 : i ≤ 20 := by omega
        have hs1000 : s.size ≤ 1000 := hak.2.2
        have hul := ul_len 10 s.size
        have hcl5 : cs.size ≤ 100000 := by omega
        have HU : Hid (∀ w : World, Calls Try.prog 49 #[.int .u64 (s.size : Int)] w fun e w' => e = .returned (.string ⟨(ul 10 s.size).toArray⟩) ∧ Below w.heap.size w w') := fun w => specUleb s.size (by unfold Hid; omega) w
        have hcv := one_string i (by omega)
        have hw8 : IntKind.u8.wrap (i : Int) = i := by rw [IntKind.wrap_u8]; omega
        have hw64 : IntKind.u64.wrap (s.size : Int) = s.size := by rw [IntKind.wrap_u64]; omega
        have HC1 : Hid (∀ (N : Nat) (W : World), W.cell? ⟨N, 0, none⟩ = some (.int .u8 (i : Int)) → (convert 22 9 (.slice (some ⟨N, 0, none⟩) 1 1)).run Try.prog W = .ok (.string ⟨#[loB i]⟩) W) := hcv
        have HCS : Hid ((cs ++ (⟨#[loB i]⟩ ++ ⟨(ul 10 s.size).toArray⟩ ++ s)).data.toList = secBytes (L.take (k + 1))) := (cat_bytes cs s i).trans HS.out.symm
        have HCZ : Hid ((cs ++ (⟨#[loB i]⟩ ++ ⟨(ul 10 s.size).toArray⟩ ++ s)).size ≤ 1011 * (k + 1)) := by unfold Hid; rw [cat_size]; omega
        have z1 : (⟨#[loB i]⟩ : ByteArray).size = 1 := rfl
        have z2 : (⟨(ul 10 s.size).toArray⟩ : ByteArray).size ≤ 10 := by show (ul 10 s.size).toArray.size ≤ 10; simpa using hul
        clear hat hL hsz ha hg hlen hak hcv hul HS
        generalize (⟨#[loB i]⟩ : ByteArray) = Z at HC1 HCS HCZ z1
        generalize (⟨(ul 10 s.size).toArray⟩ : ByteArray) = Q at HU HCS HCZ z2
        have y1 : (Z ++ Q).size = Z.size + Q.size := by rw [ByteArray.size_append]
        have y2 : (Z ++ Q ++ s).size = Z.size + Q.size + s.size := by rw [ByteArray.size_append]; omega
        go_wp2_with fail
        clear hc0 hc1
        obtain ⟨z, hz⟩ : ∃ z, wr.heap.size = z := ⟨_, rfl⟩
        obtain ⟨W, hW⟩ : ∃ W, wr.alloc (.cells #[.int .i64 (i : Int), .string s] 44) = W := ⟨_, rfl⟩
        have hbW : Hid (Below w.heap.size w W) := by unfold Hid; rw [← hW]; exact bel_alloc hnx _
        have hxW : W.heap[z]? = some (.cells #[.int .i64 (i : Int), .string s] 44 (0, 0)) := by rw [← hW, ← hz]; exact heap_alloc_new _ _
        rw [hW]
        rw [hz]
        clear hz hnx hW hsz'
        refine wh_begin (fun w' => w'.heap[z]? = some (.cells #[.int .i64 (i : Int), .string s] 44 (0, 0))) (by kernel_rfl) ?_
        have hb0' : Hid (Below w.heap.size w W.drew) := hbW.out.drew
        have hS0 : W.drew.heap[z]? = some (.cells #[.int .i64 (i : Int), .string s] 44 (0, 0)) := hxW
        refine wh_take 0 (some 16) (.string cs) rfl rfl (by kernel_rfl) (by kernel_rfl) (by kernel_rfl) (fun _ _ _ h => h) hS0 (by rfl) (fun w' hS => by first | rfl | (go_simp; done) | (go_simp; omega)) ?_
        simp only [Act.put, List.setIfInBounds_toArray, List.set_cons_zero, List.set_cons_succ]
        refine wh_take 1 (some 17) (.pointer (some ⟨z, 0, none⟩)) rfl rfl (by kernel_rfl) (by kernel_rfl) (by kernel_rfl) (fun _ _ _ h => h) hS0 (by rfl) (fun w' hS => by first | rfl | (go_simp; done) | (go_simp; omega)) ?_
        simp only [Act.put, List.setIfInBounds_toArray, List.set_cons_zero, List.set_cons_succ]
        refine wh_take 2 (some 18) (.int .i64 (i : Int)) rfl rfl (by kernel_rfl) (by kernel_rfl) (by kernel_rfl) (fun _ _ _ h => h) hS0 (by rfl) (fun w' hS => by have q := (cell_of_block hS 0).trans rfl; first | rfl | (go_simp; done) | (go_simp; omega)) ?_
        simp only [Act.put, List.setIfInBounds_toArray, List.set_cons_zero, List.set_cons_succ]
        refine wh_take 3 (some 19) (.int .u8 (i : Int)) rfl rfl (by kernel_rfl) (by kernel_rfl) (by kernel_rfl) (fun _ _ _ h => h) hS0 (by rfl) (fun w' hS => by first | rfl | (go_simp; done) | (go_simp; omega)) ?_
        simp only [Act.put, List.setIfInBounds_toArray, List.set_cons_zero, List.set_cons_succ]
        refine wh_take 6 (some 22) (.pointer (some ⟨z, 1, none⟩)) rfl rfl (by kernel_rfl) (by kernel_rfl) (by kernel_rfl) (fun _ _ _ h => h) hS0 (by rfl) (fun w' hS => by first | rfl | (go_simp; done) | (go_simp; omega)) ?_
        simp only [Act.put, List.setIfInBounds_toArray, List.set_cons_zero, List.set_cons_succ]
        refine wh_take 7 (some 23) (.string s) rfl rfl (by kernel_rfl) (by kernel_rfl) (by kernel_rfl) (fun _ _ _ h => h) hS0 (by rfl) (fun w' hS => by have q := (cell_of_block hS 1).trans rfl; first | rfl | (go_simp; done) | (go_simp; omega)) ?_
        simp only [Act.put, List.setIfInBounds_toArray, List.set_cons_zero, List.set_cons_succ]
        refine wh_take 8 (some 24) (.int .i64 (s.size : Int)) rfl rfl (by kernel_rfl) (by kernel_rfl) (by kernel_rfl) (fun _ _ _ h => h) hS0 (by rfl) (fun w' hS => by first | rfl | (go_simp; done) | (go_simp; omega)) ?_
        simp only [Act.put, List.setIfInBounds_toArray, List.set_cons_zero, List.set_cons_succ]
        refine wh_take 9 (some 25) (.int .u64 (s.size : Int)) rfl rfl (by kernel_rfl) (by kernel_rfl) (by kernel_rfl) (fun _ _ _ h => h) hS0 (by rfl) (fun w' hS => by first | rfl | (go_simp; done) | (go_simp; omega)) ?_
        simp only [Act.put, List.setIfInBounds_toArray, List.set_cons_zero, List.set_cons_succ]
        refine wh_take 12 (some 28) (.pointer (some ⟨z, 1, none⟩)) rfl rfl (by kernel_rfl) (by kernel_rfl) (by kernel_rfl) (fun _ _ _ h => h) hS0 (by rfl) (fun w' hS => by first | rfl | (go_simp; done) | (go_simp; omega)) ?_
        simp only [Act.put, List.setIfInBounds_toArray, List.set_cons_zero, List.set_cons_succ]
        refine wh_take 13 (some 29) (.string s) rfl rfl (by kernel_rfl) (by kernel_rfl) (by kernel_rfl) (fun _ _ _ h => h) hS0 (by rfl) (fun w' hS => by have q := (cell_of_block hS 1).trans rfl; first | rfl | (go_simp; done) | (go_simp; omega)) ?_
        simp only [Act.put, List.setIfInBounds_toArray, List.set_cons_zero, List.set_cons_succ]
        refine wh_two 4 10 (by kernel_rfl) ?_ ?_
        · have hbA : Hid (Below w.heap.size w (W.drew.alloc (.cells #[.int .u8 (i : Int)] 5))) := bel_alloc hb0'.out _
          have hSA : (W.drew.alloc (.cells #[.int .u8 (i : Int)] 5)).heap[z]? = some (.cells #[.int .i64 (i : Int), .string s] 44 (0, 0)) := (Below.heap_alloc _ _ _ (lt_of_block hS0)).trans hS0
          have hNA : (W.drew.alloc (.cells #[.int .u8 (i : Int)] 5)).heap[W.drew.heap.size]? = some (.cells #[.int .u8 (i : Int)] 5 (0, 0)) := heap_alloc_new _ _
          refine wo_val (some 20) (.slice (some ⟨W.drew.heap.size, 0, none⟩) 1 1) (W.drew.alloc (.cells #[.int .u8 (i : Int)] 5)) rfl rfl (by rfl) (by first | rfl | go_simp) hSA ?_
          simp only [Act.put, List.setIfInBounds_toArray, List.set_cons_zero, List.set_cons_succ]
          generalize W.drew.alloc (.cells #[.int .u8 (i : Int)] 5) = VA at hbA hSA hNA ⊢
          generalize W.drew.heap.size = N at hNA ⊢
          have hcA := HC1.out N VA ((cell_of_block hNA 0).trans rfl)
          refine wh_two 5 10 (by kernel_rfl) ?_ ?_
          · refine wo_val (some 21) (.string Z) VA rfl rfl (by rfl) (by first | rfl | go_simp) hSA ?_
            simp only [Act.put, List.setIfInBounds_toArray, List.set_cons_zero, List.set_cons_succ]
            refine wh_call 10 (some 26) 49 #[.int .u64 (s.size : Int)] (by kernel_rfl) rfl rfl (by rfl) (by kernel_rfl) ?_
            refine (HU.out _).mono ?_
            rintro e VB ⟨rfl, hbB⟩
            have hbV : Hid (Below w.heap.size w VB) := bel_step hbA.out hbB
            have hSB : VB.heap[z]? = some (.cells #[.int .i64 (i : Int), .string s] 44 (0, 0)) := (hbB.block z (lt_of_block hSA)).trans hSA
            refine ⟨_, rfl, hSB, ?_⟩
            simp only [Act.put, List.setIfInBounds_toArray, List.set_cons_zero, List.set_cons_succ]
            refine wh_take 11 (some 27) (.string (Z ++ Q)) rfl rfl (by kernel_rfl) (by kernel_rfl) (by kernel_rfl) (fun _ _ _ h => h) hSB (by rfl) (fun w' hS => by first | rfl | (go_simp; done) | (go_simp; omega)) ?_
            simp only [Act.put, List.setIfInBounds_toArray, List.set_cons_zero, List.set_cons_succ]
            refine wh_take 14 (some 30) (.string (Z ++ Q ++ s)) rfl rfl (by kernel_rfl) (by kernel_rfl) (by kernel_rfl) (fun _ _ _ h => h) hSB (by rfl) (fun w' hS => by first | rfl | (go_simp; done) | (go_simp; omega)) ?_
            simp only [Act.put, List.setIfInBounds_toArray, List.set_cons_zero, List.set_cons_succ]
            refine wh_take 15 (some 31) (.string (cs ++ (Z ++ Q ++ s))) rfl rfl (by kernel_rfl) (by kernel_rfl) (by kernel_rfl) (fun _ _ _ h => h) hSB (by rfl) (fun w' hS => by first | rfl | (go_simp; done) | (go_simp; omega)) ?_
            simp only [Act.put, List.setIfInBounds_toArray, List.set_cons_zero, List.set_cons_succ]
            refine wh_val 16 (some 4) (.string (cs ++ (Z ++ Q ++ s))) VB (by kernel_rfl) rfl rfl (by rfl) (by rfl) hSB ?_
            simp only [Act.put, List.setIfInBounds_toArray, List.set_cons_zero, List.set_cons_succ]
            refine wh_done (by kernel_rfl) ?_
            have HE : Hid (Below w.heap.size w VB) := hbV.out
            clear hb0' hS0 hbW hxW HU HC1 y1 y2 z1 z2 hw8 hw64
            go_wp2
            go_roundw
            case rel => exact ⟨k + 1, _, by omega, by go_num, HCS.out, HCZ.out, rfl, HE.out⟩
            case measure => simp [intOf]; omega
          · refine wo_call (some 26) 49 #[.int .u64 (s.size : Int)] rfl rfl (by rfl) (by kernel_rfl) ?_
            refine (HU.out _).mono ?_
            rintro e VB ⟨rfl, hbB⟩
            have hbV : Hid (Below w.heap.size w VB) := bel_step hbA.out hbB
            have hSB : VB.heap[z]? = some (.cells #[.int .i64 (i : Int), .string s] 44 (0, 0)) := (hbB.block z (lt_of_block hSA)).trans hSA
            have hNB := (hbB.block N (lt_of_block hNA)).trans hNA
            have hcB := HC1.out N VB ((cell_of_block hNB 0).trans rfl)
            refine ⟨_, rfl, hSB, ?_⟩
            simp only [Act.put, List.setIfInBounds_toArray, List.set_cons_zero, List.set_cons_succ]
            refine wh_val 5 (some 21) (.string Z) VB (by kernel_rfl) rfl rfl (by rfl) (by first | rfl | go_simp) hSB ?_
            simp only [Act.put, List.setIfInBounds_toArray, List.set_cons_zero, List.set_cons_succ]
            refine wh_take 11 (some 27) (.string (Z ++ Q)) rfl rfl (by kernel_rfl) (by kernel_rfl) (by kernel_rfl) (fun _ _ _ h => h) hSB (by rfl) (fun w' hS => by first | rfl | (go_simp; done) | (go_simp; omega)) ?_
            simp only [Act.put, List.setIfInBounds_toArray, List.set_cons_zero, List.set_cons_succ]
            refine wh_take 14 (some 30) (.string (Z ++ Q ++ s)) rfl rfl (by kernel_rfl) (by kernel_rfl) (by kernel_rfl) (fun _ _ _ h => h) hSB (by rfl) (fun w' hS => by first | rfl | (go_simp; done) | (go_simp; omega)) ?_
            simp only [Act.put, List.setIfInBounds_toArray, List.set_cons_zero, List.set_cons_succ]
            refine wh_take 15 (some 31) (.string (cs ++ (Z ++ Q ++ s))) rfl rfl (by kernel_rfl) (by kernel_rfl) (by kernel_rfl) (fun _ _ _ h => h) hSB (by rfl) (fun w' hS => by first | rfl | (go_simp; done) | (go_simp; omega)) ?_
            simp only [Act.put, List.setIfInBounds_toArray, List.set_cons_zero, List.set_cons_succ]
            refine wh_val 16 (some 4) (.string (cs ++ (Z ++ Q ++ s))) VB (by kernel_rfl) rfl rfl (by rfl) (by rfl) hSB ?_
            simp only [Act.put, List.setIfInBounds_toArray, List.set_cons_zero, List.set_cons_succ]
            refine wh_done (by kernel_rfl) ?_
            have HE : Hid (Below w.heap.size w VB) := hbV.out
            clear hb0' hS0 hbW hxW HU HC1 y1 y2 z1 z2 hw8 hw64
            go_wp2
            go_roundw
            case rel => exact ⟨k + 1, _, by omega, by go_num, HCS.out, HCZ.out, rfl, HE.out⟩
            case measure => simp [intOf]; omega
        · refine wo_call (some 26) 49 #[.int .u64 (s.size : Int)] rfl rfl (by rfl) (by kernel_rfl) ?_
          refine (HU.out _).mono ?_
          rintro e VB ⟨rfl, hbB⟩
          have hbV : Hid (Below w.heap.size w VB) := bel_step hb0'.out hbB
          have hSB : VB.heap[z]? = some (.cells #[.int .i64 (i : Int), .string s] 44 (0, 0)) := (hbB.block z (lt_of_block hS0)).trans hS0
          refine ⟨_, rfl, hSB, ?_⟩
          simp only [Act.put, List.setIfInBounds_toArray, List.set_cons_zero, List.set_cons_succ]
          have hbA : Hid (Below w.heap.size w (VB.alloc (.cells #[.int .u8 (i : Int)] 5))) := bel_alloc hbV.out _
          have hSA : (VB.alloc (.cells #[.int .u8 (i : Int)] 5)).heap[z]? = some (.cells #[.int .i64 (i : Int), .string s] 44 (0, 0)) := (Below.heap_alloc _ _ _ (lt_of_block hSB)).trans hSB
          have hNA : (VB.alloc (.cells #[.int .u8 (i : Int)] 5)).heap[VB.heap.size]? = some (.cells #[.int .u8 (i : Int)] 5 (0, 0)) := heap_alloc_new _ _
          refine wh_val 4 (some 20) (.slice (some ⟨VB.heap.size, 0, none⟩) 1 1) (VB.alloc (.cells #[.int .u8 (i : Int)] 5)) (by kernel_rfl) rfl rfl (by rfl) (by first | rfl | go_simp) hSA ?_
          simp only [Act.put, List.setIfInBounds_toArray, List.set_cons_zero, List.set_cons_succ]
          generalize VB.alloc (.cells #[.int .u8 (i : Int)] 5) = VA at hbA hSA hNA ⊢
          generalize VB.heap.size = N at hNA ⊢
          have hcA := HC1.out N VA ((cell_of_block hNA 0).trans rfl)
          refine wh_val 5 (some 21) (.string Z) VA (by kernel_rfl) rfl rfl (by rfl) (by first | rfl | go_simp) hSA ?_
          simp only [Act.put, List.setIfInBounds_toArray, List.set_cons_zero, List.set_cons_succ]
          refine wh_take 11 (some 27) (.string (Z ++ Q)) rfl rfl (by kernel_rfl) (by kernel_rfl) (by kernel_rfl) (fun _ _ _ h => h) hSA (by rfl) (fun w' hS => by first | rfl | (go_simp; done) | (go_simp; omega)) ?_
          simp only [Act.put, List.setIfInBounds_toArray, List.set_cons_zero, List.set_cons_succ]
          refine wh_take 14 (some 30) (.string (Z ++ Q ++ s)) rfl rfl (by kernel_rfl) (by kernel_rfl) (by kernel_rfl) (fun _ _ _ h => h) hSA (by rfl) (fun w' hS => by first | rfl | (go_simp; done) | (go_simp; omega)) ?_
          simp only [Act.put, List.setIfInBounds_toArray, List.set_cons_zero, List.set_cons_succ]
          refine wh_take 15 (some 31) (.string (cs ++ (Z ++ Q ++ s))) rfl rfl (by kernel_rfl) (by kernel_rfl) (by kernel_rfl) (fun _ _ _ h => h) hSA (by rfl) (fun w' hS => by first | rfl | (go_simp; done) | (go_simp; omega)) ?_
          simp only [Act.put, List.setIfInBounds_toArray, List.set_cons_zero, List.set_cons_succ]
          refine wh_val 16 (some 4) (.string (cs ++ (Z ++ Q ++ s))) VA (by kernel_rfl) rfl rfl (by rfl) (by rfl) hSA ?_
          simp only [Act.put, List.setIfInBounds_toArray, List.set_cons_zero, List.set_cons_succ]
          refine wh_done (by kernel_rfl) ?_
          have HE : Hid (Below w.heap.size w VA) := hbA.out
          clear hb0' hS0 hbW hxW HU HC1 y1 y2 z1 z2 hw8 hw64
          go_wp2
          go_roundw
          case rel => exact ⟨k + 1, _, by omega, by go_num, HCS.out, HCZ.out, rfl, HE.out⟩
          case measure => simp [intOf]; omega
      · have e : L.take k = L := List.take_of_length_le (by omega)
        have hcs' := hcs.out
        rw [e] at hcs'
        have hcb : cs = ⟨(secBytes L).toArray⟩ := by apply ByteArray.ext; apply Array.ext'; simpa using hcs'
        have hsz2 : cs.size = (secBytes L).length := by rw [hcb]; simp [ByteArray.size]
        have HC : Hid (cs = ⟨(secBytes L).toArray⟩) := hcb
        have HZ : Hid (cs.size = (secBytes L).length) := hsz2
        clear hcs hcs' hcb hsz2 e
        by_cases h4 : cs.size ≤ 4000
        · go_wp2
          go_ret2
          have h5 := HZ.out
          exact ⟨by rw [secRes_yes L hg (by omega), ← HC.out]; rfl, hnx⟩
        · have h4' : (4000 : Int) < cs.size := by omega
          go_wp2
          go_ret2
          have h5 := HZ.out
          exact ⟨by rw [secRes_no L (fun h => by omega)]; rfl, hnx⟩
  · rw [secRes_no L (fun h => hg h.1)]
    have hg' : secGood L = false := by simpa using hg
    rw [hg'] at HG
    go_enter Try.func21, Try.ntmps21
    go_wp2_with (go_at_call 62; refine HG.mono ?_; rintro e w0 ⟨rfl, hb0⟩; clear HG)
    go_ret2
    exact ⟨rfl, by assumption⟩

end Go.Proofs.Ytnimlkobcginjaa
