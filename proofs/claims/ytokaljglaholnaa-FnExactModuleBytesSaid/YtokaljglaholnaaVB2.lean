/-
  The walk of the specification's own function that tells sections in bytes.
-/
import Derived.Test.YtokaljglaholnaaUA1
import Derived.Test.YtokaljglaholnaaBel
import Derived.Test.YtokaljglaholnaaSecBytes
import Derived.Deep.RegionWith
import Derived.Test.YtokaljglaholnaaVB1
import Derived.Test.YtokaljglaholnaaVG2
import Derived.Deep.DeepCutAuto
import Derived.Test.YtokaljglaholnaaVG3
namespace Go.Proofs.Ytokaljglaholnaa
open Go.ChangeShapes Go.WideShapes Go.ChangeAt Go.RowKit

theorem cat_bytes (cs s : ByteArray) (i : Nat) : (cs ++ (⟨#[loB i]⟩ ++ ⟨(ul 10 s.size).toArray⟩ ++ s)).data.toList = cs.data.toList ++ (loB i :: ul 10 s.size ++ s.data.toList) := by
  simp
theorem cat_size (cs s : ByteArray) (i : Nat) : (cs ++ (⟨#[loB i]⟩ ++ ⟨(ul 10 s.size).toArray⟩ ++ s)).size = cs.size + (1 + (ul 10 s.size).length + s.size) := by
  rw [ByteArray.size_append, ByteArray.size_append, ByteArray.size_append]
  rfl
theorem one_string (i : Nat) (h : i < 128) (N : Nat) (W : World) (hc : W.cell? ⟨N, 0, none⟩ = some (.int .u8 (i : Int))) : (convert 73 9 (.slice (some ⟨N, 0, none⟩) 1 1)).run Try.prog W = .ok (.string ⟨#[loB i]⟩) W := by
  have H := run_convert_bytes_back (P := Try.prog) W 73 9 5 ⟨N, 0, none⟩ 1 [loB i] Try.underlying73 Try.underlying5 Try.underlying9 (fun j hj => by
    obtain rfl : j = 0 := by simpa using hj
    simp only [List.getElem_cons_zero]
    rw [loB_nat i h]
    exact hc)
  exact H
theorem bcell {W w1 : World} (hb : Below W.heap.size W w1) : (∀ b o, b < W.heap.size → w1.cell? ⟨b, o, none⟩ = W.cell? ⟨b, o, none⟩) ∧ (∀ b o, b < W.heap.size → w1.frozen? ⟨b, o, none⟩ = W.frozen? ⟨b, o, none⟩) :=
  ⟨fun b o h => hb.cell (p := ⟨b, o, none⟩) h, fun b o h => hb.frozen (p := ⟨b, o, none⟩) h⟩

set_option maxRecDepth 100000 in
set_option maxHeartbeats 20000000 in
theorem specSecs (a : Option Addr) (b off cap : Nat) (L : List (Int × ByteArray)) (w : World) (ha : Hid (L ≠ [] → a = some ⟨b, off, none⟩ ∧ b < w.heap.size)) (hL : secAt w b off L) (hlen : L.length ≤ 1048576) (hsz : ∀ i (h : i < L.length), L[i].2.size ≤ 1048576) :
    Calls Try.prog 49 #[.slice a L.length cap] w fun e w' => e = .returned (secRes L) ∧ Below w.heap.size w w' := by
  have HG := specGood a b off cap L w ha hL hlen hsz
  by_cases hg : secGood L = true
  · rw [hg] at HG
    obtain ⟨h20, hat⟩ := secGood_at L hg
    go_enter Try.func49, Try.ntmps49
    go_wp2_with (go_at_call 78; refine HG.mono ?_; rintro e w0 ⟨rfl, hb0⟩; clear HG)
    go_loopw [4, 12] (fun v i wr => ∃ (k : Nat) (cs : ByteArray), k ≤ L.length ∧ i = .int .i64 k ∧ Hid (cs.data.toList = secBytes (L.take k)) ∧ cs.size ≤ 1011 * k ∧ v = .string cs ∧ Below w.heap.size w wr) (fun _ i _ => L.length - (intOf i).toNat)
    case atStart => exact ⟨0, ⟨#[]⟩, by omega, rfl, (show ([] : List UInt8) = secBytes (L.take 0) by simp [secBytes]), Nat.zero_le _, rfl, hb0⟩
    case round =>
      obtain ⟨k, cs, hk, rfl, hcs, hcl, rfl, hnx⟩ := hrel
      have hsz' := hnx.size
      by_cases hlt : k < L.length
      · obtain ⟨rfl, hb⟩ := ha.out (fun h => by simp [h] at hlt)
        have hc := hL k hlt
        have hak := hat k hlt
        have hsn := secBytes_snoc L k hlt
        obtain ⟨x, hx⟩ : ∃ x, x = L[k] := ⟨_, rfl⟩
        rw [← hx] at hc hak hsn
        obtain ⟨id, s⟩ := x
        clear hx
        simp only at hc hak
        obtain ⟨i, rfl⟩ : ∃ i : Nat, id = i := ⟨id.toNat, by omega⟩
        have HS : Hid (secBytes (L.take (k + 1)) = cs.data.toList ++ (loB i :: ul 10 s.size ++ s.data.toList)) := by
          unfold Hid; rw [hsn, hcs.out]; simp [secOne]
        clear hsn
        have hc0 : wr.cell? ⟨b, off + k * 2, none⟩ = some (.int .i64 (i : Int)) := (hnx.cell (by exact hb)).trans hc.1
        have hc1 : wr.cell? ⟨b, off + k * 2 + 1, none⟩ = some (.string s) := (hnx.cell (by exact hb)).trans hc.2
        clear hc
        have hi20 : i ≤ 20 := by omega
        have hs1000 : s.size ≤ 1000 := hak.2.2
        have hul := ul_len 10 s.size
        have hcl5 : cs.size ≤ 100000 := by omega
        have HU : Hid (∀ w : World, Calls Try.prog 48 #[.int .u64 (s.size : Int)] w fun e w' => e = .returned (.string ⟨(ul 10 s.size).toArray⟩) ∧ Below w.heap.size w w') := fun w => specUleb s.size (by unfold Hid; omega) w
        have hcv := one_string i (by omega)
        have hw8 : IntKind.u8.wrap (i : Int) = i := by rw [IntKind.wrap_u8]; omega
        have hw64 : IntKind.u64.wrap (s.size : Int) = s.size := by rw [IntKind.wrap_u64]; omega
        have HC1 : Hid (∀ (N : Nat) (W : World), W.cell? ⟨N, 0, none⟩ = some (.int .u8 (i : Int)) → (convert 73 9 (.slice (some ⟨N, 0, none⟩) 1 1)).run Try.prog W = .ok (.string ⟨#[loB i]⟩) W) := hcv
        have HCS : Hid ((cs ++ (⟨#[loB i]⟩ ++ ⟨(ul 10 s.size).toArray⟩ ++ s)).data.toList = secBytes (L.take (k + 1))) := (cat_bytes cs s i).trans HS.out.symm
        have HCZ : Hid ((cs ++ (⟨#[loB i]⟩ ++ ⟨(ul 10 s.size).toArray⟩ ++ s)).size ≤ 1011 * (k + 1)) := by unfold Hid; rw [cat_size]; omega
        have z1 : (⟨#[loB i]⟩ : ByteArray).size = 1 := rfl
        have z2 : (⟨(ul 10 s.size).toArray⟩ : ByteArray).size ≤ 10 := by show (ul 10 s.size).toArray.size ≤ 10; simpa using hul
        clear hat hL hsz ha hg hlen hak hcv hul HS
        generalize (⟨#[loB i]⟩ : ByteArray) = Z at HC1 HCS HCZ z1
        generalize (⟨(ul 10 s.size).toArray⟩ : ByteArray) = Q at HU HCS HCZ z2
        have y1 : (Z ++ Q).size = Z.size + Q.size := by rw [ByteArray.size_append]
        have y2 : (Z ++ Q ++ s).size = Z.size + Q.size + s.size := by rw [ByteArray.size_append]; omega
        go_wp2_with fail
        clear hc0 hc1
        obtain ⟨z, hz⟩ : ∃ z, wr.heap.size = z := ⟨_, rfl⟩
        obtain ⟨W, hW⟩ : ∃ W, wr.alloc (.cells #[.int .i64 (i : Int), .string s] 61) = W := ⟨_, rfl⟩
        have hbW : Hid (Below w.heap.size w W) := by unfold Hid; rw [← hW]; exact bel_alloc hnx _
        have hxW : W.heap[z]? = some (.cells #[.int .i64 (i : Int), .string s] 61 (0, 0)) := by rw [← hW, ← hz]; exact heap_alloc_new _ _
        rw [hW]
        rw [hz]
        clear hz hnx hW hsz'
        refine wh_begin (fun w' => w'.heap[z]? = some (.cells #[.int .i64 (i : Int), .string s] 61 (0, 0))) (by kernel_rfl) ?_
        have hb0' : Hid (Below w.heap.size w W.drew) := hbW.out.drew
        have hS0 : W.drew.heap[z]? = some (.cells #[.int .i64 (i : Int), .string s] 61 (0, 0)) := hxW
        refine wh_take 0 (some 16) (.string cs) rfl rfl (by kernel_rfl) (by kernel_rfl) (by kernel_rfl) (fun _ _ _ h => h) hS0 (by rfl) (fun w' hS => by first | rfl | (go_simp; done) | (go_simp; omega)) ?_
        simp only [Act.put, List.setIfInBounds_toArray, List.set_cons_zero, List.set_cons_succ]
        refine wh_take 1 (some 17) (.pointer (some ⟨z, 0, none⟩)) rfl rfl (by kernel_rfl) (by kernel_rfl) (by kernel_rfl) (fun _ _ _ h => h) hS0 (by rfl) (fun w' hS => by first | rfl | (go_simp; done) | (go_simp; omega)) ?_
        simp only [Act.put, List.setIfInBounds_toArray, List.set_cons_zero, List.set_cons_succ]
        refine wh_take 2 (some 18) (.int .i64 (i : Int)) rfl rfl (by kernel_rfl) (by kernel_rfl) (by kernel_rfl) (fun _ _ _ h => h) hS0 (by rfl) (fun w' hS => by have q := (cell_of_block hS 0).trans rfl; first | rfl | (go_simp; done) | (go_simp; omega)) ?_
        simp only [Act.put, List.setIfInBounds_toArray, List.set_cons_zero, List.set_cons_succ]
        refine wh_take 3 (some 19) (.int .u8 (i : Int)) rfl rfl (by kernel_rfl) (by kernel_rfl) (by kernel_rfl) (fun _ _ _ h => h) hS0 (by rfl) (fun w' hS => by first | rfl | (go_simp; done) | (go_simp; omega)) ?_
        simp only [Act.put, List.setIfInBounds_toArray, List.set_cons_zero, List.set_cons_succ]
        refine wh_take 6 (some 22) (.pointer (some ⟨z, 1, none⟩)) rfl rfl (by kernel_rfl) (by kernel_rfl) (by kernel_rfl) (fun _ _ _ h => h) hS0 (by rfl) (fun w' hS => by first | rfl | (go_simp; done) | (go_simp; omega)) ?_
        simp only [Act.put, List.setIfInBounds_toArray, List.set_cons_zero, List.set_cons_succ]
        refine wh_take 7 (some 23) (.string s) rfl rfl (by kernel_rfl) (by kernel_rfl) (by kernel_rfl) (fun _ _ _ h => h) hS0 (by rfl) (fun w' hS => by have q := (cell_of_block hS 1).trans rfl; first | rfl | (go_simp; done) | (go_simp; omega)) ?_
        simp only [Act.put, List.setIfInBounds_toArray, List.set_cons_zero, List.set_cons_succ]
        refine wh_take 8 (some 24) (.int .i64 (s.size : Int)) rfl rfl (by kernel_rfl) (by kernel_rfl) (by kernel_rfl) (fun _ _ _ h => h) hS0 (by rfl) (fun w' hS => by first | rfl | (go_simp; done) | (go_simp; omega)) ?_
        simp only [Act.put, List.setIfInBounds_toArray, List.set_cons_zero, List.set_cons_succ]
        refine wh_take 9 (some 25) (.int .u64 (s.size : Int)) rfl rfl (by kernel_rfl) (by kernel_rfl) (by kernel_rfl) (fun _ _ _ h => h) hS0 (by rfl) (fun w' hS => by first | rfl | (go_simp; done) | (go_simp; omega)) ?_
        simp only [Act.put, List.setIfInBounds_toArray, List.set_cons_zero, List.set_cons_succ]
        refine wh_take 12 (some 28) (.pointer (some ⟨z, 1, none⟩)) rfl rfl (by kernel_rfl) (by kernel_rfl) (by kernel_rfl) (fun _ _ _ h => h) hS0 (by rfl) (fun w' hS => by first | rfl | (go_simp; done) | (go_simp; omega)) ?_
        simp only [Act.put, List.setIfInBounds_toArray, List.set_cons_zero, List.set_cons_succ]
        refine wh_take 13 (some 29) (.string s) rfl rfl (by kernel_rfl) (by kernel_rfl) (by kernel_rfl) (fun _ _ _ h => h) hS0 (by rfl) (fun w' hS => by have q := (cell_of_block hS 1).trans rfl; first | rfl | (go_simp; done) | (go_simp; omega)) ?_
        simp only [Act.put, List.setIfInBounds_toArray, List.set_cons_zero, List.set_cons_succ]
        refine wh_two 4 10 (by kernel_rfl) ?_ ?_
        · have hbA : Hid (Below w.heap.size w (W.drew.alloc (.cells #[.int .u8 (i : Int)] 5))) := bel_alloc hb0'.out _
          have hSA : (W.drew.alloc (.cells #[.int .u8 (i : Int)] 5)).heap[z]? = some (.cells #[.int .i64 (i : Int), .string s] 61 (0, 0)) := (Below.heap_alloc _ _ _ (lt_of_block hS0)).trans hS0
          have hNA : (W.drew.alloc (.cells #[.int .u8 (i : Int)] 5)).heap[W.drew.heap.size]? = some (.cells #[.int .u8 (i : Int)] 5 (0, 0)) := heap_alloc_new _ _
          refine wo_val (some 20) (.slice (some ⟨W.drew.heap.size, 0, none⟩) 1 1) (W.drew.alloc (.cells #[.int .u8 (i : Int)] 5)) rfl rfl (by rfl) (by first | rfl | go_simp) hSA ?_
          simp only [Act.put, List.setIfInBounds_toArray, List.set_cons_zero, List.set_cons_succ]
          generalize W.drew.alloc (.cells #[.int .u8 (i : Int)] 5) = VA at hbA hSA hNA ⊢
          generalize W.drew.heap.size = N at hNA ⊢
          have hcA := HC1.out N VA ((cell_of_block hNA 0).trans rfl)
          refine wh_two 5 10 (by kernel_rfl) ?_ ?_
          · refine wo_val (some 21) (.string Z) VA rfl rfl (by rfl) (by first | rfl | go_simp) hSA ?_
            simp only [Act.put, List.setIfInBounds_toArray, List.set_cons_zero, List.set_cons_succ]
            refine wh_call 10 (some 26) 48 #[.int .u64 (s.size : Int)] (by kernel_rfl) rfl rfl (by rfl) (by kernel_rfl) ?_
            refine (HU.out _).mono ?_
            rintro e VB ⟨rfl, hbB⟩
            have hbV : Hid (Below w.heap.size w VB) := bel_step hbA.out hbB
            have hSB : VB.heap[z]? = some (.cells #[.int .i64 (i : Int), .string s] 61 (0, 0)) := (hbB.block z (lt_of_block hSA)).trans hSA
            refine ⟨_, rfl, hSB, ?_⟩
            simp only [Act.put, List.setIfInBounds_toArray, List.set_cons_zero, List.set_cons_succ]
            refine wh_take 11 (some 27) (.string (Z ++ Q)) rfl rfl (by kernel_rfl) (by kernel_rfl) (by kernel_rfl) (fun _ _ _ h => h) hSB (by rfl) (fun w' hS => by first | rfl | (go_simp; done) | (go_simp; omega)) ?_
            simp only [Act.put, List.setIfInBounds_toArray, List.set_cons_zero, List.set_cons_succ]
            refine wh_take 14 (some 30) (.string (Z ++ Q ++ s)) rfl rfl (by kernel_rfl) (by kernel_rfl) (by kernel_rfl) (fun _ _ _ h => h) hSB (by rfl) (fun w' hS => by first | rfl | (go_simp; done) | (go_simp; omega)) ?_
            simp only [Act.put, List.setIfInBounds_toArray, List.set_cons_zero, List.set_cons_succ]
            refine wh_take 15 (some 31) (.string (cs ++ (Z ++ Q ++ s))) rfl rfl (by kernel_rfl) (by kernel_rfl) (by kernel_rfl) (fun _ _ _ h => h) hSB (by rfl) (fun w' hS => by first | rfl | (go_simp; done) | (go_simp; omega)) ?_
            simp only [Act.put, List.setIfInBounds_toArray, List.set_cons_zero, List.set_cons_succ]
            refine wh_val 16 (some 4) (.string (cs ++ (Z ++ Q ++ s))) VB (by kernel_rfl) rfl rfl (by rfl) (by rfl) hSB ?_
            simp only [Act.put, List.setIfInBounds_toArray, List.set_cons_zero, List.set_cons_succ]
            refine wh_done (by kernel_rfl) ?_
            have HE : Hid (Below w.heap.size w VB) := hbV.out
            clear hb0' hS0 hbW hxW HU HC1 y1 y2 z1 z2 hw8 hw64
            go_wp2
            go_roundw
            case rel => exact ⟨k + 1, _, by omega, by go_num, HCS.out, HCZ.out, rfl, HE.out⟩
            case measure => simp [intOf]; omega
          · refine wo_call (some 26) 48 #[.int .u64 (s.size : Int)] rfl rfl (by rfl) (by kernel_rfl) ?_
            refine (HU.out _).mono ?_
            rintro e VB ⟨rfl, hbB⟩
            have hbV : Hid (Below w.heap.size w VB) := bel_step hbA.out hbB
            have hSB : VB.heap[z]? = some (.cells #[.int .i64 (i : Int), .string s] 61 (0, 0)) := (hbB.block z (lt_of_block hSA)).trans hSA
            have hNB := (hbB.block N (lt_of_block hNA)).trans hNA
            have hcB := HC1.out N VB ((cell_of_block hNB 0).trans rfl)
            refine ⟨_, rfl, hSB, ?_⟩
            simp only [Act.put, List.setIfInBounds_toArray, List.set_cons_zero, List.set_cons_succ]
            refine wh_val 5 (some 21) (.string Z) VB (by kernel_rfl) rfl rfl (by rfl) (by first | rfl | go_simp) hSB ?_
            simp only [Act.put, List.setIfInBounds_toArray, List.set_cons_zero, List.set_cons_succ]
            refine wh_take 11 (some 27) (.string (Z ++ Q)) rfl rfl (by kernel_rfl) (by kernel_rfl) (by kernel_rfl) (fun _ _ _ h => h) hSB (by rfl) (fun w' hS => by first | rfl | (go_simp; done) | (go_simp; omega)) ?_
            simp only [Act.put, List.setIfInBounds_toArray, List.set_cons_zero, List.set_cons_succ]
            refine wh_take 14 (some 30) (.string (Z ++ Q ++ s)) rfl rfl (by kernel_rfl) (by kernel_rfl) (by kernel_rfl) (fun _ _ _ h => h) hSB (by rfl) (fun w' hS => by first | rfl | (go_simp; done) | (go_simp; omega)) ?_
            simp only [Act.put, List.setIfInBounds_toArray, List.set_cons_zero, List.set_cons_succ]
            refine wh_take 15 (some 31) (.string (cs ++ (Z ++ Q ++ s))) rfl rfl (by kernel_rfl) (by kernel_rfl) (by kernel_rfl) (fun _ _ _ h => h) hSB (by rfl) (fun w' hS => by first | rfl | (go_simp; done) | (go_simp; omega)) ?_
            simp only [Act.put, List.setIfInBounds_toArray, List.set_cons_zero, List.set_cons_succ]
            refine wh_val 16 (some 4) (.string (cs ++ (Z ++ Q ++ s))) VB (by kernel_rfl) rfl rfl (by rfl) (by rfl) hSB ?_
            simp only [Act.put, List.setIfInBounds_toArray, List.set_cons_zero, List.set_cons_succ]
            refine wh_done (by kernel_rfl) ?_
            have HE : Hid (Below w.heap.size w VB) := hbV.out
            clear hb0' hS0 hbW hxW HU HC1 y1 y2 z1 z2 hw8 hw64
            go_wp2
            go_roundw
            case rel => exact ⟨k + 1, _, by omega, by go_num, HCS.out, HCZ.out, rfl, HE.out⟩
            case measure => simp [intOf]; omega
        · refine wo_call (some 26) 48 #[.int .u64 (s.size : Int)] rfl rfl (by rfl) (by kernel_rfl) ?_
          refine (HU.out _).mono ?_
          rintro e VB ⟨rfl, hbB⟩
          have hbV : Hid (Below w.heap.size w VB) := bel_step hb0'.out hbB
          have hSB : VB.heap[z]? = some (.cells #[.int .i64 (i : Int), .string s] 61 (0, 0)) := (hbB.block z (lt_of_block hS0)).trans hS0
          refine ⟨_, rfl, hSB, ?_⟩
          simp only [Act.put, List.setIfInBounds_toArray, List.set_cons_zero, List.set_cons_succ]
          have hbA : Hid (Below w.heap.size w (VB.alloc (.cells #[.int .u8 (i : Int)] 5))) := bel_alloc hbV.out _
          have hSA : (VB.alloc (.cells #[.int .u8 (i : Int)] 5)).heap[z]? = some (.cells #[.int .i64 (i : Int), .string s] 61 (0, 0)) := (Below.heap_alloc _ _ _ (lt_of_block hSB)).trans hSB
          have hNA : (VB.alloc (.cells #[.int .u8 (i : Int)] 5)).heap[VB.heap.size]? = some (.cells #[.int .u8 (i : Int)] 5 (0, 0)) := heap_alloc_new _ _
          refine wh_val 4 (some 20) (.slice (some ⟨VB.heap.size, 0, none⟩) 1 1) (VB.alloc (.cells #[.int .u8 (i : Int)] 5)) (by kernel_rfl) rfl rfl (by rfl) (by first | rfl | go_simp) hSA ?_
          simp only [Act.put, List.setIfInBounds_toArray, List.set_cons_zero, List.set_cons_succ]
          generalize VB.alloc (.cells #[.int .u8 (i : Int)] 5) = VA at hbA hSA hNA ⊢
          generalize VB.heap.size = N at hNA ⊢
          have hcA := HC1.out N VA ((cell_of_block hNA 0).trans rfl)
          refine wh_val 5 (some 21) (.string Z) VA (by kernel_rfl) rfl rfl (by rfl) (by first | rfl | go_simp) hSA ?_
          simp only [Act.put, List.setIfInBounds_toArray, List.set_cons_zero, List.set_cons_succ]
          refine wh_take 11 (some 27) (.string (Z ++ Q)) rfl rfl (by kernel_rfl) (by kernel_rfl) (by kernel_rfl) (fun _ _ _ h => h) hSA (by rfl) (fun w' hS => by first | rfl | (go_simp; done) | (go_simp; omega)) ?_
          simp only [Act.put, List.setIfInBounds_toArray, List.set_cons_zero, List.set_cons_succ]
          refine wh_take 14 (some 30) (.string (Z ++ Q ++ s)) rfl rfl (by kernel_rfl) (by kernel_rfl) (by kernel_rfl) (fun _ _ _ h => h) hSA (by rfl) (fun w' hS => by first | rfl | (go_simp; done) | (go_simp; omega)) ?_
          simp only [Act.put, List.setIfInBounds_toArray, List.set_cons_zero, List.set_cons_succ]
          refine wh_take 15 (some 31) (.string (cs ++ (Z ++ Q ++ s))) rfl rfl (by kernel_rfl) (by kernel_rfl) (by kernel_rfl) (fun _ _ _ h => h) hSA (by rfl) (fun w' hS => by first | rfl | (go_simp; done) | (go_simp; omega)) ?_
          simp only [Act.put, List.setIfInBounds_toArray, List.set_cons_zero, List.set_cons_succ]
          refine wh_val 16 (some 4) (.string (cs ++ (Z ++ Q ++ s))) VA (by kernel_rfl) rfl rfl (by rfl) (by rfl) hSA ?_
          simp only [Act.put, List.setIfInBounds_toArray, List.set_cons_zero, List.set_cons_succ]
          refine wh_done (by kernel_rfl) ?_
          have HE : Hid (Below w.heap.size w VA) := hbA.out
          clear hb0' hS0 hbW hxW HU HC1 y1 y2 z1 z2 hw8 hw64
          go_wp2
          go_roundw
          case rel => exact ⟨k + 1, _, by omega, by go_num, HCS.out, HCZ.out, rfl, HE.out⟩
          case measure => simp [intOf]; omega
      · have e : L.take k = L := List.take_of_length_le (by omega)
        have hcs' := hcs.out
        rw [e] at hcs'
        have hcb : cs = ⟨(secBytes L).toArray⟩ := by apply ByteArray.ext; apply Array.ext'; simpa using hcs'
        have hsz2 : cs.size = (secBytes L).length := by rw [hcb]; simp [ByteArray.size]
        have HC : Hid (cs = ⟨(secBytes L).toArray⟩) := hcb
        have HZ : Hid (cs.size = (secBytes L).length) := hsz2
        clear hcs hcs' hcb hsz2 e
        by_cases h4 : cs.size ≤ 4000
        · go_wp2
          go_ret2
          have h5 := HZ.out
          exact ⟨by rw [secRes_yes L hg (by omega), ← HC.out]; rfl, hnx⟩
        · have h4' : (4000 : Int) < cs.size := by omega
          go_wp2
          go_ret2
          have h5 := HZ.out
          exact ⟨by rw [secRes_no L (fun h => by omega)]; rfl, hnx⟩
  · rw [secRes_no L (fun h => hg h.1)]
    have hg' : secGood L = false := by simpa using hg
    rw [hg'] at HG
    go_enter Try.func49, Try.ntmps49
    go_wp2_with (go_at_call 78; refine HG.mono ?_; rintro e w0 ⟨rfl, hb0⟩; clear HG)
    go_ret2
    exact ⟨rfl, by assumption⟩

end Go.Proofs.Ytokaljglaholnaa

namespace Go.Proofs.Ytokaljglaholnaa
open Go.ChangeShapes Go.WideShapes Go.ChangeAt Go.RowKit Go.Shelf
attribute [local go_sem] Oper.semAt_some

theorem boxN_own {β : Type} (B : Nat) (t : TypeId) (f : β → Array Value) : Own (fun s W => BoxN W B (f s) t) := fun s X Y row hs hg hrow =>
  hs.kept hg (fun e' => by obtain ⟨o, ho, hc⟩ := hrow B e'.symm; rw [show X.heap[B]? = _ from hs] at ho; cases ho; cases hc)
def secL (M : Mod7) : List (Int × ByteArray) := (items M).map Prod.fst
def modRes (M : Mod7) : Value := if shape M = true ∧ M.fs.all funOk = true ∧ secGood (secL M) = true ∧ (secBytes (secL M)).length ≤ 4000 then .tuple #[.string (str (leB 1836085504 4) ++ str (secBytes (secL M))), .bool true] else .tuple #[.string ⟨#[]⟩, .bool false]
/-- All that comes has bytes just where all funcs have. -/
theorem items_ok (M : Mod7) : (∀ x ∈ items M, x.2 = true) ↔ M.fs.all funOk = true := by
  unfold items
  constructor
  · intro h
    by_cases h1 : 0 < M.fs.length
    · exact h ((1, fStr M.fs), M.fs.all funOk) (by rw [if_pos h1]; simp)
    · have : M.fs = [] := List.length_eq_zero_iff.1 (by omega)
      rw [this]; rfl
  · intro h x hx
    rw [List.mem_append, List.mem_append, List.mem_append] at hx
    rcases hx with hx | hx | hx | hx
    · split at hx
      · simp at hx; rw [hx]; exact h
      · simp at hx
    · split at hx
      · simp at hx; rw [hx]
      · simp at hx
    · split at hx
      · simp at hx; rw [hx]
      · simp at hx
    · split at hx
      · simp at hx
      · simp at hx; rw [hx]
theorem modRes_bad {M : Mod7} (h : ¬ (shape M = true ∧ M.fs.all funOk = true)) : modRes M = .tuple #[.string ⟨#[]⟩, .bool false] := if_neg fun k => h ⟨k.1, k.2.1⟩
theorem modRes_sec {M : Mod7} (h : shape M = true) (k : M.fs.all funOk = true) : ∃ S b, secRes (secL M) = .tuple #[.string S, .bool b] ∧ modRes M = (if b then .tuple #[.string (str (leB 1836085504 4) ++ S), .bool true] else .tuple #[.string ⟨#[]⟩, .bool false]) := by
  by_cases g : secGood (secL M) = true ∧ (secBytes (secL M)).length ≤ 4000
  · exact ⟨_, true, if_pos g, if_pos ⟨h, k, g.1, g.2⟩⟩
  · exact ⟨_, false, if_neg g, if_neg fun q => g ⟨q.2.2.1, q.2.2.2⟩⟩

theorem BoxN.other {W : World} {B B' : Nat} {t : TypeId} {A : Array Value} (h : BoxN W B A t) (hne : B ≠ B') (u : Value) : BoxN (W.setCell ⟨B', 0, none⟩ u) B A t := h.kept (grownBy_setCell' W B' u) (fun e => hne (by cases e; rfl))
theorem flat_lenV {α : Type} (p : α → List UInt8) (c : Nat) : ∀ L : List α, (∀ x ∈ L, (p x).length ≤ c) → (L.flatMap p).length ≤ c * L.length
  | [], _ => by simp
  | x :: L, h => by
    have h1 := flat_lenV p c L (fun y hy => h y (by simp [hy]))
    have h2 := h x (by simp)
    rw [List.flatMap_cons, List.length_append, List.length_cons, Nat.mul_succ]
    omega
theorem items_small {M : Mod7} (h : shape M = true) : (items M).length ≤ 4 ∧ ∀ x ∈ items M, x.1.2.size ≤ 1048576 := by
  obtain ⟨p1, p2, _, _, _⟩ := shape_parts h
  have hf : (fStr M.fs).size ≤ 1048576 := by
    unfold fStr
    by_cases hk : M.fs.all funOk = true
    · rw [if_pos hk, str_size]
      unfold funsB
      have h1 := ul_len 10 M.fs.length
      have h2 := flat_lenV funB 900 M.fs (fun x hx => funB_len (List.all_eq_true.1 hk x hx))
      rw [List.length_append]; omega
    · rw [if_neg hk]; decide
  have hg : (str (glosB M.gs)).size ≤ 1048576 := by
    rw [str_size]
    unfold glosB
    have h1 := ul_len 10 M.gs.length
    have h2 := flat_lenV gloB 30 M.gs (fun x _ => gloB_len x)
    rw [List.length_append]; omega
  have hp : (str (pagB M)).size ≤ 1048576 := by
    rw [str_size]
    unfold pagB
    have h1 := ul_len 10 M.pages.toNat
    have h2 := ul_len 10 M.most.toNat
    rw [List.length_append]; omega
  have hst : (str (ul 10 M.start.toNat)).size ≤ 1048576 := by
    rw [str_size]
    have h1 := ul_len 10 M.start.toNat
    omega
  unfold items
  constructor
  · simp only [List.length_append]
    have a1 : ∀ (c : Prop) [Decidable c] (y : Item), (if c then [y] else []).length ≤ 1 := fun c _ y => by split <;> simp
    have a2 : ∀ (c : Prop) [Decidable c] (y : Item), (if c then [] else [y]).length ≤ 1 := fun c _ y => by split <;> simp
    have b1 := a1 (0 < M.fs.length) ((1, fStr M.fs), M.fs.all funOk)
    have b2 := a1 (M.mem = true) ((5, str (pagB M)), true)
    have b3 := a1 (0 < M.gs.length) ((6, str (glosB M.gs)), true)
    have b4 := a2 (M.start = -1) ((8, str (ul 10 M.start.toNat)), true)
    omega
  · intro x hx
    rw [List.mem_append, List.mem_append, List.mem_append] at hx
    rcases hx with hx | hx | hx | hx
    · split at hx
      · simp at hx; rw [hx]; exact hf
      · simp at hx
    · split at hx
      · simp at hx; rw [hx]; exact hp
      · simp at hx
    · split at hx
      · simp at hx; rw [hx]; exact hg
      · simp at hx
    · split at hx
      · simp at hx
      · simp at hx; rw [hx]; exact hst
theorem secRes_size {L : List (Int × ByteArray)} {S : ByteArray} {b : Bool} (h : secRes L = .tuple #[.string S, .bool b]) : S.size ≤ 4000 := by
  unfold secRes at h
  split at h
  · rename_i g
    simp only [Value.tuple.injEq, Array.mk.injEq, List.cons.injEq, Value.string.injEq] at h
    rw [← h.1]
    show (secBytes L).toArray.size ≤ 4000
    simpa using g.2
  · simp only [Value.tuple.injEq, Array.mk.injEq, List.cons.injEq, Value.string.injEq] at h
    rw [← h.1]; decide

set_option maxHeartbeats 1000000 in
/-- The function value that goes over the sections. -/
theorem secsOf (l : Loc7) (M : Mod7) (w : World) :
    Calls Try.prog 25 #[modV l M] w fun e w' => e = .returned (.func (.func 55) #[] #[.pointer (some ⟨w.heap.size, 0, none⟩)]) ∧ w' = w.alloc (modBox l M) := by
  unfold modV modBox
  go_enter Try.func25, Try.ntmps25
  go_wp2
  go_ret
  exact ⟨rfl, rfl⟩

set_option maxRecDepth 100000 in
set_option maxHeartbeats 4000000 in
theorem implModule (l : Loc7) (M : Mod7) (w : World) (hM : Hid (ModAt w l M)) (hs : Hid (smM M)) :
    Calls Try.prog 9 #[modV l M] w fun e w' => e = .returned (modRes M) ∧ Below w.heap.size w w' := by
  obtain ⟨i0, hi, hz0, hz1, hz2⟩ := info_parts Try.info61
  have G : Hid (∀ w', Below w.heap.size w w' → Calls Try.prog 24 #[modV l M] w' fun e w'' => e = .returned (.bool (shape M)) ∧ Below w'.heap.size w' w'') := fun w' h => implShape l M w' (hM.out.below h) hs
  have SO := secsOf l M
  refine (callsIn_wide (n := 3)).1 ?_
  refine callsIn_of_wp_marks Try.func9 rfl trivial ?_ rfl
  simp only [Try.ntmps9, List.size_toArray, List.length_cons, List.length_nil, Nat.reduceAdd, Nat.reduceSub, Array.replicate_succ, Array.replicate_zero, List.push_toArray, List.append_toArray, List.nil_append, List.cons_append]
  unfold modV at G SO ⊢
  have hb3 : Below w.heap.size w (((w.alloc (.cells #[.slice l.fa M.fs.length l.fc, .slice l.ga M.gs.length l.gc, .bool M.mem, .int .i64 M.pages, .int .i64 M.most, .int .i64 M.start] 32)).alloc (.cells #[.string ⟨#[]⟩] 9)).alloc (.cells #[.bool false] 4)) := bel_alloc (bel_alloc (bel_alloc (Below.refl _ _) _) _) _
  have bm0 : BoxN (((w.alloc (.cells #[.slice l.fa M.fs.length l.fc, .slice l.ga M.gs.length l.gc, .bool M.mem, .int .i64 M.pages, .int .i64 M.most, .int .i64 M.start] 32)).alloc (.cells #[.string ⟨#[]⟩] 9)).alloc (.cells #[.bool false] 4)) w.heap.size #[.slice l.fa M.fs.length l.fc, .slice l.ga M.gs.length l.gc, .bool M.mem, .int .i64 M.pages, .int .i64 M.most, .int .i64 M.start] 32 := BoxN.alloc (BoxN.alloc (heap_alloc_new _ _) _) _
  have b20 : Boxed (((w.alloc (.cells #[.slice l.fa M.fs.length l.fc, .slice l.ga M.gs.length l.gc, .bool M.mem, .int .i64 M.pages, .int .i64 M.most, .int .i64 M.start] 32)).alloc (.cells #[.string ⟨#[]⟩] 9)).alloc (.cells #[.bool false] 4)) (w.heap.size + 1) 9 (.string ⟨#[]⟩) := by
    have h := (Boxed.new (w.alloc (.cells #[.slice l.fa M.fs.length l.fc, .slice l.ga M.gs.length l.gc, .bool M.mem, .int .i64 M.pages, .int .i64 M.most, .int .i64 M.start] 32)) 9 (.string ⟨#[]⟩)).alloc (.cells #[.bool false] 4)
    simpa using h
  have b30 : Boxed (((w.alloc (.cells #[.slice l.fa M.fs.length l.fc, .slice l.ga M.gs.length l.gc, .bool M.mem, .int .i64 M.pages, .int .i64 M.most, .int .i64 M.start] 32)).alloc (.cells #[.string ⟨#[]⟩] 9)).alloc (.cells #[.bool false] 4)) (w.heap.size + 1 + 1) 4 (.bool false) := by
    have h := Boxed.new ((w.alloc (.cells #[.slice l.fa M.fs.length l.fc, .slice l.ga M.gs.length l.gc, .bool M.mem, .int .i64 M.pages, .int .i64 M.most, .int .i64 M.start] 32)).alloc (.cells #[.string ⟨#[]⟩] 9)) 4 (.bool false)
    simpa using h
  gi_wp2_with fail
  refine ⟨trivial, (callsIn_wide.2 (G.out _ hb3)).mono ?_⟩
  rintro e w1 ⟨rfl, hb1⟩
  have HB1 : Hid (Below w.heap.size w w1) := bel_step hb3 hb1
  have bm1 : BoxN w1 w.heap.size #[.slice l.fa M.fs.length l.fc, .slice l.ga M.gs.length l.gc, .bool M.mem, .int .i64 M.pages, .int .i64 M.most, .int .i64 M.start] 32 := bm0.kept (goes hb1) (by simp)
  have b21 : Boxed w1 (w.heap.size + 1) 9 (.string ⟨#[]⟩) := b20.kept (goes hb1) (by simp)
  have b31 : Boxed w1 (w.heap.size + 1 + 1) 4 (.bool false) := b30.kept (goes hb1) (by simp)
  have hzz := b31.lt
  clear hb3 bm0 b20 b30 hb1 G
  have HR0 : Hid (shape M = false → modRes M = .tuple #[.string ⟨#[]⟩, .bool false]) := fun h => modRes_bad (by rw [h]; simp)
  by_cases hsh : shape M = true
  · rw [hsh]
    have HSH : Hid (shape M = true) := hsh
    clear HR0 hsh
    have bmL := bm1.alloc (.cells #[.slice none 0 0] 56)
    have x0 : (w1.alloc (.cells #[.slice none 0 0] 56)).cell? ⟨w.heap.size, 0, none⟩ = some (.slice l.fa M.fs.length l.fc) := (cell_of_block bmL 0).trans rfl
    have x1 : (w1.alloc (.cells #[.slice none 0 0] 56)).cell? ⟨w.heap.size, 1, none⟩ = some (.slice l.ga M.gs.length l.gc) := (cell_of_block bmL 1).trans rfl
    have x2 : (w1.alloc (.cells #[.slice none 0 0] 56)).cell? ⟨w.heap.size, 2, none⟩ = some (.bool M.mem) := (cell_of_block bmL 2).trans rfl
    have x3 : (w1.alloc (.cells #[.slice none 0 0] 56)).cell? ⟨w.heap.size, 3, none⟩ = some (.int .i64 M.pages) := (cell_of_block bmL 3).trans rfl
    have x4 : (w1.alloc (.cells #[.slice none 0 0] 56)).cell? ⟨w.heap.size, 4, none⟩ = some (.int .i64 M.most) := (cell_of_block bmL 4).trans rfl
    have x5 : (w1.alloc (.cells #[.slice none 0 0] 56)).cell? ⟨w.heap.size, 5, none⟩ = some (.int .i64 M.start) := (cell_of_block bmL 5).trans rfl
    gi_wp2_with fail
    refine ⟨trivial, (callsIn_wide.2 (SO _)).mono ?_⟩
    rintro e w2 ⟨rfl, hw2⟩
    subst hw2
    clear x0 x1 x2 x3 x4 x5 SO bmL
    gi_wp2_with fail
    have hz0' := HB1.out.size
    have bl0 : Boxed ((w1.alloc (.cells #[.slice none 0 0] 56)).alloc (modBox l M)) w1.heap.size 56 (.slice none 0 0) := (Boxed.new w1 56 (.slice none 0 0)).alloc _
    have bn0 : BoxN ((w1.alloc (.cells #[.slice none 0 0] 56)).alloc (modBox l M)) (w1.heap.size + 1) #[.slice l.fa M.fs.length l.fc, .slice l.ga M.gs.length l.gc, .bool M.mem, .int .i64 M.pages, .int .i64 M.most, .int .i64 M.start] 32 := by
      have h := heap_alloc_new (w1.alloc (.cells #[.slice none 0 0] 56)) (modBox l M)
      unfold BoxN
      simpa [modBox] using h
    have b22 : Boxed ((w1.alloc (.cells #[.slice none 0 0] 56)).alloc (modBox l M)) (w.heap.size + 1) 9 (.string ⟨#[]⟩) := (b21.alloc _).alloc _
    have b32 : Boxed ((w1.alloc (.cells #[.slice none 0 0] 56)).alloc (modBox l M)) (w.heap.size + 1 + 1) 4 (.bool false) := (b31.alloc _).alloc _
    have HB0 : Hid (Below w.heap.size w ((w1.alloc (.cells #[.slice none 0 0] 56)).alloc (modBox l M))) := bel_alloc (bel_alloc HB1.out _) _
    have hsz : ((w1.alloc (.cells #[.slice none 0 0] 56)).alloc (modBox l M)).heap.size = w1.heap.size + 2 := by simp
    obtain ⟨W0, hW0⟩ : ∃ W0, ((w1.alloc (.cells #[.slice none 0 0] 56)).alloc (modBox l M)) = W0 := ⟨_, rfl⟩
    rw [hW0] at bl0 bn0 b22 b32 HB0 hsz ⊢
    clear hW0 b21 b31 bm1
    refine wpIn_rangeFunc_ownH rfl (by omega) (gf := 55) (lb := #[.pointer (some ⟨w1.heap.size + 1, 0, none⟩)]) rfl trivial (enters_of Try.func55 (by kernel_rfl) rfl)
      (secs_stops (3 - 1) (by omega) l M w W0 (w1.heap.size + 1) hM hs HSH HB0 bn0) (fun h k => Kp9.trans h k)
      (fun W l' o o' hl h q1 q2 => ⟨belowK_b (w := W0) (by omega) W l' o o' hl h q1 q2, fun p hp => (World.putObj_heap_other (by omega)).trans hp⟩) (Below.refl _ _) (fun _ => rfl)
      (fun pre W => (∃ v, Boxed W w1.heap.size 56 v ∧ W.ownsRow w.heap.size 61 2 v pre.length (svV (pre.map Prod.fst)) ∧ True) ∧ (((Boxed W (w.heap.size + 1) 9 (.string ⟨#[]⟩) ∧ Boxed W (w.heap.size + 1 + 1) 4 (.bool false)) ∧ BoxN W (w1.heap.size + 1) #[.slice l.fa M.fs.length l.fc, .slice l.ga M.gs.length l.gc, .bool M.mem, .int .i64 M.pages, .int .i64 M.most, .int .i64 M.start] 32) ∧ ((∀ x ∈ pre, x.2 = true) ∧ Below w.heap.size w W)))
      (fun c pre W => (c = .ret ∧ ∃ x ∈ pre, x.2 = false) ∧ ((Boxed W (w.heap.size + 1) 9 (.string ⟨#[]⟩) ∧ Boxed W (w.heap.size + 1 + 1) 4 (.bool false)) ∧ Below w.heap.size w W))
      (OwnFrom.and (Own.from (holdsRow_own w.heap.size w1.heap.size 56 61 2 (fun pre : List Item => pre.length) (fun pre : List Item => svV (pre.map Prod.fst)) (fun _ _ => True)) _) (OwnFrom.and (OwnFrom.and (OwnFrom.and (Own.from (boxed_own _ _ _) _) (Own.from (boxed_own _ _ _) _)) (Own.from (boxN_own _ _ _) _)) (OwnFrom.and (ownFrom_pure _ _) (ownFrom_below (Nat.le_refl _) (by omega)))))
      (fun c => OwnFrom.and (ownFrom_pure _ _) (OwnFrom.and (OwnFrom.and (Own.from (boxed_own _ _ _) _) (Own.from (boxed_own _ _ _) _)) (ownFrom_below (Nat.le_refl _) (by omega))))
      ⟨⟨_, bl0, World.ownsRow_nil _ _ _ _, trivial⟩, ⟨⟨b22, b32⟩, bn0⟩, fun x hx => absurd hx (by simp), HB0.out⟩
      (fun x a' W => ∃ Bx, BoxN W Bx #[.int .i64 x.1.1, .string x.1.2] 61 ∧ a' = { tmps := #[.agg #[.slice l.fa M.fs.length l.fc, .slice l.ga M.gs.length l.gc, .bool M.mem, .int .i64 M.pages, .int .i64 M.most, .int .i64 M.start], .pointer (some ⟨w.heap.size, 0, none⟩), .pointer (some ⟨w.heap.size + 1, 0, none⟩), .pointer (some ⟨w.heap.size + 1 + 1, 0, none⟩), .pointer (some ⟨w1.heap.size, 0, none⟩), .pointer (some ⟨Bx, 0, none⟩), .bool x.2, undef, undef, .agg #[.slice l.fa M.fs.length l.fc, .slice l.ga M.gs.length l.gc, .bool M.mem, .int .i64 M.pages, .int .i64 M.most, .int .i64 M.start], .bool true, .bool false, .agg #[.slice l.fa M.fs.length l.fc, .slice l.ga M.gs.length l.gc, .bool M.mem, .int .i64 M.pages, .int .i64 M.most, .int .i64 M.start], .func (.func 55) #[] #[.pointer (some ⟨w1.heap.size + 1, 0, none⟩)], .agg #[.int .i64 x.1.1, .string x.1.2], .bool x.2, undef, undef, undef, undef, undef, undef, undef, undef, undef, undef, undef, undef, undef, undef, undef, undef], defers := [] })
      (fun x a' _ X Y row hq hg hr => by obtain ⟨Bx, h2, h3⟩ := hq; exact ⟨Bx, boxN_own Bx 61 (fun (_ : Unit) => #[.int .i64 x.1.1, .string x.1.2]) () X Y row h2 hg (fun r e => (hr r e).2), h3⟩)
      ?assign ?body ?done ?stop
    case assign =>
      rintro lr pre x W K ⟨⟨v, hv, hrow, _⟩, ⟨⟨hb2, hb3⟩, hbn⟩, hok, hB⟩ hK
      obtain ⟨⟨id, s⟩, ok⟩ := x
      dsimp only [itemV]
      gi_wp2
      exact hK _ _ ((KeepsOthers.alloc _ _).from _) ⟨(Below.refl _ W).alloc hB.size _, fun o ho => (Below.heap_alloc _ _ _ (lt_of_block ho)).trans ho⟩ ⟨⟨v, hv.alloc _, hrow.alloc _, trivial⟩, ⟨⟨hb2.alloc _, hb3.alloc _⟩, hbn.alloc _⟩, hok, hB.alloc hB.size _⟩ ⟨W.heap.size, heap_alloc_new _ _, rfl⟩
    case body =>
      rintro lr pre x a' W hl _ ⟨⟨v, hv, hrow, _⟩, ⟨⟨hb2, hb3⟩, hbn⟩, hok, hB⟩ ⟨Bx, hbx, rfl⟩ hlt
      obtain ⟨⟨id, s⟩, ok⟩ := x
      dsimp only at hbx ⊢
      have hsB := hB.size
      cases ok
      · have c2 := hb2.cell
        have f2 := hb2.frozen
        have c3 := hb3.cell
        have f3 := hb3.frozen
        gi_wp2
        exact ⟨((KeepsOthers.setCell _ _ _).trans (KeepsOthers.setCell _ _ _)).from _, ⟨rfl, ((id, s), false), by simp, rfl⟩, ⟨(hb2.set _).other (by omega) _, (hb3.other (by omega) _).set _⟩, (hB.setCell (p := ⟨w.heap.size + 1, 0, none⟩) (by simp) _).setCell (p := ⟨w.heap.size + 1 + 1, 0, none⟩) (by simp; omega) _⟩
      · have hcl := hv.cell
        have y0 : W.cell? ⟨Bx, 0, none⟩ = some (.int .i64 id) := (cell_of_block hbx 0).trans rfl
        have y1 : W.cell? ⟨Bx, 1, none⟩ = some (.string s) := (cell_of_block hbx 1).trans rfl
        gi_wp2_with (gi_at_builtin; refine wpListIn_append_own _ rfl _ _ 56 rfl w.heap.size 61 i0 (.agg #[.int .i64 0, .string ⟨#[]⟩]) 2 24 Try.underlying56 hi hz0 hz1 hz2 rfl (by decide) _ _ _ rfl (hrow.alloc _) ⟨W.heap.size, 0, none⟩ 1 1 [.int .i64 id, .string s] rfl rfl (by exact two_newV _ _ _ _) (by intro u hu; simp at hu; rcases hu with rfl | rfl <;> rfl) (by unfold maxLen; omega) (by omega) (by simp; omega) ?_)
        intro v' w2 hown' hgrow _
        rw [sv_appV _ (id, s)] at hown'
        obtain ⟨g', cap', rfl⟩ := ownsRow_succ hown'
        obtain ⟨hv1, hv2, hr2, hk2, hbb⟩ := hv.appended (by decide) hrow hsB hz0' hown' hgrow
        have hc1 := hv1.cell
        have hf1 := hv1.frozen
        have b2' := ((hb2.alloc _).kept hgrow (hb2.not_row (by decide) hrow))
        have b3' := ((hb3.alloc _).kept hgrow (hb3.not_row (by decide) hrow))
        have bn' := ((hbn.alloc _).kept hgrow (hbn.not_row (by decide) hrow))
        gi_wp2
        refine ⟨hk2.from _, ⟨hbb, fun o ho => ?_⟩, ⟨⟨_, hv2, ?_, trivial⟩, ⟨⟨b2'.other (by omega) _, b3'.other (by omega) _⟩, bn'.other (by omega) _⟩, ?_, hB.trans hbb⟩⟩
        · rw [show W.heap[w1.heap.size + 1]? = _ from hbn] at ho
          cases ho
          exact bn'.other (by omega) _
        · simpa using hr2
        · intro x hx
          rcases List.mem_append.1 hx with hx | hx
          · exact hok x hx
          · simp at hx; rw [hx]
    case done =>
      rintro D ys W hD rfl ⟨⟨v, hv, hrow, _⟩, ⟨⟨hb2, hb3⟩, hbn⟩, hok, hB⟩ hK
      have hall := (items_ok M).1 hok
      obtain ⟨S, b, e1, e2⟩ := modRes_sec HSH.out hall
      have hS := secRes_size e1
      obtain ⟨i1, i2⟩ := items_small HSH.out
      have hrow' : W.ownsRow w.heap.size 61 2 v (secL M).length (svV (secL M)) := by unfold secL; rw [List.length_map]; exact hrow
      obtain ⟨a, cap, g, rfl, ha, hL, _⟩ := owned_secsV hrow'
      have IS := implSecs a g 0 cap (secL M) W ha hL (by unfold secL; rw [List.length_map]; omega) (fun i h => by obtain ⟨y, hy, e⟩ := List.mem_map.1 (show (secL M)[i] ∈ (items M).map Prod.fst from List.getElem_mem h); rw [← e]; exact i2 y hy)
      rw [e1] at IS
      have HR : Hid (modRes M = (if b then .tuple #[.string (str (leB 1836085504 4) ++ S), .bool true] else .tuple #[.string ⟨#[]⟩, .bool false])) := e2
      have hc := hv.cell
      have hMs : (str (leB 1836085504 4)).size = 4 := rfl
      have MG : Hid (∀ W' : World, Calls Try.prog 27 #[] W' fun e w' => e = .returned (.string (str (leB 1836085504 4))) ∧ Below W'.heap.size W' w') := fun W' => implMagic W'
      generalize str (leB 1836085504 4) = MB at HR MG hMs
      clear hall e1 e2 i1 i2 hrow' ha hL hrow hok hbn
      gi_wp2_with fail
      refine ⟨trivial, (callsIn_wide.2 IS).mono ?_⟩
      rintro e W2 ⟨rfl, hbW⟩
      have hb2' : Boxed W2 (w.heap.size + 1) 9 (.string ⟨#[]⟩) := hb2.kept (goes hbW) (by simp)
      have hb3' : Boxed W2 (w.heap.size + 1 + 1) 4 (.bool false) := hb3.kept (goes hbW) (by simp)
      have hK2 : W2.heap[D]? = some (.deferred (some [])) := (hbW.block D (lt_of_block hK)).trans hK
      have HB2 : Hid (Below w.heap.size w W2) := bel_step hB hbW
      clear hbW IS hc hv hb2 hb3 hK hB
      cases b
      · have HR2 : Hid (modRes M = .tuple #[.string ⟨#[]⟩, .bool false]) := HR.out
        have c2 := hb2'.cell
        have f2 := hb2'.frozen
        have c3 := hb3'.cell
        have f3 := hb3'.frozen
        clear HR MG
        gi_wp2_with fail
        have hK3 := ((KeepsOthers.setCell W2 ⟨w.heap.size + 1, 0, none⟩ (.string ⟨#[]⟩)).trans (KeepsOthers.setCell _ ⟨w.heap.size + 1 + 1, 0, none⟩ (.bool false))).same D _ hK2 rfl
        refine ⟨by simp, .inl ⟨_, _, rfl, run_takeDeferred hK3, ?_⟩⟩
        have q2 := cell_kept ((hb2'.set (.string ⟨#[]⟩)).other (B' := w.heap.size + 1 + 1) (by omega) (.bool false)).cell (grownBy_putObj' _ D (.deferred none)) (fun r e => by cases e; exact ⟨_, hK3, rfl⟩)
        have q3 := cell_kept ((hb3'.other (B' := w.heap.size + 1) (by omega) (.string ⟨#[]⟩)).set (.bool false)).cell (grownBy_putObj' _ D (.deferred none)) (fun r e => by cases e; exact ⟨_, hK3, rfl⟩)
        refine ⟨.tuple #[.string ⟨#[]⟩, .bool false], ?_, by rw [HR2.out], ((HB2.out.setCell (p := ⟨w.heap.size + 1, 0, none⟩) (by simp) _).setCell (p := ⟨w.heap.size + 1 + 1, 0, none⟩) (by simp; omega) _).trans (belowK_b (w := w) (Nat.le_refl _) _ D _ _ (by omega) hK3 rfl rfl)⟩
        simp [results, Try.f9, go_sem, q2, q3]
      · have HR2 : Hid (modRes M = .tuple #[.string (MB ++ S), .bool true]) := HR.out
        clear HR
        gi_wp2_with fail
        refine ⟨trivial, (callsIn_wide.2 (MG.out _)).mono ?_⟩
        rintro e W3 ⟨rfl, hbW⟩
        have hb2 : Boxed W3 (w.heap.size + 1) 9 (.string ⟨#[]⟩) := hb2'.kept (goes hbW) (by simp)
        have hb3 : Boxed W3 (w.heap.size + 1 + 1) 4 (.bool false) := hb3'.kept (goes hbW) (by simp)
        have hK4 : W3.heap[D]? = some (.deferred (some [])) := (hbW.block D (lt_of_block hK2)).trans hK2
        have HB3 : Hid (Below w.heap.size w W3) := bel_step HB2.out hbW
        clear hbW MG hb2' hb3' hK2 HB2
        have c2 := hb2.cell
        have f2 := hb2.frozen
        have c3 := hb3.cell
        have f3 := hb3.frozen
        gi_wp2_with fail
        have hK3 := ((KeepsOthers.setCell W3 ⟨w.heap.size + 1, 0, none⟩ (.string (MB ++ S))).trans (KeepsOthers.setCell _ ⟨w.heap.size + 1 + 1, 0, none⟩ (.bool true))).same D _ hK4 rfl
        refine ⟨by simp, .inl ⟨_, _, rfl, run_takeDeferred hK3, ?_⟩⟩
        have q2 := cell_kept ((hb2.set (.string (MB ++ S))).other (B' := w.heap.size + 1 + 1) (by omega) (.bool true)).cell (grownBy_putObj' _ D (.deferred none)) (fun r e => by cases e; exact ⟨_, hK3, rfl⟩)
        have q3 := cell_kept ((hb3.other (B' := w.heap.size + 1) (by omega) (.string (MB ++ S))).set (.bool true)).cell (grownBy_putObj' _ D (.deferred none)) (fun r e => by cases e; exact ⟨_, hK3, rfl⟩)
        refine ⟨.tuple #[.string (MB ++ S), .bool true], ?_, by rw [HR2.out], ((HB3.out.setCell (p := ⟨w.heap.size + 1, 0, none⟩) (by simp) _).setCell (p := ⟨w.heap.size + 1 + 1, 0, none⟩) (by simp; omega) _).trans (belowK_b (w := w) (Nat.le_refl _) _ D _ _ (by omega) hK3 rfl rfl)⟩
        simp [results, Try.f9, go_sem, q2, q3]
    case stop =>
      rintro D c pre W hD hpre ⟨⟨rfl, x, hx, hxo⟩, ⟨hb2, hb3⟩, hB⟩ hK
      have HR2 : Hid (modRes M = .tuple #[.string ⟨#[]⟩, .bool false]) := modRes_bad (fun h => by
        have := (items_ok M).2 h.2 x (hpre.subset hx)
        rw [hxo] at this
        cases this)
      gi_wp2
      refine ⟨by simp, .inl ⟨_, _, rfl, run_takeDeferred hK, ?_⟩⟩
      have q2 := cell_kept hb2.cell (grownBy_putObj' _ D (.deferred none)) (fun r e => by cases e; exact ⟨_, hK, rfl⟩)
      have q3 := cell_kept hb3.cell (grownBy_putObj' _ D (.deferred none)) (fun r e => by cases e; exact ⟨_, hK, rfl⟩)
      refine ⟨.tuple #[.string ⟨#[]⟩, .bool false], ?_, by rw [HR2.out], hB.trans (belowK_b (w := w) (Nat.le_refl _) W D _ _ (by omega) hK rfl rfl)⟩
      simp [results, Try.f9, go_sem, q2, q3]
  · have hf : shape M = false := by simpa using hsh
    rw [hf]
    have HRR := HR0.out hf
    have HR1 : Hid (modRes M = .tuple #[.string ⟨#[]⟩, .bool false]) := HRR
    clear HR0 HRR hf hsh SO
    have c2 := b21.cell
    have f2 := b21.frozen
    have c3 := b31.cell
    have f3 := b31.frozen
    gi_wp2_with fail
    have q2 := ((b21.set (.string ⟨#[]⟩)).other (B' := w.heap.size + 1 + 1) (by omega) (.bool false)).cell
    have q3 := ((b31.other (B' := w.heap.size + 1) (by omega) (.string ⟨#[]⟩)).set (.bool false)).cell
    refine ⟨.tuple #[.string ⟨#[]⟩, .bool false], ?_, by rw [HR1.out], (HB1.out.setCell (p := ⟨w.heap.size + 1, 0, none⟩) (by simp) _).setCell (p := ⟨w.heap.size + 1 + 1, 0, none⟩) (by simp; omega) _⟩
    simp [results, Try.f9, go_sem, q2, q3]

end Go.Proofs.Ytokaljglaholnaa

namespace Go.Proofs.Ytokaljglaholnaa
open Go.ChangeShapes Go.WideShapes Go.ChangeAt Go.RowKit

/-- How far the list of sections has come. -/
def At9 (w wx : World) (v : Value) (A : Array Value) (L : List (Int × ByteArray)) : Prop :=
  wx.ownsRow w.heap.size 61 2 v L.length (svV L) ∧ BoxN wx w.heap.size A 32 ∧ Below w.heap.size w wx
theorem At9.call {w wx wy : World} {v : Value} {A : Array Value} {L : List (Int × ByteArray)} (h : At9 w wx v A L) (hb : Below wx.heap.size wx wy) : At9 w wy v A L :=
  ⟨own_belV h.1 hb, h.2.1.kept (goes hb) (by simp), bel_step h.2.2 hb⟩
theorem At9.alloc {w wx : World} {v : Value} {A : Array Value} {L : List (Int × ByteArray)} (h : At9 w wx v A L) (o : Obj) : At9 w (wx.alloc o) v A L :=
  ⟨h.1.alloc o, h.2.1.alloc o, bel_alloc h.2.2 o⟩
theorem At9.app {w wx w1 : World} {v v' : Value} {A : Array Value} {L : List (Int × ByteArray)} {x : Int × ByteArray} {o : Obj} (h : At9 w wx v A L) (hg : (wx.alloc o).grownBy w1 v.ownBlock) (ho : w1.ownsRow w.heap.size 61 2 v' (L.length + 1) (svV L ++ [.int .i64 x.1, .string x.2])) : At9 w w1 v' A (L ++ [x]) := by
  refine ⟨?_, (h.2.1.alloc o).kept hg (h.2.1.not_row (by decide) h.1), ?_⟩
  · rw [sv_appV] at ho
    simpa using ho
  · exact (bel_alloc h.2.2 o).grown hg (by have := h.2.2.size; simp; omega) (ownsRow_block h.1)
theorem At9.box {w wx : World} {v : Value} {A : Array Value} {L : List (Int × ByteArray)} (h : At9 w wx v A L) : wx.heap[w.heap.size]? = some (.cells A 32 (0, 0)) := h.2.1

theorem two_stringV (i j : Nat) (h : i < 128) (k : j < 128) (N : Nat) (W : World) (h0 : W.cell? ⟨N, 0, none⟩ = some (.int .u8 (i : Int))) (h1 : W.cell? ⟨N, 1, none⟩ = some (.int .u8 (j : Int))) : (convert 73 9 (.slice (some ⟨N, 0, none⟩) 2 2)).run Try.prog W = .ok (.string (str [loB i, loB j])) W := by
  have H := run_convert_bytes_back (P := Try.prog) W 73 9 5 ⟨N, 0, none⟩ 2 [loB i, loB j] Try.underlying73 Try.underlying5 Try.underlying9 (fun n hn => by
    match n, hn with
    | 0, _ => simp only [List.getElem_cons_zero]; rw [loB_nat i h]; exact h0
    | 1, _ => simp only [List.getElem_cons_succ, List.getElem_cons_zero]; rw [loB_nat j k]; exact h1)
  exact H

set_option maxRecDepth 100000 in
set_option maxHeartbeats 8000000 in
theorem specModule (l : Loc7) (M : Mod7) (w : World) (hM : Hid (ModAt w l M)) (hs : Hid (smM M)) (hsh : Hid (shape M = true)) :
    Calls Try.prog 21 #[modV l M] w fun e w' => e = .returned (modRes M) ∧ Below w.heap.size w w' := by
  obtain ⟨i0, hi, hz0, hz1, hz2⟩ := info_parts Try.info61
  obtain ⟨p1, p2, p3, p4, p5⟩ := shape_parts hsh.out
  have U : Hid (∀ (k : Nat) (w : World), k < 18446744073709551616 → Calls Try.prog 48 #[.int .u64 (k : Int)] w fun e w' => e = .returned (.string (str (ul 10 k))) ∧ Below w.heap.size w w') := fun k w h => specUleb k (by unfold Hid; omega) w
  have NO : Hid (M.fs.all funOk = false → modRes M = .tuple #[.string ⟨#[]⟩, .bool false]) := fun h => modRes_bad (by rw [h]; simp)
  have YES : Hid (M.fs.all funOk = true → ∃ S b, secRes (secL M) = .tuple #[.string S, .bool b] ∧ modRes M = (if b then .tuple #[.string (str (leB 1836085504 4) ++ S), .bool true] else .tuple #[.string ⟨#[]⟩, .bool false])) := fun h => modRes_sec hsh.out h
  have HL : Hid (M.fs.all funOk = true → secL M = (((if 0 < M.fs.length then [((1 : Int), str (funsB M.fs))] else []) ++ (if M.mem = true then [((5 : Int), str (pagB M))] else [])) ++ (if 0 < M.gs.length then [((6 : Int), str (glosB M.gs))] else [])) ++ (if M.start = -1 then [] else [((8 : Int), str (ul 10 M.start.toNat))])) := fun h => by
    unfold secL items fStr
    rw [if_pos h]
    simp only [List.map_append, List.append_assoc]
    congr 1
    · split <;> rfl
    congr 1
    · split <;> rfl
    congr 1
    · split <;> rfl
    · split <;> rfl
  have SM : Hid ((secL M).length ≤ 1048576 ∧ ∀ i (h : i < (secL M).length), (secL M)[i].2.size ≤ 1048576) := by
    obtain ⟨i1, i2⟩ := items_small hsh.out
    exact ⟨by unfold secL; rw [List.length_map]; omega, fun i h => by obtain ⟨y, hy, e⟩ := List.mem_map.1 (show (secL M)[i] ∈ (items M).map Prod.fst from List.getElem_mem h); rw [← e]; exact i2 y hy⟩
  have HP : Hid (pagB M = ul 10 M.pages.toNat ++ ul 10 M.most.toNat) := rfl
  generalize modRes M = R at NO YES ⊢
  generalize secL M = SL at YES HL SM
  generalize pagB M = PB at HL HP
  obtain ⟨fa, fc, ga, gc⟩ := l
  obtain ⟨fs, gs, mem, pages, most, start⟩ := M
  have hMF : Hid (Funs w fa fs) := hM.out.1
  have hMG : Hid (Glos w ga gs) := hM.out.2
  have hsF : Hid (∀ f ∈ fs, smF f) := hs.out.2.2.1
  have hsG : Hid (∀ g ∈ gs, okG g ∧ 0 ≤ g.ty ∧ g.ty ≤ 127) := fun g hg => ⟨hs.out.2.2.2 g hg, p3 g hg⟩
  unfold modV
  simp only at p1 p2 p4 p5 NO YES HL HP ⊢
  clear hM hs hsh p3
  obtain ⟨A, hA⟩ : ∃ A : Array Value, #[.slice fa fs.length fc, .slice ga gs.length gc, .bool mem, .int .i64 pages, .int .i64 most, .int .i64 start] = A := ⟨_, rfl⟩
  have HA : Hid (#[.slice fa fs.length fc, .slice ga gs.length gc, .bool mem, .int .i64 pages, .int .i64 most, .int .i64 start] = A) := hA
  have hat0 : Hid (At9 w (w.alloc (.cells #[.slice fa fs.length fc, .slice ga gs.length gc, .bool mem, .int .i64 pages, .int .i64 most, .int .i64 start] 32)) (.slice none 0 0) A []) := ⟨World.ownsRow_nil _ _ _ _, by rw [← hA]; exact heap_alloc_new _ _, bel_alloc (Below.refl _ _) _⟩
  have C0 : Hid (∀ wx : World, wx.heap[w.heap.size]? = some (.cells A 32 (0, 0)) → wx.cell? ⟨w.heap.size, 0, none⟩ = some (.slice fa fs.length fc)) := fun wx h => by rw [← hA] at h; exact (cell_of_block h 0).trans rfl
  have C1 : Hid (∀ wx : World, wx.heap[w.heap.size]? = some (.cells A 32 (0, 0)) → wx.cell? ⟨w.heap.size, 1, none⟩ = some (.slice ga gs.length gc)) := fun wx h => by rw [← hA] at h; exact (cell_of_block h 1).trans rfl
  have C2 : Hid (∀ wx : World, wx.heap[w.heap.size]? = some (.cells A 32 (0, 0)) → wx.cell? ⟨w.heap.size, 2, none⟩ = some (.bool mem)) := fun wx h => by rw [← hA] at h; exact (cell_of_block h 2).trans rfl
  have C3 : Hid (∀ wx : World, wx.heap[w.heap.size]? = some (.cells A 32 (0, 0)) → wx.cell? ⟨w.heap.size, 3, none⟩ = some (.int .i64 pages)) := fun wx h => by rw [← hA] at h; exact (cell_of_block h 3).trans rfl
  have C4 : Hid (∀ wx : World, wx.heap[w.heap.size]? = some (.cells A 32 (0, 0)) → wx.cell? ⟨w.heap.size, 4, none⟩ = some (.int .i64 most)) := fun wx h => by rw [← hA] at h; exact (cell_of_block h 4).trans rfl
  have C5 : Hid (∀ wx : World, wx.heap[w.heap.size]? = some (.cells A 32 (0, 0)) → wx.cell? ⟨w.heap.size, 5, none⟩ = some (.int .i64 start)) := fun wx h => by rw [← hA] at h; exact (cell_of_block h 5).trans rfl
  clear hA HA
  obtain ⟨nf, hnf⟩ : ∃ n, fs.length = n := ⟨_, rfl⟩
  have HNF : Hid (fs.length = nf) := hnf
  rw [hnf] at p1 HL hat0 C0 ⊢
  clear hnf
  have HT : Hid (funsB fs = ul 10 nf ++ fs.flatMap funB) := by unfold Hid funsB; rw [HNF.out]
  have hul := ul_len 10 nf
  have UF := fun w' => U.out nf w' (by omega)
  generalize ul 10 nf = us at UF hul HT
  generalize funsB fs = FB at HL HT
  have HUF : Hid (∀ w' : World, Calls Try.prog 48 #[.int .u64 (nf : Int)] w' fun e w'' => e = .returned (.string (str us)) ∧ Below w'.heap.size w' w'') := UF
  clear UF
  go_enter Try.func21, Try.ntmps21
  go_upto_if 19 with fail
  go_cut [4, 5, 7, 8, 9] (fun s4 s5 s7 s8 s9 wx => Hid (fs.all funOk = true) ∧ Hid (At9 w wx s4 A (if 0 < nf then [((1 : Int), str FB)] else [])))
  case first =>
    by_cases h1 : 0 < nf
    · have t1 : (0 : Int) < nf := by omega
      go_wp2_with fail
      refine (HUF.out _).mono ?_
      rintro e w1 ⟨rfl, hb1⟩
      have hat1 : Hid (At9 w w1 (.slice none 0 0) A []) := hat0.out.call hb1
      have x0 := C0.out _ hat1.out.box
      clear hb1 hat0 t1
      go_wp2
      clear x0
      go_loopw [5, 28] (fun v i wr => ∃ (k : Nat) (cs : List UInt8), k ≤ nf ∧ i = .int .i64 k ∧ v = .string (str cs) ∧ Hid ((fs.take k).all funOk = true) ∧ Hid (cs = us ++ (fs.take k).flatMap funB) ∧ cs.length ≤ 10 + 900 * k ∧ Hid (At9 w wr (.slice none 0 0) A [])) (fun _ i _ => nf - (intOf i).toNat)
      case atStart => exact ⟨0, us, by omega, rfl, rfl, by simp [Hid], by simp [Hid], by omega, hat1⟩
      case round =>
        clear hat1
        obtain ⟨k, cs, hk, rfl, rfl, hall, hcs, hcl, hatr⟩ := hrel
        by_cases hlt : k < nf
        · have hkL : k < fs.length := by have := HNF.out; omega
          obtain ⟨b, off, rfl, hb, pa, pc, la, lc, ba, bc, c0, c1, c2, c3, hrow⟩ := hMF.out.at k hkL
          have ht := all_take funOk fs k hkL
          have hn := all_no funOk fs k hkL
          have hsn := flat_snoc funB fs k hkL
          have hok := hsF.out fs[k] (List.getElem_mem _)
          obtain ⟨x, hx⟩ : ∃ x, x = fs[k] := ⟨_, rfl⟩
          rw [← hx] at c0 c1 c2 c3 ht hn hsn hok hrow
          clear hx
          have F : Hid (∀ w', Below w.heap.size w w' → Calls Try.prog 12 #[.agg #[.slice pa x.ps.length pc, .int .i64 x.res, .slice la x.ls.length lc, .slice ba x.body.length bc]] w' fun e w'' => e = .returned (funRes x) ∧ Below w'.heap.size w' w'') := fun w' h => specFuncBytes pa la ba pc lc bc x w' (hrow.out.below h) hok
          have d0 := (hatr.out.2.2.cell (p := ⟨b, off + k * 4, none⟩) (by exact hb)).trans c0
          have d1 := (hatr.out.2.2.cell (p := ⟨b, off + k * 4 + 1, none⟩) (by exact hb)).trans c1
          have d2 := (hatr.out.2.2.cell (p := ⟨b, off + k * 4 + 2, none⟩) (by exact hb)).trans c2
          have d3 := (hatr.out.2.2.cell (p := ⟨b, off + k * 4 + 3, none⟩) (by exact hb)).trans c3
          have HS : Hid (us ++ (fs.take (k + 1)).flatMap funB = cs ++ funB x) := by unfold Hid; rw [hsn, hcs.out]; simp
          obtain ⟨r, hr⟩ : ∃ r, funOk x = r := ⟨_, rfl⟩
          have hfl : r = true → (funB x).length ≤ 900 := fun h => funB_len (hr.trans h)
          rw [hr] at ht hn
          have HTK : Hid ((fs.take (k + 1)).all funOk = ((fs.take k).all funOk && r)) := ht
          have HN : Hid (r = false → fs.all funOk = false) := hn
          clear c0 c1 c2 c3 ht hn hsn hok hrow hul
          cases r
          · rw [funRes_no hr] at F
            clear hr hfl HS HTK
            go_wp2_with fail
            refine (F.out _ (bel_alloc hatr.out.2.2 _)).mono ?_
            rintro e w4 ⟨rfl, hb4⟩
            have HB4 : Hid (Below w.heap.size w w4) := bel_step (bel_alloc hatr.out.2.2 _) hb4
            clear hb4 F d0 d1 d2 d3
            go_wp2
            go_ret2
            exact ⟨by rw [NO.out (HN.out (by trivial))]; rfl, HB4.out⟩
          · rw [funRes_yes hr] at F
            have hfl' := hfl rfl
            clear hr hfl HN
            have ha1 := str_app cs (funB x)
            have hs1 := str_size cs
            have hs2 := str_size (funB x)
            generalize funB x = D at *
            have hcl' : cs.length ≤ 10000 := by omega
            go_wp2_with fail
            refine (F.out _ (bel_alloc hatr.out.2.2 _)).mono ?_
            rintro e w4 ⟨rfl, hb4⟩
            have hat4 : Hid (At9 w w4 (.slice none 0 0) A []) := (hatr.out.alloc _).call hb4
            clear hb4 F d0 d1 d2 d3 hatr
            go_wp2
            go_roundw
            case rel => exact ⟨k + 1, _, by omega, by go_num, rfl, by unfold Hid; rw [HTK.out, hall.out]; rfl, HS.out.symm, by simp; omega, hat4⟩
            case measure => simp [intOf]; omega
        · have e : fs.take k = fs := List.take_of_length_le (by have := HNF.out; omega)
          have hcs' := hcs.out
          rw [e, ← HT.out] at hcs'
          have hall' : Hid (fs.all funOk = true) := by have h := hall.out; rw [e] at h; exact h
          subst hcs'
          clear hcs e hall
          go_wp2_with (at_builtin; refine wpList_append_own _ rfl _ _ 56 rfl w.heap.size 61 i0 (.agg #[.int .i64 0, .string ⟨#[]⟩]) 2 24 Try.underlying56 hi hz0 hz1 hz2 rfl (by decide) _ _ _ rfl (hatr.out.1.alloc _) ⟨wr.heap.size, 0, none⟩ 1 1 [.int .i64 1, .string (str cs)] rfl rfl (by exact two_newV _ _ _ _) (by intro u hu; simp at hu; rcases hu with rfl | rfl <;> rfl) ?c3 ?c4 ?c5 ?_)
          case c3 => unfold maxLen; first | omega | (simp; done) | (simp; omega)
          case c4 => first | omega | (simp; done) | (simp; omega)
          case c5 => have := hatr.out.2.2.size; simp; omega
          intro v2 w2 hown1 hgrow1 _
          have hat2 : Hid (At9 w w2 v2 A [((1 : Int), str cs)]) := hatr.out.app (x := (1, str cs)) hgrow1 hown1
          clear hown1 hgrow1 hatr
          go_wp2
          go_meet
          exact ⟨hall'.out, by rw [if_pos h1]; exact hat2.out⟩
    · have t1 : (nf : Int) ≤ 0 := by omega
      have hn : fs = [] := List.length_eq_zero_iff.1 (by have := HNF.out; omega)
      go_wp2
      go_meet
      exact ⟨by rw [hn]; rfl, by rw [if_neg h1]; exact hat0.out⟩
  case rest =>
    obtain ⟨hall, hat⟩ := hcut
    have HL1 : Hid (SL = (((if 0 < nf then [((1 : Int), str FB)] else []) ++ (if mem = true then [((5 : Int), str PB)] else [])) ++ (if 0 < gs.length then [((6 : Int), str (glosB gs))] else [])) ++ (if start = -1 then [] else [((8 : Int), str (ul 10 start.toNat))])) := HL.out hall.out
    have HY := YES.out hall.out
    have HYES : Hid (∃ S b, secRes SL = .tuple #[.string S, .bool b] ∧ R = (if b then .tuple #[.string (str (leB 1836085504 4) ++ S), .bool true] else .tuple #[.string ⟨#[]⟩, .bool false])) := HY
    have hl1 : (if 0 < nf then [((1 : Int), str FB)] else []).length ≤ 1 := by split <;> simp
    clear hat0 HL YES HY NO hall HUF HT hul hMF hsF C0
    generalize (if 0 < nf then [((1 : Int), str FB)] else []) = L1 at hat HL1 hl1
    have x2 := C2.out _ hat.out.box
    go_upto_if 49 with fail
    go_cut [4] (fun s4 wx => Hid (At9 w wx s4 A (L1 ++ (if mem = true then [((5 : Int), str PB)] else []))))
    case first =>
      cases mem
      · clear p4
        go_wp2
        go_meet
        simpa using hat
      · obtain ⟨q0, q1, q2, q3⟩ := p4 rfl
        obtain ⟨p, rfl⟩ : ∃ p : Nat, pages = p := ⟨pages.toNat, by omega⟩
        obtain ⟨m, rfl⟩ : ∃ m : Nat, most = m := ⟨most.toNat, by omega⟩
        have U1 := fun w' => U.out p w' (by omega)
        have U2 := fun w' => U.out m w' (by omega)
        have HPS : Hid (str PB = str (ul 10 p) ++ str (ul 10 m)) := by unfold Hid; rw [HP.out, str_app]; rfl
        have z1 := ul_len 10 p
        have z2 := ul_len 10 m
        have z3 := str_size (ul 10 p)
        have z4 := str_size (ul 10 m)
        generalize str (ul 10 p) = S1 at U1 HPS z3
        generalize str (ul 10 m) = S2 at U2 HPS z4
        have HU1 : Hid (∀ w' : World, Calls Try.prog 48 #[.int .u64 (p : Int)] w' fun e w'' => e = .returned (.string S1) ∧ Below w'.heap.size w' w'') := U1
        have HU2 : Hid (∀ w' : World, Calls Try.prog 48 #[.int .u64 (m : Int)] w' fun e w'' => e = .returned (.string S2) ∧ Below w'.heap.size w' w'') := U2
        have zz : (S1 ++ S2).size = S1.size + S2.size := by rw [ByteArray.size_append]
        have k1 : IntKind.u64.wrap (p : Int) = p := by rw [IntKind.wrap_u64]; omega
        have k2 : IntKind.u64.wrap (m : Int) = m := by rw [IntKind.wrap_u64]; omega
        have s1 : S1.size ≤ 100 := by omega
        have s2 : S2.size ≤ 100 := by omega
        clear U1 U2 p4 z1 z2 z3 z4
        go_wp2_with fail
        clear x2
        obtain ⟨z, hz⟩ : ∃ z, w.heap.size = z := ⟨_, rfl⟩
        rw [hz] at C3 C4
        refine wh_begin (fun w' => w'.heap[z]? = some (.cells A 32 (0, 0))) (by kernel_rfl) ?_
        have hat1 : Hid (At9 w wc.drew u4 A L1) := hat.out.call (Keeps.drew wc).below
        have hS0 : wc.drew.heap[z]? = some (.cells A 32 (0, 0)) := by rw [← hz]; exact hat1.out.box
        rw [hz]
        refine wh_take 0 (some 50) (u4) rfl rfl (by kernel_rfl) (by kernel_rfl) (by kernel_rfl) (fun _ _ _ h => h) hS0 (by rfl) (fun w' hS => by first | rfl | (go_simp; done) | (go_simp; omega)) ?_
        simp only [Act.put, List.setIfInBounds_toArray, List.set_cons_zero, List.set_cons_succ]
        refine wh_take 1 (some 51) (.pointer (some ⟨z, 3, none⟩)) rfl rfl (by kernel_rfl) (by kernel_rfl) (by kernel_rfl) (fun _ _ _ h => h) hS0 (by rfl) (fun w' hS => by first | rfl | (go_simp; done) | (go_simp; omega)) ?_
        simp only [Act.put, List.setIfInBounds_toArray, List.set_cons_zero, List.set_cons_succ]
        refine wh_take 2 (some 52) (.int .i64 (p : Int)) rfl rfl (by kernel_rfl) (by kernel_rfl) (by kernel_rfl) (fun _ _ _ h => h) hS0 (by rfl) (fun w' hS => by have q := C3.out _ hS; first | rfl | (go_simp; done) | (go_simp; omega)) ?_
        simp only [Act.put, List.setIfInBounds_toArray, List.set_cons_zero, List.set_cons_succ]
        refine wh_take 3 (some 53) (.int .u64 (p : Int)) rfl rfl (by kernel_rfl) (by kernel_rfl) (by kernel_rfl) (fun _ _ _ h => h) hS0 (by rfl) (fun w' hS => by first | rfl | (go_simp; done) | (go_simp; omega)) ?_
        simp only [Act.put, List.setIfInBounds_toArray, List.set_cons_zero, List.set_cons_succ]
        refine wh_take 5 (some 55) (.pointer (some ⟨z, 4, none⟩)) rfl rfl (by kernel_rfl) (by kernel_rfl) (by kernel_rfl) (fun _ _ _ h => h) hS0 (by rfl) (fun w' hS => by first | rfl | (go_simp; done) | (go_simp; omega)) ?_
        simp only [Act.put, List.setIfInBounds_toArray, List.set_cons_zero, List.set_cons_succ]
        refine wh_take 6 (some 56) (.int .i64 (m : Int)) rfl rfl (by kernel_rfl) (by kernel_rfl) (by kernel_rfl) (fun _ _ _ h => h) hS0 (by rfl) (fun w' hS => by have q := C4.out _ hS; first | rfl | (go_simp; done) | (go_simp; omega)) ?_
        simp only [Act.put, List.setIfInBounds_toArray, List.set_cons_zero, List.set_cons_succ]
        refine wh_take 7 (some 57) (.int .u64 (m : Int)) rfl rfl (by kernel_rfl) (by kernel_rfl) (by kernel_rfl) (fun _ _ _ h => h) hS0 (by rfl) (fun w' hS => by first | rfl | (go_simp; done) | (go_simp; omega)) ?_
        simp only [Act.put, List.setIfInBounds_toArray, List.set_cons_zero, List.set_cons_succ]
        refine wh_call 4 (some 54) 48 #[.int .u64 (p : Int)] (by kernel_rfl) rfl rfl (by rfl) (by kernel_rfl) ?_
        refine (HU1.out _).mono ?_
        rintro e V1 ⟨rfl, hb1⟩
        have hat2 : Hid (At9 w V1 u4 A L1) := hat1.out.call hb1
        have hS1 : V1.heap[z]? = some (.cells A 32 (0, 0)) := by rw [← hz]; exact hat2.out.box
        refine ⟨_, rfl, hS1, ?_⟩
        simp only [Act.put, List.setIfInBounds_toArray, List.set_cons_zero, List.set_cons_succ]
        refine wh_call 8 (some 58) 48 #[.int .u64 (m : Int)] (by kernel_rfl) rfl rfl (by rfl) (by kernel_rfl) ?_
        refine (HU2.out _).mono ?_
        rintro e V2 ⟨rfl, hb2⟩
        have hat3 : Hid (At9 w V2 u4 A L1) := hat2.out.call hb2
        have hS2 : V2.heap[z]? = some (.cells A 32 (0, 0)) := by rw [← hz]; exact hat3.out.box
        refine ⟨_, rfl, hS2, ?_⟩
        simp only [Act.put, List.setIfInBounds_toArray, List.set_cons_zero, List.set_cons_succ]
        refine wh_take 9 (some 59) (.string (S1 ++ S2)) rfl rfl (by kernel_rfl) (by kernel_rfl) (by kernel_rfl) (fun _ _ _ h => h) hS2 (by rfl) (fun w' hS => by first | rfl | (go_simp; done) | (go_simp; omega)) ?_
        simp only [Act.put, List.setIfInBounds_toArray, List.set_cons_zero, List.set_cons_succ]
        refine wh_take 10 (some 60) (.agg #[.int .i64 5, .string (S1 ++ S2)]) rfl rfl (by kernel_rfl) (by kernel_rfl) (by kernel_rfl) (fun _ _ _ h => h) hS2 (by rfl) (fun w' hS => by first | rfl | (go_simp; done) | (go_simp; omega)) ?_
        simp only [Act.put, List.setIfInBounds_toArray, List.set_cons_zero, List.set_cons_succ]
        have hat4 : Hid (At9 w (V2.alloc (.cells #[.int .i64 5, .string (S1 ++ S2)] 61)) u4 A L1) := hat3.out.alloc _
        have hS3 : (V2.alloc (.cells #[.int .i64 5, .string (S1 ++ S2)] 61)).heap[z]? = some (.cells A 32 (0, 0)) := by rw [← hz]; exact hat4.out.box
        refine wh_val 11 (some 61) (.slice (some ⟨V2.heap.size, 0, none⟩) 1 1) (V2.alloc (.cells #[.int .i64 5, .string (S1 ++ S2)] 61)) (by kernel_rfl) rfl rfl (by rfl) (by first | rfl | go_simp) hS3 ?_
        simp only [Act.put, List.setIfInBounds_toArray, List.set_cons_zero, List.set_cons_succ]
        obtain ⟨v', w5, hrun, hown1, hgrow1, _⟩ := run_append_own (P := Try.prog) (V2.alloc (.cells #[.int .i64 5, .string (S1 ++ S2)] 61)) w.heap.size 56 56 61 i0 (.agg #[.int .i64 0, .string ⟨#[]⟩]) 2 24 Try.underlying56 hi hz0 hz1 hz2 rfl (by decide) _ _ _ hat4.out.1 ⟨V2.heap.size, 0, none⟩ 1 1 [.int .i64 5, .string (S1 ++ S2)] rfl (by exact two_newV _ _ _ _) (by intro u hu; simp at hu; rcases hu with rfl | rfl <;> rfl) (by unfold maxLen; omega) (by omega) (by have := hat3.out.2.2.size; simp; omega)
        have hat5 : Hid (At9 w w5 v' A (L1 ++ [((5 : Int), S1 ++ S2)])) := hat3.out.app (x := (5, S1 ++ S2)) hgrow1 hown1
        have hS5 : w5.heap[z]? = some (.cells A 32 (0, 0)) := by rw [← hz]; exact hat5.out.box
        refine wh_val 12 (some 62) v' w5 (by kernel_rfl) rfl rfl (by rfl) (by simp [execOp, resolve, invoke, builtin, Act.eval, hrun, Result.andThen]) hS5 ?_
        simp only [Act.put, List.setIfInBounds_toArray, List.set_cons_zero, List.set_cons_succ]
        refine wh_val 13 (some 4) v' w5 (by kernel_rfl) rfl rfl (by rfl) (by rfl) hS5 ?_
        simp only [Act.put, List.setIfInBounds_toArray, List.set_cons_zero, List.set_cons_succ]
        refine wh_done (by kernel_rfl) ?_
        clear hS0 hS1 hS2 hS3 hS5 hat hat1 hat2 hat3 hat4 hb1 hb2 hrun hown1 hgrow1 HU1 HU2 zz k1 k2
        rw [← hz]
        go_wp2
        go_meet
        rw [if_pos (by trivial), HPS.out]
        exact hat5
    case rest =>
      have hl2 : (L1 ++ (if mem = true then [((5 : Int), str PB)] else [])).length ≤ 2 := by
        have : (if mem = true then [((5 : Int), str PB)] else []).length ≤ 1 := by split <;> simp
        rw [List.length_append]; omega
      have hat2 := hcut
      clear hcut hat x2 hl1 HP C2 C3 C4 p4
      generalize (L1 ++ (if mem = true then [((5 : Int), str PB)] else [])) = L2 at hat2 HL1 hl2
      obtain ⟨ng, hng⟩ : ∃ n, gs.length = n := ⟨_, rfl⟩
      have HNG : Hid (gs.length = ng) := hng
      rw [hng] at p2 HL1 C1
      clear hng
      have HT : Hid (glosB gs = ul 10 ng ++ gs.flatMap gloB) := by unfold Hid glosB; rw [HNG.out]
      have hul := ul_len 10 ng
      have UF := fun w' => U.out ng w' (by omega)
      generalize ul 10 ng = ug at UF hul HT
      generalize glosB gs = GB at HL1 HT
      have HUF : Hid (∀ w' : World, Calls Try.prog 48 #[.int .u64 (ng : Int)] w' fun e w'' => e = .returned (.string (str ug)) ∧ Below w'.heap.size w' w'') := UF
      clear UF
      have x1 := C1.out _ hat2.out.box
      go_upto_if 66 with fail
      go_cut [4, 10, 12, 13] (fun s4 s10 s12 s13 wx => Hid (At9 w wx s4 A (L2 ++ (if 0 < ng then [((6 : Int), str GB)] else []))))
      case first =>
        by_cases h3 : 0 < ng
        · have t3 : (0 : Int) < ng := by omega
          go_wp2_with fail
          refine (HUF.out _).mono ?_
          rintro e w1 ⟨rfl, hb1⟩
          have hat3 : Hid (At9 w w1 u4 A L2) := hat2.out.call hb1
          clear x1
          have x1 := C1.out _ hat3.out.box
          clear hb1 hat2 t3 HUF
          go_wp2
          clear x1
          go_loopw [10, 75] (fun v i wr => ∃ (k : Nat) (cs : List UInt8), k ≤ ng ∧ i = .int .i64 k ∧ v = .string (str cs) ∧ Hid (cs = ug ++ (gs.take k).flatMap gloB) ∧ cs.length ≤ 10 + 30 * k ∧ Hid (At9 w wr u4 A L2)) (fun _ i _ => ng - (intOf i).toNat)
          case atStart => exact ⟨0, ug, by omega, rfl, rfl, by simp [Hid], by omega, hat3⟩
          case round =>
            clear hat3
            obtain ⟨k, cs, hk, rfl, rfl, hcs, hcl, hatr⟩ := hrel
            by_cases hlt : k < ng
            · have hkL : k < gs.length := by have := HNG.out; omega
              obtain ⟨b, off, rfl, hb, c0, c1, c2⟩ := hMG.out.at k hkL
              have hsn := flat_snoc gloB gs k hkL
              have hok := hsG.out gs[k] (List.getElem_mem _)
              have hgl := gloB_len gs[k]
              obtain ⟨x, hx⟩ : ∃ x, x = gs[k] := ⟨_, rfl⟩
              rw [← hx] at c0 c1 c2 hsn hok hgl
              clear hx
              obtain ⟨ty, fx, bits⟩ := x
              obtain ⟨⟨q0, q1⟩, q2, q3⟩ := hok
              simp only at c0 c1 c2 q0 q1 q2 q3
              obtain ⟨t, rfl⟩ : ∃ t : Nat, ty = t := ⟨ty.toNat, by omega⟩
              obtain ⟨q, rfl⟩ : ∃ q : Nat, bits = q := ⟨bits.toNat, by omega⟩
              have hf1 : fixN fx < 128 := by cases fx <;> decide
              have hg : gloB ⟨t, fx, q⟩ = [loB t, loB (fixN fx)] ++ ul 10 q := by
                unfold gloB
                rw [Int.toNat_natCast, Int.toNat_natCast, ul_small t (by omega), ul_small (fixN fx) hf1]
                rfl
              rw [hg] at hsn hgl
              have HS : Hid (ug ++ (gs.take (k + 1)).flatMap gloB = cs ++ ([loB t, loB (fixN fx)] ++ ul 10 q)) := by unfold Hid; rw [hsn, hcs.out, List.append_assoc]
              have HSS : Hid (str (cs ++ ([loB t, loB (fixN fx)] ++ ul 10 q)) = str cs ++ (str [loB t, loB (fixN fx)] ++ str (ul 10 q))) := by unfold Hid; rw [str_app, str_app]
              have HLN : Hid ((cs ++ ([loB t, loB (fixN fx)] ++ ul 10 q)).length ≤ 10 + 30 * (k + 1)) := by unfold Hid; rw [List.length_append]; omega
              have d0 := (hatr.out.2.2.cell (p := ⟨b, off + k * 3, none⟩) (by exact hb)).trans c0
              have d1 := (hatr.out.2.2.cell (p := ⟨b, off + k * 3 + 1, none⟩) (by exact hb)).trans c1
              have d2 := (hatr.out.2.2.cell (p := ⟨b, off + k * 3 + 2, none⟩) (by exact hb)).trans c2
              have HU : Hid (∀ w' : World, Calls Try.prog 48 #[.int .u64 (q : Int)] w' fun e w'' => e = .returned (.string (str (ul 10 q))) ∧ Below w'.heap.size w' w'') := fun w' => U.out q w' (by omega)
              have TS : Hid (∀ (N : Nat) (W : World), W.cell? ⟨N, 0, none⟩ = some (.int .u8 ((t : Int) % 256)) → W.cell? ⟨N, 1, none⟩ = some (.int .u8 (fixN fx : Int)) → (convert 73 9 (.slice (some ⟨N, 0, none⟩) 2 2)).run Try.prog W = .ok (.string (str [loB t, loB (fixN fx)])) W) := fun N W h0 h1 => two_stringV t (fixN fx) (by omega) hf1 N W (by rw [h0]; congr 2; omega) h1
              have e1 := str_size cs
              have e2 : (str [loB t, loB (fixN fx)]).size = 2 := rfl
              have e3 := str_size (ul 10 q)
              have e4 := ul_len 10 q
              have n1 : (str cs).size ≤ 1000 := by omega
              have n3 : (str (ul 10 q)).size ≤ 10 := by omega
              clear c0 c1 c2 hsn hg hul hgl e1 e3 e4 hf1
              generalize str (ul 10 q) = Q at HU HSS n3
              generalize str cs = CS at n1 HSS ⊢
              cases fx
              · have TS' : Hid (∀ (N : Nat) (W : World), W.cell? ⟨N, 0, none⟩ = some (.int .u8 ((t : Int) % 256)) → W.cell? ⟨N, 1, none⟩ = some (.int .u8 0) → (convert 73 9 (.slice (some ⟨N, 0, none⟩) 2 2)).run Try.prog W = .ok (.string (str [loB t, loB (fixN false)])) W) := TS.out
                clear TS
                generalize str [loB t, loB (fixN false)] = Z at TS' HSS e2
                have zq : (Z ++ Q).size = Z.size + Q.size := by rw [ByteArray.size_append]
                go_wp2_with fail
                clear d0 d1 d2
                obtain ⟨z, hz⟩ : ∃ z, wr.heap.size = z := ⟨_, rfl⟩
                obtain ⟨W, hW⟩ : ∃ W, wr.alloc (.cells #[.int .i64 (t : Int), .bool false, .int .u64 (q : Int)] 80) = W := ⟨_, rfl⟩
                have hatW : Hid (At9 w W u4 A L2) := by rw [← hW]; exact hatr.out.alloc _
                have hxW : W.heap[z]? = some (.cells #[.int .i64 (t : Int), .bool false, .int .u64 (q : Int)] 80 (0, 0)) := by rw [← hW, ← hz]; exact heap_alloc_new _ _
                rw [hW]
                rw [hz]
                clear hz hatr hW
                refine wh_begin (fun w' => w'.heap[z]? = some (.cells #[.int .i64 (t : Int), .bool false, .int .u64 (q : Int)] 80 (0, 0))) (by kernel_rfl) ?_
                have hat0 : Hid (At9 w W.drew u4 A L2) := hatW.out.call (Keeps.drew W).below
                have hS0 : W.drew.heap[z]? = some (.cells #[.int .i64 (t : Int), .bool false, .int .u64 (q : Int)] 80 (0, 0)) := hxW
                refine wh_take 0 (some 81) (.string CS) rfl rfl (by kernel_rfl) (by kernel_rfl) (by kernel_rfl) (fun _ _ _ h => h) hS0 (by rfl) (fun w' hS => by first | rfl | (go_simp; done) | (go_simp; omega)) ?_
                simp only [Act.put, List.setIfInBounds_toArray, List.set_cons_zero, List.set_cons_succ]
                refine wh_take 1 (some 82) (.pointer (some ⟨z, 0, none⟩)) rfl rfl (by kernel_rfl) (by kernel_rfl) (by kernel_rfl) (fun _ _ _ h => h) hS0 (by rfl) (fun w' hS => by first | rfl | (go_simp; done) | (go_simp; omega)) ?_
                simp only [Act.put, List.setIfInBounds_toArray, List.set_cons_zero, List.set_cons_succ]
                refine wh_take 2 (some 83) (.int .i64 (t : Int)) rfl rfl (by kernel_rfl) (by kernel_rfl) (by kernel_rfl) (fun _ _ _ h => h) hS0 (by rfl) (fun w' hS => by have q := (cell_of_block hS 0).trans rfl; first | rfl | (go_simp; done) | (go_simp; omega)) ?_
                simp only [Act.put, List.setIfInBounds_toArray, List.set_cons_zero, List.set_cons_succ]
                refine wh_take 3 (some 84) (.int .u8 ((t : Int) % 256)) rfl rfl (by kernel_rfl) (by kernel_rfl) (by kernel_rfl) (fun _ _ _ h => h) hS0 (by rfl) (fun w' hS => by first | rfl | (go_simp; done) | (go_simp; omega)) ?_
                simp only [Act.put, List.setIfInBounds_toArray, List.set_cons_zero, List.set_cons_succ]
                refine wh_take 4 (some 85) (.int .u8 0) rfl rfl (by kernel_rfl) (by kernel_rfl) (by kernel_rfl) (fun _ _ _ h => h) hS0 (by rfl) (fun w' hS => by first | rfl | (go_simp; done) | (go_simp; omega)) ?_
                simp only [Act.put, List.setIfInBounds_toArray, List.set_cons_zero, List.set_cons_succ]
                refine wh_take 7 (some 88) (.pointer (some ⟨z, 2, none⟩)) rfl rfl (by kernel_rfl) (by kernel_rfl) (by kernel_rfl) (fun _ _ _ h => h) hS0 (by rfl) (fun w' hS => by first | rfl | (go_simp; done) | (go_simp; omega)) ?_
                simp only [Act.put, List.setIfInBounds_toArray, List.set_cons_zero, List.set_cons_succ]
                refine wh_take 8 (some 89) (.int .u64 (q : Int)) rfl rfl (by kernel_rfl) (by kernel_rfl) (by kernel_rfl) (fun _ _ _ h => h) hS0 (by rfl) (fun w' hS => by have q := (cell_of_block hS 2).trans rfl; first | rfl | (go_simp; done) | (go_simp; omega)) ?_
                simp only [Act.put, List.setIfInBounds_toArray, List.set_cons_zero, List.set_cons_succ]
                refine wh_two 5 9 (by kernel_rfl) ?_ ?_
                · have hatA : Hid (At9 w (W.drew.alloc (.cells #[.int .u8 ((t : Int) % 256), .int .u8 0] 5)) u4 A L2) := hat0.out.alloc _
                  have hSA : (W.drew.alloc (.cells #[.int .u8 ((t : Int) % 256), .int .u8 0] 5)).heap[z]? = some (.cells #[.int .i64 (t : Int), .bool false, .int .u64 (q : Int)] 80 (0, 0)) := (Below.heap_alloc _ _ _ (lt_of_block hS0)).trans hS0
                  have hNA : (W.drew.alloc (.cells #[.int .u8 ((t : Int) % 256), .int .u8 0] 5)).heap[W.drew.heap.size]? = some (.cells #[.int .u8 ((t : Int) % 256), .int .u8 0] 5 (0, 0)) := heap_alloc_new _ _
                  refine wo_val (some 86) (.slice (some ⟨W.drew.heap.size, 0, none⟩) 2 2) (W.drew.alloc (.cells #[.int .u8 ((t : Int) % 256), .int .u8 0] 5)) rfl rfl (by rfl) (by first | rfl | go_simp) hSA ?_
                  simp only [Act.put, List.setIfInBounds_toArray, List.set_cons_zero, List.set_cons_succ]
                  generalize W.drew.alloc (.cells #[.int .u8 ((t : Int) % 256), .int .u8 0] 5) = VA at hatA hSA hNA ⊢
                  generalize W.drew.heap.size = N at hNA ⊢
                  have hcA := TS'.out N VA ((cell_of_block hNA 0).trans rfl) ((cell_of_block hNA 1).trans rfl)
                  refine wh_two 6 9 (by kernel_rfl) ?_ ?_
                  · refine wo_val (some 87) (.string Z) VA rfl rfl (by rfl) (by first | rfl | go_simp) hSA ?_
                    simp only [Act.put, List.setIfInBounds_toArray, List.set_cons_zero, List.set_cons_succ]
                    refine wh_call 9 (some 90) 48 #[.int .u64 (q : Int)] (by kernel_rfl) rfl rfl (by rfl) (by kernel_rfl) ?_
                    refine (HU.out _).mono ?_
                    rintro e VB ⟨rfl, hbB⟩
                    have hatB : Hid (At9 w VB u4 A L2) := hatA.out.call hbB
                    have hSB : VB.heap[z]? = some (.cells #[.int .i64 (t : Int), .bool false, .int .u64 (q : Int)] 80 (0, 0)) := (hbB.block z (lt_of_block hSA)).trans hSA
                    refine ⟨_, rfl, hSB, ?_⟩
                    simp only [Act.put, List.setIfInBounds_toArray, List.set_cons_zero, List.set_cons_succ]
                    refine wh_take 10 (some 91) (.string (Z ++ Q)) rfl rfl (by kernel_rfl) (by kernel_rfl) (by kernel_rfl) (fun _ _ _ h => h) hSB (by rfl) (fun w' hS => by first | rfl | (go_simp; done) | (go_simp; omega)) ?_
                    simp only [Act.put, List.setIfInBounds_toArray, List.set_cons_zero, List.set_cons_succ]
                    refine wh_take 11 (some 92) (.string (CS ++ (Z ++ Q))) rfl rfl (by kernel_rfl) (by kernel_rfl) (by kernel_rfl) (fun _ _ _ h => h) hSB (by rfl) (fun w' hS => by first | rfl | (go_simp; done) | (go_simp; omega)) ?_
                    simp only [Act.put, List.setIfInBounds_toArray, List.set_cons_zero, List.set_cons_succ]
                    refine wh_val 12 (some 10) (.string (CS ++ (Z ++ Q))) VB (by kernel_rfl) rfl rfl (by rfl) (by rfl) hSB ?_
                    simp only [Act.put, List.setIfInBounds_toArray, List.set_cons_zero, List.set_cons_succ]
                    refine wh_done (by kernel_rfl) ?_
                    have HE : Hid (At9 w VB u4 A L2) := hatB.out
                    clear hat0 hS0 hatW hxW HU TS' zq e2 n1 n3
                    go_wp2
                    go_roundw
                    case rel => exact ⟨k + 1, _, by omega, by go_num, by rw [HSS.out], HS.out.symm, HLN.out, HE⟩
                    case measure => simp [intOf]; omega
                  · refine wo_call (some 90) 48 #[.int .u64 (q : Int)] rfl rfl (by rfl) (by kernel_rfl) ?_
                    refine (HU.out _).mono ?_
                    rintro e VB ⟨rfl, hbB⟩
                    have hatB : Hid (At9 w VB u4 A L2) := hatA.out.call hbB
                    have hSB : VB.heap[z]? = some (.cells #[.int .i64 (t : Int), .bool false, .int .u64 (q : Int)] 80 (0, 0)) := (hbB.block z (lt_of_block hSA)).trans hSA
                    have hNB := (hbB.block N (lt_of_block hNA)).trans hNA
                    have hcB := TS'.out N VB ((cell_of_block hNB 0).trans rfl) ((cell_of_block hNB 1).trans rfl)
                    refine ⟨_, rfl, hSB, ?_⟩
                    simp only [Act.put, List.setIfInBounds_toArray, List.set_cons_zero, List.set_cons_succ]
                    refine wh_val 6 (some 87) (.string Z) VB (by kernel_rfl) rfl rfl (by rfl) (by first | rfl | go_simp) hSB ?_
                    simp only [Act.put, List.setIfInBounds_toArray, List.set_cons_zero, List.set_cons_succ]
                    refine wh_take 10 (some 91) (.string (Z ++ Q)) rfl rfl (by kernel_rfl) (by kernel_rfl) (by kernel_rfl) (fun _ _ _ h => h) hSB (by rfl) (fun w' hS => by first | rfl | (go_simp; done) | (go_simp; omega)) ?_
                    simp only [Act.put, List.setIfInBounds_toArray, List.set_cons_zero, List.set_cons_succ]
                    refine wh_take 11 (some 92) (.string (CS ++ (Z ++ Q))) rfl rfl (by kernel_rfl) (by kernel_rfl) (by kernel_rfl) (fun _ _ _ h => h) hSB (by rfl) (fun w' hS => by first | rfl | (go_simp; done) | (go_simp; omega)) ?_
                    simp only [Act.put, List.setIfInBounds_toArray, List.set_cons_zero, List.set_cons_succ]
                    refine wh_val 12 (some 10) (.string (CS ++ (Z ++ Q))) VB (by kernel_rfl) rfl rfl (by rfl) (by rfl) hSB ?_
                    simp only [Act.put, List.setIfInBounds_toArray, List.set_cons_zero, List.set_cons_succ]
                    refine wh_done (by kernel_rfl) ?_
                    have HE : Hid (At9 w VB u4 A L2) := hatB.out
                    clear hat0 hS0 hatW hxW HU TS' zq e2 n1 n3
                    go_wp2
                    go_roundw
                    case rel => exact ⟨k + 1, _, by omega, by go_num, by rw [HSS.out], HS.out.symm, HLN.out, HE⟩
                    case measure => simp [intOf]; omega
                · refine wo_call (some 90) 48 #[.int .u64 (q : Int)] rfl rfl (by rfl) (by kernel_rfl) ?_
                  refine (HU.out _).mono ?_
                  rintro e VB ⟨rfl, hbB⟩
                  have hatB : Hid (At9 w VB u4 A L2) := hat0.out.call hbB
                  have hSB : VB.heap[z]? = some (.cells #[.int .i64 (t : Int), .bool false, .int .u64 (q : Int)] 80 (0, 0)) := (hbB.block z (lt_of_block hS0)).trans hS0
                  refine ⟨_, rfl, hSB, ?_⟩
                  simp only [Act.put, List.setIfInBounds_toArray, List.set_cons_zero, List.set_cons_succ]
                  have hatA : Hid (At9 w (VB.alloc (.cells #[.int .u8 ((t : Int) % 256), .int .u8 0] 5)) u4 A L2) := hatB.out.alloc _
                  have hSA : (VB.alloc (.cells #[.int .u8 ((t : Int) % 256), .int .u8 0] 5)).heap[z]? = some (.cells #[.int .i64 (t : Int), .bool false, .int .u64 (q : Int)] 80 (0, 0)) := (Below.heap_alloc _ _ _ (lt_of_block hSB)).trans hSB
                  have hNA : (VB.alloc (.cells #[.int .u8 ((t : Int) % 256), .int .u8 0] 5)).heap[VB.heap.size]? = some (.cells #[.int .u8 ((t : Int) % 256), .int .u8 0] 5 (0, 0)) := heap_alloc_new _ _
                  refine wh_val 5 (some 86) (.slice (some ⟨VB.heap.size, 0, none⟩) 2 2) (VB.alloc (.cells #[.int .u8 ((t : Int) % 256), .int .u8 0] 5)) (by kernel_rfl) rfl rfl (by rfl) (by first | rfl | go_simp) hSA ?_
                  simp only [Act.put, List.setIfInBounds_toArray, List.set_cons_zero, List.set_cons_succ]
                  generalize VB.alloc (.cells #[.int .u8 ((t : Int) % 256), .int .u8 0] 5) = VA at hatA hSA hNA ⊢
                  generalize VB.heap.size = N at hNA ⊢
                  have hcA := TS'.out N VA ((cell_of_block hNA 0).trans rfl) ((cell_of_block hNA 1).trans rfl)
                  refine wh_val 6 (some 87) (.string Z) VA (by kernel_rfl) rfl rfl (by rfl) (by first | rfl | go_simp) hSA ?_
                  simp only [Act.put, List.setIfInBounds_toArray, List.set_cons_zero, List.set_cons_succ]
                  refine wh_take 10 (some 91) (.string (Z ++ Q)) rfl rfl (by kernel_rfl) (by kernel_rfl) (by kernel_rfl) (fun _ _ _ h => h) hSA (by rfl) (fun w' hS => by first | rfl | (go_simp; done) | (go_simp; omega)) ?_
                  simp only [Act.put, List.setIfInBounds_toArray, List.set_cons_zero, List.set_cons_succ]
                  refine wh_take 11 (some 92) (.string (CS ++ (Z ++ Q))) rfl rfl (by kernel_rfl) (by kernel_rfl) (by kernel_rfl) (fun _ _ _ h => h) hSA (by rfl) (fun w' hS => by first | rfl | (go_simp; done) | (go_simp; omega)) ?_
                  simp only [Act.put, List.setIfInBounds_toArray, List.set_cons_zero, List.set_cons_succ]
                  refine wh_val 12 (some 10) (.string (CS ++ (Z ++ Q))) VA (by kernel_rfl) rfl rfl (by rfl) (by rfl) hSA ?_
                  simp only [Act.put, List.setIfInBounds_toArray, List.set_cons_zero, List.set_cons_succ]
                  refine wh_done (by kernel_rfl) ?_
                  have HE : Hid (At9 w VA u4 A L2) := hatA.out
                  clear hat0 hS0 hatW hxW HU TS' zq e2 n1 n3
                  go_wp2
                  go_roundw
                  case rel => exact ⟨k + 1, _, by omega, by go_num, by rw [HSS.out], HS.out.symm, HLN.out, HE⟩
                  case measure => simp [intOf]; omega
              · have TS' : Hid (∀ (N : Nat) (W : World), W.cell? ⟨N, 0, none⟩ = some (.int .u8 ((t : Int) % 256)) → W.cell? ⟨N, 1, none⟩ = some (.int .u8 1) → (convert 73 9 (.slice (some ⟨N, 0, none⟩) 2 2)).run Try.prog W = .ok (.string (str [loB t, loB (fixN true)])) W) := TS.out
                clear TS
                generalize str [loB t, loB (fixN true)] = Z at TS' HSS e2
                have zq : (Z ++ Q).size = Z.size + Q.size := by rw [ByteArray.size_append]
                go_wp2_with fail
                clear d0 d1 d2
                obtain ⟨z, hz⟩ : ∃ z, wr.heap.size = z := ⟨_, rfl⟩
                obtain ⟨W, hW⟩ : ∃ W, wr.alloc (.cells #[.int .i64 (t : Int), .bool true, .int .u64 (q : Int)] 80) = W := ⟨_, rfl⟩
                have hatW : Hid (At9 w W u4 A L2) := by rw [← hW]; exact hatr.out.alloc _
                have hxW : W.heap[z]? = some (.cells #[.int .i64 (t : Int), .bool true, .int .u64 (q : Int)] 80 (0, 0)) := by rw [← hW, ← hz]; exact heap_alloc_new _ _
                rw [hW]
                rw [hz]
                clear hz hatr hW
                refine wh_begin (fun w' => w'.heap[z]? = some (.cells #[.int .i64 (t : Int), .bool true, .int .u64 (q : Int)] 80 (0, 0))) (by kernel_rfl) ?_
                have hat0 : Hid (At9 w W.drew u4 A L2) := hatW.out.call (Keeps.drew W).below
                have hS0 : W.drew.heap[z]? = some (.cells #[.int .i64 (t : Int), .bool true, .int .u64 (q : Int)] 80 (0, 0)) := hxW
                refine wh_take 0 (some 81) (.string CS) rfl rfl (by kernel_rfl) (by kernel_rfl) (by kernel_rfl) (fun _ _ _ h => h) hS0 (by rfl) (fun w' hS => by first | rfl | (go_simp; done) | (go_simp; omega)) ?_
                simp only [Act.put, List.setIfInBounds_toArray, List.set_cons_zero, List.set_cons_succ]
                refine wh_take 1 (some 82) (.pointer (some ⟨z, 0, none⟩)) rfl rfl (by kernel_rfl) (by kernel_rfl) (by kernel_rfl) (fun _ _ _ h => h) hS0 (by rfl) (fun w' hS => by first | rfl | (go_simp; done) | (go_simp; omega)) ?_
                simp only [Act.put, List.setIfInBounds_toArray, List.set_cons_zero, List.set_cons_succ]
                refine wh_take 2 (some 83) (.int .i64 (t : Int)) rfl rfl (by kernel_rfl) (by kernel_rfl) (by kernel_rfl) (fun _ _ _ h => h) hS0 (by rfl) (fun w' hS => by have q := (cell_of_block hS 0).trans rfl; first | rfl | (go_simp; done) | (go_simp; omega)) ?_
                simp only [Act.put, List.setIfInBounds_toArray, List.set_cons_zero, List.set_cons_succ]
                refine wh_take 3 (some 84) (.int .u8 ((t : Int) % 256)) rfl rfl (by kernel_rfl) (by kernel_rfl) (by kernel_rfl) (fun _ _ _ h => h) hS0 (by rfl) (fun w' hS => by first | rfl | (go_simp; done) | (go_simp; omega)) ?_
                simp only [Act.put, List.setIfInBounds_toArray, List.set_cons_zero, List.set_cons_succ]
                refine wh_take 4 (some 85) (.int .u8 1) rfl rfl (by kernel_rfl) (by kernel_rfl) (by kernel_rfl) (fun _ _ _ h => h) hS0 (by rfl) (fun w' hS => by first | rfl | (go_simp; done) | (go_simp; omega)) ?_
                simp only [Act.put, List.setIfInBounds_toArray, List.set_cons_zero, List.set_cons_succ]
                refine wh_take 7 (some 88) (.pointer (some ⟨z, 2, none⟩)) rfl rfl (by kernel_rfl) (by kernel_rfl) (by kernel_rfl) (fun _ _ _ h => h) hS0 (by rfl) (fun w' hS => by first | rfl | (go_simp; done) | (go_simp; omega)) ?_
                simp only [Act.put, List.setIfInBounds_toArray, List.set_cons_zero, List.set_cons_succ]
                refine wh_take 8 (some 89) (.int .u64 (q : Int)) rfl rfl (by kernel_rfl) (by kernel_rfl) (by kernel_rfl) (fun _ _ _ h => h) hS0 (by rfl) (fun w' hS => by have q := (cell_of_block hS 2).trans rfl; first | rfl | (go_simp; done) | (go_simp; omega)) ?_
                simp only [Act.put, List.setIfInBounds_toArray, List.set_cons_zero, List.set_cons_succ]
                refine wh_two 5 9 (by kernel_rfl) ?_ ?_
                · have hatA : Hid (At9 w (W.drew.alloc (.cells #[.int .u8 ((t : Int) % 256), .int .u8 1] 5)) u4 A L2) := hat0.out.alloc _
                  have hSA : (W.drew.alloc (.cells #[.int .u8 ((t : Int) % 256), .int .u8 1] 5)).heap[z]? = some (.cells #[.int .i64 (t : Int), .bool true, .int .u64 (q : Int)] 80 (0, 0)) := (Below.heap_alloc _ _ _ (lt_of_block hS0)).trans hS0
                  have hNA : (W.drew.alloc (.cells #[.int .u8 ((t : Int) % 256), .int .u8 1] 5)).heap[W.drew.heap.size]? = some (.cells #[.int .u8 ((t : Int) % 256), .int .u8 1] 5 (0, 0)) := heap_alloc_new _ _
                  refine wo_val (some 86) (.slice (some ⟨W.drew.heap.size, 0, none⟩) 2 2) (W.drew.alloc (.cells #[.int .u8 ((t : Int) % 256), .int .u8 1] 5)) rfl rfl (by rfl) (by first | rfl | go_simp) hSA ?_
                  simp only [Act.put, List.setIfInBounds_toArray, List.set_cons_zero, List.set_cons_succ]
                  generalize W.drew.alloc (.cells #[.int .u8 ((t : Int) % 256), .int .u8 1] 5) = VA at hatA hSA hNA ⊢
                  generalize W.drew.heap.size = N at hNA ⊢
                  have hcA := TS'.out N VA ((cell_of_block hNA 0).trans rfl) ((cell_of_block hNA 1).trans rfl)
                  refine wh_two 6 9 (by kernel_rfl) ?_ ?_
                  · refine wo_val (some 87) (.string Z) VA rfl rfl (by rfl) (by first | rfl | go_simp) hSA ?_
                    simp only [Act.put, List.setIfInBounds_toArray, List.set_cons_zero, List.set_cons_succ]
                    refine wh_call 9 (some 90) 48 #[.int .u64 (q : Int)] (by kernel_rfl) rfl rfl (by rfl) (by kernel_rfl) ?_
                    refine (HU.out _).mono ?_
                    rintro e VB ⟨rfl, hbB⟩
                    have hatB : Hid (At9 w VB u4 A L2) := hatA.out.call hbB
                    have hSB : VB.heap[z]? = some (.cells #[.int .i64 (t : Int), .bool true, .int .u64 (q : Int)] 80 (0, 0)) := (hbB.block z (lt_of_block hSA)).trans hSA
                    refine ⟨_, rfl, hSB, ?_⟩
                    simp only [Act.put, List.setIfInBounds_toArray, List.set_cons_zero, List.set_cons_succ]
                    refine wh_take 10 (some 91) (.string (Z ++ Q)) rfl rfl (by kernel_rfl) (by kernel_rfl) (by kernel_rfl) (fun _ _ _ h => h) hSB (by rfl) (fun w' hS => by first | rfl | (go_simp; done) | (go_simp; omega)) ?_
                    simp only [Act.put, List.setIfInBounds_toArray, List.set_cons_zero, List.set_cons_succ]
                    refine wh_take 11 (some 92) (.string (CS ++ (Z ++ Q))) rfl rfl (by kernel_rfl) (by kernel_rfl) (by kernel_rfl) (fun _ _ _ h => h) hSB (by rfl) (fun w' hS => by first | rfl | (go_simp; done) | (go_simp; omega)) ?_
                    simp only [Act.put, List.setIfInBounds_toArray, List.set_cons_zero, List.set_cons_succ]
                    refine wh_val 12 (some 10) (.string (CS ++ (Z ++ Q))) VB (by kernel_rfl) rfl rfl (by rfl) (by rfl) hSB ?_
                    simp only [Act.put, List.setIfInBounds_toArray, List.set_cons_zero, List.set_cons_succ]
                    refine wh_done (by kernel_rfl) ?_
                    have HE : Hid (At9 w VB u4 A L2) := hatB.out
                    clear hat0 hS0 hatW hxW HU TS' zq e2 n1 n3
                    go_wp2
                    go_roundw
                    case rel => exact ⟨k + 1, _, by omega, by go_num, by rw [HSS.out], HS.out.symm, HLN.out, HE⟩
                    case measure => simp [intOf]; omega
                  · refine wo_call (some 90) 48 #[.int .u64 (q : Int)] rfl rfl (by rfl) (by kernel_rfl) ?_
                    refine (HU.out _).mono ?_
                    rintro e VB ⟨rfl, hbB⟩
                    have hatB : Hid (At9 w VB u4 A L2) := hatA.out.call hbB
                    have hSB : VB.heap[z]? = some (.cells #[.int .i64 (t : Int), .bool true, .int .u64 (q : Int)] 80 (0, 0)) := (hbB.block z (lt_of_block hSA)).trans hSA
                    have hNB := (hbB.block N (lt_of_block hNA)).trans hNA
                    have hcB := TS'.out N VB ((cell_of_block hNB 0).trans rfl) ((cell_of_block hNB 1).trans rfl)
                    refine ⟨_, rfl, hSB, ?_⟩
                    simp only [Act.put, List.setIfInBounds_toArray, List.set_cons_zero, List.set_cons_succ]
                    refine wh_val 6 (some 87) (.string Z) VB (by kernel_rfl) rfl rfl (by rfl) (by first | rfl | go_simp) hSB ?_
                    simp only [Act.put, List.setIfInBounds_toArray, List.set_cons_zero, List.set_cons_succ]
                    refine wh_take 10 (some 91) (.string (Z ++ Q)) rfl rfl (by kernel_rfl) (by kernel_rfl) (by kernel_rfl) (fun _ _ _ h => h) hSB (by rfl) (fun w' hS => by first | rfl | (go_simp; done) | (go_simp; omega)) ?_
                    simp only [Act.put, List.setIfInBounds_toArray, List.set_cons_zero, List.set_cons_succ]
                    refine wh_take 11 (some 92) (.string (CS ++ (Z ++ Q))) rfl rfl (by kernel_rfl) (by kernel_rfl) (by kernel_rfl) (fun _ _ _ h => h) hSB (by rfl) (fun w' hS => by first | rfl | (go_simp; done) | (go_simp; omega)) ?_
                    simp only [Act.put, List.setIfInBounds_toArray, List.set_cons_zero, List.set_cons_succ]
                    refine wh_val 12 (some 10) (.string (CS ++ (Z ++ Q))) VB (by kernel_rfl) rfl rfl (by rfl) (by rfl) hSB ?_
                    simp only [Act.put, List.setIfInBounds_toArray, List.set_cons_zero, List.set_cons_succ]
                    refine wh_done (by kernel_rfl) ?_
                    have HE : Hid (At9 w VB u4 A L2) := hatB.out
                    clear hat0 hS0 hatW hxW HU TS' zq e2 n1 n3
                    go_wp2
                    go_roundw
                    case rel => exact ⟨k + 1, _, by omega, by go_num, by rw [HSS.out], HS.out.symm, HLN.out, HE⟩
                    case measure => simp [intOf]; omega
                · refine wo_call (some 90) 48 #[.int .u64 (q : Int)] rfl rfl (by rfl) (by kernel_rfl) ?_
                  refine (HU.out _).mono ?_
                  rintro e VB ⟨rfl, hbB⟩
                  have hatB : Hid (At9 w VB u4 A L2) := hat0.out.call hbB
                  have hSB : VB.heap[z]? = some (.cells #[.int .i64 (t : Int), .bool true, .int .u64 (q : Int)] 80 (0, 0)) := (hbB.block z (lt_of_block hS0)).trans hS0
                  refine ⟨_, rfl, hSB, ?_⟩
                  simp only [Act.put, List.setIfInBounds_toArray, List.set_cons_zero, List.set_cons_succ]
                  have hatA : Hid (At9 w (VB.alloc (.cells #[.int .u8 ((t : Int) % 256), .int .u8 1] 5)) u4 A L2) := hatB.out.alloc _
                  have hSA : (VB.alloc (.cells #[.int .u8 ((t : Int) % 256), .int .u8 1] 5)).heap[z]? = some (.cells #[.int .i64 (t : Int), .bool true, .int .u64 (q : Int)] 80 (0, 0)) := (Below.heap_alloc _ _ _ (lt_of_block hSB)).trans hSB
                  have hNA : (VB.alloc (.cells #[.int .u8 ((t : Int) % 256), .int .u8 1] 5)).heap[VB.heap.size]? = some (.cells #[.int .u8 ((t : Int) % 256), .int .u8 1] 5 (0, 0)) := heap_alloc_new _ _
                  refine wh_val 5 (some 86) (.slice (some ⟨VB.heap.size, 0, none⟩) 2 2) (VB.alloc (.cells #[.int .u8 ((t : Int) % 256), .int .u8 1] 5)) (by kernel_rfl) rfl rfl (by rfl) (by first | rfl | go_simp) hSA ?_
                  simp only [Act.put, List.setIfInBounds_toArray, List.set_cons_zero, List.set_cons_succ]
                  generalize VB.alloc (.cells #[.int .u8 ((t : Int) % 256), .int .u8 1] 5) = VA at hatA hSA hNA ⊢
                  generalize VB.heap.size = N at hNA ⊢
                  have hcA := TS'.out N VA ((cell_of_block hNA 0).trans rfl) ((cell_of_block hNA 1).trans rfl)
                  refine wh_val 6 (some 87) (.string Z) VA (by kernel_rfl) rfl rfl (by rfl) (by first | rfl | go_simp) hSA ?_
                  simp only [Act.put, List.setIfInBounds_toArray, List.set_cons_zero, List.set_cons_succ]
                  refine wh_take 10 (some 91) (.string (Z ++ Q)) rfl rfl (by kernel_rfl) (by kernel_rfl) (by kernel_rfl) (fun _ _ _ h => h) hSA (by rfl) (fun w' hS => by first | rfl | (go_simp; done) | (go_simp; omega)) ?_
                  simp only [Act.put, List.setIfInBounds_toArray, List.set_cons_zero, List.set_cons_succ]
                  refine wh_take 11 (some 92) (.string (CS ++ (Z ++ Q))) rfl rfl (by kernel_rfl) (by kernel_rfl) (by kernel_rfl) (fun _ _ _ h => h) hSA (by rfl) (fun w' hS => by first | rfl | (go_simp; done) | (go_simp; omega)) ?_
                  simp only [Act.put, List.setIfInBounds_toArray, List.set_cons_zero, List.set_cons_succ]
                  refine wh_val 12 (some 10) (.string (CS ++ (Z ++ Q))) VA (by kernel_rfl) rfl rfl (by rfl) (by rfl) hSA ?_
                  simp only [Act.put, List.setIfInBounds_toArray, List.set_cons_zero, List.set_cons_succ]
                  refine wh_done (by kernel_rfl) ?_
                  have HE : Hid (At9 w VA u4 A L2) := hatA.out
                  clear hat0 hS0 hatW hxW HU TS' zq e2 n1 n3
                  go_wp2
                  go_roundw
                  case rel => exact ⟨k + 1, _, by omega, by go_num, by rw [HSS.out], HS.out.symm, HLN.out, HE⟩
                  case measure => simp [intOf]; omega
            · have e : gs.take k = gs := List.take_of_length_le (by have := HNG.out; omega)
              have hcs' := hcs.out
              rw [e, ← HT.out] at hcs'
              subst hcs'
              clear hcs e
              go_wp2_with (at_builtin; refine wpList_append_own _ rfl _ _ 56 rfl w.heap.size 61 i0 (.agg #[.int .i64 0, .string ⟨#[]⟩]) 2 24 Try.underlying56 hi hz0 hz1 hz2 rfl (by decide) _ _ _ rfl (hatr.out.1.alloc _) ⟨wr.heap.size, 0, none⟩ 1 1 [.int .i64 6, .string (str cs)] rfl rfl (by exact two_newV _ _ _ _) (by intro u hu; simp at hu; rcases hu with rfl | rfl <;> rfl) ?c3 ?c4 ?c5 ?_)
              case c3 => unfold maxLen; first | omega | (simp; done) | (simp; omega)
              case c4 => first | omega | (simp; done) | (simp; omega)
              case c5 => have := hatr.out.2.2.size; simp; omega
              intro v2 w2 hown1 hgrow1 _
              have hat4 : Hid (At9 w w2 v2 A (L2 ++ [((6 : Int), str cs)])) := hatr.out.app (x := (6, str cs)) hgrow1 hown1
              clear hown1 hgrow1 hatr
              go_wp2
              go_meet
              rw [if_pos h3]
              exact hat4
        · have t3 : (ng : Int) ≤ 0 := by omega
          go_wp2
          go_meet
          rw [if_neg h3, List.append_nil]
          exact hat2
      case rest =>
        have hl3 : (L2 ++ (if 0 < ng then [((6 : Int), str GB)] else [])).length ≤ 3 := by
          have : (if 0 < ng then [((6 : Int), str GB)] else []).length ≤ 1 := by split <;> simp
          rw [List.length_append]; omega
        have hat3 := hcut
        clear hcut hat2 x1 hl2 HT hul HUF C1 hMG hsG
        generalize (L2 ++ (if 0 < ng then [((6 : Int), str GB)] else [])) = L3 at hat3 HL1 hl3
        have x5 := C5.out _ hat3.out.box
        go_upto_if 101 with fail
        go_cut [4] (fun s4 wx => Hid (At9 w wx s4 A SL))
        case first =>
          by_cases h4 : start = -1
          · subst h4
            have HE : Hid (SL = L3) := by have h := HL1.out; rw [if_pos rfl, List.append_nil] at h; exact h
            go_wp2
            go_meet
            rw [HE.out]
            exact hat3
          · obtain ⟨st, rfl⟩ : ∃ st : Nat, start = st := ⟨start.toNat, by omega⟩
            have HE : Hid (SL = L3 ++ [((8 : Int), str (ul 10 st))]) := by have h := HL1.out; rw [if_neg h4] at h; exact h
            have HU : Hid (∀ w' : World, Calls Try.prog 48 #[.int .u64 (st : Int)] w' fun e w'' => e = .returned (.string (str (ul 10 st))) ∧ Below w'.heap.size w' w'') := fun w' => U.out st w' (by omega)
            have t4 : ((st : Int) == -1) = false := by simp
            have k1 : IntKind.u64.wrap (st : Int) = st := by rw [IntKind.wrap_u64]; omega
            generalize str (ul 10 st) = S8 at HE HU
            clear h4 HL1
            go_wp2_with fail
            refine (HU.out _).mono ?_
            rintro e w1 ⟨rfl, hb1⟩
            have hat4 : Hid (At9 w w1 u4 A L3) := hat3.out.call hb1
            clear hb1 hat3 x5 t4 k1 HU
            go_wp2_with (at_builtin; refine wpList_append_own _ rfl _ _ 56 rfl w.heap.size 61 i0 (.agg #[.int .i64 0, .string ⟨#[]⟩]) 2 24 Try.underlying56 hi hz0 hz1 hz2 rfl (by decide) _ _ _ rfl (hat4.out.1.alloc _) ⟨w1.heap.size, 0, none⟩ 1 1 [.int .i64 8, .string S8] rfl rfl (by exact two_newV _ _ _ _) (by intro u hu; simp at hu; rcases hu with rfl | rfl <;> rfl) ?c3 ?c4 ?c5 ?_)
            case c3 => unfold maxLen; first | omega | (simp; done) | (simp; omega)
            case c4 => first | omega | (simp; done) | (simp; omega)
            case c5 => have := hat4.out.2.2.size; simp; omega
            intro v2 w2 hown1 hgrow1 _
            have hat5 : Hid (At9 w w2 v2 A (L3 ++ [((8 : Int), S8)])) := hat4.out.app (x := (8, S8)) hgrow1 hown1
            clear hown1 hgrow1 hat4
            go_wp2
            go_meet
            rw [HE.out]
            exact hat5
        case rest =>
          have hat4 := hcut
          clear hcut hat3 x5 HL1 C5 U p5
          obtain ⟨S, bb, e1, e2⟩ := HYES.out
          have hS := secRes_size e1
          obtain ⟨a, cap, g, hv, ha, hL, _⟩ := owned_secsV hat4.out.1
          have IS := specSecs a g 0 cap SL wc ha hL SM.out.1 SM.out.2
          rw [e1, ← hv] at IS
          have HIS : Hid (Calls Try.prog 49 #[u4] wc fun e w' => e = .returned (.tuple #[.string S, .bool bb]) ∧ Below wc.heap.size wc w') := IS
          have HB : Hid (Below w.heap.size w wc) := hat4.out.2.2
          have HR : Hid (R = (if bb then .tuple #[.string (str (leB 1836085504 4) ++ S), .bool true] else .tuple #[.string ⟨#[]⟩, .bool false])) := e2
          have hMs : (str (leB 1836085504 4)).size = 4 := rfl
          have MG : Hid (∀ W' : World, Calls Try.prog 50 #[.int .u64 1836085504, .int .i64 4] W' fun e w' => e = .returned (.string (str (leB 1836085504 4))) ∧ Below W'.heap.size W' w') := fun W' => l5Bytes 1836085504 4 (by decide) W'
          generalize str (leB 1836085504 4) = MB at HR MG hMs
          clear IS e1 e2 hv ha hL hat4 HYES SM hl3
          go_wp2_with fail
          refine HIS.out.mono ?_
          rintro e W2 ⟨rfl, hb2⟩
          have HB2 : Hid (Below w.heap.size w W2) := bel_step HB.out hb2
          clear hb2 HB HIS
          cases bb
          · have HR2 : Hid (R = .tuple #[.string ⟨#[]⟩, .bool false]) := HR.out
            clear HR MG
            go_wp2
            go_ret2
            exact ⟨by rw [HR2.out]; rfl, HB2.out⟩
          · have HR2 : Hid (R = .tuple #[.string (MB ++ S), .bool true]) := HR.out
            clear HR
            go_wp2_with fail
            refine (MG.out _).mono ?_
            rintro e W3 ⟨rfl, hb3⟩
            have HB3 : Hid (Below w.heap.size w W3) := bel_step HB2.out hb3
            clear hb3 MG HB2
            go_wp2
            go_ret2
            exact ⟨by rw [HR2.out]; rfl, HB3.out⟩


end Go.Proofs.Ytokaljglaholnaa

namespace Go.Proofs.Ytokaljglaholnaa
open Go.ChangeShapes Go.WideShapes Go.ChangeAt Go.RowKit

theorem modRes_form (M : Mod7) : ∃ x y, modRes M = .tuple #[.string x, .bool y] := by
  unfold modRes
  split
  · exact ⟨_, _, rfl⟩
  · exact ⟨_, _, rfl⟩
theorem keeps_blockV {W w : World} (h : Keeps W w) {b : Nat} {o : Obj} (hb : W.heap[b]? = some o) : w.heap[b]? = some o := (h.below.block b (lt_of_block hb)).trans hb

set_option maxRecDepth 100000 in
set_option maxHeartbeats 1600000 in
theorem specModuleBytes (l : Loc7) (M : Mod7) (w : World) (hM : Hid (ModAt w l M)) (hs : Hid (smM M)) :
    Calls Try.prog 7 #[modV l M] w fun e w' => e = .returned (modRes M) ∧ Below w.heap.size w w' := by
  have S : Hid (∀ w', Below w.heap.size w w' → Calls Try.prog 20 #[modV l M] w' fun e w'' => e = .returned (.bool (shape M)) ∧ Below w'.heap.size w' w'') := fun w' h => specShapeM l M w' (hM.out.below h) hs
  have L : Hid (shape M = true → ∀ w', Below w.heap.size w w' → Calls Try.prog 21 #[modV l M] w' fun e w'' => e = .returned (modRes M) ∧ Below w'.heap.size w' w'') := fun h w' hb => specModule l M w' (hM.out.below hb) hs h
  have N : Hid (shape M = false → modRes M = .tuple #[.string ⟨#[]⟩, .bool false]) := fun h => modRes_bad (by rw [h]; simp)
  obtain ⟨x, y, hR⟩ := modRes_form M
  rw [hR] at L N ⊢
  clear hR
  obtain ⟨sh, hsh⟩ : ∃ sh, shape M = sh := ⟨_, rfl⟩
  rw [hsh] at S L N
  clear hsh
  obtain ⟨fa, fc, ga, gc⟩ := l
  obtain ⟨fs, gs, mem, pages, most, start⟩ := M
  unfold modV at S L ⊢
  simp only at S L ⊢
  have hb0 : Below w.heap.size w (w.alloc (.cells #[.slice fa fs.length fc, .slice ga gs.length gc, .bool mem, .int .i64 pages, .int .i64 most, .int .i64 start] 32)) := (Below.refl _ _).alloc (Nat.le_refl _) _
  have hx0 : (w.alloc (.cells #[.slice fa fs.length fc, .slice ga gs.length gc, .bool mem, .int .i64 pages, .int .i64 most, .int .i64 start] 32)).heap[w.heap.size]? = some (.cells #[.slice fa fs.length fc, .slice ga gs.length gc, .bool mem, .int .i64 pages, .int .i64 most, .int .i64 start] 32 (0, 0)) := heap_alloc_new _ _
  go_enter Try.func7, Try.ntmps7
  go_wp2_with fail
  refine (S.out _ hb0).mono ?_
  rintro e w1 ⟨rfl, hb1⟩
  have HB1 : Hid (Below w.heap.size w w1) := bel_step hb0 hb1
  have hx1 := (hb1.block w.heap.size (by simp)).trans hx0
  clear hb1 hb0 hx0 S
  cases sh
  · have HE := N.out (by trivial)
    have HE' : Hid ((.tuple #[.string x, .bool y] : Value) = .tuple #[.string ⟨#[]⟩, .bool false]) := HE
    clear HE N L hx1
    go_wp2
    go_ret2
    exact ⟨by rw [HE'.out]; rfl, HB1.out⟩
  · have x0 : w1.cell? ⟨w.heap.size, 0, none⟩ = some (.slice fa fs.length fc) := (cell_of_block hx1 0).trans rfl
    have x1 : w1.cell? ⟨w.heap.size, 1, none⟩ = some (.slice ga gs.length gc) := (cell_of_block hx1 1).trans rfl
    have x2 : w1.cell? ⟨w.heap.size, 2, none⟩ = some (.bool mem) := (cell_of_block hx1 2).trans rfl
    have x3 : w1.cell? ⟨w.heap.size, 3, none⟩ = some (.int .i64 pages) := (cell_of_block hx1 3).trans rfl
    have x4 : w1.cell? ⟨w.heap.size, 4, none⟩ = some (.int .i64 most) := (cell_of_block hx1 4).trans rfl
    have x5 : w1.cell? ⟨w.heap.size, 5, none⟩ = some (.int .i64 start) := (cell_of_block hx1 5).trans rfl
    clear hx1 N
    go_wp2_with fail
    refine (L.out (by trivial) w1 HB1.out).mono ?_
    rintro e w2 ⟨rfl, hb2⟩
    have HB2 : Hid (Below w.heap.size w w2) := bel_step HB1.out hb2
    clear hb2 x0 x1 x2 x3 x4 x5 L HB1
    go_wp2
    go_ret2
    exact ⟨rfl, HB2.out⟩

set_option maxRecDepth 100000 in
set_option maxHeartbeats 3200000 in
theorem moduleBytes_walk (l : Loc7) (M : Mod7) (w : World) (hI : IsMod w l M) :
    Calls Try.prog 3 #[modV l M] w fun e w' => e = .returned (.bool true) ∧ Below w.heap.size w w' := by
  have hM : Hid (ModAt w l M) := hI.1
  have hok : Hid (okM M) := hI.2.1
  clear hI
  obtain ⟨x, y, hR⟩ := modRes_form M
  have Z : Hid (∀ w', Below w.heap.size w w' → Calls Try.prog 6 #[modV l M, .int .i64 1048576] w' fun e w'' => ∃ r : Int, e = .returned (.int .i64 r) ∧ (0 ≤ r → smM M) ∧ Below w'.heap.size w' w'') := fun w' hb => szMod l M w' (hM.out.below hb) hok.out
  have T : Hid (smM M → ∀ w', Below w.heap.size w w' → Calls Try.prog 8 #[modV l M] w' fun e w'' => ∃ l', e = .returned (modV l' M) ∧ Hid (ModAt w'' l' M) ∧ Below w'.heap.size w' w'') := fun hs w' hb => toMod l M w' (hM.out.below hb) hs
  have S : Hid (smM M → ∀ l' w', ModAt w' l' M → Calls Try.prog 7 #[modV l' M] w' fun e w'' => e = .returned (.tuple #[.string x, .bool y]) ∧ Below w'.heap.size w' w'') := fun hs l' w' h => by rw [← hR]; exact specModuleBytes l' M w' h hs
  have I : Hid (smM M → ∀ l' w', ModAt w' l' M → Calls Try.prog 9 #[modV l' M] w' fun e w'' => e = .returned (.tuple #[.string x, .bool y]) ∧ Below w'.heap.size w' w'') := fun hs l' w' h => by rw [← hR]; exact implModule l' M w' h hs
  clear hR hok hM
  obtain ⟨fa, fc, ga, gc⟩ := l
  obtain ⟨nf, hnf⟩ : ∃ n, M.fs.length = n := ⟨_, rfl⟩
  obtain ⟨ng, hng⟩ : ∃ n, M.gs.length = n := ⟨_, rfl⟩
  have HNN : Hid (M.fs.length = nf ∧ M.gs.length = ng) := ⟨hnf, hng⟩
  have HV : Hid (∀ a b c d, modV ⟨a, b, c, d⟩ M = .agg #[.slice a nf b, .slice c ng d, .bool M.mem, .int .i64 M.pages, .int .i64 M.most, .int .i64 M.start]) := fun a b c d => by unfold modV; simp only; rw [hnf, hng]
  rw [HV.out fa fc ga gc] at Z T ⊢
  clear hnf hng
  go_enter Try.func3, Try.ntmps3
  go_wp2_with fail
  have hb0 : Below w.heap.size w (w.alloc (.cells #[.slice fa nf fc, .slice ga ng gc, .bool M.mem, .int .i64 M.pages, .int .i64 M.most, .int .i64 M.start] 25)) := (Below.refl _ _).alloc (Nat.le_refl _) _
  refine (Z.out _ hb0).mono ?_
  rintro e w1 ⟨r, rfl, hr, hb1⟩
  have HB1 : Hid (Below w.heap.size w w1) := bel_step hb0 hb1
  have hx1 := (hb1.block w.heap.size (by simp)).trans (heap_alloc_new _ _)
  clear hb0 hb1 Z
  by_cases hr0 : r < 0
  · clear hr
    go_wp2
    go_ret
    exact ⟨rfl, HB1.out⟩
  · have hs : Hid (smM M) := hr (by omega)
    clear hr
    have x0 := (cell_of_block hx1 0).trans rfl
    have x1 := (cell_of_block hx1 1).trans rfl
    have x2 := (cell_of_block hx1 2).trans rfl
    have x3 := (cell_of_block hx1 3).trans rfl
    have x4 := (cell_of_block hx1 4).trans rfl
    have x5 := (cell_of_block hx1 5).trans rfl
    go_wp2_with fail
    refine (T.out hs.out w1 HB1.out).mono ?_
    rintro e w2 ⟨l2, rfl, hA, hb2⟩
    have HB2 : Hid (Below w.heap.size w w2) := bel_step HB1.out hb2
    have hx2 := (hb2.block w.heap.size (lt_of_block hx1)).trans hx1
    clear hb2 hx1 x0 x1 x2 x3 x4 x5 HB1
    go_wp2_with fail
    refine (S.out hs.out l2 w2 hA.out).mono ?_
    rintro e w3 ⟨rfl, hb3⟩
    have HB3 : Hid (Below w.heap.size w w3) := bel_step HB2.out hb3
    have hx3 := (hb3.block w.heap.size (lt_of_block hx2)).trans hx2
    clear hb3 hx2 hA HB2 S
    have x0 := (cell_of_block hx3 0).trans rfl
    have x1 := (cell_of_block hx3 1).trans rfl
    have x2 := (cell_of_block hx3 2).trans rfl
    have x3 := (cell_of_block hx3 3).trans rfl
    have x4 := (cell_of_block hx3 4).trans rfl
    have x5 := (cell_of_block hx3 5).trans rfl
    go_wp2_with fail
    refine (T.out hs.out w3 HB3.out).mono ?_
    rintro e w4 ⟨⟨fa4, fc4, ga4, gc4⟩, rfl, hA4, hb4⟩
    have HB4 : Hid (Below w.heap.size w w4) := bel_step HB3.out hb4
    have hx4 := (hb4.block w.heap.size (lt_of_block hx3)).trans hx3
    clear hb4 hx3 x0 x1 x2 x3 x4 x5 HB3
    have J : Hid (∀ w', Below w4.heap.size w4 w' → Calls Try.prog 9 #[modV ⟨fa4, fc4, ga4, gc4⟩ M] w' fun e w'' => e = .returned (.tuple #[.string x, .bool y]) ∧ Below w'.heap.size w' w'') := fun w' h => I.out hs.out _ w' (hA4.out.below h)
    rw [HV.out fa4 fc4 ga4 gc4] at J ⊢
    clear I
    go_wp2_with fail
    refine (J.out _ ((Below.refl _ _).alloc (Nat.le_refl _) _)).mono ?_
    rintro e w5 ⟨rfl, hb5⟩
    have hb45 : Below w4.heap.size w4 w5 := bel_step ((Below.refl _ _).alloc (Nat.le_refl _) _) hb5
    have HB5 : Hid (Below w.heap.size w w5) := bel_step HB4.out hb45
    have hx5 := (hb45.block w.heap.size (lt_of_block hx4)).trans hx4
    have hy5 := (hb5.block w4.heap.size (by simp)).trans (heap_alloc_new _ _)
    have hA5 : Hid (ModAt w5 ⟨fa4, fc4, ga4, gc4⟩ M) := hA4.out.below hb45
    clear hb5 hx4 HB4 hb45 hA4 J
    obtain ⟨z, hz⟩ : ∃ z, w.heap.size = z := ⟨_, rfl⟩
    have HZ : Hid (w.heap.size = z) := hz
    obtain ⟨u, hu⟩ : ∃ u, w4.heap.size = u := ⟨_, rfl⟩
    rw [hz] at hx5
    rw [hu] at hy5
    have KX : ∀ w', Keeps w5 w' → w'.heap[z]? = some (.cells #[.slice fa nf fc, .slice ga ng gc, .bool M.mem, .int .i64 M.pages, .int .i64 M.most, .int .i64 M.start] 25 (0, 0)) := fun w' h => keeps_blockV h hx5
    have KY : ∀ w', Keeps w5 w' → w'.heap[u]? = some (.cells #[.slice fa4 nf fc4, .slice ga4 ng gc4, .bool M.mem, .int .i64 M.pages, .int .i64 M.most, .int .i64 M.start] 32 (0, 0)) := fun w' h => keeps_blockV h hy5
    have hyy : (y != y) = false := by cases y <;> rfl
    clear hx5 hy5
    go_wp2_with fail
    clear hz hu
    refine wh_begin (Keeps w5) (by kernel_rfl) ?_
    have hS0 : Keeps w5 w5.drew := Keeps.drew w5
    refine wh_take 0 (some 35) (.agg #[.slice fa4 nf fc4, .slice ga4 ng gc4, .bool M.mem, .int .i64 M.pages, .int .i64 M.most, .int .i64 M.start]) rfl rfl (by kernel_rfl) (by kernel_rfl) (by kernel_rfl) (fun _ _ _ h => h) hS0 (by rfl) (fun w' hS => by have hq := KY _ hS; have q0 := (cell_of_block hq 0).trans rfl; have q1 := (cell_of_block hq 1).trans rfl; have q2 := (cell_of_block hq 2).trans rfl; have q3 := (cell_of_block hq 3).trans rfl; have q4 := (cell_of_block hq 4).trans rfl; have q5 := (cell_of_block hq 5).trans rfl; clear hq; go_simp) ?_
    simp only [Act.put, List.setIfInBounds_toArray, List.set_cons_zero, List.set_cons_succ]
    refine wh_take 1 (some 36) (.agg #[.slice fa nf fc, .slice ga ng gc, .bool M.mem, .int .i64 M.pages, .int .i64 M.most, .int .i64 M.start]) rfl rfl (by kernel_rfl) (by kernel_rfl) (by kernel_rfl) (fun _ _ _ h => h) hS0 (by rfl) (fun w' hS => by have hq := KX _ hS; have q0 := (cell_of_block hq 0).trans rfl; have q1 := (cell_of_block hq 1).trans rfl; have q2 := (cell_of_block hq 2).trans rfl; have q3 := (cell_of_block hq 3).trans rfl; have q4 := (cell_of_block hq 4).trans rfl; have q5 := (cell_of_block hq 5).trans rfl; clear hq; go_simp) ?_
    simp only [Act.put, List.setIfInBounds_toArray, List.set_cons_zero, List.set_cons_succ]
    refine wh_call 2 (some 37) 8 #[.agg #[.slice fa nf fc, .slice ga ng gc, .bool M.mem, .int .i64 M.pages, .int .i64 M.most, .int .i64 M.start]] (by kernel_rfl) rfl rfl (by rfl) (by kernel_rfl) ?_
    refine (T.out hs.out _ (bel_step HB5.out hS0.below)).mono ?_
    rintro e w6 ⟨⟨fa6, fc6, ga6, gc6⟩, rfl, hA6, hb6⟩
    have hS6 : Keeps w5 w6 := hS0.step hb6
    refine ⟨_, rfl, hS6, ?_⟩
    have E := eqMod ⟨fa4, fc4, ga4, gc4⟩ ⟨fa6, fc6, ga6, gc6⟩ M w6 (hA5.out.below hS6.below) hA6 hs
    rw [HV.out fa4 fc4 ga4 gc4, HV.out fa6 fc6 ga6 gc6] at E
    rw [HV.out fa6 fc6 ga6 gc6]
    simp only [Act.put, List.setIfInBounds_toArray, List.set_cons_zero, List.set_cons_succ]
    refine wh_call 3 (some 38) 10 #[.agg #[.slice fa4 nf fc4, .slice ga4 ng gc4, .bool M.mem, .int .i64 M.pages, .int .i64 M.most, .int .i64 M.start], .agg #[.slice fa6 nf fc6, .slice ga6 ng gc6, .bool M.mem, .int .i64 M.pages, .int .i64 M.most, .int .i64 M.start]] (by kernel_rfl) rfl rfl (by rfl) (by kernel_rfl) ?_
    refine E.mono ?_
    rintro e w7 ⟨rfl, hb7⟩
    have hS7 : Keeps w5 w7 := hS6.step hb7
    refine ⟨_, rfl, hS7, ?_⟩
    simp only [Act.put, List.setIfInBounds_toArray, List.set_cons_zero, List.set_cons_succ]
    refine wh_val 4 (some 39) (.bool false) w7 (by kernel_rfl) rfl rfl (by rfl) (by rfl) hS7 ?_
    simp only [Act.put, List.setIfInBounds_toArray, List.set_cons_zero, List.set_cons_succ]
    refine wh_done (by kernel_rfl) ?_
    have HB7 : Hid (Below w.heap.size w w7) := bel_step HB5.out hS7.below
    clear KX KY hS7 hS6 hS0 hb7 hb6 E
    go_wp2
    go_ret
    exact ⟨rfl, HB7.out⟩

end Go.Proofs.Ytokaljglaholnaa
