/-
  Types in bytes: both sides.
-/
import Derived.Test.YtokaljglaholnaaVG1
import Derived.Test.YtokaljglaholnaaVC1
import Derived.Test.YtokaljglaholnaaUlebBytes
import Derived.Test.YtokaljglaholnaaUA1
import Derived.Test.YtokaljglaholnaaKeep
namespace Go.Proofs.Ytokaljglaholnaa
open Go.ChangeShapes Go.WideShapes Go.ChangeAt Go.RowKit

def tyB (L : List Int) : List UInt8 := ul 10 L.length ++ L.map opByte
theorem tyB_len (L : List Int) : (tyB L).length ≤ 10 + L.length := by
  unfold tyB; have := ul_len 10 L.length; simp; omega
theorem tys_snoc (L : List Int) (k : Nat) (h : k < L.length) : (L.take (k + 1)).map opByte = (L.take k).map opByte ++ [opByte L[k]] := by
  rw [List.take_succ_eq_append_getElem h, List.map_append]; rfl

set_option maxRecDepth 100000 in
set_option maxHeartbeats 1600000 in
theorem specTypes9 (a : Option Addr) (cap : Nat) (L : List Int) (w : World) (hI : Hid (Ints w a L)) (hlen : L.length ≤ 20) :
    Calls Try.prog 66 #[.slice a L.length cap] w fun e w' => e = .returned (.string (str (tyB L))) ∧ Below w.heap.size w w' := by
  have HU : Hid (∀ w : World, Calls Try.prog 48 #[.int .u64 (L.length : Int)] w fun e w' => e = .returned (.string (str (ul 10 L.length))) ∧ Below w.heap.size w w') := fun w => specUleb L.length (by unfold Hid; omega) w
  have hul := ul_len 10 L.length
  have HT : Hid (tyB L = ul 10 L.length ++ L.map opByte) := rfl
  generalize ul 10 L.length = us at HU hul HT
  go_enter Try.func66, Try.ntmps66
  go_wp2_with (go_at_call 48; refine (HU.out _).mono ?_; rintro e w1 ⟨rfl, hb1⟩; clear HU)
  go_loopw [3, 12] (fun v i wr => ∃ (k : Nat) (cs : List UInt8), k ≤ L.length ∧ i = .int .i64 k ∧ v = .string (str cs) ∧ Hid (cs = us ++ (L.take k).map opByte) ∧ cs.length ≤ 10 + k ∧ Below w.heap.size w wr) (fun _ i _ => L.length - (intOf i).toNat)
  case atStart => exact ⟨0, us, by omega, rfl, rfl, by simp [Hid], by omega, hb1⟩
  case round =>
    clear hb1
    obtain ⟨k, cs, hk, rfl, rfl, hcs, hcl, hnx⟩ := hrel
    by_cases hlt : k < L.length
    · obtain ⟨b, off, rfl, hb, hc⟩ := hI.out.at k hlt
      have hsn := tys_snoc L k hlt
      obtain ⟨x, hx⟩ : ∃ x, x = L[k] := ⟨_, rfl⟩
      rw [← hx] at hc hsn
      clear hx
      have hc0 : wr.cell? ⟨b, off + k, none⟩ = some (.int .i64 x) := (hnx.cell (by exact hb)).trans hc
      have HS : Hid (us ++ (L.take (k + 1)).map opByte = cs ++ [opByte x]) := by unfold Hid; rw [hsn, hcs.out]; simp
      have hcv := byte_string x
      have ha1 := str_app cs [opByte x]
      have hs1 := str_size cs
      have hs2 : (str [opByte x]).size = 1 := rfl
      have HX : Hid (Below w.heap.size w wr) := hnx
      have hcl2 : cs.length ≤ 30 := by omega
      clear hc hsn hul HT
      go_wp2
      go_roundw
      case rel =>
        refine ⟨k + 1, _, by omega, by go_num, rfl, HS.out.symm, by simp; omega, ?_⟩
        exact bel_alloc HX.out _
      case measure => simp [intOf]; omega
    · have e : L.take k = L := List.take_of_length_le (by omega)
      have hcs' := hcs.out
      rw [e, ← HT.out] at hcs'
      subst hcs'
      clear hcs e
      go_wp2
      go_ret
      exact ⟨rfl, hnx⟩

theorem ulAll_at (bs : List UInt8) (n : Nat) : bs ++ ulAll [n] = bs ++ ul 10 n := by simp [ulAll]

set_option maxRecDepth 100000 in
set_option maxHeartbeats 1600000 in
theorem implTypes9 (w0 : World) (v : Value) (bs : List UInt8) (a : Option Addr) (cap : Nat) (L : List Int) (w : World) (hI : Hid (Ints w0 a L)) (h0 : Hid (Below w0.heap.size w0 w)) (hown : w.ownsRow w0.heap.size 5 1 v bs.length (bv bs)) (hlen : L.length ≤ 20) (hbl : bs.length ≤ 100000) :
    Calls Try.prog 38 #[v, .slice a L.length cap] w fun e w' => ∃ v', e = .returned v' ∧ w'.ownsRow w0.heap.size 5 1 v' (bs ++ tyB L).length (bv (bs ++ tyB L)) ∧ KeepO 5 w w' ∧ Below w0.heap.size w w' := by
  obtain ⟨i0, hi, hz0, hz1, hz2⟩ := info_parts Try.info5
  obtain ⟨B, hBz⟩ : ∃ B, w0.heap.size = B := ⟨_, rfl⟩
  have HBZ : Hid (w0.heap.size = B) := hBz
  rw [hBz] at hown ⊢
  clear hBz
  have hB : B ≤ w.heap.size := by have := h0.out.size; have := HBZ.out; omega
  have A := appendUlebs_any B v bs w.heap.size [L.length] (w.alloc (.cells #[.int .u64 (L.length : Int)] 76)) (by intro m hm; simp at hm; omega) (hown.alloc _) (heap_alloc_new _ _) (by simp; omega) (by simp; omega)
  rw [ulAll_at] at A
  have hul := ul_len 10 L.length
  have HT : Hid (tyB L = ul 10 L.length ++ L.map opByte) := rfl
  generalize ul 10 L.length = us at A hul HT
  go_enter Try.func38, Try.ntmps38
  go_wp2_with fail
  refine A.mono ?_
  rintro e w1 ⟨v1, rfl, hown1, hk1, hb1⟩
  have HK1 : Hid (KeepO 5 w w1) := ((KeepO.refl _ w).alloc _).trans hk1
  have HB1 : Hid (Below B w w1) := ((Below.refl _ _).alloc hB _).trans hb1
  clear A hk1 hb1 hown
  go_wp2
  go_loopw [0, 15] (fun v i wr => ∃ (k : Nat) (cs : List UInt8), k ≤ L.length ∧ i = .int .i64 k ∧ Hid (cs = bs ++ us ++ (L.take k).map opByte) ∧ cs.length ≤ bs.length + 10 + k ∧ wr.ownsRow B 5 1 v cs.length (bv cs) ∧ Hid (KeepO 5 w wr) ∧ Hid (Below B w wr)) (fun _ i _ => L.length - (intOf i).toNat)
  case atStart => exact ⟨0, bs ++ us, by omega, rfl, by simp [Hid], by simp; omega, hown1, HK1, HB1⟩
  case round =>
    clear hown1 HK1 HB1
    obtain ⟨k, cs, hk, rfl, hcs, hcl, hown, hkr, hnx⟩ := hrel
    have hsz := hnx.out.size
    by_cases hlt : k < L.length
    · have hIr : Ints wr a L := hI.out.below (by rw [HBZ.out]; exact (by have := h0.out; rw [HBZ.out] at this; exact this.trans hnx.out))
      obtain ⟨b, off, rfl, hb, hc⟩ := hIr.at k hlt
      have hsn := tys_snoc L k hlt
      obtain ⟨x, hx⟩ : ∃ x, x = L[k] := ⟨_, rfl⟩
      rw [← hx] at hc hsn
      clear hx hIr
      have HS : Hid (bs ++ us ++ (L.take (k + 1)).map opByte = cs ++ [opByte x]) := by unfold Hid; rw [hsn, hcs.out]; simp
      clear hsn hul HT
      go_wp2_with (at_builtin; refine wpList_append_own _ rfl _ _ 73 rfl B 5 i0 (.int .u8 0) 1 1 Try.underlying73 hi hz0 hz1 hz2 rfl (by decide) _ _ _ rfl (hown.alloc _) ⟨wr.heap.size, 0, none⟩ 1 1 (bv [opByte x]) rfl rfl ?c1 ?c2 ?c3 ?c4 ?c5 ?_)
      case c1 =>
        rw [← opByte_int]
        exact cell_one_new _ _ _
      case c2 => exact bv_one _
      case c3 => unfold maxLen; omega
      case c4 => omega
      case c5 => simp; omega
      intro v1 w1 hown1 hgrow1 _
      rw [bv_app] at hown1
      have hb1 : Hid (Below B w w1) := (hnx.out.alloc (by omega) _).grown hgrow1 (by simp; omega) (ownsRow_block hown)
      have hk1 : Hid (KeepO 5 w w1) := hkr.out.app hown hgrow1
      clear hgrow1 hown
      go_wp2
      go_roundw
      case rel => exact ⟨k + 1, _, by omega, by go_num, HS.out.symm, by simp; omega, by simpa using hown1, hk1, hb1⟩
      case measure => simp [intOf]; omega
    · have e : L.take k = L := List.take_of_length_le (by omega)
      have hcs' := hcs.out
      rw [e, List.append_assoc, ← HT.out] at hcs'
      subst hcs'
      clear hcs e
      go_wp2
      go_ret
      exact ⟨_, rfl, hown, hkr.out, hnx.out⟩

end Go.Proofs.Ytokaljglaholnaa

namespace Go.Proofs.Ytokaljglaholnaa
open Go.ChangeShapes Go.WideShapes Go.ChangeAt Go.RowKit

def funB (f : Fun7) : List UInt8 := tyB f.ps ++ [opByte f.res] ++ tyB f.ls ++ ul 10 (cb f.body).length ++ cb f.body
def funOk (f : Fun7) : Bool := goodF f && decide ((funB f).length ≤ 900)
def funRes (f : Fun7) : Value := if funOk f = true then .tuple #[.string (str (funB f)), .bool true] else .tuple #[.string ⟨#[]⟩, .bool false]
theorem goodF_parts {f : Fun7} (h : goodF f = true) : f.ps.length ≤ 6 ∧ f.ls.length ≤ 20 ∧ f.body.length ≤ 200 ∧ allG f.body = true := by
  unfold goodF allT at h
  simp only [Bool.and_eq_true, decide_eq_true_eq] at h
  obtain ⟨⟨⟨h1, _, h2⟩, _, h3⟩, _⟩ := h
  unfold eo at h1
  by_cases hg : (allG f.body && decide (f.body.length ≤ 200)) = true
  · simp only [Bool.and_eq_true, decide_eq_true_eq] at hg
    exact ⟨h2, h3, hg.2, hg.1⟩
  · rw [if_neg hg] at h1; simp at h1

set_option maxRecDepth 100000 in
set_option maxHeartbeats 8000000 in
theorem specFunc9 (pa la ba : Option Addr) (pc lc bc : Nat) (f : Fun7) (w : World) (hR : Hid (FunRows w pa la ba f)) (hs : Hid (smF f)) (hg : goodF f = true) :
    Calls Try.prog 33 #[.agg #[.slice pa f.ps.length pc, .int .i64 f.res, .slice la f.ls.length lc, .slice ba f.body.length bc]] w fun e w' => e = .returned (.string (str (funB f))) ∧ Below w.heap.size w w' := by
  obtain ⟨g1, g2, g3, g4⟩ := goodF_parts hg
  obtain ⟨ps, res, ls, body⟩ := f
  simp only at g1 g2 g3 g4 ⊢
  have HF : Hid (str (funB ⟨ps, res, ls, body⟩) = str (tyB ps) ++ str [opByte res] ++ str (tyB ls) ++ str (ul 10 (cb body).length) ++ str (cb body)) := by unfold Hid funB; simp only [str_app]
  have hb0 : Below w.heap.size w (w.alloc (.cells #[.slice pa ps.length pc, .int .i64 res, .slice la ls.length lc, .slice ba body.length bc] 44)) := (Below.refl _ _).alloc (Nat.le_refl _) _
  have hx0 : (w.alloc (.cells #[.slice pa ps.length pc, .int .i64 res, .slice la ls.length lc, .slice ba body.length bc] 44)).heap[w.heap.size]? = some (.cells #[.slice pa ps.length pc, .int .i64 res, .slice la ls.length lc, .slice ba body.length bc] 44 (0, 0)) := heap_alloc_new _ _
  obtain ⟨bb, bo, k1, k2⟩ := (hR.out.2.2.below hb0).parts
  have SB := specBytes ba bb bo bc body _ k1 k2 hs.out.2.2.2 g3 g4
  have T1 : Hid (∀ w', Below w.heap.size w w' → Calls Try.prog 66 #[.slice pa ps.length pc] w' fun e w'' => e = .returned (.string (str (tyB ps))) ∧ Below w'.heap.size w' w'') := fun w' h => specTypes9 pa pc ps w' (hR.out.1.below h) (by omega)
  have T2 : Hid (∀ w', Below w.heap.size w w' → Calls Try.prog 66 #[.slice la ls.length lc] w' fun e w'' => e = .returned (.string (str (tyB ls))) ∧ Below w'.heap.size w' w'') := fun w' h => specTypes9 la lc ls w' (hR.out.2.1.below h) (by omega)
  have hcl : (cb body).length ≤ 2200 := by have := cb_len body; omega
  have T3 : Hid (∀ w' : World, Calls Try.prog 48 #[.int .u64 ((cb body).length : Int)] w' fun e w'' => e = .returned (.string (str (ul 10 (cb body).length))) ∧ Below w'.heap.size w' w'') := fun w' => specUleb (cb body).length (by unfold Hid; omega) w'
  have l1 := tyB_len ps
  have l2 := tyB_len ls
  have l3 := ul_len 10 (cb body).length
  clear k1 k2 hg g4 hs
  obtain ⟨A, hA⟩ : ∃ A, str (tyB ps) = A := ⟨_, rfl⟩
  obtain ⟨C, hC⟩ : ∃ C, str (tyB ls) = C := ⟨_, rfl⟩
  obtain ⟨U, hU⟩ : ∃ U, str (ul 10 (cb body).length) = U := ⟨_, rfl⟩
  obtain ⟨D, hD⟩ : ∃ D, str (cb body) = D := ⟨_, rfl⟩
  have sA : A.size ≤ 100 := by rw [← hA, str_size]; omega
  have sC : C.size ≤ 100 := by rw [← hC, str_size]; omega
  have sU : U.size ≤ 100 := by rw [← hU, str_size]; omega
  have sD : D.size ≤ 2200 := by rw [← hD, str_size]; omega
  have sDn : D.size = (cb body).length := by rw [← hD, str_size]
  have sR : (str [opByte res]).size = 1 := rfl
  rw [hA, hC, hU, hD] at HF
  rw [hA] at T1
  rw [hC] at T2
  rw [hU] at T3
  rw [hD] at SB
  rw [← sDn] at T3
  clear hA hC hU hD hcl sDn l1 l2 l3 g1 g2 g3
  have hcv := byte_string res
  generalize str [opByte res] = Z at HF sR hcv
  go_enter Try.func33, Try.ntmps33
  go_wp2_with fail
  refine SB.mono ?_
  rintro e w1 ⟨rfl, hb1⟩
  have HB1 : Hid (Below w.heap.size w w1) := bel_step hb0 hb1
  have hx1 := (hb1.block w.heap.size (by simp)).trans hx0
  have hl1 := lt_of_block hx1
  obtain ⟨z, hz⟩ : ∃ z, w.heap.size = z := ⟨_, rfl⟩
  have HZ : Hid (w.heap.size = z) := hz
  rw [hz] at hx1 hl1
  have k0 : ∀ w', Keeps w1 w' → w'.cell? ⟨z, 0, none⟩ = some (.slice pa ps.length pc) := fun w' h => h.cell hl1 ((cell_of_block hx1 0).trans rfl)
  have k1 : ∀ w', Keeps w1 w' → w'.cell? ⟨z, 1, none⟩ = some (.int .i64 res) := fun w' h => h.cell hl1 ((cell_of_block hx1 1).trans rfl)
  have k2 : ∀ w', Keeps w1 w' → w'.cell? ⟨z, 2, none⟩ = some (.slice la ls.length lc) := fun w' h => h.cell hl1 ((cell_of_block hx1 2).trans rfl)
  have q1 : (A ++ Z).size = A.size + 1 := by rw [ByteArray.size_append]; omega
  have q2 : (A ++ Z ++ C).size = A.size + 1 + C.size := by rw [ByteArray.size_append]; omega
  have q3 : (A ++ Z ++ C ++ U).size = A.size + 1 + C.size + U.size := by rw [ByteArray.size_append]; omega
  have u1 : IntKind.u64.wrap (D.size : Int) = (D.size : Int) := by rw [IntKind.wrap_u64]; omega
  clear SB hb1 hb0 hx0 hx1 hR
  go_wp2_with fail
  clear hz
  refine wh_begin (Keeps w1) (by kernel_rfl) ?_
  have hS0 : Keeps w1 w1.drew := Keeps.drew w1
  refine wh_take 0 (some 7) (.pointer (some ⟨z, 0, none⟩)) rfl rfl (by kernel_rfl) (by kernel_rfl) (by kernel_rfl) (fun _ _ _ h => h) hS0 (by rfl) (fun w' hS => by first | rfl | (go_simp; done) | (go_simp; omega)) ?_
  simp only [Act.put, List.setIfInBounds_toArray, List.set_cons_zero, List.set_cons_succ]
  refine wh_take 1 (some 8) (.slice pa ps.length pc) rfl rfl (by kernel_rfl) (by kernel_rfl) (by kernel_rfl) (fun _ _ _ h => h) hS0 (by rfl) (fun w' hS => by have q := k0 _ hS; first | rfl | (go_simp; done) | (go_simp; omega)) ?_
  simp only [Act.put, List.setIfInBounds_toArray, List.set_cons_zero, List.set_cons_succ]
  refine wh_take 3 (some 10) (.pointer (some ⟨z, 1, none⟩)) rfl rfl (by kernel_rfl) (by kernel_rfl) (by kernel_rfl) (fun _ _ _ h => h) hS0 (by rfl) (fun w' hS => by first | rfl | (go_simp; done) | (go_simp; omega)) ?_
  simp only [Act.put, List.setIfInBounds_toArray, List.set_cons_zero, List.set_cons_succ]
  refine wh_take 4 (some 11) (.int .i64 res) rfl rfl (by kernel_rfl) (by kernel_rfl) (by kernel_rfl) (fun _ _ _ h => h) hS0 (by rfl) (fun w' hS => by have q := k1 _ hS; first | rfl | (go_simp; done) | (go_simp; omega)) ?_
  simp only [Act.put, List.setIfInBounds_toArray, List.set_cons_zero, List.set_cons_succ]
  refine wh_take 5 (some 12) (.int .u8 (res % 256)) rfl rfl (by kernel_rfl) (by kernel_rfl) (by kernel_rfl) (fun _ _ _ h => h) hS0 (by rfl) (fun w' hS => by first | rfl | (go_simp; done) | (go_simp; omega)) ?_
  simp only [Act.put, List.setIfInBounds_toArray, List.set_cons_zero, List.set_cons_succ]
  refine wh_take 9 (some 16) (.pointer (some ⟨z, 2, none⟩)) rfl rfl (by kernel_rfl) (by kernel_rfl) (by kernel_rfl) (fun _ _ _ h => h) hS0 (by rfl) (fun w' hS => by first | rfl | (go_simp; done) | (go_simp; omega)) ?_
  simp only [Act.put, List.setIfInBounds_toArray, List.set_cons_zero, List.set_cons_succ]
  refine wh_take 10 (some 17) (.slice la ls.length lc) rfl rfl (by kernel_rfl) (by kernel_rfl) (by kernel_rfl) (fun _ _ _ h => h) hS0 (by rfl) (fun w' hS => by have q := k2 _ hS; first | rfl | (go_simp; done) | (go_simp; omega)) ?_
  simp only [Act.put, List.setIfInBounds_toArray, List.set_cons_zero, List.set_cons_succ]
  refine wh_take 13 (some 20) (.string D) rfl rfl (by kernel_rfl) (by kernel_rfl) (by kernel_rfl) (fun _ _ _ h => h) hS0 (by rfl) (fun w' hS => by first | rfl | (go_simp; done) | (go_simp; omega)) ?_
  simp only [Act.put, List.setIfInBounds_toArray, List.set_cons_zero, List.set_cons_succ]
  refine wh_take 14 (some 21) (.int .i64 (D.size : Int)) rfl rfl (by kernel_rfl) (by kernel_rfl) (by kernel_rfl) (fun _ _ _ h => h) hS0 (by rfl) (fun w' hS => by first | rfl | (go_simp; done) | (go_simp; omega)) ?_
  simp only [Act.put, List.setIfInBounds_toArray, List.set_cons_zero, List.set_cons_succ]
  refine wh_take 15 (some 22) (.int .u64 (D.size : Int)) rfl rfl (by kernel_rfl) (by kernel_rfl) (by kernel_rfl) (fun _ _ _ h => h) hS0 (by rfl) (fun w' hS => by first | rfl | (go_simp; done) | (go_simp; omega)) ?_
  simp only [Act.put, List.setIfInBounds_toArray, List.set_cons_zero, List.set_cons_succ]
  refine wh_take 18 (some 25) (.string D) rfl rfl (by kernel_rfl) (by kernel_rfl) (by kernel_rfl) (fun _ _ _ h => h) hS0 (by rfl) (fun w' hS => by first | rfl | (go_simp; done) | (go_simp; omega)) ?_
  simp only [Act.put, List.setIfInBounds_toArray, List.set_cons_zero, List.set_cons_succ]
  refine wh_two 2 6 (by kernel_rfl) ?_ ?_
  · refine wo_call (some 9) 66 #[.slice pa ps.length pc] rfl rfl (by rfl) (by kernel_rfl) ?_
    refine (T1.out w1.drew (bel_step HB1.out hS0.below)).mono ?_
    rintro e v1 ⟨rfl, hb1⟩
    have hS1 : Keeps w1 v1 := hS0.step hb1
    refine ⟨_, rfl, hS1, ?_⟩
    simp only [Act.put, List.setIfInBounds_toArray, List.set_cons_zero, List.set_cons_succ]
    refine wh_two 6 11 (by kernel_rfl) ?_ ?_
    · have hS2 : Keeps w1 (v1.alloc (.cells #[.int .u8 (res % 256)] 5)) := hS1.step ((Below.refl _ _).alloc (Nat.le_refl _) _)
      have c2 : (v1.alloc (.cells #[.int .u8 (res % 256)] 5)).cell? ⟨v1.heap.size, 0, none⟩ = some (.int .u8 (res % 256)) := newCell rfl rfl
      have d2 : v1.heap.size < (v1.alloc (.cells #[.int .u8 (res % 256)] 5)).heap.size := by simp
      refine wo_val (some 13) (.slice (some ⟨v1.heap.size, 0, none⟩) 1 1) (v1.alloc (.cells #[.int .u8 (res % 256)] 5)) rfl rfl (by rfl) (by first | rfl | go_simp) hS2 ?_
      obtain ⟨v2, hv2⟩ : ∃ v, (v1.alloc (.cells #[.int .u8 (res % 256)] 5)) = v := ⟨_, rfl⟩
      obtain ⟨g2, hg2⟩ : ∃ g, v1.heap.size = g := ⟨_, rfl⟩
      rw [hv2] at hS2 c2 d2 ⊢
      rw [hg2] at c2 d2 ⊢
      clear hv2 hg2
      simp only [Act.put, List.setIfInBounds_toArray, List.set_cons_zero, List.set_cons_succ]
      refine wh_two 7 11 (by kernel_rfl) ?_ ?_
      · have x3 := hcv g2 v2 c2
        refine wo_val (some 14) (.string Z) v2 rfl rfl (by rfl) (by first | rfl | go_simp) hS2 ?_
        clear x3
        simp only [Act.put, List.setIfInBounds_toArray, List.set_cons_zero, List.set_cons_succ]
        refine wh_take 8 (some 15) (.string (A ++ Z)) rfl rfl (by kernel_rfl) (by kernel_rfl) (by kernel_rfl) (fun _ _ _ h => h) hS2 (by rfl) (fun w' hS => by first | rfl | (go_simp; done) | (go_simp; omega)) ?_
        simp only [Act.put, List.setIfInBounds_toArray, List.set_cons_zero, List.set_cons_succ]
        refine wh_call 11 (some 18) 66 #[.slice la ls.length lc] (by kernel_rfl) rfl rfl (by rfl) (by kernel_rfl) ?_
        refine (T2.out v2 (bel_step HB1.out hS2.below)).mono ?_
        rintro e v4 ⟨rfl, hb4⟩
        have hS4 : Keeps w1 v4 := hS2.step hb4
        refine ⟨_, rfl, hS4, ?_⟩
        simp only [Act.put, List.setIfInBounds_toArray, List.set_cons_zero, List.set_cons_succ]
        refine wh_take 12 (some 19) (.string (A ++ Z ++ C)) rfl rfl (by kernel_rfl) (by kernel_rfl) (by kernel_rfl) (fun _ _ _ h => h) hS4 (by rfl) (fun w' hS => by first | rfl | (go_simp; done) | (go_simp; omega)) ?_
        simp only [Act.put, List.setIfInBounds_toArray, List.set_cons_zero, List.set_cons_succ]
        refine wh_call 16 (some 23) 48 #[.int .u64 (D.size : Int)] (by kernel_rfl) rfl rfl (by rfl) (by kernel_rfl) ?_
        refine (T3.out v4).mono ?_
        rintro e v5 ⟨rfl, hb5⟩
        have hS5 : Keeps w1 v5 := hS4.step hb5
        refine ⟨_, rfl, hS5, ?_⟩
        simp only [Act.put, List.setIfInBounds_toArray, List.set_cons_zero, List.set_cons_succ]
        refine wh_take 17 (some 24) (.string (A ++ Z ++ C ++ U)) rfl rfl (by kernel_rfl) (by kernel_rfl) (by kernel_rfl) (fun _ _ _ h => h) hS5 (by rfl) (fun w' hS => by first | rfl | (go_simp; done) | (go_simp; omega)) ?_
        simp only [Act.put, List.setIfInBounds_toArray, List.set_cons_zero, List.set_cons_succ]
        refine wh_take 19 (some 26) (.string (A ++ Z ++ C ++ U ++ D)) rfl rfl (by kernel_rfl) (by kernel_rfl) (by kernel_rfl) (fun _ _ _ h => h) hS5 (by rfl) (fun w' hS => by first | rfl | (go_simp; done) | (go_simp; omega)) ?_
        simp only [Act.put, List.setIfInBounds_toArray, List.set_cons_zero, List.set_cons_succ]
        refine wh_val 20 (some 2) (.string (A ++ Z ++ C ++ U ++ D)) v5 (by kernel_rfl) rfl rfl (by rfl) (by rfl) hS5 ?_
        simp only [Act.put, List.setIfInBounds_toArray, List.set_cons_zero, List.set_cons_succ]
        refine wh_done (by kernel_rfl) ?_
        have HBe : Hid (Below w.heap.size w v5) := bel_step HB1.out hS5.below
        clear k0 k1 k2 hS5
        go_wp2
        go_ret
        exact ⟨by rw [HF.out]; rfl, HBe.out⟩
      · refine wo_call (some 18) 66 #[.slice la ls.length lc] rfl rfl (by rfl) (by kernel_rfl) ?_
        refine (T2.out v2 (bel_step HB1.out hS2.below)).mono ?_
        rintro e v6 ⟨rfl, hb6⟩
        have hS6 : Keeps w1 v6 := hS2.step hb6
        have c6 : v6.cell? ⟨g2, 0, none⟩ = some (.int .u8 (res % 256)) := (hb6.cell (p := ⟨g2, 0, none⟩) d2).trans c2
        have d6 : g2 < v6.heap.size := Nat.lt_of_lt_of_le d2 hb6.size
        refine ⟨_, rfl, hS6, ?_⟩
        simp only [Act.put, List.setIfInBounds_toArray, List.set_cons_zero, List.set_cons_succ]
        refine wh_two 7 16 (by kernel_rfl) ?_ ?_
        · have x7 := hcv g2 v6 c6
          refine wo_val (some 14) (.string Z) v6 rfl rfl (by rfl) (by first | rfl | go_simp) hS6 ?_
          clear x7
          simp only [Act.put, List.setIfInBounds_toArray, List.set_cons_zero, List.set_cons_succ]
          refine wh_take 8 (some 15) (.string (A ++ Z)) rfl rfl (by kernel_rfl) (by kernel_rfl) (by kernel_rfl) (fun _ _ _ h => h) hS6 (by rfl) (fun w' hS => by first | rfl | (go_simp; done) | (go_simp; omega)) ?_
          simp only [Act.put, List.setIfInBounds_toArray, List.set_cons_zero, List.set_cons_succ]
          refine wh_take 12 (some 19) (.string (A ++ Z ++ C)) rfl rfl (by kernel_rfl) (by kernel_rfl) (by kernel_rfl) (fun _ _ _ h => h) hS6 (by rfl) (fun w' hS => by first | rfl | (go_simp; done) | (go_simp; omega)) ?_
          simp only [Act.put, List.setIfInBounds_toArray, List.set_cons_zero, List.set_cons_succ]
          refine wh_call 16 (some 23) 48 #[.int .u64 (D.size : Int)] (by kernel_rfl) rfl rfl (by rfl) (by kernel_rfl) ?_
          refine (T3.out v6).mono ?_
          rintro e v8 ⟨rfl, hb8⟩
          have hS8 : Keeps w1 v8 := hS6.step hb8
          refine ⟨_, rfl, hS8, ?_⟩
          simp only [Act.put, List.setIfInBounds_toArray, List.set_cons_zero, List.set_cons_succ]
          refine wh_take 17 (some 24) (.string (A ++ Z ++ C ++ U)) rfl rfl (by kernel_rfl) (by kernel_rfl) (by kernel_rfl) (fun _ _ _ h => h) hS8 (by rfl) (fun w' hS => by first | rfl | (go_simp; done) | (go_simp; omega)) ?_
          simp only [Act.put, List.setIfInBounds_toArray, List.set_cons_zero, List.set_cons_succ]
          refine wh_take 19 (some 26) (.string (A ++ Z ++ C ++ U ++ D)) rfl rfl (by kernel_rfl) (by kernel_rfl) (by kernel_rfl) (fun _ _ _ h => h) hS8 (by rfl) (fun w' hS => by first | rfl | (go_simp; done) | (go_simp; omega)) ?_
          simp only [Act.put, List.setIfInBounds_toArray, List.set_cons_zero, List.set_cons_succ]
          refine wh_val 20 (some 2) (.string (A ++ Z ++ C ++ U ++ D)) v8 (by kernel_rfl) rfl rfl (by rfl) (by rfl) hS8 ?_
          simp only [Act.put, List.setIfInBounds_toArray, List.set_cons_zero, List.set_cons_succ]
          refine wh_done (by kernel_rfl) ?_
          have HBe : Hid (Below w.heap.size w v8) := bel_step HB1.out hS8.below
          clear k0 k1 k2 hS8
          go_wp2
          go_ret
          exact ⟨by rw [HF.out]; rfl, HBe.out⟩
        · refine wo_call (some 23) 48 #[.int .u64 (D.size : Int)] rfl rfl (by rfl) (by kernel_rfl) ?_
          refine (T3.out v6).mono ?_
          rintro e v9 ⟨rfl, hb9⟩
          have hS9 : Keeps w1 v9 := hS6.step hb9
          have c9 : v9.cell? ⟨g2, 0, none⟩ = some (.int .u8 (res % 256)) := (hb9.cell (p := ⟨g2, 0, none⟩) d6).trans c6
          have d9 : g2 < v9.heap.size := Nat.lt_of_lt_of_le d6 hb9.size
          refine ⟨_, rfl, hS9, ?_⟩
          simp only [Act.put, List.setIfInBounds_toArray, List.set_cons_zero, List.set_cons_succ]
          have x10 := hcv g2 v9 c9
          refine wh_val 7 (some 14) (.string Z) v9 (by kernel_rfl) rfl rfl (by rfl) (by first | rfl | go_simp) hS9 ?_
          clear x10
          simp only [Act.put, List.setIfInBounds_toArray, List.set_cons_zero, List.set_cons_succ]
          refine wh_take 8 (some 15) (.string (A ++ Z)) rfl rfl (by kernel_rfl) (by kernel_rfl) (by kernel_rfl) (fun _ _ _ h => h) hS9 (by rfl) (fun w' hS => by first | rfl | (go_simp; done) | (go_simp; omega)) ?_
          simp only [Act.put, List.setIfInBounds_toArray, List.set_cons_zero, List.set_cons_succ]
          refine wh_take 12 (some 19) (.string (A ++ Z ++ C)) rfl rfl (by kernel_rfl) (by kernel_rfl) (by kernel_rfl) (fun _ _ _ h => h) hS9 (by rfl) (fun w' hS => by first | rfl | (go_simp; done) | (go_simp; omega)) ?_
          simp only [Act.put, List.setIfInBounds_toArray, List.set_cons_zero, List.set_cons_succ]
          refine wh_take 17 (some 24) (.string (A ++ Z ++ C ++ U)) rfl rfl (by kernel_rfl) (by kernel_rfl) (by kernel_rfl) (fun _ _ _ h => h) hS9 (by rfl) (fun w' hS => by first | rfl | (go_simp; done) | (go_simp; omega)) ?_
          simp only [Act.put, List.setIfInBounds_toArray, List.set_cons_zero, List.set_cons_succ]
          refine wh_take 19 (some 26) (.string (A ++ Z ++ C ++ U ++ D)) rfl rfl (by kernel_rfl) (by kernel_rfl) (by kernel_rfl) (fun _ _ _ h => h) hS9 (by rfl) (fun w' hS => by first | rfl | (go_simp; done) | (go_simp; omega)) ?_
          simp only [Act.put, List.setIfInBounds_toArray, List.set_cons_zero, List.set_cons_succ]
          refine wh_val 20 (some 2) (.string (A ++ Z ++ C ++ U ++ D)) v9 (by kernel_rfl) rfl rfl (by rfl) (by rfl) hS9 ?_
          simp only [Act.put, List.setIfInBounds_toArray, List.set_cons_zero, List.set_cons_succ]
          refine wh_done (by kernel_rfl) ?_
          have HBe : Hid (Below w.heap.size w v9) := bel_step HB1.out hS9.below
          clear k0 k1 k2 hS9
          go_wp2
          go_ret
          exact ⟨by rw [HF.out]; rfl, HBe.out⟩
    · refine wo_call (some 18) 66 #[.slice la ls.length lc] rfl rfl (by rfl) (by kernel_rfl) ?_
      refine (T2.out v1 (bel_step HB1.out hS1.below)).mono ?_
      rintro e v11 ⟨rfl, hb11⟩
      have hS11 : Keeps w1 v11 := hS1.step hb11
      refine ⟨_, rfl, hS11, ?_⟩
      simp only [Act.put, List.setIfInBounds_toArray, List.set_cons_zero, List.set_cons_succ]
      refine wh_two 6 16 (by kernel_rfl) ?_ ?_
      · have hS12 : Keeps w1 (v11.alloc (.cells #[.int .u8 (res % 256)] 5)) := hS11.step ((Below.refl _ _).alloc (Nat.le_refl _) _)
        have c12 : (v11.alloc (.cells #[.int .u8 (res % 256)] 5)).cell? ⟨v11.heap.size, 0, none⟩ = some (.int .u8 (res % 256)) := newCell rfl rfl
        have d12 : v11.heap.size < (v11.alloc (.cells #[.int .u8 (res % 256)] 5)).heap.size := by simp
        refine wo_val (some 13) (.slice (some ⟨v11.heap.size, 0, none⟩) 1 1) (v11.alloc (.cells #[.int .u8 (res % 256)] 5)) rfl rfl (by rfl) (by first | rfl | go_simp) hS12 ?_
        obtain ⟨v12, hv12⟩ : ∃ v, (v11.alloc (.cells #[.int .u8 (res % 256)] 5)) = v := ⟨_, rfl⟩
        obtain ⟨g12, hg12⟩ : ∃ g, v11.heap.size = g := ⟨_, rfl⟩
        rw [hv12] at hS12 c12 d12 ⊢
        rw [hg12] at c12 d12 ⊢
        clear hv12 hg12
        simp only [Act.put, List.setIfInBounds_toArray, List.set_cons_zero, List.set_cons_succ]
        refine wh_two 7 16 (by kernel_rfl) ?_ ?_
        · have x13 := hcv g12 v12 c12
          refine wo_val (some 14) (.string Z) v12 rfl rfl (by rfl) (by first | rfl | go_simp) hS12 ?_
          clear x13
          simp only [Act.put, List.setIfInBounds_toArray, List.set_cons_zero, List.set_cons_succ]
          refine wh_take 8 (some 15) (.string (A ++ Z)) rfl rfl (by kernel_rfl) (by kernel_rfl) (by kernel_rfl) (fun _ _ _ h => h) hS12 (by rfl) (fun w' hS => by first | rfl | (go_simp; done) | (go_simp; omega)) ?_
          simp only [Act.put, List.setIfInBounds_toArray, List.set_cons_zero, List.set_cons_succ]
          refine wh_take 12 (some 19) (.string (A ++ Z ++ C)) rfl rfl (by kernel_rfl) (by kernel_rfl) (by kernel_rfl) (fun _ _ _ h => h) hS12 (by rfl) (fun w' hS => by first | rfl | (go_simp; done) | (go_simp; omega)) ?_
          simp only [Act.put, List.setIfInBounds_toArray, List.set_cons_zero, List.set_cons_succ]
          refine wh_call 16 (some 23) 48 #[.int .u64 (D.size : Int)] (by kernel_rfl) rfl rfl (by rfl) (by kernel_rfl) ?_
          refine (T3.out v12).mono ?_
          rintro e v14 ⟨rfl, hb14⟩
          have hS14 : Keeps w1 v14 := hS12.step hb14
          refine ⟨_, rfl, hS14, ?_⟩
          simp only [Act.put, List.setIfInBounds_toArray, List.set_cons_zero, List.set_cons_succ]
          refine wh_take 17 (some 24) (.string (A ++ Z ++ C ++ U)) rfl rfl (by kernel_rfl) (by kernel_rfl) (by kernel_rfl) (fun _ _ _ h => h) hS14 (by rfl) (fun w' hS => by first | rfl | (go_simp; done) | (go_simp; omega)) ?_
          simp only [Act.put, List.setIfInBounds_toArray, List.set_cons_zero, List.set_cons_succ]
          refine wh_take 19 (some 26) (.string (A ++ Z ++ C ++ U ++ D)) rfl rfl (by kernel_rfl) (by kernel_rfl) (by kernel_rfl) (fun _ _ _ h => h) hS14 (by rfl) (fun w' hS => by first | rfl | (go_simp; done) | (go_simp; omega)) ?_
          simp only [Act.put, List.setIfInBounds_toArray, List.set_cons_zero, List.set_cons_succ]
          refine wh_val 20 (some 2) (.string (A ++ Z ++ C ++ U ++ D)) v14 (by kernel_rfl) rfl rfl (by rfl) (by rfl) hS14 ?_
          simp only [Act.put, List.setIfInBounds_toArray, List.set_cons_zero, List.set_cons_succ]
          refine wh_done (by kernel_rfl) ?_
          have HBe : Hid (Below w.heap.size w v14) := bel_step HB1.out hS14.below
          clear k0 k1 k2 hS14
          go_wp2
          go_ret
          exact ⟨by rw [HF.out]; rfl, HBe.out⟩
        · refine wo_call (some 23) 48 #[.int .u64 (D.size : Int)] rfl rfl (by rfl) (by kernel_rfl) ?_
          refine (T3.out v12).mono ?_
          rintro e v15 ⟨rfl, hb15⟩
          have hS15 : Keeps w1 v15 := hS12.step hb15
          have c15 : v15.cell? ⟨g12, 0, none⟩ = some (.int .u8 (res % 256)) := (hb15.cell (p := ⟨g12, 0, none⟩) d12).trans c12
          have d15 : g12 < v15.heap.size := Nat.lt_of_lt_of_le d12 hb15.size
          refine ⟨_, rfl, hS15, ?_⟩
          simp only [Act.put, List.setIfInBounds_toArray, List.set_cons_zero, List.set_cons_succ]
          have x16 := hcv g12 v15 c15
          refine wh_val 7 (some 14) (.string Z) v15 (by kernel_rfl) rfl rfl (by rfl) (by first | rfl | go_simp) hS15 ?_
          clear x16
          simp only [Act.put, List.setIfInBounds_toArray, List.set_cons_zero, List.set_cons_succ]
          refine wh_take 8 (some 15) (.string (A ++ Z)) rfl rfl (by kernel_rfl) (by kernel_rfl) (by kernel_rfl) (fun _ _ _ h => h) hS15 (by rfl) (fun w' hS => by first | rfl | (go_simp; done) | (go_simp; omega)) ?_
          simp only [Act.put, List.setIfInBounds_toArray, List.set_cons_zero, List.set_cons_succ]
          refine wh_take 12 (some 19) (.string (A ++ Z ++ C)) rfl rfl (by kernel_rfl) (by kernel_rfl) (by kernel_rfl) (fun _ _ _ h => h) hS15 (by rfl) (fun w' hS => by first | rfl | (go_simp; done) | (go_simp; omega)) ?_
          simp only [Act.put, List.setIfInBounds_toArray, List.set_cons_zero, List.set_cons_succ]
          refine wh_take 17 (some 24) (.string (A ++ Z ++ C ++ U)) rfl rfl (by kernel_rfl) (by kernel_rfl) (by kernel_rfl) (fun _ _ _ h => h) hS15 (by rfl) (fun w' hS => by first | rfl | (go_simp; done) | (go_simp; omega)) ?_
          simp only [Act.put, List.setIfInBounds_toArray, List.set_cons_zero, List.set_cons_succ]
          refine wh_take 19 (some 26) (.string (A ++ Z ++ C ++ U ++ D)) rfl rfl (by kernel_rfl) (by kernel_rfl) (by kernel_rfl) (fun _ _ _ h => h) hS15 (by rfl) (fun w' hS => by first | rfl | (go_simp; done) | (go_simp; omega)) ?_
          simp only [Act.put, List.setIfInBounds_toArray, List.set_cons_zero, List.set_cons_succ]
          refine wh_val 20 (some 2) (.string (A ++ Z ++ C ++ U ++ D)) v15 (by kernel_rfl) rfl rfl (by rfl) (by rfl) hS15 ?_
          simp only [Act.put, List.setIfInBounds_toArray, List.set_cons_zero, List.set_cons_succ]
          refine wh_done (by kernel_rfl) ?_
          have HBe : Hid (Below w.heap.size w v15) := bel_step HB1.out hS15.below
          clear k0 k1 k2 hS15
          go_wp2
          go_ret
          exact ⟨by rw [HF.out]; rfl, HBe.out⟩
      · refine wo_call (some 23) 48 #[.int .u64 (D.size : Int)] rfl rfl (by rfl) (by kernel_rfl) ?_
        refine (T3.out v11).mono ?_
        rintro e v17 ⟨rfl, hb17⟩
        have hS17 : Keeps w1 v17 := hS11.step hb17
        refine ⟨_, rfl, hS17, ?_⟩
        simp only [Act.put, List.setIfInBounds_toArray, List.set_cons_zero, List.set_cons_succ]
        have hS18 : Keeps w1 (v17.alloc (.cells #[.int .u8 (res % 256)] 5)) := hS17.step ((Below.refl _ _).alloc (Nat.le_refl _) _)
        have c18 : (v17.alloc (.cells #[.int .u8 (res % 256)] 5)).cell? ⟨v17.heap.size, 0, none⟩ = some (.int .u8 (res % 256)) := newCell rfl rfl
        have d18 : v17.heap.size < (v17.alloc (.cells #[.int .u8 (res % 256)] 5)).heap.size := by simp
        refine wh_val 6 (some 13) (.slice (some ⟨v17.heap.size, 0, none⟩) 1 1) (v17.alloc (.cells #[.int .u8 (res % 256)] 5)) (by kernel_rfl) rfl rfl (by rfl) (by first | rfl | go_simp) hS18 ?_
        obtain ⟨v18, hv18⟩ : ∃ v, (v17.alloc (.cells #[.int .u8 (res % 256)] 5)) = v := ⟨_, rfl⟩
        obtain ⟨g18, hg18⟩ : ∃ g, v17.heap.size = g := ⟨_, rfl⟩
        rw [hv18] at hS18 c18 d18 ⊢
        rw [hg18] at c18 d18 ⊢
        clear hv18 hg18
        simp only [Act.put, List.setIfInBounds_toArray, List.set_cons_zero, List.set_cons_succ]
        have x19 := hcv g18 v18 c18
        refine wh_val 7 (some 14) (.string Z) v18 (by kernel_rfl) rfl rfl (by rfl) (by first | rfl | go_simp) hS18 ?_
        clear x19
        simp only [Act.put, List.setIfInBounds_toArray, List.set_cons_zero, List.set_cons_succ]
        refine wh_take 8 (some 15) (.string (A ++ Z)) rfl rfl (by kernel_rfl) (by kernel_rfl) (by kernel_rfl) (fun _ _ _ h => h) hS18 (by rfl) (fun w' hS => by first | rfl | (go_simp; done) | (go_simp; omega)) ?_
        simp only [Act.put, List.setIfInBounds_toArray, List.set_cons_zero, List.set_cons_succ]
        refine wh_take 12 (some 19) (.string (A ++ Z ++ C)) rfl rfl (by kernel_rfl) (by kernel_rfl) (by kernel_rfl) (fun _ _ _ h => h) hS18 (by rfl) (fun w' hS => by first | rfl | (go_simp; done) | (go_simp; omega)) ?_
        simp only [Act.put, List.setIfInBounds_toArray, List.set_cons_zero, List.set_cons_succ]
        refine wh_take 17 (some 24) (.string (A ++ Z ++ C ++ U)) rfl rfl (by kernel_rfl) (by kernel_rfl) (by kernel_rfl) (fun _ _ _ h => h) hS18 (by rfl) (fun w' hS => by first | rfl | (go_simp; done) | (go_simp; omega)) ?_
        simp only [Act.put, List.setIfInBounds_toArray, List.set_cons_zero, List.set_cons_succ]
        refine wh_take 19 (some 26) (.string (A ++ Z ++ C ++ U ++ D)) rfl rfl (by kernel_rfl) (by kernel_rfl) (by kernel_rfl) (fun _ _ _ h => h) hS18 (by rfl) (fun w' hS => by first | rfl | (go_simp; done) | (go_simp; omega)) ?_
        simp only [Act.put, List.setIfInBounds_toArray, List.set_cons_zero, List.set_cons_succ]
        refine wh_val 20 (some 2) (.string (A ++ Z ++ C ++ U ++ D)) v18 (by kernel_rfl) rfl rfl (by rfl) (by rfl) hS18 ?_
        simp only [Act.put, List.setIfInBounds_toArray, List.set_cons_zero, List.set_cons_succ]
        refine wh_done (by kernel_rfl) ?_
        have HBe : Hid (Below w.heap.size w v18) := bel_step HB1.out hS18.below
        clear k0 k1 k2 hS18
        go_wp2
        go_ret
        exact ⟨by rw [HF.out]; rfl, HBe.out⟩
  · have hS20 : Keeps w1 (w1.drew.alloc (.cells #[.int .u8 (res % 256)] 5)) := hS0.step ((Below.refl _ _).alloc (Nat.le_refl _) _)
    have c20 : (w1.drew.alloc (.cells #[.int .u8 (res % 256)] 5)).cell? ⟨w1.drew.heap.size, 0, none⟩ = some (.int .u8 (res % 256)) := newCell rfl rfl
    have d20 : w1.drew.heap.size < (w1.drew.alloc (.cells #[.int .u8 (res % 256)] 5)).heap.size := by simp
    refine wo_val (some 13) (.slice (some ⟨w1.drew.heap.size, 0, none⟩) 1 1) (w1.drew.alloc (.cells #[.int .u8 (res % 256)] 5)) rfl rfl (by rfl) (by first | rfl | go_simp) hS20 ?_
    obtain ⟨v20, hv20⟩ : ∃ v, (w1.drew.alloc (.cells #[.int .u8 (res % 256)] 5)) = v := ⟨_, rfl⟩
    obtain ⟨g20, hg20⟩ : ∃ g, w1.drew.heap.size = g := ⟨_, rfl⟩
    rw [hv20] at hS20 c20 d20 ⊢
    rw [hg20] at c20 d20 ⊢
    clear hv20 hg20
    simp only [Act.put, List.setIfInBounds_toArray, List.set_cons_zero, List.set_cons_succ]
    refine wh_two 2 7 (by kernel_rfl) ?_ ?_
    · refine wo_call (some 9) 66 #[.slice pa ps.length pc] rfl rfl (by rfl) (by kernel_rfl) ?_
      refine (T1.out v20 (bel_step HB1.out hS20.below)).mono ?_
      rintro e v21 ⟨rfl, hb21⟩
      have hS21 : Keeps w1 v21 := hS20.step hb21
      have c21 : v21.cell? ⟨g20, 0, none⟩ = some (.int .u8 (res % 256)) := (hb21.cell (p := ⟨g20, 0, none⟩) d20).trans c20
      have d21 : g20 < v21.heap.size := Nat.lt_of_lt_of_le d20 hb21.size
      refine ⟨_, rfl, hS21, ?_⟩
      simp only [Act.put, List.setIfInBounds_toArray, List.set_cons_zero, List.set_cons_succ]
      refine wh_two 7 11 (by kernel_rfl) ?_ ?_
      · have x22 := hcv g20 v21 c21
        refine wo_val (some 14) (.string Z) v21 rfl rfl (by rfl) (by first | rfl | go_simp) hS21 ?_
        clear x22
        simp only [Act.put, List.setIfInBounds_toArray, List.set_cons_zero, List.set_cons_succ]
        refine wh_take 8 (some 15) (.string (A ++ Z)) rfl rfl (by kernel_rfl) (by kernel_rfl) (by kernel_rfl) (fun _ _ _ h => h) hS21 (by rfl) (fun w' hS => by first | rfl | (go_simp; done) | (go_simp; omega)) ?_
        simp only [Act.put, List.setIfInBounds_toArray, List.set_cons_zero, List.set_cons_succ]
        refine wh_call 11 (some 18) 66 #[.slice la ls.length lc] (by kernel_rfl) rfl rfl (by rfl) (by kernel_rfl) ?_
        refine (T2.out v21 (bel_step HB1.out hS21.below)).mono ?_
        rintro e v23 ⟨rfl, hb23⟩
        have hS23 : Keeps w1 v23 := hS21.step hb23
        refine ⟨_, rfl, hS23, ?_⟩
        simp only [Act.put, List.setIfInBounds_toArray, List.set_cons_zero, List.set_cons_succ]
        refine wh_take 12 (some 19) (.string (A ++ Z ++ C)) rfl rfl (by kernel_rfl) (by kernel_rfl) (by kernel_rfl) (fun _ _ _ h => h) hS23 (by rfl) (fun w' hS => by first | rfl | (go_simp; done) | (go_simp; omega)) ?_
        simp only [Act.put, List.setIfInBounds_toArray, List.set_cons_zero, List.set_cons_succ]
        refine wh_call 16 (some 23) 48 #[.int .u64 (D.size : Int)] (by kernel_rfl) rfl rfl (by rfl) (by kernel_rfl) ?_
        refine (T3.out v23).mono ?_
        rintro e v24 ⟨rfl, hb24⟩
        have hS24 : Keeps w1 v24 := hS23.step hb24
        refine ⟨_, rfl, hS24, ?_⟩
        simp only [Act.put, List.setIfInBounds_toArray, List.set_cons_zero, List.set_cons_succ]
        refine wh_take 17 (some 24) (.string (A ++ Z ++ C ++ U)) rfl rfl (by kernel_rfl) (by kernel_rfl) (by kernel_rfl) (fun _ _ _ h => h) hS24 (by rfl) (fun w' hS => by first | rfl | (go_simp; done) | (go_simp; omega)) ?_
        simp only [Act.put, List.setIfInBounds_toArray, List.set_cons_zero, List.set_cons_succ]
        refine wh_take 19 (some 26) (.string (A ++ Z ++ C ++ U ++ D)) rfl rfl (by kernel_rfl) (by kernel_rfl) (by kernel_rfl) (fun _ _ _ h => h) hS24 (by rfl) (fun w' hS => by first | rfl | (go_simp; done) | (go_simp; omega)) ?_
        simp only [Act.put, List.setIfInBounds_toArray, List.set_cons_zero, List.set_cons_succ]
        refine wh_val 20 (some 2) (.string (A ++ Z ++ C ++ U ++ D)) v24 (by kernel_rfl) rfl rfl (by rfl) (by rfl) hS24 ?_
        simp only [Act.put, List.setIfInBounds_toArray, List.set_cons_zero, List.set_cons_succ]
        refine wh_done (by kernel_rfl) ?_
        have HBe : Hid (Below w.heap.size w v24) := bel_step HB1.out hS24.below
        clear k0 k1 k2 hS24
        go_wp2
        go_ret
        exact ⟨by rw [HF.out]; rfl, HBe.out⟩
      · refine wo_call (some 18) 66 #[.slice la ls.length lc] rfl rfl (by rfl) (by kernel_rfl) ?_
        refine (T2.out v21 (bel_step HB1.out hS21.below)).mono ?_
        rintro e v25 ⟨rfl, hb25⟩
        have hS25 : Keeps w1 v25 := hS21.step hb25
        have c25 : v25.cell? ⟨g20, 0, none⟩ = some (.int .u8 (res % 256)) := (hb25.cell (p := ⟨g20, 0, none⟩) d21).trans c21
        have d25 : g20 < v25.heap.size := Nat.lt_of_lt_of_le d21 hb25.size
        refine ⟨_, rfl, hS25, ?_⟩
        simp only [Act.put, List.setIfInBounds_toArray, List.set_cons_zero, List.set_cons_succ]
        refine wh_two 7 16 (by kernel_rfl) ?_ ?_
        · have x26 := hcv g20 v25 c25
          refine wo_val (some 14) (.string Z) v25 rfl rfl (by rfl) (by first | rfl | go_simp) hS25 ?_
          clear x26
          simp only [Act.put, List.setIfInBounds_toArray, List.set_cons_zero, List.set_cons_succ]
          refine wh_take 8 (some 15) (.string (A ++ Z)) rfl rfl (by kernel_rfl) (by kernel_rfl) (by kernel_rfl) (fun _ _ _ h => h) hS25 (by rfl) (fun w' hS => by first | rfl | (go_simp; done) | (go_simp; omega)) ?_
          simp only [Act.put, List.setIfInBounds_toArray, List.set_cons_zero, List.set_cons_succ]
          refine wh_take 12 (some 19) (.string (A ++ Z ++ C)) rfl rfl (by kernel_rfl) (by kernel_rfl) (by kernel_rfl) (fun _ _ _ h => h) hS25 (by rfl) (fun w' hS => by first | rfl | (go_simp; done) | (go_simp; omega)) ?_
          simp only [Act.put, List.setIfInBounds_toArray, List.set_cons_zero, List.set_cons_succ]
          refine wh_call 16 (some 23) 48 #[.int .u64 (D.size : Int)] (by kernel_rfl) rfl rfl (by rfl) (by kernel_rfl) ?_
          refine (T3.out v25).mono ?_
          rintro e v27 ⟨rfl, hb27⟩
          have hS27 : Keeps w1 v27 := hS25.step hb27
          refine ⟨_, rfl, hS27, ?_⟩
          simp only [Act.put, List.setIfInBounds_toArray, List.set_cons_zero, List.set_cons_succ]
          refine wh_take 17 (some 24) (.string (A ++ Z ++ C ++ U)) rfl rfl (by kernel_rfl) (by kernel_rfl) (by kernel_rfl) (fun _ _ _ h => h) hS27 (by rfl) (fun w' hS => by first | rfl | (go_simp; done) | (go_simp; omega)) ?_
          simp only [Act.put, List.setIfInBounds_toArray, List.set_cons_zero, List.set_cons_succ]
          refine wh_take 19 (some 26) (.string (A ++ Z ++ C ++ U ++ D)) rfl rfl (by kernel_rfl) (by kernel_rfl) (by kernel_rfl) (fun _ _ _ h => h) hS27 (by rfl) (fun w' hS => by first | rfl | (go_simp; done) | (go_simp; omega)) ?_
          simp only [Act.put, List.setIfInBounds_toArray, List.set_cons_zero, List.set_cons_succ]
          refine wh_val 20 (some 2) (.string (A ++ Z ++ C ++ U ++ D)) v27 (by kernel_rfl) rfl rfl (by rfl) (by rfl) hS27 ?_
          simp only [Act.put, List.setIfInBounds_toArray, List.set_cons_zero, List.set_cons_succ]
          refine wh_done (by kernel_rfl) ?_
          have HBe : Hid (Below w.heap.size w v27) := bel_step HB1.out hS27.below
          clear k0 k1 k2 hS27
          go_wp2
          go_ret
          exact ⟨by rw [HF.out]; rfl, HBe.out⟩
        · refine wo_call (some 23) 48 #[.int .u64 (D.size : Int)] rfl rfl (by rfl) (by kernel_rfl) ?_
          refine (T3.out v25).mono ?_
          rintro e v28 ⟨rfl, hb28⟩
          have hS28 : Keeps w1 v28 := hS25.step hb28
          have c28 : v28.cell? ⟨g20, 0, none⟩ = some (.int .u8 (res % 256)) := (hb28.cell (p := ⟨g20, 0, none⟩) d25).trans c25
          have d28 : g20 < v28.heap.size := Nat.lt_of_lt_of_le d25 hb28.size
          refine ⟨_, rfl, hS28, ?_⟩
          simp only [Act.put, List.setIfInBounds_toArray, List.set_cons_zero, List.set_cons_succ]
          have x29 := hcv g20 v28 c28
          refine wh_val 7 (some 14) (.string Z) v28 (by kernel_rfl) rfl rfl (by rfl) (by first | rfl | go_simp) hS28 ?_
          clear x29
          simp only [Act.put, List.setIfInBounds_toArray, List.set_cons_zero, List.set_cons_succ]
          refine wh_take 8 (some 15) (.string (A ++ Z)) rfl rfl (by kernel_rfl) (by kernel_rfl) (by kernel_rfl) (fun _ _ _ h => h) hS28 (by rfl) (fun w' hS => by first | rfl | (go_simp; done) | (go_simp; omega)) ?_
          simp only [Act.put, List.setIfInBounds_toArray, List.set_cons_zero, List.set_cons_succ]
          refine wh_take 12 (some 19) (.string (A ++ Z ++ C)) rfl rfl (by kernel_rfl) (by kernel_rfl) (by kernel_rfl) (fun _ _ _ h => h) hS28 (by rfl) (fun w' hS => by first | rfl | (go_simp; done) | (go_simp; omega)) ?_
          simp only [Act.put, List.setIfInBounds_toArray, List.set_cons_zero, List.set_cons_succ]
          refine wh_take 17 (some 24) (.string (A ++ Z ++ C ++ U)) rfl rfl (by kernel_rfl) (by kernel_rfl) (by kernel_rfl) (fun _ _ _ h => h) hS28 (by rfl) (fun w' hS => by first | rfl | (go_simp; done) | (go_simp; omega)) ?_
          simp only [Act.put, List.setIfInBounds_toArray, List.set_cons_zero, List.set_cons_succ]
          refine wh_take 19 (some 26) (.string (A ++ Z ++ C ++ U ++ D)) rfl rfl (by kernel_rfl) (by kernel_rfl) (by kernel_rfl) (fun _ _ _ h => h) hS28 (by rfl) (fun w' hS => by first | rfl | (go_simp; done) | (go_simp; omega)) ?_
          simp only [Act.put, List.setIfInBounds_toArray, List.set_cons_zero, List.set_cons_succ]
          refine wh_val 20 (some 2) (.string (A ++ Z ++ C ++ U ++ D)) v28 (by kernel_rfl) rfl rfl (by rfl) (by rfl) hS28 ?_
          simp only [Act.put, List.setIfInBounds_toArray, List.set_cons_zero, List.set_cons_succ]
          refine wh_done (by kernel_rfl) ?_
          have HBe : Hid (Below w.heap.size w v28) := bel_step HB1.out hS28.below
          clear k0 k1 k2 hS28
          go_wp2
          go_ret
          exact ⟨by rw [HF.out]; rfl, HBe.out⟩
    · have x30 := hcv g20 v20 c20
      refine wo_val (some 14) (.string Z) v20 rfl rfl (by rfl) (by first | rfl | go_simp) hS20 ?_
      clear x30
      simp only [Act.put, List.setIfInBounds_toArray, List.set_cons_zero, List.set_cons_succ]
      refine wh_call 2 (some 9) 66 #[.slice pa ps.length pc] (by kernel_rfl) rfl rfl (by rfl) (by kernel_rfl) ?_
      refine (T1.out v20 (bel_step HB1.out hS20.below)).mono ?_
      rintro e v31 ⟨rfl, hb31⟩
      have hS31 : Keeps w1 v31 := hS20.step hb31
      refine ⟨_, rfl, hS31, ?_⟩
      simp only [Act.put, List.setIfInBounds_toArray, List.set_cons_zero, List.set_cons_succ]
      refine wh_take 8 (some 15) (.string (A ++ Z)) rfl rfl (by kernel_rfl) (by kernel_rfl) (by kernel_rfl) (fun _ _ _ h => h) hS31 (by rfl) (fun w' hS => by first | rfl | (go_simp; done) | (go_simp; omega)) ?_
      simp only [Act.put, List.setIfInBounds_toArray, List.set_cons_zero, List.set_cons_succ]
      refine wh_call 11 (some 18) 66 #[.slice la ls.length lc] (by kernel_rfl) rfl rfl (by rfl) (by kernel_rfl) ?_
      refine (T2.out v31 (bel_step HB1.out hS31.below)).mono ?_
      rintro e v32 ⟨rfl, hb32⟩
      have hS32 : Keeps w1 v32 := hS31.step hb32
      refine ⟨_, rfl, hS32, ?_⟩
      simp only [Act.put, List.setIfInBounds_toArray, List.set_cons_zero, List.set_cons_succ]
      refine wh_take 12 (some 19) (.string (A ++ Z ++ C)) rfl rfl (by kernel_rfl) (by kernel_rfl) (by kernel_rfl) (fun _ _ _ h => h) hS32 (by rfl) (fun w' hS => by first | rfl | (go_simp; done) | (go_simp; omega)) ?_
      simp only [Act.put, List.setIfInBounds_toArray, List.set_cons_zero, List.set_cons_succ]
      refine wh_call 16 (some 23) 48 #[.int .u64 (D.size : Int)] (by kernel_rfl) rfl rfl (by rfl) (by kernel_rfl) ?_
      refine (T3.out v32).mono ?_
      rintro e v33 ⟨rfl, hb33⟩
      have hS33 : Keeps w1 v33 := hS32.step hb33
      refine ⟨_, rfl, hS33, ?_⟩
      simp only [Act.put, List.setIfInBounds_toArray, List.set_cons_zero, List.set_cons_succ]
      refine wh_take 17 (some 24) (.string (A ++ Z ++ C ++ U)) rfl rfl (by kernel_rfl) (by kernel_rfl) (by kernel_rfl) (fun _ _ _ h => h) hS33 (by rfl) (fun w' hS => by first | rfl | (go_simp; done) | (go_simp; omega)) ?_
      simp only [Act.put, List.setIfInBounds_toArray, List.set_cons_zero, List.set_cons_succ]
      refine wh_take 19 (some 26) (.string (A ++ Z ++ C ++ U ++ D)) rfl rfl (by kernel_rfl) (by kernel_rfl) (by kernel_rfl) (fun _ _ _ h => h) hS33 (by rfl) (fun w' hS => by first | rfl | (go_simp; done) | (go_simp; omega)) ?_
      simp only [Act.put, List.setIfInBounds_toArray, List.set_cons_zero, List.set_cons_succ]
      refine wh_val 20 (some 2) (.string (A ++ Z ++ C ++ U ++ D)) v33 (by kernel_rfl) rfl rfl (by rfl) (by rfl) hS33 ?_
      simp only [Act.put, List.setIfInBounds_toArray, List.set_cons_zero, List.set_cons_succ]
      refine wh_done (by kernel_rfl) ?_
      have HBe : Hid (Below w.heap.size w v33) := bel_step HB1.out hS33.below
      clear k0 k1 k2 hS33
      go_wp2
      go_ret
      exact ⟨by rw [HF.out]; rfl, HBe.out⟩

end Go.Proofs.Ytokaljglaholnaa

namespace Go.Proofs.Ytokaljglaholnaa
open Go.ChangeShapes Go.WideShapes Go.ChangeAt Go.RowKit

theorem funRes_yes {f : Fun7} (h : funOk f = true) : funRes f = .tuple #[.string (str (funB f)), .bool true] := if_pos h
theorem funRes_no {f : Fun7} (h : funOk f = false) : funRes f = .tuple #[.string ⟨#[]⟩, .bool false] := if_neg (by rw [h]; decide)

set_option maxRecDepth 100000 in
set_option maxHeartbeats 1600000 in
theorem specFuncBytes (pa la ba : Option Addr) (pc lc bc : Nat) (f : Fun7) (w : World) (hR : Hid (FunRows w pa la ba f)) (hs : Hid (smF f)) :
    Calls Try.prog 12 #[.agg #[.slice pa f.ps.length pc, .int .i64 f.res, .slice la f.ls.length lc, .slice ba f.body.length bc]] w fun e w' => e = .returned (funRes f) ∧ Below w.heap.size w w' := by
  have hb0 : Below w.heap.size w (w.alloc (.cells #[.slice pa f.ps.length pc, .int .i64 f.res, .slice la f.ls.length lc, .slice ba f.body.length bc] 44)) := (Below.refl _ _).alloc (Nat.le_refl _) _
  have hx0 : (w.alloc (.cells #[.slice pa f.ps.length pc, .int .i64 f.res, .slice la f.ls.length lc, .slice ba f.body.length bc] 44)).heap[w.heap.size]? = some (.cells #[.slice pa f.ps.length pc, .int .i64 f.res, .slice la f.ls.length lc, .slice ba f.body.length bc] 44 (0, 0)) := heap_alloc_new _ _
  have G := specFun1 pa la ba pc lc bc f _ (hR.out.below hb0) hs
  have F := fun w' (h : Below w.heap.size w w') (hg : goodF f = true) => specFunc9 pa la ba pc lc bc f w' (hR.out.below h) hs hg
  obtain ⟨ps, res, ls, body⟩ := f
  simp only at G F hb0 hx0 ⊢
  by_cases hg : goodF ⟨ps, res, ls, body⟩ = true
  · rw [hg] at G
    have F' : Hid (∀ w', Below w.heap.size w w' → Calls Try.prog 33 #[.agg #[.slice pa ps.length pc, .int .i64 res, .slice la ls.length lc, .slice ba body.length bc]] w' fun e w'' => e = .returned (.string (str (funB ⟨ps, res, ls, body⟩))) ∧ Below w'.heap.size w' w'') := fun w' h => F w' h hg
    have hsz := str_size (funB ⟨ps, res, ls, body⟩)
    have HR : Hid (funRes ⟨ps, res, ls, body⟩ = if (funB ⟨ps, res, ls, body⟩).length ≤ 900 then .tuple #[.string (str (funB ⟨ps, res, ls, body⟩)), .bool true] else .tuple #[.string ⟨#[]⟩, .bool false]) := by
      unfold Hid funRes funOk
      rw [hg]
      simp
    generalize funRes ⟨ps, res, ls, body⟩ = R at HR ⊢
    obtain ⟨D, hD⟩ : ∃ D, str (funB ⟨ps, res, ls, body⟩) = D := ⟨_, rfl⟩
    rw [hD] at F' hsz HR
    rw [← hsz] at HR
    clear F hg hsz hD
    go_enter Try.func12, Try.ntmps12
    go_wp2_with fail
    refine G.mono ?_
    rintro e w1 ⟨rfl, hb1⟩
    have HB1 : Hid (Below w.heap.size w w1) := bel_step hb0 hb1
    have hx1 := (hb1.block w.heap.size (by simp)).trans hx0
    have x0 := (cell_of_block hx1 0).trans rfl
    have x1 := (cell_of_block hx1 1).trans rfl
    have x2 := (cell_of_block hx1 2).trans rfl
    have x3 := (cell_of_block hx1 3).trans rfl
    clear hb1 hb0 hx0 hx1 G
    go_wp2_with fail
    refine (F'.out w1 HB1.out).mono ?_
    rintro e w2 ⟨rfl, hb2⟩
    have HB2 : Hid (Below w.heap.size w w2) := bel_step HB1.out hb2
    clear hb2 F' x0 x1 x2 x3 HB1
    by_cases h9 : D.size ≤ 900
    · have HR2 : Hid (R = .tuple #[.string D, .bool true]) := by have := HR.out; rw [if_pos h9] at this; exact this
      clear HR
      go_wp2
      go_ret2
      exact ⟨by rw [HR2.out]; rfl, HB2.out⟩
    · have HR2 : Hid (R = .tuple #[.string ⟨#[]⟩, .bool false]) := by have := HR.out; rw [if_neg h9] at this; exact this
      have h9' : (900 : Int) < D.size := by omega
      clear HR h9
      go_wp2
      go_ret2
      exact ⟨by rw [HR2.out]; rfl, HB2.out⟩
  · have hg' : goodF ⟨ps, res, ls, body⟩ = false := by simpa using hg
    rw [hg'] at G
    have HR2 : Hid (funRes ⟨ps, res, ls, body⟩ = .tuple #[.string ⟨#[]⟩, .bool false]) := funRes_no (by unfold funOk; rw [hg']; rfl)
    clear F hg hg'
    go_enter Try.func12, Try.ntmps12
    go_wp2_with fail
    refine G.mono ?_
    rintro e w1 ⟨rfl, hb1⟩
    have HB1 : Hid (Below w.heap.size w w1) := bel_step hb0 hb1
    clear hb1 hb0 hx0 G
    go_wp2
    go_ret2
    exact ⟨by rw [HR2.out]; rfl, HB1.out⟩

/-- A block of another type than the row's own is kept by what keeps all such. -/
theorem keepO_block {e e' : TypeId} {w w' : World} (h : KeepO e w w') {j : Nat} {A : Array Value} (hne : e ≠ e') (hb : w.heap[j]? = some (.cells A e' (0, 0))) : w'.heap[j]? = some (.cells A e' (0, 0)) := h j A e' hne hb

set_option maxRecDepth 100000 in
set_option maxHeartbeats 3200000 in
theorem implFuncBytes (pa la ba : Option Addr) (pc lc bc : Nat) (f : Fun7) (w : World) (hR : Hid (FunRows w pa la ba f)) (hs : Hid (smF f)) :
    Calls Try.prog 14 #[.agg #[.slice pa f.ps.length pc, .int .i64 f.res, .slice la f.ls.length lc, .slice ba f.body.length bc]] w fun e w' => e = .returned (funRes f) ∧ Below w.heap.size w w' := by
  obtain ⟨i0, hi, hz0, hz1, hz2⟩ := info_parts Try.info5
  have hb0 : Below w.heap.size w (w.alloc (.cells #[.slice pa f.ps.length pc, .int .i64 f.res, .slice la f.ls.length lc, .slice ba f.body.length bc] 44)) := (Below.refl _ _).alloc (Nat.le_refl _) _
  have hx0 : (w.alloc (.cells #[.slice pa f.ps.length pc, .int .i64 f.res, .slice la f.ls.length lc, .slice ba f.body.length bc] 44)).heap[w.heap.size]? = some (.cells #[.slice pa f.ps.length pc, .int .i64 f.res, .slice la f.ls.length lc, .slice ba f.body.length bc] 44 (0, 0)) := heap_alloc_new _ _
  have G := implFun1 pa la ba pc lc bc f _ (hR.out.below hb0) hs
  by_cases hg : goodF f = true
  · obtain ⟨g1, g2, g3, g4⟩ := goodF_parts hg
    rw [hg] at G
    have HR : Hid (funRes f = if (funB f).length ≤ 900 then .tuple #[.string (str (funB f)), .bool true] else .tuple #[.string ⟨#[]⟩, .bool false]) := by
      unfold Hid funRes funOk
      rw [hg]
      simp
    have HF : Hid (funB f = tyB f.ps ++ [opByte f.res] ++ tyB f.ls ++ ul 10 (cb f.body).length ++ cb f.body) := rfl
    have hcode : codeRes f.body = .tuple #[.string (str (cb f.body)), .bool true] := if_pos (by simp [g3, g4])
    have C : Hid (∀ w', Below w.heap.size w w' → Calls Try.prog 37 #[.slice ba f.body.length bc] w' fun e w'' => e = .returned (.tuple #[.string (str (cb f.body)), .bool true]) ∧ Below w'.heap.size w' w'') := fun w' h => by
      obtain ⟨bb, bo, k1, k2⟩ := (hR.out.2.2.below h).parts
      rw [← hcode]
      exact implCode ba bb bo bc f.body w' k1 k2 hs.out.2.2.2 hs.out.2.2.1
    have T1 : Hid (∀ v bs w', Below w.heap.size w w' → w'.ownsRow w.heap.size 5 1 v bs.length (bv bs) → bs.length ≤ 100000 → Calls Try.prog 38 #[v, .slice pa f.ps.length pc] w' fun e w'' => ∃ v', e = .returned v' ∧ w''.ownsRow w.heap.size 5 1 v' (bs ++ tyB f.ps).length (bv (bs ++ tyB f.ps)) ∧ KeepO 5 w' w'' ∧ Below w.heap.size w' w'') := fun v bs w' h ho hl => implTypes9 w v bs pa pc f.ps w' hR.out.1 h ho (by omega) hl
    have T2 : Hid (∀ v bs w', Below w.heap.size w w' → w'.ownsRow w.heap.size 5 1 v bs.length (bv bs) → bs.length ≤ 100000 → Calls Try.prog 38 #[v, .slice la f.ls.length lc] w' fun e w'' => ∃ v', e = .returned v' ∧ w''.ownsRow w.heap.size 5 1 v' (bs ++ tyB f.ls).length (bv (bs ++ tyB f.ls)) ∧ KeepO 5 w' w'' ∧ Below w.heap.size w' w'') := fun v bs w' h ho hl => implTypes9 w v bs la lc f.ls w' hR.out.2.1 h ho (by omega) hl
    have l1 := tyB_len f.ps
    have l2 := tyB_len f.ls
    have l3 := ul_len 10 (cb f.body).length
    have hcl : (cb f.body).length ≤ 2200 := by have := cb_len f.body; omega
    generalize funRes f = R at HR ⊢
    generalize funB f = FB at HR HF
    obtain ⟨ps, res, ls, body⟩ := f
    simp only at *
    have l1' : (tyB ps).length ≤ 30 := by omega
    have l2' : (tyB ls).length ≤ 30 := by omega
    clear g1 g2 g3 g4 hcode hR hs hg l1 l2
    generalize tyB ps = P at *
    generalize tyB ls = Q at *
    generalize cb body = D at *
    go_enter Try.func14, Try.ntmps14
    go_wp2_with fail
    refine G.mono ?_
    rintro e w1 ⟨rfl, hb1⟩
    have HB1 : Hid (Below w.heap.size w w1) := bel_step hb0 hb1
    have hx1 := (hb1.block w.heap.size (by simp)).trans hx0
    have x3 := (cell_of_block hx1 3).trans rfl
    clear hb1 hb0 hx0 G
    go_wp2_with fail
    refine (C.out w1 HB1.out).mono ?_
    rintro e w2 ⟨rfl, hb2⟩
    have HB2 : Hid (Below w.heap.size w w2) := bel_step HB1.out hb2
    have hx2 := (hb2.block w.heap.size (lt_of_block hx1)).trans hx1
    have x0 := (cell_of_block hx2 0).trans rfl
    clear hb2 hx1 x3 C HB1
    go_wp2_with fail
    refine (T1.out (.slice none 0 0) [] w2 HB2.out (World.ownsRow_nil _ _ _ _) (by simp)).mono ?_
    rintro e w3 ⟨v3, rfl, hown3, hk3, hb3⟩
    rw [List.nil_append] at hown3
    have HB3 : Hid (Below w.heap.size w w3) := HB2.out.trans hb3
    have hx3 := keepO_block hk3 (by decide) hx2
    have x1 := (cell_of_block hx3 1).trans rfl
    have hsz3 := HB3.out.size
    clear hb3 hk3 hx2 x0 T1 HB2
    go_wp2_with (at_builtin; refine wpList_append_own _ rfl _ _ 73 rfl w.heap.size 5 i0 (.int .u8 0) 1 1 Try.underlying73 hi hz0 hz1 hz2 rfl (by decide) _ _ _ rfl (hown3.alloc _) ⟨w3.heap.size, 0, none⟩ 1 1 (bv [opByte res]) rfl rfl ?c1 ?c2 ?c3 ?c4 ?c5 ?_)
    case c1 =>
      rw [← opByte_int]
      exact cell_one_new _ _ _
    case c2 => exact bv_one _
    case c3 => unfold maxLen; omega
    case c4 => omega
    case c5 => simp; omega
    intro v4 w4 hown4 hgrow4 _
    rw [bv_app] at hown4
    have hown4' : w4.ownsRow w.heap.size 5 1 v4 (P ++ [opByte res]).length (bv (P ++ [opByte res])) := by simpa using hown4
    have HB4 : Hid (Below w.heap.size w w4) := (HB3.out.alloc (by omega) _).grown hgrow4 (by simp; omega) (ownsRow_block hown3)
    have hk4 : KeepO 5 w3 w4 := (KeepO.refl _ _).app hown3 hgrow4
    have hx4 := keepO_block hk4 (by decide) hx3
    have x2 := (cell_of_block hx4 2).trans rfl
    have e4 : (P ++ [opByte res]).length ≤ 100 := by simp; omega
    clear hgrow4 hown4 hown3 hk4 hx3 x1 HB3 hsz3
    generalize P ++ [opByte res] = P4 at *
    go_wp2_with fail
    refine (T2.out v4 P4 w4 HB4.out hown4' (by omega)).mono ?_
    rintro e w5 ⟨v5, rfl, hown5, hk5, hb5⟩
    have HB5 : Hid (Below w.heap.size w w5) := HB4.out.trans hb5
    have hsz5 := HB5.out.size
    have e5 : (P4 ++ Q).length ≤ 200 := by simp; omega
    clear hb5 hk5 hx4 x2 T2 HB4 hown4'
    generalize P4 ++ Q = P5 at *
    obtain ⟨S, hS⟩ : ∃ S, str D = S := ⟨_, rfl⟩
    have hSs : S.size = D.length := by rw [← hS, str_size]
    have hScells : Hid (Lib.strCells S = bv D) := by unfold Hid; rw [← hS]; exact str_bv D
    have A := appendUlebs_any w.heap.size v5 P5 w5.heap.size [D.length] (w5.alloc (.cells #[.int .u64 (D.length : Int)] 76)) (by intro m hm; simp at hm; omega) (hown5.alloc _) (heap_alloc_new _ _) (by simp; omega) (by simp; omega)
    rw [ulAll_at] at A
    have hu1 : IntKind.u64.wrap (D.length : Int) = D.length := by rw [IntKind.wrap_u64]; omega
    rw [hS]
    clear hS
    go_wp2_with fail
    refine A.mono ?_
    rintro e w6 ⟨v6, rfl, hown6, hk6, hb6⟩
    have HB6 : Hid (Below w.heap.size w w6) := (HB5.out.alloc hsz5 _).trans hb6
    have hsz6 := HB6.out.size
    have e6 : (P5 ++ ul 10 D.length).length ≤ 300 := by simp; omega
    clear hb6 hk6 hown5 HB5 hsz5 A
    have HF2 : Hid (FB = (P5 ++ ul 10 D.length) ++ D) := HF.out
    clear HF
    generalize P5 ++ ul 10 D.length = P6 at *
    go_wp2_with (at_builtin; refine Lib.wpList_append_own_string _ rfl _ _ 73 9 rfl w.heap.size 5 i0 Try.underlying73 Try.underlying9 hi hz0 hz1 hz2 _ _ _ rfl hown6 S rfl ?d1 ?d2 ?d3 ?_)
    case d1 => unfold maxLen; omega
    case d2 => omega
    case d3 => exact hsz6
    intro v7 w7 hown7 hgrow7 _
    have hown8 : w7.ownsRow w.heap.size 5 1 v7 FB.length (bv FB) := by
      rw [hScells.out, bv_app, ← HF2.out] at hown7
      have e8 : P6.length + D.length = FB.length := by rw [HF2.out]; simp
      rw [e8] at hown7; exact hown7
    have e8 : FB.length ≤ 2600 := by rw [HF2.out]; simp; omega
    have HB7 : Hid (Below w.heap.size w w7) := HB6.out.grown hgrow7 hsz6 (ownsRow_block hown6)
    clear hown7 hgrow7 hown6 HB6 hsz6 HF2 hScells
    have hcv := owned_string (P := Try.prog) 73 9 5 Try.underlying73 Try.underlying5 Try.underlying9 hown8
    obtain ⟨ao, cp, rfl⟩ := ownsRow_shape hown8
    clear hown8
    by_cases h9 : FB.length ≤ 900
    · have HR2 : Hid (R = .tuple #[.string (str FB), .bool true]) := by have := HR.out; rw [if_pos h9] at this; exact this
      clear HR
      go_wp2
      go_ret2
      exact ⟨by rw [HR2.out]; rfl, HB7.out⟩
    · have HR2 : Hid (R = .tuple #[.string ⟨#[]⟩, .bool false]) := by have := HR.out; rw [if_neg h9] at this; exact this
      have h9' : (900 : Int) < FB.length := by omega
      clear HR h9
      go_wp2
      go_ret2
      exact ⟨by rw [HR2.out]; rfl, HB7.out⟩
  · have hg' : goodF f = false := by simpa using hg
    rw [hg'] at G
    have HR2 : Hid (funRes f = .tuple #[.string ⟨#[]⟩, .bool false]) := funRes_no (by unfold funOk; rw [hg']; rfl)
    generalize funRes f = R at HR2 ⊢
    obtain ⟨ps, res, ls, body⟩ := f
    simp only at *
    clear hg hg' hR hs hx0
    go_enter Try.func14, Try.ntmps14
    go_wp2_with fail
    refine G.mono ?_
    rintro e w1 ⟨rfl, hb1⟩
    have HB1 : Hid (Below w.heap.size w w1) := bel_step hb0 hb1
    clear hb1 hb0 G
    go_wp2
    go_ret2
    exact ⟨by rw [HR2.out]; rfl, HB1.out⟩

end Go.Proofs.Ytokaljglaholnaa
