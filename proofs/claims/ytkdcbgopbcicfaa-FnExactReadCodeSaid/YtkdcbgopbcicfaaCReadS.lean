/-
  Reading code: the specification's side.
-/
import Derived.Test.YtkdcbgopbcicfaaCReadL
import Derived.Deep.DeepCutAuto
namespace Go.Proofs.Ytkdcbgopbcicfaa
open Go.ChangeShapes Go.WideShapes Go.ChangeAt Go.RowKit Go.PlainAid

theorem stp_of {s : ByteArray} {p : Nat} {op a : Int} {t : Nat} {ok g : Bool} (h1 : bt s p = op) (h2 : tk (s.extract (p + 1) s.size) (shp op) = (a, t, ok)) (h3 : gi op a = g) : stp s p = if (ok && g) = true then some ((op, a), 1 + t) else none := by
  subst h1; unfold stp; rw [h2]; simp only; rw [h3]

theorem w64 (x : Int) (h0 : 0 ≤ x) (h1 : x ≤ 4294967296) : wrap64 x = x := by unfold wrap64; omega
theorem w64p (p t S : Nat) (h : p + (1 + t) ≤ S) (hS : S ≤ 1048576) : wrap64 ((p : Int) + 1 + (t : Int)) = (p : Int) + 1 + (t : Int) := w64 _ (by omega) (by omega)
theorem w64q (p t S : Nat) (h : p + t ≤ S) (hS : S ≤ 1048576) : wrap64 ((p : Int) + (t : Int)) = (p : Int) + (t : Int) := w64 _ (by omega) (by omega)
theorem str_nil (r : ByteArray) (h : r.size = 0) : r = ⟨#[]⟩ := by
  apply ByteArray.ext
  have : r.data.size = 0 := h
  simpa using Array.eq_empty_of_size_eq_zero this
theorem str_ne (r : ByteArray) (h : 0 < r.size) : r.toList.isEmpty = false := by
  rw [ByteArray.toList_eq]
  cases hl : r.data.toList with
  | nil => exfalso; have h2 : r.data.toList.length = r.size := by simp
           rw [hl] at h2; simp at h2; omega
  | cons _ _ => rfl
theorem num4 (r : ByteArray) (h : ¬ r.size < 4) : ∃ y : Int, ((leN (r.extract 0 4) 4 : Nat) : Int) = y ∧ wrap64 y = y ∧ ∀ w : World, Calls Try.prog 49 #[.string (r.extract 0 4)] w fun e w' => e = .returned (.int .u64 y) ∧ w' = w := by
  have hs : (r.extract 0 4).size = 4 := by simp [ByteArray.size_extract]; omega
  have hl := leN_lt (r.extract 0 4) 4
  have N := l5Number (r.extract 0 4) (by omega)
  rw [hs] at N
  exact ⟨_, rfl, w64 _ (by omega) (by omega), N⟩
set_option maxRecDepth 100000 in
set_option maxHeartbeats 3200000 in
theorem specRead (s : ByteArray) (hs : s.size ≤ 1048576) (w : World) :
    Calls Try.prog 36 #[.string s] w fun e w' => ∃ v, e = .returned (.tuple #[v, .bool (rc s).isSome]) ∧ w'.ownsRow w.heap.size 25 2 v ((rc s).getD []).length (pv ((rc s).getD [])) ∧ Below w.heap.size w w' := by
  obtain ⟨i0, hi, hz0, hz1, hz2⟩ := info_parts Try.info25
  go_enter Try.func36, Try.ntmps36
  go_wp2
  go_loopw [4, 5] (fun v cv wr => ∃ (p f : Nat) (M : List (Int × Int)), cv = .int .i64 (p : Int) ∧ p ≤ s.size ∧ s.size ≤ p + f ∧ M.length ≤ 200 ∧ Hid (rc s = (rdc s (f + 1) p M.length).map (M ++ ·)) ∧ wr.ownsRow w.heap.size 25 2 v M.length (pv M) ∧ Below w.heap.size w wr) (fun _ cv _ => s.size - (intOf cv).toNat)
  case atStart => exact ⟨0, s.size, [], rfl, by omega, by omega, by simp, by unfold Hid rc; simp, World.ownsRow_nil _ _ _ _, Below.refl _ _⟩
  case round =>
    obtain ⟨p, f, M, rfl, hps, hpf, hM2, hrd, hown, hnx⟩ := hrel
    have hsz := hnx.size
    by_cases hp : p < s.size
    · have hp' : ¬ s.size ≤ p := by omega
      have hN : Hid (stp s p = none → rc s = none) := rc_no hrd.out hp'
      have hF : Hid (M.length = 200 → rc s = none) := rc_full hrd.out hp'
      have hG : Hid (∀ (x : Int × Int) (t : Nat), stp s p = some (x, t) → M.length ≠ 200 → rc s = (rdc s f (p + t) (M.length + 1)).map ((M ++ [x]) ++ ·)) := fun x t e hn => rc_go hrd.out hp' e hn
      have hfits : Hid (∀ (x : Int × Int) (t : Nat), stp s p = some (x, t) → p + t ≤ s.size) := fun x t e => (stp_fits hp e).2
      obtain ⟨op, hop⟩ : ∃ op, bt s p = op := ⟨_, rfl⟩
      have e0 := get_bt s p hp
      rw [hop] at e0
      have hlo : 0 ≤ op := by have := bt_nonneg s p; omega
      have hhi : op ≤ 255 := by have := bt_le s p; omega
      have HOP : Hid (bt s p = op) := hop
      clear hop hrd
      obtain ⟨r, hr⟩ : ∃ r, s.extract (p + 1) s.size = r := ⟨_, rfl⟩
      have hrs : r.size + (p + 1) = s.size := by rw [← hr]; simp [ByteArray.size_extract]; omega
      have hp3 : (p : Int) < s.size := by omega
      have hsl : ∀ wx : World, (Instr.slice 9 (.string s) (some (.int .i64 ((p : Int) + 1))) none none).run Try.prog wx = .ok (.string r) wx := fun wx => by
        have H := slice_from (P := Try.prog) 9 Try.underlying9 s (p + 1) (by omega) wx
        rw [show (((p + 1 : Nat)) : Int) = (p : Int) + 1 by omega, hr] at H
        exact H
      have HR : Hid (s.extract (p + 1) s.size = r) := hr
      clear hr
      have hwp : wrap64 ((p : Int) + 1) = (p : Int) + 1 := w64 _ (by omega) (by omega)
      have HB : Hid (s.size ≤ 1048576 ∧ p ≤ s.size ∧ s.size ≤ p + f ∧ M.length ≤ 200 ∧ r.size + (p + 1) = s.size ∧ p < s.size) := ⟨hs, hps, hpf, hM2, hrs, hp⟩
      clear hs hps hpf hM2 hrs hp'
      obtain ⟨av, cap, gg, hv, _⟩ := owned_ins hown
      rw [hv] at hown
      rw [hv]
      clear hv
      have O := specShape op
      obtain ⟨k, hk⟩ : ∃ k, shp op = k := ⟨_, rfl⟩
      rw [hk] at O
      have hone := shp_one op
      rw [hk] at hone
      have HK : Hid (shp op = k) := hk
      clear hk
      rcases hone with rfl | rfl | rfl | rfl | rfl | rfl | rfl | rfl
      · have S := specGoodIns op (0)
        obtain ⟨g, hg⟩ : ∃ g, gi op (0) = g := ⟨_, rfl⟩
        rw [hg] at S
        have hst := stp_of HOP.out (a := 0) (t := 0) (ok := true) (by rw [HK.out, HR.out]; rfl) hg
        have S : Hid (∀ w : World, Calls Try.prog 8 #[.agg #[.int .i64 op, .int .i64 (0)]] w fun e w' => e = .returned (.bool g) ∧ Below w.heap.size w w') := S
        clear hg
        cases g
        · have hz : Hid (rc s = none) := hN.out (by rw [hst]; rfl)
          clear hN hF hG hfits hown hst HK HR HOP hi hz0 hz1 hz2 HB
          go_wp2_with (first | (go_at_call 27; refine (O _).mono ?_; rintro e wq ⟨rfl, hwq⟩; obtain rfl := hwq.symm) | (go_at_call 8; refine (S.out _).mono ?_; rintro e w2 ⟨rfl, hb2⟩))
          go_ret2
          rw [hz.out]
          exact ⟨_, rfl, World.ownsRow_nil _ _ _ _, below2 (bel_alloc hnx _) hb2⟩
        · have hst : stp s p = some ((op, 0), 1 + 0) := by rw [hst]; rfl
          by_cases h2 : M.length = 200
          · have hz : Hid (rc s = none) := hF.out h2
            have h2' : ((M.length : Int) == 200) = true := by simp; omega
            clear hN hF hG hfits hown hst h2 HK HR HOP hi hz0 hz1 hz2 HB
            go_wp2_with (first | (go_at_call 27; refine (O _).mono ?_; rintro e wq ⟨rfl, hwq⟩; obtain rfl := hwq.symm) | (go_at_call 8; refine (S.out _).mono ?_; rintro e w2 ⟨rfl, hb2⟩))
            go_ret2
            rw [hz.out]
            exact ⟨_, rfl, World.ownsRow_nil _ _ _ _, below2 (bel_alloc hnx _) hb2⟩
          · have h2' : ((M.length : Int) == 200) = false := by simp; omega
            have hz : Hid (rc s = (rdc s f (p + (1 + 0)) (M.length + 1)).map ((M ++ [(op, 0)]) ++ ·)) := hG.out _ _ hst h2
            have hft : Hid (p + (1 + 0) ≤ s.size) := hfits.out _ _ hst
            have hn2 : Hid (M.length ≠ 200) := h2
            clear hN hF hG hfits hst HK HR HOP h2
            go_wp2_with (first | (go_at_call 27; refine (O _).mono ?_; rintro e wq ⟨rfl, hwq⟩; obtain rfl := hwq.symm) | (go_at_call 8; refine (S.out _).mono ?_; rintro e w2 ⟨rfl, hb2⟩; have hown1 := owns_below (hown.alloc _) hb2; have hs1 := hb2.size; simp at hs1; have c0 : w2.cell? ⟨wr.heap.size, 0, none⟩ = some (.int .i64 op) := (hb2.cell (p := ⟨wr.heap.size, 0, none⟩) (by simp)).trans (by simp); have c1 : w2.cell? ⟨wr.heap.size, 1, none⟩ = some (.int .i64 (0)) := (hb2.cell (p := ⟨wr.heap.size, 1, none⟩) (by simp)).trans (by simp)) | (at_builtin; refine wpList_append_own _ rfl _ _ 32 rfl w.heap.size 25 i0 (.agg #[.int .i64 0, .int .i64 0]) 2 16 Try.underlying32 hi hz0 hz1 hz2 rfl (by decide) _ _ _ rfl (hown1.alloc _) ⟨w2.heap.size, 0, none⟩ 1 1 [.int .i64 op, .int .i64 (0)] rfl rfl (by exact two_new _ _ _ _) (by intro u hu; simp at hu; rcases hu with rfl | rfl <;> rfl) (by have := HB.out; unfold maxLen; omega) (by have := HB.out; omega) (by simp; omega) ?_; intro v3 w3 hown3 hgrow3 _))
            have hbw : Below w.heap.size w w3 := Below.grown (bel_alloc (below2 (bel_alloc hnx _) hb2) _) hgrow3 (by simp; omega) (ownsRow_block hown1)
            rw [pv_app M (op, 0)] at hown3
            clear hwp
            have hB := HB.out
            have hft2 := hft.out
            have hn3 := hn2.out
            go_roundw
            case rel =>
              obtain ⟨f', rfl⟩ : ∃ f', f = f' + 1 := ⟨f - 1, by omega⟩
              exact ⟨p + (1 + 0), f', M ++ [(op, 0)], by go_num, by omega, by omega, by simp; omega, by unfold Hid; simpa using hz.out, by simpa using hown3, hbw⟩
            case measure => simp [intOf]; omega
      · by_cases hr1 : r.size < 1
        · have hre : r = ⟨#[]⟩ := str_nil r (by omega)
          subst hre
          have hz : Hid (rc s = none) := hN.out (by
            rw [stp_of HOP.out (a := 0) (t := 0) (ok := false) (g := gi op (0)) (by rw [HK.out, HR.out]; rfl) rfl]; rfl)
          clear hN hF hG hfits hown HB HK HR HOP hi hz0 hz1 hz2
          go_wp2_with (go_at_call 27; refine (O _).mono ?_; rintro e wq ⟨rfl, hwq⟩; obtain rfl := hwq.symm)
          go_ret2
          rw [hz.out]
          exact ⟨_, rfl, World.ownsRow_nil _ _ _ _, bel_alloc hnx _⟩
        · have hb1 := HB.out
          have hr0 : 0 < r.size := by omega
          have e1 := get_bt r 0 hr0
          obtain ⟨y, hy⟩ : ∃ y, bt r 0 = y := ⟨_, rfl⟩
          rw [hy] at e1
          have hy0 : 0 ≤ y := by have := bt_nonneg r 0; omega
          have hy1 : y ≤ 255 := by have := bt_le r 0; omega
          have hre : r.toList.isEmpty = false := str_ne r hr0
          have HY : Hid (bt r 0 = y) := hy
          clear hy hb1
          have S := specGoodIns op (y)
          obtain ⟨g, hg⟩ : ∃ g, gi op (y) = g := ⟨_, rfl⟩
          rw [hg] at S
          have hst := stp_of HOP.out (a := y) (t := 1) (ok := true) (by rw [HK.out, HR.out]; (show (if r.size < 1 then ((0 : Int), 0, false) else (bt r 0, 1, true)) = _; rw [if_neg hr1, HY.out])) hg
          have S : Hid (∀ w : World, Calls Try.prog 8 #[.agg #[.int .i64 op, .int .i64 (y)]] w fun e w' => e = .returned (.bool g) ∧ Below w.heap.size w w') := S
          clear hg
          cases g
          · have hz : Hid (rc s = none) := hN.out (by rw [hst]; rfl)
            clear hN hF hG hfits hown hst HK HR HOP hi hz0 hz1 hz2 HB
            go_wp2_with (first | (go_at_call 27; refine (O _).mono ?_; rintro e wq ⟨rfl, hwq⟩; obtain rfl := hwq.symm) | (go_at_call 8; refine (S.out _).mono ?_; rintro e w2 ⟨rfl, hb2⟩))
            go_ret2
            rw [hz.out]
            exact ⟨_, rfl, World.ownsRow_nil _ _ _ _, below2 (bel_alloc hnx _) hb2⟩
          · have hst : stp s p = some ((op, y), 1 + 1) := by rw [hst]; rfl
            by_cases h2 : M.length = 200
            · have hz : Hid (rc s = none) := hF.out h2
              have h2' : ((M.length : Int) == 200) = true := by simp; omega
              clear hN hF hG hfits hown hst h2 HK HR HOP hi hz0 hz1 hz2 HB
              go_wp2_with (first | (go_at_call 27; refine (O _).mono ?_; rintro e wq ⟨rfl, hwq⟩; obtain rfl := hwq.symm) | (go_at_call 8; refine (S.out _).mono ?_; rintro e w2 ⟨rfl, hb2⟩))
              go_ret2
              rw [hz.out]
              exact ⟨_, rfl, World.ownsRow_nil _ _ _ _, below2 (bel_alloc hnx _) hb2⟩
            · have h2' : ((M.length : Int) == 200) = false := by simp; omega
              have hz : Hid (rc s = (rdc s f (p + (1 + 1)) (M.length + 1)).map ((M ++ [(op, y)]) ++ ·)) := hG.out _ _ hst h2
              have hft : Hid (p + (1 + 1) ≤ s.size) := hfits.out _ _ hst
              have hwt : wrap64 ((p : Int) + 1 + 1) = (p : Int) + 1 + 1 := w64p p 1 _ hft.out HB.out.1
              have hwt2 : wrap64 ((p : Int) + 2) = (p : Int) + 2 := w64q p 2 _ hft.out HB.out.1
              have hn2 : Hid (M.length ≠ 200) := h2
              clear hN hF hG hfits hst HK HR HOP h2
              go_wp2_with (first | (go_at_call 27; refine (O _).mono ?_; rintro e wq ⟨rfl, hwq⟩; obtain rfl := hwq.symm) | (go_at_call 8; refine (S.out _).mono ?_; rintro e w2 ⟨rfl, hb2⟩; have hown1 := owns_below (hown.alloc _) hb2; have hs1 := hb2.size; simp at hs1; have c0 : w2.cell? ⟨wr.heap.size, 0, none⟩ = some (.int .i64 op) := (hb2.cell (p := ⟨wr.heap.size, 0, none⟩) (by simp)).trans (by simp); have c1 : w2.cell? ⟨wr.heap.size, 1, none⟩ = some (.int .i64 (y)) := (hb2.cell (p := ⟨wr.heap.size, 1, none⟩) (by simp)).trans (by simp)) | (at_builtin; refine wpList_append_own _ rfl _ _ 32 rfl w.heap.size 25 i0 (.agg #[.int .i64 0, .int .i64 0]) 2 16 Try.underlying32 hi hz0 hz1 hz2 rfl (by decide) _ _ _ rfl (hown1.alloc _) ⟨w2.heap.size, 0, none⟩ 1 1 [.int .i64 op, .int .i64 (y)] rfl rfl (by exact two_new _ _ _ _) (by intro u hu; simp at hu; rcases hu with rfl | rfl <;> rfl) (by have := HB.out; unfold maxLen; omega) (by have := HB.out; omega) (by simp; omega) ?_; intro v3 w3 hown3 hgrow3 _))
              have hbw : Below w.heap.size w w3 := Below.grown (bel_alloc (below2 (bel_alloc hnx _) hb2) _) hgrow3 (by simp; omega) (ownsRow_block hown1)
              rw [pv_app M (op, y)] at hown3
              clear hwp hwt hwt2
              have hB := HB.out
              have hft2 := hft.out
              have hn3 := hn2.out
              go_roundw
              case rel =>
                obtain ⟨f', rfl⟩ : ∃ f', f = f' + 1 := ⟨f - 1, by omega⟩
                exact ⟨p + (1 + 1), f', M ++ [(op, y)], by go_num, by omega, by omega, by simp; omega, by unfold Hid; simpa using hz.out, by simpa using hown3, hbw⟩
              case measure => simp [intOf]; omega
      · have hb1 := HB.out
        have F := specTakeU r 32 (by omega) (by omega) (by omega)
        have htk : tk r 2 = (wrap64 (tu r 32).1, (tu r 32).2, decide ((0 : Int) < (tu r 32).2)) := rfl
        generalize tu r 32 = q at F htk
        obtain ⟨n, t⟩ := q
        simp only at F htk
        have F : Hid (∀ w : World, Calls Try.prog 47 #[.string r, .int .i64 32] w fun e w' => e = .returned (.tuple #[.int .u64 n, .int .i64 (t : Int)]) ∧ w' = w) := F
        have HTK : Hid (tk r 2 = (wrap64 n, t, decide ((0 : Int) < (t : Int)))) := htk
        clear htk hb1
        by_cases ht : t = 0
        · subst ht
          have hz : Hid (rc s = none) := hN.out (by
            rw [stp_of HOP.out (a := wrap64 n) (t := 0) (ok := false) (g := gi op (wrap64 n)) (by rw [HK.out, HR.out]; exact HTK.out) rfl]; rfl)
          clear hN hF hG hfits hown HB HK HR HOP hi hz0 hz1 hz2
          go_wp2_with (first | (go_at_call 27; refine (O _).mono ?_; rintro e wq ⟨rfl, hwq⟩; obtain rfl := hwq.symm) | (go_at_call 47; refine (F.out _).mono ?_; rintro e wq ⟨rfl, hwq⟩; obtain rfl := hwq.symm))
          go_ret2
          rw [hz.out]
          exact ⟨_, rfl, World.ownsRow_nil _ _ _ _, bel_alloc hnx _⟩
        · have ht0 : ((t : Int) == 0) = false := by simp; omega
          have S := specGoodIns op (wrap64 n)
          obtain ⟨g, hg⟩ : ∃ g, gi op (wrap64 n) = g := ⟨_, rfl⟩
          rw [hg] at S
          have hst := stp_of HOP.out (a := wrap64 n) (t := t) (ok := true) (by rw [HK.out, HR.out]; (rw [HTK.out]; simp; omega)) hg
          have S : Hid (∀ w : World, Calls Try.prog 8 #[.agg #[.int .i64 op, .int .i64 (wrap64 n)]] w fun e w' => e = .returned (.bool g) ∧ Below w.heap.size w w') := S
          clear hg
          cases g
          · have hz : Hid (rc s = none) := hN.out (by rw [hst]; rfl)
            clear hN hF hG hfits hown hst HK HR HOP hi hz0 hz1 hz2 HB
            go_wp2_with (first | (go_at_call 27; refine (O _).mono ?_; rintro e wq ⟨rfl, hwq⟩; obtain rfl := hwq.symm) | (go_at_call 47; refine (F.out _).mono ?_; rintro e wq ⟨rfl, hwq⟩; obtain rfl := hwq.symm) | (go_at_call 8; refine (S.out _).mono ?_; rintro e w2 ⟨rfl, hb2⟩))
            go_ret2
            rw [hz.out]
            exact ⟨_, rfl, World.ownsRow_nil _ _ _ _, below2 (bel_alloc hnx _) hb2⟩
          · have hst : stp s p = some ((op, wrap64 n), 1 + t) := by rw [hst]; rfl
            by_cases h2 : M.length = 200
            · have hz : Hid (rc s = none) := hF.out h2
              have h2' : ((M.length : Int) == 200) = true := by simp; omega
              clear hN hF hG hfits hown hst h2 HK HR HOP hi hz0 hz1 hz2 HB
              go_wp2_with (first | (go_at_call 27; refine (O _).mono ?_; rintro e wq ⟨rfl, hwq⟩; obtain rfl := hwq.symm) | (go_at_call 47; refine (F.out _).mono ?_; rintro e wq ⟨rfl, hwq⟩; obtain rfl := hwq.symm) | (go_at_call 8; refine (S.out _).mono ?_; rintro e w2 ⟨rfl, hb2⟩))
              go_ret2
              rw [hz.out]
              exact ⟨_, rfl, World.ownsRow_nil _ _ _ _, below2 (bel_alloc hnx _) hb2⟩
            · have h2' : ((M.length : Int) == 200) = false := by simp; omega
              have hz : Hid (rc s = (rdc s f (p + (1 + t)) (M.length + 1)).map ((M ++ [(op, wrap64 n)]) ++ ·)) := hG.out _ _ hst h2
              have hft : Hid (p + (1 + t) ≤ s.size) := hfits.out _ _ hst
              have hwt : wrap64 ((p : Int) + 1 + ((t : Nat) : Int)) = (p : Int) + 1 + ((t : Nat) : Int) := w64p p t _ hft.out HB.out.1
              have hn2 : Hid (M.length ≠ 200) := h2
              clear hN hF hG hfits hst HK HR HOP h2
              go_wp2_with (first | (go_at_call 27; refine (O _).mono ?_; rintro e wq ⟨rfl, hwq⟩; obtain rfl := hwq.symm) | (go_at_call 47; refine (F.out _).mono ?_; rintro e wq ⟨rfl, hwq⟩; obtain rfl := hwq.symm) | (go_at_call 8; refine (S.out _).mono ?_; rintro e w2 ⟨rfl, hb2⟩; have hown1 := owns_below (hown.alloc _) hb2; have hs1 := hb2.size; simp at hs1; have c0 : w2.cell? ⟨wr.heap.size, 0, none⟩ = some (.int .i64 op) := (hb2.cell (p := ⟨wr.heap.size, 0, none⟩) (by simp)).trans (by simp); have c1 : w2.cell? ⟨wr.heap.size, 1, none⟩ = some (.int .i64 (wrap64 n)) := (hb2.cell (p := ⟨wr.heap.size, 1, none⟩) (by simp)).trans (by simp)) | (at_builtin; refine wpList_append_own _ rfl _ _ 32 rfl w.heap.size 25 i0 (.agg #[.int .i64 0, .int .i64 0]) 2 16 Try.underlying32 hi hz0 hz1 hz2 rfl (by decide) _ _ _ rfl (hown1.alloc _) ⟨w2.heap.size, 0, none⟩ 1 1 [.int .i64 op, .int .i64 (wrap64 n)] rfl rfl (by exact two_new _ _ _ _) (by intro u hu; simp at hu; rcases hu with rfl | rfl <;> rfl) (by have := HB.out; unfold maxLen; omega) (by have := HB.out; omega) (by simp; omega) ?_; intro v3 w3 hown3 hgrow3 _))
              have hbw : Below w.heap.size w w3 := Below.grown (bel_alloc (below2 (bel_alloc hnx _) hb2) _) hgrow3 (by simp; omega) (ownsRow_block hown1)
              rw [pv_app M (op, wrap64 n)] at hown3
              clear hwp hwt
              have hB := HB.out
              have hft2 := hft.out
              have hn3 := hn2.out
              go_roundw
              case rel =>
                obtain ⟨f', rfl⟩ : ∃ f', f = f' + 1 := ⟨f - 1, by omega⟩
                exact ⟨p + (1 + t), f', M ++ [(op, wrap64 n)], by go_num, by omega, by omega, by simp; omega, by unfold Hid; simpa using hz.out, by simpa using hown3, hbw⟩
              case measure => simp [intOf]; omega
      · have hb1 := HB.out
        have F := specTakeU r 32 (by omega) (by omega) (by omega)
        have htk : tk r 3 = (wrap64 (tu r 32).1, (tu r 32).2, decide ((0 : Int) < (tu r 32).2)) := rfl
        generalize tu r 32 = q at F htk
        obtain ⟨n, t⟩ := q
        simp only at F htk
        have F : Hid (∀ w : World, Calls Try.prog 47 #[.string r, .int .i64 32] w fun e w' => e = .returned (.tuple #[.int .u64 n, .int .i64 (t : Int)]) ∧ w' = w) := F
        have HTK : Hid (tk r 3 = (wrap64 n, t, decide ((0 : Int) < (t : Int)))) := htk
        clear htk hb1
        by_cases ht : t = 0
        · subst ht
          have hz : Hid (rc s = none) := hN.out (by
            rw [stp_of HOP.out (a := wrap64 n) (t := 0) (ok := false) (g := gi op (wrap64 n)) (by rw [HK.out, HR.out]; exact HTK.out) rfl]; rfl)
          clear hN hF hG hfits hown HB HK HR HOP hi hz0 hz1 hz2
          go_wp2_with (first | (go_at_call 27; refine (O _).mono ?_; rintro e wq ⟨rfl, hwq⟩; obtain rfl := hwq.symm) | (go_at_call 47; refine (F.out _).mono ?_; rintro e wq ⟨rfl, hwq⟩; obtain rfl := hwq.symm))
          go_ret2
          rw [hz.out]
          exact ⟨_, rfl, World.ownsRow_nil _ _ _ _, bel_alloc hnx _⟩
        · have ht0 : ((t : Int) == 0) = false := by simp; omega
          have S := specGoodIns op (wrap64 n)
          obtain ⟨g, hg⟩ : ∃ g, gi op (wrap64 n) = g := ⟨_, rfl⟩
          rw [hg] at S
          have hst := stp_of HOP.out (a := wrap64 n) (t := t) (ok := true) (by rw [HK.out, HR.out]; (rw [HTK.out]; simp; omega)) hg
          have S : Hid (∀ w : World, Calls Try.prog 8 #[.agg #[.int .i64 op, .int .i64 (wrap64 n)]] w fun e w' => e = .returned (.bool g) ∧ Below w.heap.size w w') := S
          clear hg
          cases g
          · have hz : Hid (rc s = none) := hN.out (by rw [hst]; rfl)
            clear hN hF hG hfits hown hst HK HR HOP hi hz0 hz1 hz2 HB
            go_wp2_with (first | (go_at_call 27; refine (O _).mono ?_; rintro e wq ⟨rfl, hwq⟩; obtain rfl := hwq.symm) | (go_at_call 47; refine (F.out _).mono ?_; rintro e wq ⟨rfl, hwq⟩; obtain rfl := hwq.symm) | (go_at_call 8; refine (S.out _).mono ?_; rintro e w2 ⟨rfl, hb2⟩))
            go_ret2
            rw [hz.out]
            exact ⟨_, rfl, World.ownsRow_nil _ _ _ _, below2 (bel_alloc hnx _) hb2⟩
          · have hst : stp s p = some ((op, wrap64 n), 1 + t) := by rw [hst]; rfl
            by_cases h2 : M.length = 200
            · have hz : Hid (rc s = none) := hF.out h2
              have h2' : ((M.length : Int) == 200) = true := by simp; omega
              clear hN hF hG hfits hown hst h2 HK HR HOP hi hz0 hz1 hz2 HB
              go_wp2_with (first | (go_at_call 27; refine (O _).mono ?_; rintro e wq ⟨rfl, hwq⟩; obtain rfl := hwq.symm) | (go_at_call 47; refine (F.out _).mono ?_; rintro e wq ⟨rfl, hwq⟩; obtain rfl := hwq.symm) | (go_at_call 8; refine (S.out _).mono ?_; rintro e w2 ⟨rfl, hb2⟩))
              go_ret2
              rw [hz.out]
              exact ⟨_, rfl, World.ownsRow_nil _ _ _ _, below2 (bel_alloc hnx _) hb2⟩
            · have h2' : ((M.length : Int) == 200) = false := by simp; omega
              have hz : Hid (rc s = (rdc s f (p + (1 + t)) (M.length + 1)).map ((M ++ [(op, wrap64 n)]) ++ ·)) := hG.out _ _ hst h2
              have hft : Hid (p + (1 + t) ≤ s.size) := hfits.out _ _ hst
              have hwt : wrap64 ((p : Int) + 1 + ((t : Nat) : Int)) = (p : Int) + 1 + ((t : Nat) : Int) := w64p p t _ hft.out HB.out.1
              have hn2 : Hid (M.length ≠ 200) := h2
              clear hN hF hG hfits hst HK HR HOP h2
              go_wp2_with (first | (go_at_call 27; refine (O _).mono ?_; rintro e wq ⟨rfl, hwq⟩; obtain rfl := hwq.symm) | (go_at_call 47; refine (F.out _).mono ?_; rintro e wq ⟨rfl, hwq⟩; obtain rfl := hwq.symm) | (go_at_call 8; refine (S.out _).mono ?_; rintro e w2 ⟨rfl, hb2⟩; have hown1 := owns_below (hown.alloc _) hb2; have hs1 := hb2.size; simp at hs1; have c0 : w2.cell? ⟨wr.heap.size, 0, none⟩ = some (.int .i64 op) := (hb2.cell (p := ⟨wr.heap.size, 0, none⟩) (by simp)).trans (by simp); have c1 : w2.cell? ⟨wr.heap.size, 1, none⟩ = some (.int .i64 (wrap64 n)) := (hb2.cell (p := ⟨wr.heap.size, 1, none⟩) (by simp)).trans (by simp)) | (at_builtin; refine wpList_append_own _ rfl _ _ 32 rfl w.heap.size 25 i0 (.agg #[.int .i64 0, .int .i64 0]) 2 16 Try.underlying32 hi hz0 hz1 hz2 rfl (by decide) _ _ _ rfl (hown1.alloc _) ⟨w2.heap.size, 0, none⟩ 1 1 [.int .i64 op, .int .i64 (wrap64 n)] rfl rfl (by exact two_new _ _ _ _) (by intro u hu; simp at hu; rcases hu with rfl | rfl <;> rfl) (by have := HB.out; unfold maxLen; omega) (by have := HB.out; omega) (by simp; omega) ?_; intro v3 w3 hown3 hgrow3 _))
              have hbw : Below w.heap.size w w3 := Below.grown (bel_alloc (below2 (bel_alloc hnx _) hb2) _) hgrow3 (by simp; omega) (ownsRow_block hown1)
              rw [pv_app M (op, wrap64 n)] at hown3
              clear hwp hwt
              have hB := HB.out
              have hft2 := hft.out
              have hn3 := hn2.out
              go_roundw
              case rel =>
                obtain ⟨f', rfl⟩ : ∃ f', f = f' + 1 := ⟨f - 1, by omega⟩
                exact ⟨p + (1 + t), f', M ++ [(op, wrap64 n)], by go_num, by omega, by omega, by simp; omega, by unfold Hid; simpa using hz.out, by simpa using hown3, hbw⟩
              case measure => simp [intOf]; omega
      · have hb1 := HB.out
        have F := specTakeS r 32 (by omega) (by omega) (by omega)
        have htk : tk r 4 = ((ts r 32).1, (ts r 32).2, decide ((0 : Int) < (ts r 32).2)) := rfl
        generalize ts r 32 = q at F htk
        obtain ⟨n, t⟩ := q
        simp only at F htk
        have F : Hid (∀ w : World, Calls Try.prog 48 #[.string r, .int .i64 32] w fun e w' => e = .returned (.tuple #[.int .i64 n, .int .i64 (t : Int)]) ∧ w' = w) := F
        have HTK : Hid (tk r 4 = (n, t, decide ((0 : Int) < (t : Int)))) := htk
        clear htk hb1
        by_cases ht : t = 0
        · subst ht
          have hz : Hid (rc s = none) := hN.out (by
            rw [stp_of HOP.out (a := n) (t := 0) (ok := false) (g := gi op (n)) (by rw [HK.out, HR.out]; exact HTK.out) rfl]; rfl)
          clear hN hF hG hfits hown HB HK HR HOP hi hz0 hz1 hz2
          go_wp2_with (first | (go_at_call 27; refine (O _).mono ?_; rintro e wq ⟨rfl, hwq⟩; obtain rfl := hwq.symm) | (go_at_call 48; refine (F.out _).mono ?_; rintro e wq ⟨rfl, hwq⟩; obtain rfl := hwq.symm))
          go_ret2
          rw [hz.out]
          exact ⟨_, rfl, World.ownsRow_nil _ _ _ _, bel_alloc hnx _⟩
        · have ht0 : ((t : Int) == 0) = false := by simp; omega
          have S := specGoodIns op (n)
          obtain ⟨g, hg⟩ : ∃ g, gi op (n) = g := ⟨_, rfl⟩
          rw [hg] at S
          have hst := stp_of HOP.out (a := n) (t := t) (ok := true) (by rw [HK.out, HR.out]; (rw [HTK.out]; simp; omega)) hg
          have S : Hid (∀ w : World, Calls Try.prog 8 #[.agg #[.int .i64 op, .int .i64 (n)]] w fun e w' => e = .returned (.bool g) ∧ Below w.heap.size w w') := S
          clear hg
          cases g
          · have hz : Hid (rc s = none) := hN.out (by rw [hst]; rfl)
            clear hN hF hG hfits hown hst HK HR HOP hi hz0 hz1 hz2 HB
            go_wp2_with (first | (go_at_call 27; refine (O _).mono ?_; rintro e wq ⟨rfl, hwq⟩; obtain rfl := hwq.symm) | (go_at_call 48; refine (F.out _).mono ?_; rintro e wq ⟨rfl, hwq⟩; obtain rfl := hwq.symm) | (go_at_call 8; refine (S.out _).mono ?_; rintro e w2 ⟨rfl, hb2⟩))
            go_ret2
            rw [hz.out]
            exact ⟨_, rfl, World.ownsRow_nil _ _ _ _, below2 (bel_alloc hnx _) hb2⟩
          · have hst : stp s p = some ((op, n), 1 + t) := by rw [hst]; rfl
            by_cases h2 : M.length = 200
            · have hz : Hid (rc s = none) := hF.out h2
              have h2' : ((M.length : Int) == 200) = true := by simp; omega
              clear hN hF hG hfits hown hst h2 HK HR HOP hi hz0 hz1 hz2 HB
              go_wp2_with (first | (go_at_call 27; refine (O _).mono ?_; rintro e wq ⟨rfl, hwq⟩; obtain rfl := hwq.symm) | (go_at_call 48; refine (F.out _).mono ?_; rintro e wq ⟨rfl, hwq⟩; obtain rfl := hwq.symm) | (go_at_call 8; refine (S.out _).mono ?_; rintro e w2 ⟨rfl, hb2⟩))
              go_ret2
              rw [hz.out]
              exact ⟨_, rfl, World.ownsRow_nil _ _ _ _, below2 (bel_alloc hnx _) hb2⟩
            · have h2' : ((M.length : Int) == 200) = false := by simp; omega
              have hz : Hid (rc s = (rdc s f (p + (1 + t)) (M.length + 1)).map ((M ++ [(op, n)]) ++ ·)) := hG.out _ _ hst h2
              have hft : Hid (p + (1 + t) ≤ s.size) := hfits.out _ _ hst
              have hwt : wrap64 ((p : Int) + 1 + ((t : Nat) : Int)) = (p : Int) + 1 + ((t : Nat) : Int) := w64p p t _ hft.out HB.out.1
              have hn2 : Hid (M.length ≠ 200) := h2
              clear hN hF hG hfits hst HK HR HOP h2
              go_wp2_with (first | (go_at_call 27; refine (O _).mono ?_; rintro e wq ⟨rfl, hwq⟩; obtain rfl := hwq.symm) | (go_at_call 48; refine (F.out _).mono ?_; rintro e wq ⟨rfl, hwq⟩; obtain rfl := hwq.symm) | (go_at_call 8; refine (S.out _).mono ?_; rintro e w2 ⟨rfl, hb2⟩; have hown1 := owns_below (hown.alloc _) hb2; have hs1 := hb2.size; simp at hs1; have c0 : w2.cell? ⟨wr.heap.size, 0, none⟩ = some (.int .i64 op) := (hb2.cell (p := ⟨wr.heap.size, 0, none⟩) (by simp)).trans (by simp); have c1 : w2.cell? ⟨wr.heap.size, 1, none⟩ = some (.int .i64 (n)) := (hb2.cell (p := ⟨wr.heap.size, 1, none⟩) (by simp)).trans (by simp)) | (at_builtin; refine wpList_append_own _ rfl _ _ 32 rfl w.heap.size 25 i0 (.agg #[.int .i64 0, .int .i64 0]) 2 16 Try.underlying32 hi hz0 hz1 hz2 rfl (by decide) _ _ _ rfl (hown1.alloc _) ⟨w2.heap.size, 0, none⟩ 1 1 [.int .i64 op, .int .i64 (n)] rfl rfl (by exact two_new _ _ _ _) (by intro u hu; simp at hu; rcases hu with rfl | rfl <;> rfl) (by have := HB.out; unfold maxLen; omega) (by have := HB.out; omega) (by simp; omega) ?_; intro v3 w3 hown3 hgrow3 _))
              have hbw : Below w.heap.size w w3 := Below.grown (bel_alloc (below2 (bel_alloc hnx _) hb2) _) hgrow3 (by simp; omega) (ownsRow_block hown1)
              rw [pv_app M (op, n)] at hown3
              clear hwp hwt
              have hB := HB.out
              have hft2 := hft.out
              have hn3 := hn2.out
              go_roundw
              case rel =>
                obtain ⟨f', rfl⟩ : ∃ f', f = f' + 1 := ⟨f - 1, by omega⟩
                exact ⟨p + (1 + t), f', M ++ [(op, n)], by go_num, by omega, by omega, by simp; omega, by unfold Hid; simpa using hz.out, by simpa using hown3, hbw⟩
              case measure => simp [intOf]; omega
      · have hb1 := HB.out
        have F := specTakeS r 64 (by omega) (by omega) (by omega)
        have htk : tk r 5 = ((ts r 64).1, (ts r 64).2, decide ((0 : Int) < (ts r 64).2)) := rfl
        generalize ts r 64 = q at F htk
        obtain ⟨n, t⟩ := q
        simp only at F htk
        have F : Hid (∀ w : World, Calls Try.prog 48 #[.string r, .int .i64 64] w fun e w' => e = .returned (.tuple #[.int .i64 n, .int .i64 (t : Int)]) ∧ w' = w) := F
        have HTK : Hid (tk r 5 = (n, t, decide ((0 : Int) < (t : Int)))) := htk
        clear htk hb1
        by_cases ht : t = 0
        · subst ht
          have hz : Hid (rc s = none) := hN.out (by
            rw [stp_of HOP.out (a := n) (t := 0) (ok := false) (g := gi op (n)) (by rw [HK.out, HR.out]; exact HTK.out) rfl]; rfl)
          clear hN hF hG hfits hown HB HK HR HOP hi hz0 hz1 hz2
          go_wp2_with (first | (go_at_call 27; refine (O _).mono ?_; rintro e wq ⟨rfl, hwq⟩; obtain rfl := hwq.symm) | (go_at_call 48; refine (F.out _).mono ?_; rintro e wq ⟨rfl, hwq⟩; obtain rfl := hwq.symm))
          go_ret2
          rw [hz.out]
          exact ⟨_, rfl, World.ownsRow_nil _ _ _ _, bel_alloc hnx _⟩
        · have ht0 : ((t : Int) == 0) = false := by simp; omega
          have S := specGoodIns op (n)
          obtain ⟨g, hg⟩ : ∃ g, gi op (n) = g := ⟨_, rfl⟩
          rw [hg] at S
          have hst := stp_of HOP.out (a := n) (t := t) (ok := true) (by rw [HK.out, HR.out]; (rw [HTK.out]; simp; omega)) hg
          have S : Hid (∀ w : World, Calls Try.prog 8 #[.agg #[.int .i64 op, .int .i64 (n)]] w fun e w' => e = .returned (.bool g) ∧ Below w.heap.size w w') := S
          clear hg
          cases g
          · have hz : Hid (rc s = none) := hN.out (by rw [hst]; rfl)
            clear hN hF hG hfits hown hst HK HR HOP hi hz0 hz1 hz2 HB
            go_wp2_with (first | (go_at_call 27; refine (O _).mono ?_; rintro e wq ⟨rfl, hwq⟩; obtain rfl := hwq.symm) | (go_at_call 48; refine (F.out _).mono ?_; rintro e wq ⟨rfl, hwq⟩; obtain rfl := hwq.symm) | (go_at_call 8; refine (S.out _).mono ?_; rintro e w2 ⟨rfl, hb2⟩))
            go_ret2
            rw [hz.out]
            exact ⟨_, rfl, World.ownsRow_nil _ _ _ _, below2 (bel_alloc hnx _) hb2⟩
          · have hst : stp s p = some ((op, n), 1 + t) := by rw [hst]; rfl
            by_cases h2 : M.length = 200
            · have hz : Hid (rc s = none) := hF.out h2
              have h2' : ((M.length : Int) == 200) = true := by simp; omega
              clear hN hF hG hfits hown hst h2 HK HR HOP hi hz0 hz1 hz2 HB
              go_wp2_with (first | (go_at_call 27; refine (O _).mono ?_; rintro e wq ⟨rfl, hwq⟩; obtain rfl := hwq.symm) | (go_at_call 48; refine (F.out _).mono ?_; rintro e wq ⟨rfl, hwq⟩; obtain rfl := hwq.symm) | (go_at_call 8; refine (S.out _).mono ?_; rintro e w2 ⟨rfl, hb2⟩))
              go_ret2
              rw [hz.out]
              exact ⟨_, rfl, World.ownsRow_nil _ _ _ _, below2 (bel_alloc hnx _) hb2⟩
            · have h2' : ((M.length : Int) == 200) = false := by simp; omega
              have hz : Hid (rc s = (rdc s f (p + (1 + t)) (M.length + 1)).map ((M ++ [(op, n)]) ++ ·)) := hG.out _ _ hst h2
              have hft : Hid (p + (1 + t) ≤ s.size) := hfits.out _ _ hst
              have hwt : wrap64 ((p : Int) + 1 + ((t : Nat) : Int)) = (p : Int) + 1 + ((t : Nat) : Int) := w64p p t _ hft.out HB.out.1
              have hn2 : Hid (M.length ≠ 200) := h2
              clear hN hF hG hfits hst HK HR HOP h2
              go_wp2_with (first | (go_at_call 27; refine (O _).mono ?_; rintro e wq ⟨rfl, hwq⟩; obtain rfl := hwq.symm) | (go_at_call 48; refine (F.out _).mono ?_; rintro e wq ⟨rfl, hwq⟩; obtain rfl := hwq.symm) | (go_at_call 8; refine (S.out _).mono ?_; rintro e w2 ⟨rfl, hb2⟩; have hown1 := owns_below (hown.alloc _) hb2; have hs1 := hb2.size; simp at hs1; have c0 : w2.cell? ⟨wr.heap.size, 0, none⟩ = some (.int .i64 op) := (hb2.cell (p := ⟨wr.heap.size, 0, none⟩) (by simp)).trans (by simp); have c1 : w2.cell? ⟨wr.heap.size, 1, none⟩ = some (.int .i64 (n)) := (hb2.cell (p := ⟨wr.heap.size, 1, none⟩) (by simp)).trans (by simp)) | (at_builtin; refine wpList_append_own _ rfl _ _ 32 rfl w.heap.size 25 i0 (.agg #[.int .i64 0, .int .i64 0]) 2 16 Try.underlying32 hi hz0 hz1 hz2 rfl (by decide) _ _ _ rfl (hown1.alloc _) ⟨w2.heap.size, 0, none⟩ 1 1 [.int .i64 op, .int .i64 (n)] rfl rfl (by exact two_new _ _ _ _) (by intro u hu; simp at hu; rcases hu with rfl | rfl <;> rfl) (by have := HB.out; unfold maxLen; omega) (by have := HB.out; omega) (by simp; omega) ?_; intro v3 w3 hown3 hgrow3 _))
              have hbw : Below w.heap.size w w3 := Below.grown (bel_alloc (below2 (bel_alloc hnx _) hb2) _) hgrow3 (by simp; omega) (ownsRow_block hown1)
              rw [pv_app M (op, n)] at hown3
              clear hwp hwt
              have hB := HB.out
              have hft2 := hft.out
              have hn3 := hn2.out
              go_roundw
              case rel =>
                obtain ⟨f', rfl⟩ : ∃ f', f = f' + 1 := ⟨f - 1, by omega⟩
                exact ⟨p + (1 + t), f', M ++ [(op, n)], by go_num, by omega, by omega, by simp; omega, by unfold Hid; simpa using hz.out, by simpa using hown3, hbw⟩
              case measure => simp [intOf]; omega
      · by_cases hr1 : r.size < 4
        · have hr4 : (r.size : Int) < 4 := by omega
          have hz : Hid (rc s = none) := hN.out (by
            rw [stp_of HOP.out (a := 0) (t := 0) (ok := false) (g := gi op (0)) (by rw [HK.out, HR.out]; exact if_pos hr1) rfl]; rfl)
          clear hN hF hG hfits hown HB HK HR HOP hi hz0 hz1 hz2
          go_wp2_with (go_at_call 27; refine (O _).mono ?_; rintro e wq ⟨rfl, hwq⟩; obtain rfl := hwq.symm)
          go_ret2
          rw [hz.out]
          exact ⟨_, rfl, World.ownsRow_nil _ _ _ _, bel_alloc hnx _⟩
        · have hb1 := HB.out
          have hsl4 : ∀ wx : World, (Instr.slice 9 (.string r) none (some (.int .i64 4)) none).run Try.prog wx = .ok (.string (r.extract 0 4)) wx := fun wx => slice_front (P := Try.prog) 9 Try.underlying9 r 4 (by omega) wx
          obtain ⟨y, hy, hwy, N⟩ := num4 r hr1
          have N : Hid (∀ w : World, Calls Try.prog 49 #[.string (r.extract 0 4)] w fun e w' => e = .returned (.int .u64 y) ∧ w' = w) := N
          have HY : Hid (((leN (r.extract 0 4) 4 : Nat) : Int) = y) := hy
          have hr4 : ¬ (r.size : Int) < 4 := by omega
          clear hy hb1
          have S := specGoodIns op (y)
          obtain ⟨g, hg⟩ : ∃ g, gi op (y) = g := ⟨_, rfl⟩
          rw [hg] at S
          have hst := stp_of HOP.out (a := y) (t := 4) (ok := true) (by rw [HK.out, HR.out]; (show (if r.size < 4 then ((0 : Int), 0, false) else (((leN (r.extract 0 4) 4 : Nat) : Int), 4, true)) = _; rw [if_neg hr1, HY.out])) hg
          have S : Hid (∀ w : World, Calls Try.prog 8 #[.agg #[.int .i64 op, .int .i64 (y)]] w fun e w' => e = .returned (.bool g) ∧ Below w.heap.size w w') := S
          clear hg
          cases g
          · have hz : Hid (rc s = none) := hN.out (by rw [hst]; rfl)
            clear hN hF hG hfits hown hst HK HR HOP hi hz0 hz1 hz2 HB
            go_wp2_with (first | (go_at_call 27; refine (O _).mono ?_; rintro e wq ⟨rfl, hwq⟩; obtain rfl := hwq.symm) | (go_at_call 49; refine (N.out _).mono ?_; rintro e wq ⟨rfl, hwq⟩; obtain rfl := hwq.symm) | (go_at_call 8; refine (S.out _).mono ?_; rintro e w2 ⟨rfl, hb2⟩))
            go_ret2
            rw [hz.out]
            exact ⟨_, rfl, World.ownsRow_nil _ _ _ _, below2 (bel_alloc hnx _) hb2⟩
          · have hst : stp s p = some ((op, y), 1 + 4) := by rw [hst]; rfl
            by_cases h2 : M.length = 200
            · have hz : Hid (rc s = none) := hF.out h2
              have h2' : ((M.length : Int) == 200) = true := by simp; omega
              clear hN hF hG hfits hown hst h2 HK HR HOP hi hz0 hz1 hz2 HB
              go_wp2_with (first | (go_at_call 27; refine (O _).mono ?_; rintro e wq ⟨rfl, hwq⟩; obtain rfl := hwq.symm) | (go_at_call 49; refine (N.out _).mono ?_; rintro e wq ⟨rfl, hwq⟩; obtain rfl := hwq.symm) | (go_at_call 8; refine (S.out _).mono ?_; rintro e w2 ⟨rfl, hb2⟩))
              go_ret2
              rw [hz.out]
              exact ⟨_, rfl, World.ownsRow_nil _ _ _ _, below2 (bel_alloc hnx _) hb2⟩
            · have h2' : ((M.length : Int) == 200) = false := by simp; omega
              have hz : Hid (rc s = (rdc s f (p + (1 + 4)) (M.length + 1)).map ((M ++ [(op, y)]) ++ ·)) := hG.out _ _ hst h2
              have hft : Hid (p + (1 + 4) ≤ s.size) := hfits.out _ _ hst
              have hwt : wrap64 ((p : Int) + 1 + 4) = (p : Int) + 1 + 4 := w64p p 4 _ hft.out HB.out.1
              have hwt2 : wrap64 ((p : Int) + 5) = (p : Int) + 5 := w64q p 5 _ hft.out HB.out.1
              have hn2 : Hid (M.length ≠ 200) := h2
              clear hN hF hG hfits hst HK HR HOP h2
              go_wp2_with (first | (go_at_call 27; refine (O _).mono ?_; rintro e wq ⟨rfl, hwq⟩; obtain rfl := hwq.symm) | (go_at_call 49; refine (N.out _).mono ?_; rintro e wq ⟨rfl, hwq⟩; obtain rfl := hwq.symm) | (go_at_call 8; refine (S.out _).mono ?_; rintro e w2 ⟨rfl, hb2⟩; have hown1 := owns_below (hown.alloc _) hb2; have hs1 := hb2.size; simp at hs1; have c0 : w2.cell? ⟨wr.heap.size, 0, none⟩ = some (.int .i64 op) := (hb2.cell (p := ⟨wr.heap.size, 0, none⟩) (by simp)).trans (by simp); have c1 : w2.cell? ⟨wr.heap.size, 1, none⟩ = some (.int .i64 (y)) := (hb2.cell (p := ⟨wr.heap.size, 1, none⟩) (by simp)).trans (by simp)) | (at_builtin; refine wpList_append_own _ rfl _ _ 32 rfl w.heap.size 25 i0 (.agg #[.int .i64 0, .int .i64 0]) 2 16 Try.underlying32 hi hz0 hz1 hz2 rfl (by decide) _ _ _ rfl (hown1.alloc _) ⟨w2.heap.size, 0, none⟩ 1 1 [.int .i64 op, .int .i64 (y)] rfl rfl (by exact two_new _ _ _ _) (by intro u hu; simp at hu; rcases hu with rfl | rfl <;> rfl) (by have := HB.out; unfold maxLen; omega) (by have := HB.out; omega) (by simp; omega) ?_; intro v3 w3 hown3 hgrow3 _))
              have hbw : Below w.heap.size w w3 := Below.grown (bel_alloc (below2 (bel_alloc hnx _) hb2) _) hgrow3 (by simp; omega) (ownsRow_block hown1)
              rw [pv_app M (op, y)] at hown3
              clear hwp hwt hwt2
              have hB := HB.out
              have hft2 := hft.out
              have hn3 := hn2.out
              go_roundw
              case rel =>
                obtain ⟨f', rfl⟩ : ∃ f', f = f' + 1 := ⟨f - 1, by omega⟩
                exact ⟨p + (1 + 4), f', M ++ [(op, y)], by go_num, by omega, by omega, by simp; omega, by unfold Hid; simpa using hz.out, by simpa using hown3, hbw⟩
              case measure => simp [intOf]; omega
      · have hz : Hid (rc s = none) := hN.out (by
          rw [stp_of HOP.out (a := 0) (t := 0) (ok := false) (g := gi op (0)) (by rw [HK.out, HR.out]; rfl) rfl]; rfl)
        clear hN hF hG hfits hown HB HK HR HOP hi hz0 hz1 hz2
        go_wp2_with (go_at_call 27; refine (O _).mono ?_; rintro e wq ⟨rfl, hwq⟩; obtain rfl := hwq.symm)
        go_ret2
        rw [hz.out]
        exact ⟨_, rfl, World.ownsRow_nil _ _ _ _, bel_alloc hnx _⟩
    · have hp2 : ¬ (p : Int) < s.size := by omega
      have hz : Hid (rc s = some M) := rc_end hrd.out (by omega)
      clear hrd
      go_wp2
      go_ret2
      rw [hz.out]
      exact ⟨_, rfl, hown, hnx⟩

end Go.Proofs.Ytkdcbgopbcicfaa
