/-
  The walk of the program's own function that reads sections.
-/
import Derived.Test.YtnimlkobcginjaaRSpec
namespace Go.Proofs.Ytnimlkobcginjaa
open Go.ChangeShapes Go.WideShapes Go.ChangeAt Go.RowKit Go.PlainAid

theorem slice_one {P : Program} (T : TypeId) (hu : P.underlying T = some .string) (s : ByteArray) (t m : Nat) (h : 1 + t + m ≤ s.size) (wx : World) :
    (Instr.slice T (.string s) (some (.int .i64 (1 + ((t : Int) + (m : Int))))) none none).run P wx = .ok (.string (s.extract (1 + t + m) s.size)) wx := by
  have H := run_slice_string_from_if (P := P) (w := wx) T s .i64 (1 + ((t : Int) + (m : Int))) hu
  have e : (1 + ((t : Int) + (m : Int))).toNat = 1 + t + m := by omega
  rw [e, if_pos (by omega)] at H
  exact H
theorem ext_ext (c : ByteArray) (t m : Nat) (h : 1 + t + m ≤ c.size) : (restOf c).extract t (t + m) = c.extract (1 + t) (1 + t + m) := by
  unfold restOf
  apply ByteArray.ext
  simp only [ByteArray.data_extract, Array.extract_extract]
  rw [Nat.min_eq_left (by omega), Nat.add_assoc]

set_option maxRecDepth 100000 in
set_option maxHeartbeats 1600000 in
theorem implRead (s : ByteArray) (hs : s.size ≤ 4000) (w : World) :
    Calls Try.prog 22 #[.string s] w fun e w' => ∃ v, e = .returned (.tuple #[v, .bool (rs (rdI 4001 s)).isSome]) ∧ w'.ownsRow w.heap.size 44 2 v ((rs (rdI 4001 s)).getD []).length (sv ((rs (rdI 4001 s)).getD [])) ∧ Below w.heap.size w w' := by
  obtain ⟨i0, hi, hz0, hz1, hz2⟩ := info_parts Try.infoS
  go_enter Try.func22, Try.ntmps22
  go_wp2
  go_loopw [0, 4] (fun cv v wr => ∃ (f : Nat) (c : ByteArray) (M : List (Int × ByteArray)), cv = .string c ∧ c.size < f + 1 ∧ c.size ≤ 4000 ∧ M.length + f ≤ 4000 ∧ Hid (rdI 4001 s = (rdI (f + 1) c).map (M ++ ·)) ∧ Hid (∀ x ∈ M, x.2.size ≤ 4000) ∧ wr.ownsRow w.heap.size 44 2 v M.length (sv M) ∧ Below w.heap.size w wr) (fun cv _ _ => match cv with | .string c => c.size | _ => 0)
  case atStart => exact ⟨4000, s, [], rfl, by omega, hs, by simp, by unfold Hid; simp, fun x hx => absurd hx (by simp), World.ownsRow_nil _ _ _ _, Below.refl _ _⟩
  case round =>
    obtain ⟨f, c, M, rfl, hcf, hc4, hMf, hrd, hM4, hown, hnx⟩ := hrel
    have hsz := hnx.size
    by_cases h0 : 0 < c.size
    · have hf := tu_facts (restOf c) 32 (by omega)
      have hr4 : (restOf c).size ≤ 1048576 := by rw [rest_size]; omega
      have G := implTakeU (restOf c) 32 hr4 (by omega) (by omega)
      have hst : Hid (rstep c = if (tu (restOf c) 32).2 = 0 ∨ (c.size : Int) - 1 - (tu (restOf c) 32).2 < (tu (restOf c) 32).1 then none else some ((bt c 0, c.extract (1 + (tu (restOf c) 32).2) (1 + (tu (restOf c) 32).2 + (tu (restOf c) 32).1.toNat)), c.extract (1 + (tu (restOf c) 32).2 + (tu (restOf c) 32).1.toNat) c.size)) := rfl
      generalize tu (restOf c) 32 = nt at hf G hst
      obtain ⟨n, t⟩ := nt
      simp only at hf G hst
      have hrs := rest_size c
      obtain ⟨hf1, hf2, hf3, hf4⟩ := hf
      by_cases hno : t = 0 ∨ (1000 : Int) < n ∨ ((restOf c).size : Int) - t < n
      · have H := takeText_no (restOf c) hr4 1000 (by omega) n t hf3 hf4 hf1 hf2 G hno
        have hz : Hid (rs (rdI 4001 s) = none) := by
          have h5 := hrd.out
          unfold Hid
          by_cases h6 : t = 0 ∨ (c.size : Int) - 1 - t < n
          · rw [h5, rdI_none f c (by omega) (by rw [hst.out, if_pos h6])]; rfl
          · have hs2 : rstep c = some ((bt c 0, c.extract (1 + t) (1 + t + n.toNat)), c.extract (1 + t + n.toNat) c.size) := by rw [hst.out, if_neg h6]
            rw [h5, rdI_long f c (by omega) _ _ hs2 (by simp only [ByteArray.size_extract]; omega)]; rfl
        have H' : Hid (∀ w : World, Calls Try.prog 63 #[.string (c.extract 1 c.size), .int .u64 1000] w fun e w' => e = .returned (.tuple #[.string ⟨#[]⟩, .int .i64 0, .bool false]) ∧ Below w.heap.size w w') := H
        clear H G hst hno hrs hf1 hr4
        go_wp2_with (go_at_call 63; refine (H'.out _).mono ?_; rintro e w1 ⟨rfl, hb1⟩; clear H')
        go_ret2
        rw [hz.out]
        have hb2 : Below wr.heap.size wr w1 := by assumption
        exact ⟨_, rfl, World.ownsRow_nil _ _ _ _, hnx.trans (hb2.mono hsz)⟩
      · obtain ⟨m, rfl⟩ : ∃ m : Nat, n = m := ⟨n.toNat, by omega⟩
        have H := takeText_yes (restOf c) hr4 1000 (by omega) m t (by omega) (by omega) (by omega) (by omega) G
        rw [ext_ext c t m (by omega)] at H
        have H' : Hid (∀ w : World, Calls Try.prog 63 #[.string (c.extract 1 c.size), .int .u64 1000] w fun e w' => e = .returned (.tuple #[.string (c.extract (1 + t) (1 + t + m)), .int .i64 ((t : Int) + m), .bool true]) ∧ Below w.heap.size w w') := H
        have e0 := get_bt c 0 h0
        have hb0 := bt_nonneg c 0
        have hb1 := bt_le c 0
        have htm : 1 + t + m ≤ c.size := by omega
        have hm1000 : m ≤ 1000 := by omega
        have ht1 : 1 ≤ t := by omega
        have hsl := slice_one (P := Try.prog) 9 Try.underlying9 c t m (by omega)
        clear H G hno hrs hf1 hr4
        have HG : Hid (rstep c = some ((bt c 0, c.extract (1 + t) (1 + t + m)), c.extract (1 + t + m) c.size)) := by
          unfold Hid; rw [hst.out, if_neg (by omega)]; simp
        clear hst
        go_wp2_with (first | (go_at_call 63; refine (H'.out _).mono ?_; rintro e w1 ⟨rfl, hb2⟩; clear H'; have hown1 := ownsRow_below hown hb2; have hs1 := hb2.size) | (at_builtin; refine wpList_append_own _ rfl _ _ 37 rfl w.heap.size 44 i0 (.agg #[.int .i64 0, .string ⟨#[]⟩]) 2 24 Try.underlying37 hi hz0 hz1 hz2 rfl (by decide) _ _ _ rfl (hown1.alloc _) ⟨w1.heap.size, 0, none⟩ 1 1 [.int .i64 (bt c 0), .string (c.extract (1 + t) (1 + t + m))] rfl rfl (by exact two_new _ _ _ _) (by intro u hu; simp at hu; rcases hu with rfl | rfl <;> rfl) (by unfold maxLen; omega) (by omega) (by simp; omega) ?_; intro v3 w3 hown3 hgrow3 _))
        have hbw : Below w.heap.size w w3 := Below.grown ((hnx.trans (hb2.mono hsz)).alloc (by omega) _) hgrow3 (by simp; omega) (ownsRow_block hown1)
        rw [sv_app M (bt c 0, c.extract (1 + t) (1 + t + m))] at hown3
        go_roundw
        case rel =>
          obtain ⟨g', rfl⟩ : ∃ g', f = g' + 1 := ⟨f - 1, by omega⟩
          refine ⟨g', c.extract (1 + t + m) c.size, M ++ [(bt c 0, c.extract (1 + t) (1 + t + m))], rfl, by simp only [ByteArray.size_extract]; omega, by simp only [ByteArray.size_extract]; omega, by simp; omega, ?_, ?_, by simpa using hown3, hbw⟩
          · have h5 := hrd.out
            rw [rdI_some (g' + 1) c (by omega) _ _ HG.out (by simp only [ByteArray.size_extract]; omega), Option.map_map] at h5
            unfold Hid
            rw [h5]
            congr 1
            funext K
            simp
          · intro x hx
            rcases List.mem_append.1 hx with hx | hx
            · exact hM4.out x hx
            · simp at hx; subst hx; simp only [ByteArray.size_extract]; omega
        case measure => simp only [ByteArray.size_extract]; omega
    · have hc0 : c.size = 0 := by omega
      have hfin : rdI 4001 s = some M := by rw [hrd.out, rdI_end f c hc0]; simp
      have hlenM : M.length ≤ 1048576 := by omega
      have hszM : ∀ i (h : i < M.length), M[i].2.size ≤ 1048576 := fun i h => by have := hM4.out _ (List.getElem_mem h); omega
      obtain ⟨a, cap, g, hv, ha, hL, _⟩ := owned_secs hown
      have HG := implGood a g 0 cap M wr ha hL hlenM hszM
      have hc0' : ((c.size : Int)) = 0 := by omega
      rw [hv]
      by_cases hg : secGood M = true
      · rw [hg] at HG
        have hres : Hid (rs (rdI 4001 s) = some M) := by unfold Hid; rw [hfin]; simp [rs, hg]
        have HO : Hid (wr.ownsRow w.heap.size 44 2 (.slice a M.length cap) M.length (sv M)) := by rw [← hv]; exact hown
        clear hv hown hfin
        go_wp2_with (go_at_call 61; refine HG.mono ?_; rintro e w1 ⟨rfl, hb1⟩; clear HG)
        go_ret2
        have hb2 : Below wr.heap.size wr w1 := by assumption
        rw [hres.out]
        exact ⟨_, rfl, ownsRow_below HO.out hb2, hnx.trans (hb2.mono hsz)⟩
      · have hg' : secGood M = false := by simpa using hg
        rw [hg'] at HG
        have hres : Hid (rs (rdI 4001 s) = none) := by unfold Hid; rw [hfin]; simp [rs, hg']
        clear hv hown hfin
        go_wp2_with (go_at_call 61; refine HG.mono ?_; rintro e w1 ⟨rfl, hb1⟩; clear HG)
        go_ret2
        have hb2 : Below wr.heap.size wr w1 := by assumption
        rw [hres.out]
        exact ⟨_, rfl, World.ownsRow_nil _ _ _ _, hnx.trans (hb2.mono hsz)⟩

end Go.Proofs.Ytnimlkobcginjaa
