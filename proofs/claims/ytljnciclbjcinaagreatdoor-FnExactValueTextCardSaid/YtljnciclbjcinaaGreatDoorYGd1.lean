/-
  Nodes of types: their shapes, their parts, which are good alone.
-/
import Derived.Test.YtljnciclbjcinaaGreatDoorYTab
import Derived.Test.YtljnciclbjcinaaGreatDoorCStack
import Derived.Test.YtljnciclbjcinaaGreatDoorBel
import Derived.Test.YtljnciclbjcinaaGreatDoorKeep
import Derived.Test.YtljnciclbjcinaaGreatDoorIn
namespace Go.Proofs.YtljnciclbjcinaaGreatDoor
open Go.ChangeShapes Go.WideShapes Go.ChangeAt Go.RowKit

set_option maxRecDepth 100000 in
set_option maxHeartbeats 1600000 in
theorem specShape4 (kind : Int) (w : World) :
    Calls Tryz.prog 49 #[.int .i64 kind] w fun e w' => e = .returned (.tuple #[.int .i64 (shp4 kind).1, .int .i64 (shp4 kind).2.1, .int .i64 (shp4 kind).2.2.1, .int .i64 (shp4 kind).2.2.2]) ∧ w' = w := by
  by_cases h : kind ∈ [(13 : Int), 14, 15, 16, 17, 18, 19, 20, 21]
  · simp only [List.mem_cons, List.not_mem_nil, or_false] at h
    rcases h with rfl | rfl | rfl | rfl | rfl | rfl | rfl | rfl | rfl
    all_goals
      go_enter Tryz.func49, Tryz.ntmps49
      go_wp2
      refine bodyPost_ret ?_ rfl ⟨rfl, rfl⟩
      simp [results, Tryz.results49, go_sem, shp4]
  · simp only [List.mem_cons, List.not_mem_nil, or_false, not_or] at h
    obtain ⟨h13, h14, h15, h16, h17, h18, h19, h20, h21⟩ := h
    have e : Hid (shp4 kind = (0, 0, 0, 0)) := by
      unfold Hid shp4
      rw [if_neg (by omega), if_neg (by omega), if_neg (by omega), if_neg (by omega), if_neg (by omega), if_neg (by omega)]
    have e13 : (kind == 13) = false := by simpa using h13
    have e14 : (kind == 14) = false := by simpa using h14
    have e15 : (kind == 15) = false := by simpa using h15
    have e16 : (kind == 16) = false := by simpa using h16
    have e17 : (kind == 17) = false := by simpa using h17
    have e18 : (kind == 18) = false := by simpa using h18
    have e19 : (kind == 19) = false := by simpa using h19
    have e20 : (kind == 20) = false := by simpa using h20
    have e21 : (kind == 21) = false := by simpa using h21
    rw [e.out]
    go_enter Tryz.func49, Tryz.ntmps49
    go_wp2
    refine bodyPost_ret ?_ rfl ⟨rfl, rfl⟩
    simp [results, Tryz.results49, go_sem]

theorem nv_one (l : List Nat) : ∀ u ∈ nv l, u.oneCell' = true := by
  intro u hu; simp only [nv, List.mem_map] at hu; obtain ⟨b, _, rfl⟩ := hu; rfl
theorem Tryz.infoY : (Tryz.prog.info? 3).map (fun i => (i.zero, i.size, i.bytes)) = some (some (.int .i64 0), 1, 8) := by kernel_rfl

def kidsTo (L : List Nd) (k m : Nat) : List Nat := (List.range m).filter fun i => decide (k < i) && decide (upAt L i = (k : Int))
theorem kidsTo_start (L : List Nd) (k : Nat) : kidsTo L k (k + 1) = [] := by
  unfold kidsTo
  rw [List.filter_eq_nil_iff]
  intro a ha
  have := List.mem_range.1 ha
  have : ¬ k < a := by omega
  simp [this]
theorem kidsTo_yes (L : List Nd) (k m : Nat) (h : k < m) (hu : upAt L m = (k : Int)) : kidsTo L k (m + 1) = kidsTo L k m ++ [m] := by
  unfold kidsTo
  rw [List.range_succ, List.filter_append]
  simp [h, hu]
theorem kidsTo_no (L : List Nd) (k m : Nat) (hu : ¬ upAt L m = (k : Int)) : kidsTo L k (m + 1) = kidsTo L k m := by
  unfold kidsTo
  rw [List.range_succ, List.filter_append]
  simp [hu]
theorem kidsTo_len (L : List Nd) (k m : Nat) : (kidsTo L k m).length ≤ m := by
  unfold kidsTo
  exact Nat.le_trans (List.length_filter_le ..) (by simp)
theorem upAt_get (L : List Nd) (k : Nat) (h : k < L.length) : upAt L k = L[k].2.2 := by
  unfold upAt; rw [List.getD_eq_getElem?_getD, List.getElem?_eq_getElem h]; rfl

set_option maxRecDepth 100000 in
set_option maxHeartbeats 1600000 in
theorem specParts (b off cap : Nat) (L : List Nd) (w : World) (hb : b < w.heap.size) (hL : Hid (ndAt w b off L)) (hlen : L.length ≤ 1048576) (k : Nat) (hk : k < L.length) :
    Calls Tryz.prog 42 #[.slice (some ⟨b, off, none⟩) L.length cap, .int .i64 (k : Int)] w fun e w' => ∃ v, e = .returned v ∧ w'.ownsRow w.heap.size 3 1 v (kidsOf L k).length (nv (kidsOf L k)) ∧ Below w.heap.size w w' := by
  obtain ⟨i0, hi, hz0, hz1, hz2⟩ := info_parts Tryz.infoY
  go_enter Tryz.func42, Tryz.ntmps42
  go_wp2
  go_loopw [5, 6] (fun v i wr => ∃ m : Nat, k + 1 ≤ m ∧ m ≤ L.length ∧ i = .int .i64 (m : Int) ∧ wr.ownsRow w.heap.size 3 1 v (kidsTo L k m).length (nv (kidsTo L k m)) ∧ Below w.heap.size w wr) (fun _ i _ => L.length - (intOf i).toNat)
  case atStart => exact ⟨k + 1, by omega, by omega, by go_num, by rw [kidsTo_start]; exact World.ownsRow_nil _ _ _ _, Below.refl _ _⟩
  case round =>
    obtain ⟨m, hm1, hm2, rfl, hown, hnx⟩ := hrel
    have hsz := hnx.size
    by_cases hlt : m < L.length
    · have hc := (hL.out m hlt).2.2
      have HU : Hid (upAt L m = L[m].2.2) := upAt_get L m hlt
      obtain ⟨u, hu⟩ : ∃ u, u = L[m].2.2 := ⟨_, rfl⟩
      rw [← hu] at hc HU
      clear hu
      have hc0 : wr.cell? ⟨b, off + m * 3 + 2, none⟩ = some (.int .i64 u) := (hnx.cell (by exact hb)).trans hc
      clear hc
      have hkl := kidsTo_len L k m
      by_cases he : u = (k : Int)
      · have e1 : (u == (k : Int)) = true := by simpa using he
        have HK := kidsTo_yes L k m (by omega) (HU.out.trans he)
        have HK2 : Hid (kidsTo L k (m + 1) = kidsTo L k m ++ [m]) := HK
        clear HK
        go_wp2_with (at_builtin; refine wpList_append_own _ rfl _ _ 90 rfl (w.heap.size) 3 i0 (.int .i64 0) 1 8 Tryz.underlying90 hi hz0 hz1 hz2 rfl (by decide) _ _ _ rfl (hown.alloc _) ⟨wr.heap.size, 0, none⟩ 1 1 (nv [m]) rfl rfl (cell_one_new _ _ _) (nv_one _) (by unfold maxLen; omega) (by omega) (by simp; omega) ?_)
        intro v' w2 hown' hgrow' _
        rw [nv_app, ← HK2.out] at hown'
        have hb2 : Below w.heap.size w w2 := (hnx.alloc hsz _).grown hgrow' (by simp; omega) (ownsRow_block hown)
        have hl2 : (kidsTo L k m).length + 1 = (kidsTo L k (m + 1)).length := by rw [HK2.out]; simp
        rw [hl2] at hown'
        clear hgrow' hown hl2
        go_wp2
        go_roundw
        case rel => exact ⟨m + 1, by omega, by omega, by go_num, hown', hb2⟩
        case measure => simp [intOf]; omega
      · have e1 : (u == (k : Int)) = false := by simpa using he
        have HK2 : Hid (kidsTo L k (m + 1) = kidsTo L k m) := kidsTo_no L k m (fun h => he (HU.out.symm.trans h))
        go_wp2
        go_roundw
        case rel => exact ⟨m + 1, by omega, by omega, by go_num, by rw [HK2.out]; exact hown, hnx⟩
        case measure => simp [intOf]; omega
    · obtain rfl : m = L.length := by omega
      go_wp2
      go_ret
      exact ⟨_, rfl, hown, hnx⟩

theorem krow_shp (i : Nat) (h : i < krow.length) : krow[i].2.1 = (shp4 i).1 ∧ krow[i].2.2.1 = (shp4 i).2.1 ∧ krow[i].2.2.2.1 = (shp4 i).2.2.1 ∧ krow[i].2.2.2.2.1 = (shp4 i).2.2.2 := by
  have H : ∀ j : Fin 22, krow[j].2.1 = (shp4 (j.val : Int)).1 ∧ krow[j].2.2.1 = (shp4 (j.val : Int)).2.1 ∧ krow[j].2.2.2.1 = (shp4 (j.val : Int)).2.2.1 ∧ krow[j].2.2.2.2.1 = (shp4 (j.val : Int)).2.2.2 := by decide +kernel
  exact H ⟨i, h⟩

set_option maxRecDepth 100000 in
set_option maxHeartbeats 1600000 in
theorem implNode (x y z c : Int) (w : World) (hT : Hid (Tabs w)) :
    Calls Tryz.prog 76 #[.agg #[.int .i64 x, .int .i64 y, .int .i64 z], .int .i64 c] w fun e w' => e = .returned (.bool (nodeOk (x, y, z) c)) ∧ Below w.heap.size w w' := by
  obtain ⟨r, hr⟩ : ∃ r, Hid (nodeOk (x, y, z) c = r) := ⟨_, rfl⟩
  rw [hr.out]
  have hr' := hr.out
  by_cases h1 : x < 1
  · obtain rfl : r = false := by rw [← hr']; unfold nodeOk; simp; omega
    clear hr'
    go_enter Tryz.func76, Tryz.ntmps76
    go_wp2
    go_ret
    refine ⟨rfl, ?_⟩
    (repeat (first | refine Below.alloc ?_ (by first | (simp; done) | (simp; omega)) _ | refine Below.setCell ?_ (by first | (simp; done) | (simp; omega)) _ | refine bel_dN ?_ _ | refine Below.drew ?_ | exact Below.refl _ _))
  · by_cases h2 : 21 < x
    · obtain rfl : r = false := by rw [← hr']; unfold nodeOk; simp; omega
      clear hr'
      go_enter Tryz.func76, Tryz.ntmps76
      go_wp2
      go_ret
      refine ⟨rfl, ?_⟩
      (repeat (first | refine Below.alloc ?_ (by first | (simp; done) | (simp; omega)) _ | refine Below.setCell ?_ (by first | (simp; done) | (simp; omega)) _ | refine bel_dN ?_ _ | refine Below.drew ?_ | exact Below.refl _ _))
    · obtain ⟨k, hk⟩ : ∃ k : Nat, x = (k : Int) := ⟨x.toNat, by omega⟩
      subst hk
      have hk22 : k < krow.length := by have : krow.length = 22 := rfl
                                        omega
      obtain ⟨hg, hcs⟩ := hT.out
      obtain ⟨c0, c1, c2, c3, c4, c5, c6⟩ := hcs k hk22
      obtain ⟨s1, s2, s3, s4⟩ := krow_shp k hk22
      rw [s1] at c1
      rw [s2] at c2
      rw [s3] at c3
      rw [s4] at c4
      obtain ⟨a1, ha1⟩ : ∃ a, a = (shp4 k).1 := ⟨_, rfl⟩
      obtain ⟨a2, ha2⟩ : ∃ a, a = (shp4 k).2.1 := ⟨_, rfl⟩
      obtain ⟨a3, ha3⟩ : ∃ a, a = (shp4 k).2.2.1 := ⟨_, rfl⟩
      obtain ⟨a4, ha4⟩ : ∃ a, a = (shp4 k).2.2.2 := ⟨_, rfl⟩
      rw [← ha1] at c1
      rw [← ha2] at c2
      rw [← ha3] at c3
      rw [← ha4] at c4
      obtain ⟨nm, hnm⟩ : ∃ a, a = krow[k].1.toArray := ⟨_, rfl⟩
      obtain ⟨a5, ha5⟩ : ∃ a, a = krow[k].2.2.2.2.2.1 := ⟨_, rfl⟩
      obtain ⟨a6, ha6⟩ : ∃ a, a = krow[k].2.2.2.2.2.2 := ⟨_, rfl⟩
      rw [← hnm] at c0
      rw [← ha5] at c5
      rw [← ha6] at c6
      have hr2 : (decide (a1 ≤ c) && decide (c ≤ a2) && decide (a3 ≤ y) && decide (y ≤ a4)) = r := by
        rw [← hr']; unfold nodeOk; simp only [← ha1, ← ha2, ← ha3, ← ha4]
        have e1 : decide ((1 : Int) ≤ k) = true := by simp; omega
        have e2 : decide ((k : Int) ≤ 21) = true := by simp; omega
        rw [e1, e2]; simp
      have hr3 : Hid ((decide (a1 ≤ c) && decide (c ≤ a2) && decide (a3 ≤ y) && decide (y ≤ a4)) = r) := hr2
      clear hr2 hr' hnm ha1 ha2 ha3 ha4 ha5 ha6 s1 s2 s3 s4 hcs hT hr
      have hk21 : (k : Int) < 22 := by omega
      obtain ⟨q1, hq1⟩ : ∃ q, decide (a1 ≤ c) = q := ⟨_, rfl⟩
      obtain ⟨q2, hq2⟩ : ∃ q, decide (c ≤ a2) = q := ⟨_, rfl⟩
      obtain ⟨q3, hq3⟩ : ∃ q, decide (a3 ≤ y) = q := ⟨_, rfl⟩
      obtain ⟨q4, hq4⟩ : ∃ q, decide (y ≤ a4) = q := ⟨_, rfl⟩
      have hr4 : Hid ((q1 && q2 && q3 && q4) = r) := by rw [← hq1, ← hq2, ← hq3, ← hq4]; exact hr3.out
      clear hr3
      cases q1 <;> cases q2 <;> cases q3
      all_goals
        go_enter Tryz.func76, Tryz.ntmps76
        go_wp2
        go_ret
        refine ⟨by rw [← hr4.out]; rfl, ?_⟩
        (repeat (first | refine Below.alloc ?_ (by first | (simp; done) | (simp; omega)) _ | refine Below.setCell ?_ (by first | (simp; done) | (simp; omega)) _ | refine bel_dN ?_ _ | refine Below.drew ?_ | exact Below.refl _ _))

end Go.Proofs.YtljnciclbjcinaaGreatDoor
