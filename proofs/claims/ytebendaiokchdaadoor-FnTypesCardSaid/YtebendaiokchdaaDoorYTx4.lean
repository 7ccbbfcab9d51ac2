/-
  Texts of types: the program's side.
-/
import Derived.Test.YtebendaiokchdaaDoorYTx3
import Derived.Test.YtebendaiokchdaaDoorClone
import Derived.Test.YtebendaiokchdaaDoorQHeld
namespace Go.Proofs.YtebendaiokchdaaDoor
open Go.ChangeShapes Go.WideShapes Go.ChangeAt Go.RowKit

theorem bel_grow (w : World) (k : Nat) (os : Array Obj) : Below w.heap.size w (Go.Sort.grow (w.drewN k) os) := by
  refine ⟨rfl, rfl, rfl, ?_, fun j hj => ?_⟩
  · show w.heap.size ≤ (w.heap ++ os).size
    simp
  · show (w.heap ++ os)[j]? = w.heap[j]?
    exact Array.getElem?_append_left hj

/-- The library's powers of ten lie in memory. -/
def Pows (w : World) : Prop := Lib.TabIs Tryd.prog w "internal/strconv.uint64pow10" .u64 Lib.pow10Tab
theorem Pows.below {w w' : World} {B : Nat} (h : Pows w) (hb : Below B w w') (hB : w.heap.size ≤ B) : Pows w' := by
  unfold Pows Lib.TabIs World.var? at h ⊢
  have hg : Tryd.prog.globalNamed "internal/strconv.uint64pow10" = some 2 := by kernel_rfl
  rw [hg] at h ⊢
  simp only [Option.bind_some] at h ⊢
  have hl : 2 < w.heap.size := by
    rcases Nat.lt_or_ge 2 w.heap.size with h1 | h1
    · exact h1
    · rw [Array.getElem?_eq_none h1] at h; simp at h
  rw [hb.block _ (Nat.lt_of_lt_of_le hl hB)]
  exact h

theorem implItoa (u : Nat) (hu : u ≤ 300) (w : World) (hp : Pows w) : Calls Tryd.prog 22 #[.int .i64 (u : Int)] w fun e w' => e = .returned (.string (bsY (Lib.decDigits u))) ∧ Below w.heap.size w w' := by
  refine (Tryd.strconv_Itoa (u : Int) (by omega) (by omega) w hp).mono ?_
  rintro e w' ⟨rfl, k, os, rfl⟩
  refine ⟨?_, bel_grow w k os⟩
  have : Lib.itoa (u : Int) = Lib.decDigits u := by unfold Lib.itoa; rw [if_neg (by omega)]; rfl
  rw [this]
  rfl

def sv (l : List ByteArray) : List Value := l.map fun s => .string s
theorem sv_app (l m : List ByteArray) : sv l ++ sv m = sv (l ++ m) := by simp [sv]
theorem sv_len (l : List ByteArray) : (sv l).length = l.length := by simp [sv]
theorem sv_one (l : List ByteArray) : ∀ u ∈ sv l, u.oneCell' = true := by
  intro u hu; simp only [sv, List.mem_map] at hu; obtain ⟨b, _, rfl⟩ := hu; rfl
theorem Tryd.infoStr : (Tryd.prog.info? 9).map (fun i => (i.zero, i.size, i.bytes)) = some (some (.string ⟨#[]⟩), 1, 16) := by kernel_rfl

/-- The texts of a row, joined. -/
theorem implJoinS (B g n c : Nat) (xs : List ByteArray) (w : World) (hn : n = xs.length) (hrow : w.ownsRow B 9 1 (.slice (some ⟨g, 0, none⟩) n c) n (sv xs)) (hlen : (Lib.join (xs.map (·.data.toList)) [44]).length ≤ 1000) (hN : n ≤ 1000) (hc : n ≤ c) :
    Calls Tryd.prog 25 #[.slice (some ⟨g, 0, none⟩) n c, .string ⟨#[44]⟩] w fun e w' => e = .returned (.string (bsY (Lib.join (xs.map (·.data.toList)) [44]))) ∧ Below w.heap.size w w' := by
  subst hn
  obtain ⟨cu, hcu, _⟩ := own_at hrow (g := g) rfl
  refine (Tryd.strings_Join g 0 c xs ⟨#[44]⟩ w (fun j x hx => ?_) (lt_of_block hcu) (by omega) hc (by show (Lib.join (xs.map (·.data.toList)) [44]).length ≤ _; omega)).mono ?_
  · rw [Nat.zero_add]
    have hj : j < xs.length := by
      rcases Nat.lt_or_ge j xs.length with h | h
      · exact h
      · rw [List.getElem?_eq_none h] at hx; simp at hx
    rw [hrow.cellAt j (by omega)]
    simp [sv, hx]
  · rintro e w' ⟨rfl, hb⟩
    exact ⟨rfl, hb⟩

theorem map_data (l : List (List UInt8)) : (l.map bsY).map (·.data.toList) = l := by
  induction l with
  | nil => rfl
  | cons a r ih => simp only [List.map_cons, ih]; rfl

def TextI (L : List Nd) (f p e : Nat) : Prop := ∀ (w : World) (b off cap : Nat), b < w.heap.size → ndAt w b off (segL L p e) → Tabs w → Pows w →
  Calls Tryd.prog 12 #[.slice (some ⟨b, off, none⟩) (segL L p e).length cap] w fun r w' => r = .returned (.string (bsY (txt L f p))) ∧ Below w.heap.size w w'

theorem krow_most (i : Nat) (h : i < krow.length) : (withN (i : Int) = true → 0 < krow[i].2.2.2.2.1) ∧ (withN (i : Int) = false → krow[i].2.2.2.2.1 = 0) := by
  have H : ∀ j : Fin 22, (withN ((j.val : Nat) : Int) = true → 0 < krow[j].2.2.2.2.1) ∧ (withN ((j.val : Nat) : Int) = false → krow[j].2.2.2.2.1 = 0) := by decide +kernel
  exact H ⟨i, h⟩

/-- What is laid out of the table, and what it is. -/
theorem krow_cells {w : World} (hT : Tabs w) {L : List Nd} {p xn : Nat} (hx : kdAt L p = (xn : Int)) (hx22 : xn < krow.length) :
    ∃ (a1 a2 a3 a4 a5 a6 : Int), w.cell? ⟨0, xn * 7, none⟩ = some (.string (bsY (nm (kdAt L p)))) ∧ w.cell? ⟨0, xn * 7 + 1, none⟩ = some (.int .i64 a1) ∧ w.cell? ⟨0, xn * 7 + 2, none⟩ = some (.int .i64 a2) ∧
      w.cell? ⟨0, xn * 7 + 3, none⟩ = some (.int .i64 a3) ∧ w.cell? ⟨0, xn * 7 + 4, none⟩ = some (.int .i64 a4) ∧ w.cell? ⟨0, xn * 7 + 5, none⟩ = some (.int .i64 a5) ∧ w.cell? ⟨0, xn * 7 + 6, none⟩ = some (.int .i64 a6) ∧
      (withN (xn : Int) = true → 0 < a4) ∧ (withN (xn : Int) = false → a4 = 0) := by
  obtain ⟨_, hcs⟩ := hT
  obtain ⟨c0, c1, c2, c3, c4, c5, c6⟩ := hcs xn hx22
  obtain ⟨m1, m2⟩ := krow_most xn hx22
  rw [hx, nm_get xn hx22]
  exact ⟨_, _, _, _, _, _, c0, c1, c2, c3, c4, c5, c6, m1, m2⟩

set_option maxRecDepth 100000 in
set_option maxHeartbeats 6400000 in
theorem implText_num (L : List Nd) (hG : goodT L = true) (f p e : Nat) (he : isEnd L p e) (hw : withN (kdAt L p) = true) : TextI L (f + 1) p e := by
  intro w b off cap hb hL hT hP
  have hU := ups_good hG
  have hpl : p < L.length := by have h1 := he.1; have h2 := he.2.1; omega
  obtain ⟨⟨k1, k2⟩, k3, _⟩ := node_n hG hpl
  obtain ⟨n1, n2, hK0⟩ := k3 hw
  obtain ⟨xn, hxn⟩ : ∃ xn : Nat, kdAt L p = (xn : Int) := ⟨(kdAt L p).toNat, by omega⟩
  have hx22 : xn < krow.length := by have : krow.length = 22 := rfl
                                     omega
  obtain ⟨a1, a2, a3, a4, a5, a6, t0, t1, t2, t3, t4, t5, t6, m1, _⟩ := krow_cells hT hxn hx22
  have hlen := segL_len (L := L) he.1
  have hpe := he.1
  have hnl := nm_len (kdAt L p) (by omega) k2
  have c0 := (hL 0 (by omega)).1
  have c1 := (hL 0 (by omega)).2.1
  rw [segL_zero] at c0 c1
  simp only [Nat.zero_mul, Nat.add_zero] at c0 c1
  have hF : txt L (f + 1) p = nm (kdAt L p) ++ ([60] ++ Lib.decDigits (nAt L p).toNat ++ [62]) := by
    show nm (kdAt L p) ++ _ = _
    rw [if_neg (by omega), if_pos hw]
  rw [hF]
  obtain ⟨u, hu⟩ : ∃ u : Nat, nAt L p = (u : Int) := ⟨(nAt L p).toNat, by omega⟩
  rw [hxn] at hw
  have ha4 := m1 hw
  rw [hxn] at c0
  rw [hu] at c1 ⊢
  obtain ⟨NM, hNM⟩ : ∃ NM, nm (kdAt L p) = NM := ⟨_, rfl⟩
  rw [hNM] at t0 hnl ⊢
  have hdl := dec_len3 (u := u) (by omega)
  have HI := implItoa u (by omega)
  obtain ⟨R, hR⟩ : ∃ R, bsY (NM ++ ([60] ++ Lib.decDigits ((u : Int)).toNat ++ [62])) = R := ⟨_, rfl⟩
  have HR : Hid (bsY NM ++ ⟨#[60]⟩ ++ bsY (Lib.decDigits u) ++ ⟨#[62]⟩ = R) := by
    unfold Hid
    have e60 : (⟨#[60]⟩ : ByteArray) = bsY [60] := rfl
    have e62 : (⟨#[62]⟩ : ByteArray) = bsY [62] := rfl
    rw [← hR, e60, e62, bsY_app, bsY_app, bsY_app]
    simp
  rw [hR]
  have hnb : (bsY NM).size ≤ 7 := by rw [bsY_size]; exact hnl
  have hds : (bsY (Lib.decDigits u)).size ≤ 3 := by rw [bsY_size]; exact hdl
  have hjj : Hid (Lib.join ([bsY (Lib.decDigits u)].map (·.data.toList)) [44] = Lib.decDigits u) := by
    unfold Hid
    show Lib.join [Lib.decDigits u] [44] = _
    exact Lib.join_one _ _
  obtain ⟨n, hn⟩ : ∃ n, (segL L p e).length = n := ⟨_, rfl⟩
  have HPP := fun W (hbW : Below w.heap.size w W) => implParts L hU p e he b off cap W (Nat.lt_of_lt_of_le hb hbW.size) (hL.below hbW hb)
  rw [hn] at HPP
  have hn0 : (0 : Int) < n := by omega
  rw [hn]
  have hg := hT.1
  have hu300 : u ≤ 300 := by omega
  have hxi : (xn : Int) < 22 := by omega
  obtain ⟨NB, hNB⟩ : ∃ NB, bsY NM = NB := ⟨_, rfl⟩
  obtain ⟨DB, hDB⟩ : ∃ DB, bsY (Lib.decDigits u) = DB := ⟨_, rfl⟩
  rw [hNB] at t0 HR hnb
  rw [hDB] at HR HI hds hjj
  have hjl : Hid (Lib.decDigits u = DB.data.toList) := by unfold Hid; rw [← hDB]; rfl
  obtain ⟨s0, hs0, hs1, hs2, hs3⟩ := info_parts Tryd.infoStr
  have z1 : (NB ++ ⟨#[60]⟩).size = NB.size + 1 := by rw [ByteArray.size_append]; rfl
  have z2 : (NB ++ ⟨#[60]⟩ ++ DB).size = NB.size + 1 + DB.size := by rw [ByteArray.size_append, z1]
  have HP : Hid (Pows w) := hP
  have HPP2 : Hid (∀ W, Below w.heap.size w W → Calls Tryd.prog 23 #[.slice (some ⟨b, off, none⟩) n cap] W fun r w' => ∃ v, r = .returned v ∧ PartsAt L W.heap.size w'.heap.size w' p e v ∧ Below W.heap.size W w') := HPP
  have HK0 : Hid ((kidsOf L p).length = 0) := hK0
  have hwa := fun o => (Below.refl w.heap.size w).alloc (Nat.le_refl _) o
  have HI2 : Hid (∀ W, Pows W → Calls Tryd.prog 22 #[.int .i64 (u : Int)] W fun e w' => e = .returned (.string DB) ∧ Below W.heap.size W w') := HI
  clear hF hL hNM hNB hDB hu hxn hR hP HPP hK0 HI k3 m1 hn hlen hT
  go_enter Tryd.func12, Tryd.ntmps12
  go_wp2_with fail
  obtain ⟨zr, hzre⟩ : ∃ zr, w.heap.size = zr := ⟨_, rfl⟩
  obtain ⟨W0, hW0⟩ : ∃ W0, w.alloc (.cells #[.string NB, .int .i64 a1, .int .i64 a2, .int .i64 a3, .int .i64 a4, .int .i64 a5, .int .i64 a6] 57) = W0 := ⟨_, rfl⟩
  have hz0 : W0.heap[zr]? = some (.cells #[.string NB, .int .i64 a1, .int .i64 a2, .int .i64 a3, .int .i64 a4, .int .i64 a5, .int .i64 a6] 57 (0, 0)) := by rw [← hW0, ← hzre]; exact heap_alloc_new _ _
  have hw0 : Below w.heap.size w W0 := by rw [← hW0]; exact hwa _
  rw [hW0, hzre]
  clear hW0
  refine (HI2.out W0 (HP.out.below hw0 (Nat.le_refl _))).mono ?_
  rintro e1 w1 ⟨rfl, hb1⟩
  clear HI2
  have hz1 : w1.heap[zr]? = some (.cells #[.string NB, .int .i64 a1, .int .i64 a2, .int .i64 a3, .int .i64 a4, .int .i64 a5, .int .i64 a6] 57 (0, 0)) := (hb1.block zr (lt_of_block hz0)).trans hz0
  have hw1 : Below w.heap.size w w1 := below2 hw0 hb1
  have hs : w.heap.size ≤ w1.heap.size := hw1.size
  have hzl := lt_of_block hz1
  clear hb1 hw0 hz0
  go_wp2_with (at_builtin; refine wpList_append_own _ rfl _ _ 59 rfl (zr + 1) 9 s0 (.string ⟨#[]⟩) 1 16 Tryd.underlying59 hs0 hs1 hs2 hs3 rfl (by decide) _ _ _ rfl (World.ownsRow_nil _ _ _ _) ⟨w1.heap.size, 0, none⟩ 1 1 (sv [DB]) rfl rfl (one_new _ _ _ _ rfl) (sv_one _) (by unfold maxLen; omega) (by omega) (by simp; omega) ?_)
  intro v' w2 hown2 hgrow2 _
  have hz2 : w2.heap[zr]? = some (.cells #[.string NB, .int .i64 a1, .int .i64 a2, .int .i64 a3, .int .i64 a4, .int .i64 a5, .int .i64 a6] 57 (0, 0)) := by
    rw [hgrow2.block zr (by simp; omega) (by simp [Value.ownBlock])]
    exact (Below.heap_alloc _ _ _ hzl).trans hz1
  have hw2 : Below w.heap.size w w2 := (hw1.alloc hs _).grown hgrow2 (by simp; omega) (fun k hk => by simp [Value.ownBlock] at hk)
  clear hgrow2 hz1 hw1
  obtain ⟨gi, ci, rfl, hci⟩ := own_pos hown2 (by omega)
  go_wp2_with fail
  refine (HPP2.out w2 hw2).mono ?_
  rintro e2 w3 ⟨vp, rfl, hpa, hb3⟩
  clear HPP2
  obtain ⟨pa, pc, rfl, _⟩ := hpa
  rw [HK0.out]
  have hzr : w3.heap[zr]? = some (.cells #[.string NB, .int .i64 a1, .int .i64 a2, .int .i64 a3, .int .i64 a4, .int .i64 a5, .int .i64 a6] 57 (0, 0)) := (hb3.block zr (lt_of_block hz2)).trans hz2
  have hw3 : Below w.heap.size w w3 := below2 hw2 hb3
  have hown3 : w3.ownsRow (zr + 1) 9 1 (.slice (some ⟨gi, 0, none⟩) (0 + 1) ci) (0 + 1) (sv [DB]) := own_keep hown2 fun k hk => by
    obtain ⟨cu, hcu, _⟩ := own_at hown2 hk
    exact hb3.block k (lt_of_block hcu)
  clear hb3 hz2 hw2 hown2
  go_wp2
  go_loopw [4, 27] (fun v i wr => v = .slice (some ⟨gi, 0, none⟩) 1 ci ∧ i = .int .i64 0 ∧ wr = w3) (fun _ _ _ => 0)
  case atStart => exact ⟨rfl, rfl, rfl⟩
  case round =>
    obtain ⟨rfl, rfl, hwr⟩ := hrel
    obtain rfl := hwr.symm
    go_wp2_with fail
    have HJC := (show Calls Tryd.prog 25 #[.slice (some ⟨gi, 0, none⟩) 1 ci, .string ⟨#[44]⟩] w3.drew fun e w' => e = .returned (.string DB) ∧ Below w3.drew.heap.size w3.drew w' from by
      have h := implJoinS (zr + 1) gi 1 ci [DB] w3.drew rfl hown3 (by rw [hjj.out]; have := dec_len3 (u := u) (by omega); omega) (by omega) (by omega)
      rw [hjj.out, hjl.out] at h
      exact h)
    refine wh_begin (fun w' => w'.heap[zr]? = some (.cells #[.string NB, .int .i64 a1, .int .i64 a2, .int .i64 a3, .int .i64 a4, .int .i64 a5, .int .i64 a6] 57 (0, 0))) (by kernel_rfl) ?_
    refine wh_take 0 (some 43) (.pointer (some ⟨zr, 0, none⟩)) rfl rfl (by kernel_rfl) (by kernel_rfl) (by kernel_rfl) (fun _ _ _ h => h) hzr (by rfl) (fun w' hS => by first | rfl | (go_simp; done) | (go_simp; omega)) ?_
    simp only [Act.put, List.setIfInBounds_toArray, List.set_cons_zero, List.set_cons_succ]
    refine wh_take 1 (some 44) (.string NB) rfl rfl (by kernel_rfl) (by kernel_rfl) (by kernel_rfl) (fun _ _ _ h => h) hzr (by rfl) (fun w' hS => by have q := (cell_of_block hS 0).trans rfl; first | rfl | (go_simp; done) | (go_simp; omega)) ?_
    simp only [Act.put, List.setIfInBounds_toArray, List.set_cons_zero, List.set_cons_succ]
    refine wh_take 2 (some 45) (.string (NB ++ ⟨#[60]⟩)) rfl rfl (by kernel_rfl) (by kernel_rfl) (by kernel_rfl) (fun _ _ _ h => h) hzr (by rfl) (fun w' hS => by first | rfl | (go_simp; done) | (go_simp; omega)) ?_
    simp only [Act.put, List.setIfInBounds_toArray, List.set_cons_zero, List.set_cons_succ]
    refine wh_take 3 (some 46) (.slice (some ⟨gi, 0, none⟩) 1 ci) rfl rfl (by kernel_rfl) (by kernel_rfl) (by kernel_rfl) (fun _ _ _ h => h) hzr (by rfl) (fun w' hS => by first | rfl | (go_simp; done) | (go_simp; omega)) ?_
    simp only [Act.put, List.setIfInBounds_toArray, List.set_cons_zero, List.set_cons_succ]
    refine wh_call 4 (some 47) 25 #[.slice (some ⟨gi, 0, none⟩) 1 ci, .string ⟨#[44]⟩] (by kernel_rfl) rfl rfl (by rfl) (by kernel_rfl) ?_
    refine HJC.mono ?_
    rintro e9 W9 ⟨rfl, hb9⟩
    clear HJC
    have hz9 : W9.heap[zr]? = some (.cells #[.string NB, .int .i64 a1, .int .i64 a2, .int .i64 a3, .int .i64 a4, .int .i64 a5, .int .i64 a6] 57 (0, 0)) := (hb9.block zr (lt_of_block hzr)).trans hzr
    refine ⟨_, rfl, hz9, ?_⟩
    simp only [Act.put, List.setIfInBounds_toArray, List.set_cons_zero, List.set_cons_succ]
    refine wh_take 5 (some 48) (.string (NB ++ ⟨#[60]⟩ ++ DB)) rfl rfl (by kernel_rfl) (by kernel_rfl) (by kernel_rfl) (fun _ _ _ h => h) hz9 (by rfl) (fun w' hS => by first | rfl | (go_simp; done) | (go_simp; omega)) ?_
    simp only [Act.put, List.setIfInBounds_toArray, List.set_cons_zero, List.set_cons_succ]
    refine wh_take 6 (some 49) (.string (NB ++ ⟨#[60]⟩ ++ DB ++ ⟨#[62]⟩)) rfl rfl (by kernel_rfl) (by kernel_rfl) (by kernel_rfl) (fun _ _ _ h => h) hz9 (by rfl) (fun w' hS => by first | rfl | (go_simp; done) | (go_simp; omega)) ?_
    simp only [Act.put, List.setIfInBounds_toArray, List.set_cons_zero, List.set_cons_succ]
    refine wh_val 7 (some 2) (.string (NB ++ ⟨#[60]⟩ ++ DB ++ ⟨#[62]⟩)) W9 (by kernel_rfl) rfl rfl (by rfl) (by first | rfl | (go_simp; done)) hz9 ?_
    simp only [Act.put, List.setIfInBounds_toArray, List.set_cons_zero, List.set_cons_succ]
    refine wh_done (by kernel_rfl) ?_
    have hfin : Below w.heap.size w W9 := below2 hw3 ⟨hb9.os, hb9.tape, hb9.output, hb9.size, hb9.block⟩
    clear hb9 hz9 hzr
    go_wp2
    go_ret
    exact ⟨by rw [← HR.out]; rfl, hfin⟩

end Go.Proofs.YtebendaiokchdaaDoor
