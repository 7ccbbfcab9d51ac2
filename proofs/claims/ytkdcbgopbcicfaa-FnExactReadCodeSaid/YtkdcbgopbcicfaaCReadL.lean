/-
  Reading code: the program's own side.
-/
import Derived.Test.YtkdcbgopbcicfaaCTake
import Derived.Test.YtkdcbgopbcicfaaCCode
namespace Go.Proofs.Ytkdcbgopbcicfaa
open Go.ChangeShapes Go.WideShapes Go.ChangeAt Go.RowKit Go.PlainAid

/-- Instructions as the values of their cells. -/
def pv (L : List (Int × Int)) : List Value := L.flatMap fun x => [.int .i64 x.1, .int .i64 x.2]
theorem pv_app (L : List (Int × Int)) (x : Int × Int) : pv L ++ [.int .i64 x.1, .int .i64 x.2] = pv (L ++ [x]) := by simp [pv]
theorem pv_len (L : List (Int × Int)) : (pv L).length = L.length * 2 := by
  induction L with
  | nil => rfl
  | cons x r ih => have e : pv (x :: r) = .int .i64 x.1 :: .int .i64 x.2 :: pv r := by simp [pv]
                   rw [e, List.length_cons, List.length_cons, ih, List.length_cons]; omega
theorem pv_get (L : List (Int × Int)) : ∀ i (h : i < L.length), (pv L)[i * 2]? = some (.int .i64 L[i].1) ∧ (pv L)[i * 2 + 1]? = some (.int .i64 L[i].2) := by
  induction L with
  | nil => intro i h; simp at h
  | cons x r ih =>
    intro i h
    have e : pv (x :: r) = .int .i64 x.1 :: .int .i64 x.2 :: pv r := by simp [pv]
    rw [e]
    cases i with
    | zero => simp
    | succ i =>
      have := ih i (by simpa using h)
      rw [show (i + 1) * 2 = i * 2 + 1 + 1 by omega]
      simpa using this
theorem owned_ins {w : World} {B : Nat} {e : TypeId} {v : Value} {L : List (Int × Int)} (h : w.ownsRow B e 2 v L.length (pv L)) :
    ∃ a cap g, v = .slice a L.length cap ∧ (L ≠ [] → a = some ⟨g, 0, none⟩ ∧ g < w.heap.size) ∧ insAt w g 0 L ∧ (L ≠ [] → B ≤ g) := by
  rcases h.2 with ⟨rfl, h0⟩ | ⟨g, cap, cur, rfl, hg, hh, _, _, _, htake⟩
  · obtain rfl : L = [] := List.length_eq_zero_iff.1 h0
    exact ⟨none, 0, 0, rfl, fun h => absurd rfl h, fun i hi => absurd hi (by simp), fun h => absurd rfl h⟩
  · refine ⟨some ⟨g, 0, none⟩, cap, g, rfl, fun _ => ⟨rfl, lt_of_block hh⟩, fun i hi => ?_, fun _ => hg⟩
    have h1 := h.cellAt (i * 2) (by omega)
    have h2 := h.cellAt (i * 2 + 1) (by omega)
    have h3 := pv_get L i hi
    rw [Nat.zero_add, h1, h2]
    exact h3
theorem two_new (w : World) (x y : Value) (t : TypeId) : ∀ j u, [x, y][j]? = some u → (w.alloc (.cells #[x, y] t)).cell? ((⟨w.heap.size, 0, none⟩ : Addr).add j) = some u := by
  intro j u hj
  match j, hj with
  | 0, hj => simp at hj; subst hj; simp [Addr.add]
  | 1, hj => simp at hj; subst hj; simp [Addr.add]

/-- What one more round of reading says of the whole. -/
theorem rc_no {s : ByteArray} {f p n : Nat} {M : List (Int × Int)} (h : rc s = (rdc s (f + 1) p n).map (M ++ ·)) (hp : ¬ s.size ≤ p) (e : stp s p = none) : rc s = none := by
  rw [h, rdc_none s f p n hp e]; rfl
theorem rc_full {s : ByteArray} {f p n : Nat} {M : List (Int × Int)} (h : rc s = (rdc s (f + 1) p n).map (M ++ ·)) (hp : ¬ s.size ≤ p) (e : n = 200) : rc s = none := by
  subst e; rw [h, rdc_full s f p hp]; rfl
theorem rc_go {s : ByteArray} {f p n t : Nat} {M : List (Int × Int)} {x : Int × Int} (h : rc s = (rdc s (f + 1) p n).map (M ++ ·)) (hp : ¬ s.size ≤ p) (e : stp s p = some (x, t)) (hn : n ≠ 200) : rc s = (rdc s f (p + t) (n + 1)).map ((M ++ [x]) ++ ·) := by
  rw [h, rdc_some s f p n t x hp e hn, Option.map_map]
  congr 1
  funext K
  simp
theorem rc_end {s : ByteArray} {f p n : Nat} {M : List (Int × Int)} (h : rc s = (rdc s (f + 1) p n).map (M ++ ·)) (hp : s.size ≤ p) : rc s = some M := by
  rw [h, rdc_end s f p n hp]; simp

/-- One instruction taken of the rest of the bytes. -/
theorem takeIns_eq (s : ByteArray) (hs : s.size ≤ 1048576) (p : Nat) (hp : p < s.size) :
    (stp s p = none ∧ ∀ w : World, Calls Try.prog 37 #[.string (s.extract p s.size)] w fun e w' => e = .returned (.tuple #[.agg #[.int .i64 0, .int .i64 0], .int .i64 0]) ∧ Below w.heap.size w w') ∨
    ∃ (op a : Int) (t : Nat), stp s p = some ((op, a), 1 + t) ∧ ∀ w : World, Calls Try.prog 37 #[.string (s.extract p s.size)] w fun e w' => e = .returned (.tuple #[.agg #[.int .i64 op, .int .i64 a], .int .i64 (1 + (t : Int))]) ∧ Below w.heap.size w w' := by
  have hsz : (s.extract p s.size).size = s.size - p := by simp [ByteArray.size_extract]
  have h0 : 0 < (s.extract p s.size).size := by omega
  have hbt : bt (s.extract p s.size) 0 = bt s p := by rw [bt_ext]; rfl
  have hlo := bt_nonneg s p
  have hhi := bt_le s p
  have O := operandOf_eq (bt s p)
  obtain ⟨r, hr⟩ : ∃ r, s.extract (p + 1) s.size = r := ⟨_, rfl⟩
  have hrr : (s.extract p s.size).extract 1 (s.extract p s.size).size = r := (ext_ext s p 1).trans hr
  have hrs : r.size ≤ 1048576 := by rw [← hr]; simp [ByteArray.size_extract]; omega
  have TO := takeOperand_eq r hrs (shp (bt s p)) (shp_one _)
  have hf := tk_facts r (shp (bt s p))
  have hst : stp s p = if ((tk r (shp (bt s p))).2.2 && gi (bt s p) (tk r (shp (bt s p))).1) = true then some ((bt s p, (tk r (shp (bt s p))).1), 1 + (tk r (shp (bt s p))).2.1) else none := by rw [← hr]; rfl
  have GI := implGoodIns (bt s p) (tk r (shp (bt s p))).1 hf.2.2.1 hf.2.2.2
  generalize tk r (shp (bt s p)) = q at TO hf hst GI
  rw [← hrr] at TO hf
  obtain ⟨a, t, ok⟩ := q
  simp only at TO hf hst GI
  generalize opv (shp (bt s p)) = ov at O TO
  generalize bt s p = op at *
  generalize gi op a = g at *
  cases ok
  · exact Or.inl ⟨by rw [hst]; rfl, fun w => takeIns_none _ op a t ov h0 hbt hlo hhi (by omega) O TO w⟩
  · cases g
    · exact Or.inl ⟨by rw [hst]; rfl, fun w => takeIns_bad _ op a t ov h0 hbt hlo hhi (by omega) O TO GI w⟩
    · exact Or.inr ⟨op, a, t, by rw [hst]; rfl, fun w => takeIns_good _ op a t ov h0 hbt hlo hhi (by omega) O TO GI w⟩

set_option maxRecDepth 100000 in
set_option maxHeartbeats 1600000 in
theorem implRead (s : ByteArray) (hs : s.size ≤ 1048576) (w : World) :
    Calls Try.prog 17 #[.string s] w fun e w' => ∃ v, e = .returned (.tuple #[v, .bool (rc s).isSome]) ∧ w'.ownsRow w.heap.size 25 2 v ((rc s).getD []).length (pv ((rc s).getD [])) ∧ Below w.heap.size w w' := by
  obtain ⟨i0, hi, hz0, hz1, hz2⟩ := info_parts Try.info25
  go_enter Try.func17, Try.ntmps17
  go_wp2
  go_loopw [0, 4] (fun cv v wr => ∃ (p f : Nat) (c : ByteArray) (M : List (Int × Int)), cv = .string c ∧ Hid (c = s.extract p s.size) ∧ c.size + p = s.size ∧ p ≤ s.size ∧ s.size ≤ p + f ∧ M.length ≤ 200 ∧ Hid (rc s = (rdc s (f + 1) p M.length).map (M ++ ·)) ∧ wr.ownsRow w.heap.size 25 2 v M.length (pv M) ∧ Below w.heap.size w wr) (fun cv _ _ => match cv with | .string c => c.size | _ => 0)
  case atStart => exact ⟨0, s.size, s, [], rfl, (ext_zero s).symm, by omega, by omega, by omega, by simp, by unfold Hid rc; simp, World.ownsRow_nil _ _ _ _, Below.refl _ _⟩
  case round =>
    obtain ⟨p, f, c, M, rfl, hc, hcs, hps, hpf, hM2, hrd, hown, hnx⟩ := hrel
    have hsz := hnx.size
    by_cases hp : p < s.size
    · have hp' : ¬ s.size ≤ p := by omega
      have h0 : 0 < c.size := by omega
      rcases takeIns_eq s hs p hp with ⟨hst, T⟩ | ⟨op, a, t, hst, T⟩
      · rw [← hc.out] at T
        have hz : Hid (rc s = none) := rc_no hrd.out hp' hst
        have HT : Hid (∀ w : World, Calls Try.prog 37 #[.string c] w fun e w' => e = .returned (.tuple #[.agg #[.int .i64 0, .int .i64 0], .int .i64 0]) ∧ Below w.heap.size w w') := T
        clear T hst hrd hown
        go_wp2_with (go_at_call 37; refine (HT.out _).mono ?_; rintro e w1 ⟨rfl, hb1⟩; clear HT)
        go_ret2
        rw [hz.out]
        exact ⟨_, rfl, World.ownsRow_nil _ _ _ _, bel_alloc (below2 hnx hb1) _⟩
      · have hfit := stp_fits hp hst
        rw [← hc.out] at T
        have HT : Hid (∀ w : World, Calls Try.prog 37 #[.string c] w fun e w' => e = .returned (.tuple #[.agg #[.int .i64 op, .int .i64 a], .int .i64 (1 + (t : Int))]) ∧ Below w.heap.size w w') := T
        have ht0 : ((1 : Int) + (t : Int) == 0) = false := by simp; omega
        clear T
        by_cases h2 : M.length = 200
        · have hz : Hid (rc s = none) := rc_full hrd.out hp' h2
          have h2' : ((M.length : Int) == 200) = true := by simp; omega
          obtain ⟨av, cap, gg, hv, _⟩ := owned_ins hown
          rw [hv]
          clear hst hrd hown hfit hv h2 hM2
          go_wp2_with (go_at_call 37; refine (HT.out _).mono ?_; rintro e w1 ⟨rfl, hb1⟩; clear HT)
          go_ret2
          rw [hz.out]
          exact ⟨_, rfl, World.ownsRow_nil _ _ _ _, bel_alloc (below2 hnx hb1) _⟩
        · have h2' : ((M.length : Int) == 200) = false := by simp; omega
          have hz : Hid (rc s = (rdc s f (p + (1 + t)) (M.length + 1)).map ((M ++ [(op, a)]) ++ ·)) := rc_go hrd.out hp' hst h2
          obtain ⟨av, cap, gg, hv, _⟩ := owned_ins hown
          have hsl : ∀ wx : World, (Instr.slice 9 (.string c) (some (.int .i64 (1 + (t : Int)))) none none).run Try.prog wx = .ok (.string (c.extract (1 + t) c.size)) wx := fun wx => by
            have H := slice_from (P := Try.prog) 9 Try.underlying9 c (1 + t) (by omega) wx
            rw [show (((1 + t : Nat)) : Int) = 1 + (t : Int) by omega] at H
            exact H
          have hext : Hid (c.extract (1 + t) c.size = s.extract (p + (1 + t)) s.size) := by unfold Hid; rw [hc.out]; exact ext_ext s p (1 + t)
          have hexs : Hid ((c.extract (1 + t) c.size).size + (p + (1 + t)) = s.size) := by unfold Hid; simp only [ByteArray.size_extract]; omega
          clear hst hrd
          rw [hv] at hown
          rw [hv]
          clear hv
          go_wp2_with (first | (go_at_call 37; refine (HT.out _).mono ?_; rintro e w1 ⟨rfl, hb1⟩; clear HT; have hown1 := owns_below hown hb1; have hs1 := hb1.size) | (at_builtin; refine wpList_append_own _ rfl _ _ 32 rfl w.heap.size 25 i0 (.agg #[.int .i64 0, .int .i64 0]) 2 16 Try.underlying32 hi hz0 hz1 hz2 rfl (by decide) _ _ _ rfl ((hown1.alloc _).alloc _) ⟨w1.heap.size + 1, 0, none⟩ 1 1 [.int .i64 op, .int .i64 a] rfl rfl (by intro j u hj; simpa using two_new (w1.alloc (.cells #[.int .i64 op, .int .i64 a] 25)) _ _ _ j u hj) (by intro u hu; simp at hu; rcases hu with rfl | rfl <;> rfl) (by unfold maxLen; omega) (by omega) (by simp; omega) ?_; intro v3 w3 hown3 hgrow3 _))
          have hbw : Below w.heap.size w w3 := Below.grown (bel_alloc (bel_alloc (below2 hnx hb1) _) _) hgrow3 (by simp; omega) (ownsRow_block hown1)
          rw [pv_app M (op, a)] at hown3
          go_roundw
          case rel =>
            obtain ⟨f', rfl⟩ : ∃ f', f = f' + 1 := ⟨f - 1, by omega⟩
            exact ⟨p + (1 + t), f', _, M ++ [(op, a)], rfl, hext.out, hexs.out, by omega, by omega, by simp; omega, by unfold Hid; simpa using hz.out, by simpa using hown3, hbw⟩
          case measure => have := hexs.out; simp only; omega
    · have hc0 : ¬ 0 < c.size := by omega
      have hc0' : (c.size : Int) = 0 := by omega
      have hz : Hid (rc s = some M) := rc_end hrd.out (by omega)
      clear hrd
      go_wp2
      go_ret2
      rw [hz.out]
      exact ⟨_, rfl, hown, hnx⟩

end Go.Proofs.Ytkdcbgopbcicfaa
