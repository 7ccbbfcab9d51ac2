/-
  The walk of the specification's own function that reads sections.
-/
import Derived.Test.YtihabioaodfolabRMath
import Derived.Test.YtihabioaodfolabApp
import Derived.WalkSpells
import Derived.Deep.AppendLies
import Derived.Deep.RegionLaw
namespace Go.Proofs.Ytihabioaodfolab
open Go.ChangeShapes Go.WideShapes Go.ChangeAt Go.RowKit Go.PlainAid

/-- Sections as the values of their cells. -/
def sv (L : List (Int × ByteArray)) : List Value := L.flatMap fun x => [.int .i64 x.1, .string x.2]
theorem sv_app (L : List (Int × ByteArray)) (x : Int × ByteArray) : sv L ++ [.int .i64 x.1, .string x.2] = sv (L ++ [x]) := by simp [sv]
theorem sv_len (L : List (Int × ByteArray)) : (sv L).length = L.length * 2 := by
  induction L with
  | nil => rfl
  | cons x r ih => have e : sv (x :: r) = .int .i64 x.1 :: .string x.2 :: sv r := by simp [sv]
                   rw [e, List.length_cons, List.length_cons, ih, List.length_cons]; omega
theorem sv_get (L : List (Int × ByteArray)) : ∀ i (h : i < L.length), (sv L)[i * 2]? = some (.int .i64 L[i].1) ∧ (sv L)[i * 2 + 1]? = some (.string L[i].2) := by
  induction L with
  | nil => intro i h; simp at h
  | cons x r ih =>
    intro i h
    have e : sv (x :: r) = .int .i64 x.1 :: .string x.2 :: sv r := by simp [sv]
    rw [e]
    cases i with
    | zero => simp
    | succ i =>
      have := ih i (by simpa using h)
      rw [show (i + 1) * 2 = i * 2 + 1 + 1 by omega]
      simpa using this
/-- What is known of a slice of sections that a call made. -/
theorem owned_secs {w : World} {B : Nat} {e : TypeId} {v : Value} {L : List (Int × ByteArray)} (h : w.ownsRow B e 2 v L.length (sv L)) :
    ∃ a cap g, v = .slice a L.length cap ∧ (L ≠ [] → a = some ⟨g, 0, none⟩ ∧ g < w.heap.size) ∧ secAt w g 0 L ∧ (L ≠ [] → B ≤ g) := by
  rcases h.2 with ⟨rfl, h0⟩ | ⟨g, cap, cur, rfl, hg, hh, _, _, _, htake⟩
  · obtain rfl : L = [] := List.length_eq_zero_iff.1 h0
    exact ⟨none, 0, 0, rfl, fun h => absurd rfl h, fun i hi => absurd hi (by simp), fun h => absurd rfl h⟩
  · refine ⟨some ⟨g, 0, none⟩, cap, g, rfl, fun _ => ⟨rfl, lt_of_block hh⟩, fun i hi => ?_, fun _ => hg⟩
    have h1 := h.cellAt (i * 2) (by omega)
    have h2 := h.cellAt (i * 2 + 1) (by omega)
    have h3 := sv_get L i hi
    rw [Nat.zero_add, h1, h2]
    exact h3

theorem ownsRow_below {w w' : World} {B : Nat} {e : TypeId} {size n : Nat} {v : Value} {xs : List Value} (h : w.ownsRow B e size v n xs) (hb : Below w.heap.size w w') : w'.ownsRow B e size v n xs := by
  refine ⟨h.1, ?_⟩
  rcases h.2 with h0 | ⟨g, cap, cur, h1, h2, h3, h4⟩
  · exact Or.inl h0
  · exact Or.inr ⟨g, cap, cur, h1, h2, (hb.block g (lt_of_block h3)).trans h3, h4⟩

theorem Try.infoS : (Try.prog.info? 36).map (fun i => (i.zero, i.size, i.bytes)) = some (some (.agg #[.int .i64 0, .string ⟨#[]⟩]), 2, 24) := by kernel_rfl
theorem two_new (w : World) (x y : Value) (t : TypeId) : ∀ j u, [x, y][j]? = some u → (w.alloc (.cells #[x, y] t)).cell? ((⟨w.heap.size, 0, none⟩ : Addr).add j) = some u := by
  intro j u hj
  match j, hj with
  | 0, hj => simp at hj; subst hj; simp [Addr.add]
  | 1, hj => simp at hj; subst hj; simp [Addr.add]
theorem rd_len (f : Nat) : ∀ c L, rd f c = some L → L.length ≤ f := by
  induction f with
  | zero => intro c L h; simp [rd] at h
  | succ f ih =>
    intro c L h
    by_cases h0 : c.size = 0
    · rw [rd_end f c h0] at h; simp at h; subst h; simp
    · rcases hs : rstep c with _ | ⟨x, r⟩
      · rw [rd_none f c h0 hs] at h; simp at h
      · rw [rd_some f c h0 x r hs] at h
        rcases hr : rd f r with _ | M
        · rw [hr] at h; simp at h
        · rw [hr] at h; simp at h; subst h; have := ih r M hr; simp; omega

theorem slice_in {P : Program} (T : TypeId) (hu : P.underlying T = some .string) (s : ByteArray) (t n : Nat) (h : 1 + t + n ≤ s.size) (wx : World) :
    (Instr.slice T (.string s) (some (.int .i64 (1 + (t : Int)))) (some (.int .i64 (1 + (t : Int) + (n : Int)))) none).run P wx = .ok (.string (s.extract (1 + t) (1 + t + n))) wx := by
  have H := run_slice_string (P := P) wx T s .i64 .i64 (1 + (t : Int)) (1 + (t : Int) + (n : Int)) hu (by omega) (by omega) (by omega)
  have e : (1 + (t : Int) + (n : Int)).toNat = 1 + t + n := by omega
  have e2 : (1 + (t : Int)).toNat = 1 + t := by omega
  rw [e, e2] at H
  exact H
theorem slice_rest {P : Program} (T : TypeId) (hu : P.underlying T = some .string) (s : ByteArray) (t n : Nat) (h : 1 + t + n ≤ s.size) (wx : World) :
    (Instr.slice T (.string s) (some (.int .i64 (1 + (t : Int) + (n : Int)))) none none).run P wx = .ok (.string (s.extract (1 + t + n) s.size)) wx := by
  have H := run_slice_string_from_if (P := P) (w := wx) T s .i64 (1 + (t : Int) + (n : Int)) hu
  have e : (1 + (t : Int) + (n : Int)).toNat = 1 + t + n := by omega
  rw [e, if_pos (by omega)] at H
  exact H

set_option maxRecDepth 100000 in
set_option maxHeartbeats 1600000 in
theorem specRead (s : ByteArray) (hs : s.size ≤ 4000) (w : World) :
    Calls Try.prog 6 #[.string s] w fun e w' => ∃ v, e = .returned (.tuple #[v, .bool (rs (rd 4001 s)).isSome]) ∧ w'.ownsRow w.heap.size 36 2 v ((rs (rd 4001 s)).getD []).length (sv ((rs (rd 4001 s)).getD [])) ∧ Below w.heap.size w w' := by
  obtain ⟨i0, hi, hz0, hz1, hz2⟩ := info_parts Try.infoS
  go_enter Try.func6, Try.ntmps6
  go_wp2
  go_loopw [0, 4] (fun cv v wr => ∃ (f : Nat) (c : ByteArray) (M : List (Int × ByteArray)), cv = .string c ∧ c.size < f + 1 ∧ c.size ≤ 4000 ∧ M.length + f ≤ 4000 ∧ Hid (rd 4001 s = (rd (f + 1) c).map (M ++ ·)) ∧ Hid (∀ x ∈ M, x.2.size ≤ 4000) ∧ wr.ownsRow w.heap.size 36 2 v M.length (sv M) ∧ Below w.heap.size w wr) (fun cv _ _ => match cv with | .string c => c.size | _ => 0)
  case atStart => exact ⟨4000, s, [], rfl, by omega, hs, by simp, by unfold Hid; simp, fun x hx => absurd hx (by simp), World.ownsRow_nil _ _ _ _, Below.refl _ _⟩
  case round =>
    obtain ⟨f, c, M, rfl, hcf, hc4, hMf, hrd, hM4, hown, hnx⟩ := hrel
    have hsz := hnx.size
    by_cases h0 : 0 < c.size
    · have hf := tu_facts (restOf c) 32 (by omega)
      have G := specTakeU (restOf c) 32 (by rw [rest_size]; omega) (by omega) (by omega)
      have hst : Hid (rstep c = if (tu (restOf c) 32).2 = 0 ∨ (c.size : Int) - 1 - (tu (restOf c) 32).2 < (tu (restOf c) 32).1 then none else some ((bt c 0, c.extract (1 + (tu (restOf c) 32).2) (1 + (tu (restOf c) 32).2 + (tu (restOf c) 32).1.toNat)), c.extract (1 + (tu (restOf c) 32).2 + (tu (restOf c) 32).1.toNat) c.size)) := rfl
      generalize tu (restOf c) 32 = nt at hf G hst
      obtain ⟨n, t⟩ := nt
      simp only at hf G hst
      rw [rest_size] at hf
      obtain ⟨hf1, hf2, hf3, hf4⟩ := hf
      have G' : Hid (∀ w : World, Calls Try.prog 15 #[.string (c.extract 1 c.size), .int .i64 32] w fun e w' => e = .returned (.tuple #[.int .u64 n, .int .i64 t]) ∧ w' = w) := G
      clear G
      by_cases h1 : t = 0
      · subst h1
        go_wp2_with (go_at_call 15; refine (G'.out _).mono ?_; rintro e w' ⟨rfl, hww⟩; obtain rfl := hww.symm)
        go_ret2
        have hz : rs (rd 4001 s) = none := by
          rw [hrd.out, rd_none f c (by omega) (by rw [hst.out]; simp)]; rfl
        rw [hz]
        exact ⟨_, rfl, World.ownsRow_nil _ _ _ _, hnx⟩
      · have h1' : ((t : Int) == 0) = false := by simp; omega
        by_cases h2 : (c.size : Int) - 1 - t < n
        · go_wp2_with (go_at_call 15; refine (G'.out _).mono ?_; rintro e w' ⟨rfl, hww⟩; obtain rfl := hww.symm)
          go_ret2
          have hz : rs (rd 4001 s) = none := by
            rw [hrd.out, rd_none f c (by omega) (by rw [hst.out, if_pos (Or.inr h2)])]; rfl
          rw [hz]
          exact ⟨_, rfl, World.ownsRow_nil _ _ _ _, hnx⟩
        · obtain ⟨m, rfl⟩ : ∃ m : Nat, n = m := ⟨n.toNat, by omega⟩
          have h3 : (m : Int) ≤ (c.size : Int) - 1 - t := by omega
          have e0 := get_bt c 0 h0
          have hb0 := bt_nonneg c 0
          have hb1 := bt_le c 0
          have hw0 : IntKind.i64.wrap (bt c 0) = bt c 0 := IntWalk.i64_in _ ⟨by omega, by omega⟩
          have hw1 : IntKind.i64.wrap (1 + (t : Int)) = 1 + t := IntWalk.i64_in _ ⟨by omega, by omega⟩
          have hsl := slice_in (P := Try.prog) 9 Try.underlying9 c t m (by omega)
          have hse := slice_rest (P := Try.prog) 9 Try.underlying9 c t m (by omega)
          go_wp2_with (first | (go_at_call 15; refine (G'.out _).mono ?_; rintro e w' ⟨rfl, hww⟩; obtain rfl := hww.symm))
          go_region_law (refine step_append_lies _ (by rfl) _ _ 22 (by rfl) w.heap.size 36 i0 (.agg #[.int .i64 0, .string ⟨#[]⟩]) 2 24 Try.underlying22 hi hz0 hz1 hz2 rfl (by omega) _ M.length (sv M) (by rfl) (by first | exact hown.alloc _ | exact (hown.alloc _).drew | exact (hown.alloc _).drew.drew) ⟨wr.heap.size, 0, none⟩ 1 1 [.int .i64 (bt c 0), .string (c.extract (1 + t) (1 + t + m))] (by rfl) (by rfl) (by intro j u hj; simpa using two_new wr _ _ _ j u hj) (by intro u hu; simp at hu; rcases hu with rfl | rfl <;> rfl) (by omega) (by unfold maxLen; omega) (by omega) (by simp; omega) (wr.heap.size + 1) (by simp) ?_; intro g cp w1 hown1 hgrow1 hat1 hlt1)
          all_goals
            have hbw : Below w.heap.size w w1 := Below.grown (by first | exact hnx.alloc hsz _ | exact (hnx.alloc hsz _).drew | exact (hnx.alloc hsz _).drew.drew) hgrow1 (by simp; omega) (ownsRow_block hown)
            rw [sv_app M (bt c 0, c.extract (1 + t) (1 + t + m))] at hown1
            clear hgrow1 hat1 hlt1 hown
            go_wp2
            go_roundw
            case rel =>
              obtain ⟨g', rfl⟩ : ∃ g', f = g' + 1 := ⟨f - 1, by omega⟩
              refine ⟨g', c.extract (1 + t + m) c.size, M ++ [(bt c 0, c.extract (1 + t) (1 + t + m))], rfl, by simp only [ByteArray.size_extract]; omega, by simp only [ByteArray.size_extract]; omega, by simp; omega, ?_, ?_, by simpa using hown1, hbw⟩
              · have hs2 : rstep c = some ((bt c 0, c.extract (1 + t) (1 + t + m)), c.extract (1 + t + m) c.size) := by
                  rw [hst.out, if_neg (by omega)]; simp
                have h5 := hrd.out
                rw [rd_some (g' + 1) c (by omega) _ _ hs2, Option.map_map] at h5
                unfold Hid
                rw [h5]
                congr 1
                funext K
                simp
              · intro x hx
                rcases List.mem_append.1 hx with hx | hx
                · exact hM4.out x hx
                · simp at hx; subst hx; simp only [ByteArray.size_extract]; omega
            case measure => simp only [ByteArray.size_extract]; omega
    · have hc0 : c.size = 0 := by omega
      have hfin : rd 4001 s = some M := by rw [hrd.out, rd_end f c hc0]; simp
      have hlenM : M.length ≤ 1048576 := by omega
      have hszM : ∀ i (h : i < M.length), M[i].2.size ≤ 1048576 := fun i h => by have := hM4.out _ (List.getElem_mem h); omega
      obtain ⟨a, cap, g, hv, ha, hL, _⟩ := owned_secs hown
      have HG := specGood a g 0 cap M wr ha hL hlenM hszM
      have hc0' : ((c.size : Int)) = 0 := by omega
      have HF : Hid (rd 4001 s = some M) := hfin
      rw [hv]
      by_cases hg : secGood M = true
      · rw [hg] at HG
        have hres : Hid (rs (rd 4001 s) = some M) := by unfold Hid; rw [hfin]; simp [rs, hg]
        have HO : Hid (wr.ownsRow w.heap.size 36 2 (.slice a M.length cap) M.length (sv M)) := by rw [← hv]; exact hown
        clear hv hown hfin
        go_wp2_with (go_at_call 16; refine HG.mono ?_; rintro e w1 ⟨rfl, hb1⟩; clear HG)
        go_ret2
        have hb2 : Below wr.heap.size wr w1 := by assumption
        rw [hres.out]
        exact ⟨_, rfl, ownsRow_below HO.out hb2, hnx.trans (hb2.mono hsz)⟩
      · have hg' : secGood M = false := by simpa using hg
        rw [hg'] at HG
        have hres : Hid (rs (rd 4001 s) = none) := by unfold Hid; rw [hfin]; simp [rs, hg']
        clear hv hown hfin
        go_wp2_with (go_at_call 16; refine HG.mono ?_; rintro e w1 ⟨rfl, hb1⟩; clear HG)
        go_ret2
        have hb2 : Below wr.heap.size wr w1 := by assumption
        rw [hres.out]
        exact ⟨_, rfl, World.ownsRow_nil _ _ _ _, hnx.trans (hb2.mono hsz)⟩

end Go.Proofs.Ytihabioaodfolab
