/-
  Rows of funcs held against each other: slices.EqualFunc.
-/
import Derived.Test.YtokaljglaholnaaUSame2
namespace Go.Proofs.Ytokaljglaholnaa
open Go.ChangeShapes Go.WideShapes Go.ChangeAt Go.RowKit

set_option maxRecDepth 100000 in
set_option maxHeartbeats 3200000 in
theorem implSameFs (a a' : Option Addr) (cap cap' : Nat) (L M : List Fun7) (w : World) (hL : Hid (Funs w a L)) (hM : Hid (Funs w a' M)) (hl : L.length ≤ 1048576) (_hm : M.length ≤ 1048576) (hs : Hid (∀ f ∈ L, smF f)) (hs' : Hid (∀ f ∈ M, smF f)) :
    Calls Try.prog 44 #[.slice a L.length cap, .slice a' M.length cap', .func (.func 45) #[] #[]] w fun e w' => e = .returned (.bool (all2 sameF L M)) ∧ Below w.heap.size w w' := by
  by_cases hn : L.length = M.length
  · have HN : Hid (L.length = M.length) := hn
    rw [← hn]
    obtain ⟨n, hnn⟩ : ∃ n, L.length = n := ⟨_, rfl⟩
    have HL : Hid (L.length = n) := hnn
    rw [hnn] at hl ⊢
    clear hnn hn _hm
    go_enter Try.func44, Try.ntmps44
    go_wp2
    go_loopw [17] (fun i wr => ∃ k : Nat, k ≤ n ∧ i = .int .i64 k ∧ Hid (∀ j (h : j < L.length) (h' : j < M.length), j < k → sameF L[j] M[j] = true) ∧ Below w.heap.size w wr) (fun i _ => n - (intOf i).toNat)
    case atStart => exact ⟨0, by omega, rfl, fun j _ _ h => absurd h (by omega), Below.refl _ _⟩
    case round =>
      obtain ⟨k, hk, rfl, hg, hnx⟩ := hrel
      by_cases hlt : k < n
      · have hkL : k < L.length := by have := HL.out; omega
        have hkM : k < M.length := by have := HL.out; have := HN.out; omega
        obtain ⟨b, off, rfl, hb, hc⟩ := hL.out.at k hkL
        obtain ⟨b', off', rfl, hb', hd⟩ := hM.out.at k hkM
        have hsx := hs.out L[k] (List.getElem_mem _)
        have hsy := hs'.out M[k] (List.getElem_mem _)
        have hno := all2_no sameF L M k hkL hkM
        have hys : Hid (sameF L[k] M[k] = true → ∀ j (h : j < L.length) (h' : j < M.length), j < k + 1 → sameF L[j] M[j] = true) := fun hx j h h' hj => by
          by_cases e : j = k
          · subst e; exact hx
          · exact hg.out j h h' (by omega)
        obtain ⟨x, hx⟩ : ∃ x, x = L[k] := ⟨_, rfl⟩
        obtain ⟨y, hy⟩ : ∃ y, y = M[k] := ⟨_, rfl⟩
        rw [← hx] at hc hno hys hsx
        rw [← hy] at hd hno hys hsy
        clear hx hy hkL hkM
        have HNO : Hid (sameF x y = false → all2 sameF L M = false) := hno
        clear hno
        obtain ⟨pa, pc, la, lc, ba, bc, c0, c1, c2, c3, hR⟩ := hc
        obtain ⟨pa', pc', la', lc', ba', bc', d0, d1, d2, d3, hR'⟩ := hd
        have C : Hid (∀ w', Below w.heap.size w w' → Calls Try.prog 45 #[.agg #[.slice pa x.ps.length pc, .int .i64 x.res, .slice la x.ls.length lc, .slice ba x.body.length bc], .agg #[.slice pa' y.ps.length pc', .int .i64 y.res, .slice la' y.ls.length lc', .slice ba' y.body.length bc']] w' fun e w'' => e = .returned (.bool (sameF x y)) ∧ Below w'.heap.size w' w'') := fun w' h => implSameF pa la ba pa' la' ba' pc lc bc pc' lc' bc' x y w' (hR.out.below h) (hR'.out.below h) hsx hsy
        obtain ⟨r, hr⟩ : ∃ r, sameF x y = r := ⟨_, rfl⟩
        rw [hr] at HNO hys C
        clear hr hR hR' hsx hsy
        obtain ⟨ps, res, ls, body⟩ := x
        obtain ⟨ps', res', ls', body'⟩ := y
        simp only at *
        have C0 : wr.cell? ⟨b, off + k * 4, none⟩ = some (.slice pa ps.length pc) := (hnx.cell (by exact hb)).trans c0
        have C1 : wr.cell? ⟨b, off + k * 4 + 1, none⟩ = some (.int .i64 res) := (hnx.cell (by exact hb)).trans c1
        have C2 : wr.cell? ⟨b, off + k * 4 + 2, none⟩ = some (.slice la ls.length lc) := (hnx.cell (by exact hb)).trans c2
        have C3 : wr.cell? ⟨b, off + k * 4 + 3, none⟩ = some (.slice ba body.length bc) := (hnx.cell (by exact hb)).trans c3
        have D0 := pastCell (o := .cells #[.slice pa ps.length pc, .int .i64 res, .slice la ls.length lc, .slice ba body.length bc] 44) (Nat.lt_of_lt_of_le hb' hnx.size) ((hnx.cell (p := ⟨b', off' + k * 4, none⟩) (by exact hb')).trans d0)
        have D1 := pastCell (o := .cells #[.slice pa ps.length pc, .int .i64 res, .slice la ls.length lc, .slice ba body.length bc] 44) (Nat.lt_of_lt_of_le hb' hnx.size) ((hnx.cell (p := ⟨b', off' + k * 4 + 1, none⟩) (by exact hb')).trans d1)
        have D2 := pastCell (o := .cells #[.slice pa ps.length pc, .int .i64 res, .slice la ls.length lc, .slice ba body.length bc] 44) (Nat.lt_of_lt_of_le hb' hnx.size) ((hnx.cell (p := ⟨b', off' + k * 4 + 2, none⟩) (by exact hb')).trans d2)
        have D3 := pastCell (o := .cells #[.slice pa ps.length pc, .int .i64 res, .slice la ls.length lc, .slice ba body.length bc] 44) (Nat.lt_of_lt_of_le hb' hnx.size) ((hnx.cell (p := ⟨b', off' + k * 4 + 3, none⟩) (by exact hb')).trans d3)
        have HX : Hid (Below w.heap.size w wr) := hnx
        clear c0 c1 c2 c3 d0 d1 d2 d3 hb hb' hnx
        cases r
        · go_wp2_with (go_at_call 45; refine (C.out _ (bel_alloc (bel_alloc HX.out _) _)).mono ?_; rintro e w1 ⟨rfl, hb1⟩; have HB1 : Hid (Below w.heap.size w w1) := bel_step (bel_alloc (bel_alloc HX.out _) _) hb1; clear C hb1)
          go_ret
          exact ⟨by rw [HNO.out (by trivial)]; rfl, HB1.out⟩
        · go_wp2_with (go_at_call 45; refine (C.out _ (bel_alloc (bel_alloc HX.out _) _)).mono ?_; rintro e w1 ⟨rfl, hb1⟩; have HB1 : Hid (Below w.heap.size w w1) := bel_step (bel_alloc (bel_alloc HX.out _) _) hb1; clear C hb1)
          go_roundw
          case rel => exact ⟨k + 1, by omega, by go_num, hys.out (by trivial), HB1.out⟩
          case measure => simp [intOf]; omega
      · have hall : Hid (all2 sameF L M = true) := all2_yes sameF L M HN.out (fun j h h' => hg.out j h h' (by have := HL.out; omega))
        clear hg
        go_wp2
        go_ret
        exact ⟨by rw [hall.out]; rfl, hnx⟩
  · have hr : Hid (all2 sameF L M = false) := all2_len sameF L M hn
    have hn' : ((L.length : Int) == (M.length : Int)) = false := by simp; omega
    clear hn
    go_enter Try.func44, Try.ntmps44
    go_wp2
    go_ret
    exact ⟨by rw [hr.out]; rfl, Below.refl _ _⟩

end Go.Proofs.Ytokaljglaholnaa
