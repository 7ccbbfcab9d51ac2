/-
  Sections and names come back from their bytes: the law's walk.
-/
import Derived.Test.YtnimlkobcginjaaLSec
import Derived.Test.YtnimlkobcginjaaCurQ
import Derived.Test.YtnimlkobcginjaaSecLaw
import Derived.Laws.StructEq
import Derived.BigQuiet
namespace Go.Proofs.Ytnimlkobcginjaa
open Go.ChangeShapes Go.WideShapes Go.ChangeAt Go.RowKit

theorem neqSec (i : Int) (s : ByteArray) (w : World) : (binOp .neq 44 (.agg #[.int .i64 i, .string s]) (.agg #[.int .i64 i, .string s])).run Try.prog w = .ok (.bool false) w := by
  rw [run_neq_struct, run_equalIn_agg w 9999 44 _ _ (by kernel_rfl) (by kernel_rfl)]
  simp only [Program.fieldsOf, Try.underlying44]
  simp [Op.eqFields, go_sem, Try.underlying3, Try.underlying9]
theorem Bys.later3 {w w' : World} {a : Option Addr} {n : Nat} (h : Bys w a n w.heap.size) (k : Below w.heap.size w w') : Bys w' a n w'.heap.size := fun hn => by
  obtain ⟨b, off, e, hl, hc⟩ := (h.below k) hn
  exact ⟨b, off, e, Nat.lt_of_lt_of_le hl k.size, hc⟩
theorem bel_st3 {w a b : World} (h : Below w.heap.size w a) (k : Below a.heap.size a b) : Below w.heap.size w b := h.trans (k.mono h.size)

/-- NameBytes of whatever name: both sides. -/
theorem nameAny (s : ByteArray) : ∃ (t : ByteArray) (o : Bool),
    (∀ w, Calls Try.prog 25 #[.string s] w fun e w' => e = .returned (.tuple #[.string t, .bool o]) ∧ Below w.heap.size w w') ∧
    (∀ w, Calls Try.prog 24 #[.string s] w fun e w' => e = .returned (.tuple #[.string t, .bool o]) ∧ Below w.heap.size w w') ∧
    ((o = false ∧ t = ⟨#[]⟩) ∨ (o = true ∧ ∃ k : Nat, t.size = k ∧ k ≤ 102 ∧ ∀ w, Calls Try.prog 26 #[.string (t ++ ⟨#[109, 111, 114, 101]⟩)] w fun e w' => e = .returned (.tuple #[.string s, .int .i64 (k : Int), .bool true]) ∧ Below w.heap.size w w')) := by
  by_cases hs : s.size ≤ 100
  · obtain ⟨k, h1, h2, h3⟩ := nameBack s ⟨#[109, 111, 114, 101]⟩ hs (by decide)
    exact ⟨_, true, specName s hs, implName s hs, Or.inr ⟨rfl, k, h1, h2, h3⟩⟩
  · refine ⟨⟨#[]⟩, false, fun w => ?_, fun w => ?_, Or.inl ⟨rfl, rfl⟩⟩
    · go_enter Try.func25, Try.ntmps25
      go_wp2
      go_ret2
      exact ⟨rfl, Below.refl _ _⟩
    · go_enter Try.func24, Try.ntmps24
      go_wp2
      go_ret2
      exact ⟨rfl, Below.refl _ _⟩

set_option maxHeartbeats 4000000 in
set_option maxRecDepth 2000000 in
theorem sectionsB (a1 : Option Addr) (n1 c1 : Nat) (a2 : Option Addr) (n2 c2 : Nat) (w : World) (h1 : Bys w a1 n1 w.heap.size) (h2 : Bys w a2 n2 w.heap.size) :
    Calls Try.prog 4 #[.slice a1 n1 c1, .slice a2 n2 c2] w fun e w' => e = .returned (.bool true) ∧ Below w.heap.size w w' := by
  by_cases hlen : 1048576 < wrap64 ((n1 : Int) + n2)
  · go_enter Try.func4, Try.ntmps4
    go_wp2
    go_ret
    exact ⟨rfl, Below.refl _ _⟩
  · go_enter Try.func4, Try.ntmps4
    go_wp2_with fail
    refine (drawSections a1 n1 c1 w h1).mono ?_
    rintro e w1 ⟨v, L, rfl, hL4, hS, hO, B1⟩
    obtain ⟨sa, sc, sg, hv, ha, hat, _⟩ := owned_secs hO.out
    subst hv
    have hsz : ∀ i (h : i < L.length), L[i].2.size ≤ 1048576 := fun i h => by have := hS.out L[i] (List.getElem_mem h); omega
    have IS := fun w' (hb : Below w1.heap.size w1 w') => implSecs sa sg 0 sc L w' (fun hn => ⟨(ha hn).1, Nat.lt_of_lt_of_le (ha hn).2 hb.size⟩) (secAt_nil hb (fun hn => (ha hn).2) hat) (by omega) hsz
    have SS := fun w' (hb : Below w1.heap.size w1 w') => specSecs sa sg 0 sc L w' (fun hn => ⟨(ha hn).1, Nat.lt_of_lt_of_le (ha hn).2 hb.size⟩) (secAt_nil hb (fun hn => (ha hn).2) hat) (by omega) hsz
    have HAT : Hid ((L ≠ [] → sa = some ⟨sg, 0, none⟩ ∧ sg < w1.heap.size) ∧ secAt w1 sg 0 L) := ⟨ha, hat⟩
    obtain ⟨nl, hnl⟩ : ∃ n, L.length = n := ⟨_, rfl⟩
    have HNL : Hid (L.length = nl) := hnl
    have hn4 : nl ≤ 4 := by omega
    clear ha hat hO hS hsz h1 hlen hL4
    by_cases hg : secGood L = true ∧ (secBytes L).length ≤ 4000
    · rw [secRes_yes L hg.1 hg.2] at IS SS
      have RD := implRead_all (ByteArray.mk (secBytes L).toArray)
      rw [rr_secs L hg.1 hg.2] at RD
      simp only [Option.isSome_some, Option.getD_some] at RD
      generalize ByteArray.mk (secBytes L).toArray = S at *
      rw [hnl] at IS SS RD ⊢
      clear hnl hg
      go_wp2_with fail
      refine (IS _ (Below.refl _ _)).mono ?_
      rintro e w2 ⟨rfl, B2⟩
      go_wp2_with fail
      refine (SS _ B2).mono ?_
      rintro e w3 ⟨rfl, B3⟩
      have B13 : Below w1.heap.size w1 w3 := bel_st3 B2 B3
      clear IS SS B2 B3
      go_wp2_with fail
      refine (RD _).mono ?_
      rintro e w4 ⟨v4, rfl, hO4, B4⟩
      have hO4' : w4.ownsRow w3.heap.size 44 2 v4 L.length (sv L) := by rw [HNL.out]; exact hO4
      obtain ⟨ra, rc, rg, hv4, ra1, rat, _⟩ := owned_secs hO4'
      rw [HNL.out] at hv4
      subst hv4
      have B14 : Below w1.heap.size w1 w4 := bel_st3 B13 B4
      have HAT4 : Hid ((L ≠ [] → sa = some ⟨sg, 0, none⟩ ∧ sg < w4.heap.size) ∧ secAt w4 sg 0 L ∧ (L ≠ [] → ra = some ⟨rg, 0, none⟩ ∧ rg < w4.heap.size) ∧ secAt w4 rg 0 L) := ⟨fun hn => ⟨(HAT.out.1 hn).1, Nat.lt_of_lt_of_le (HAT.out.1 hn).2 B14.size⟩, secAt_nil B14 (fun hn => (HAT.out.1 hn).2) HAT.out.2, ra1, rat⟩
      have HB4 : Hid (Below w.heap.size w w4) := bel_st3 B1 B14
      clear RD B13 B4 hO4 hO4' ra1 rat B14 HAT B1
      go_wp2
      go_loopw [64] (fun i wr => ∃ j : Nat, j ≤ nl ∧ i = .int .i64 (j : Int) ∧ Hid (Below w4.heap.size w4 wr)) (fun i _ => nl - (intOf i).toNat)
      case atStart => exact ⟨0, by omega, rfl, Below.refl _ _⟩
      case round =>
        obtain ⟨j, hj, rfl, hB⟩ := hrel
        by_cases hlt : j < nl
        · have hjL : j < L.length := by have := HNL.out; omega
          have hne : L ≠ [] := fun h => by rw [h] at hjL; simp at hjL
          obtain ⟨q1, q2, q3, q4⟩ := HAT4.out
          obtain ⟨e1, l1⟩ := q1 hne
          obtain ⟨e2, l2⟩ := q3 hne
          subst e1 e2
          obtain ⟨x0, x1⟩ := q2 j hjL
          obtain ⟨y0, y1⟩ := q4 j hjL
          obtain ⟨X, hX⟩ : ∃ X, X = L[j] := ⟨_, rfl⟩
          rw [← hX] at x0 x1 y0 y1
          obtain ⟨xi, xs⟩ := X
          simp only [Nat.zero_add] at x0 x1 y0 y1
          have c0 : wr.cell? ⟨sg, j * 2, none⟩ = some (.int .i64 xi) := (hB.out.cell (p := ⟨sg, j * 2, none⟩) l1).trans x0
          have c1 : wr.cell? ⟨sg, j * 2 + 1, none⟩ = some (.string xs) := (hB.out.cell (p := ⟨sg, j * 2 + 1, none⟩) l1).trans x1
          have d0 : wr.cell? ⟨rg, j * 2, none⟩ = some (.int .i64 xi) := (hB.out.cell (p := ⟨rg, j * 2, none⟩) l2).trans y0
          have d1 : wr.cell? ⟨rg, j * 2 + 1, none⟩ = some (.string xs) := (hB.out.cell (p := ⟨rg, j * 2 + 1, none⟩) l2).trans y1
          have hji : (j : Int) < (nl : Int) := by omega
          have hneq := neqSec xi xs
          clear x0 x1 y0 y1 q1 q2 q3 q4 hX hne
          go_wp2
          go_quiet (fail)
          go_wp2
          go_roundw
          case rel => exact ⟨j + 1, by omega, by go_num, by first | exact hB | exact hB.out.drew | exact bel_dN hB.out _ | exact bel_drewN hB.out _⟩
          case measure => simp [intOf]; omega
        · have hje : (j : Int) = (nl : Int) := by omega
          have HBr : Hid (Below w.heap.size w wr) := bel_st3 HB4.out hB.out
          clear hB HB4 HAT4
          go_wp2_with fail
          refine (drawNameBytes a2 n2 c2 _ (h2.later3 HBr.out)).mono ?_
          rintro e wa ⟨s, hs, rfl, Ba⟩
          obtain ⟨t, o, NS, NI, hcase⟩ := nameAny s
          have HBa : Hid (Below w.heap.size w wa) := bel_st3 HBr.out Ba
          clear Ba HBr hs
          rcases hcase with ⟨rfl, rfl⟩ | ⟨rfl, k, hk, hk2, TN⟩
          · go_wp2_with fail
            refine (NI _).mono ?_
            rintro e wb ⟨rfl, Bb⟩
            go_wp2_with fail
            refine (NS _).mono ?_
            rintro e wc ⟨rfl, Bc⟩
            have HBc : Hid (Below w.heap.size w wc) := bel_st3 (bel_st3 HBa.out Bb) Bc
            clear Bb Bc NI NS HBa
            go_wp2
            go_ret
            exact ⟨rfl, HBc.out⟩
          · go_wp2_with fail
            refine (NI _).mono ?_
            rintro e wb ⟨rfl, Bb⟩
            go_wp2_with fail
            refine (NS _).mono ?_
            rintro e wc ⟨rfl, Bc⟩
            have HBc : Hid (Below w.heap.size w wc) := bel_st3 (bel_st3 HBa.out Bb) Bc
            have hcat : ¬ 9223372036854775807 < t.size + 4 := by omega
            clear Bb Bc NI NS HBa
            go_wp2_with fail
            refine (TN _).mono ?_
            rintro e wd ⟨rfl, Bd⟩
            have HBd : Hid (Below w.heap.size w wd) := bel_st3 HBc.out Bd
            clear Bd TN HBc
            go_wp2
            go_ret
            exact ⟨rfl, HBd.out⟩
    · rw [secRes_no L hg] at IS SS
      rw [hnl] at IS SS ⊢
      clear hnl hg
      go_wp2_with fail
      refine (IS _ (Below.refl _ _)).mono ?_
      rintro e w2 ⟨rfl, B2⟩
      go_wp2_with fail
      refine (SS _ B2).mono ?_
      rintro e wr ⟨rfl, B3⟩
      have HBr : Hid (Below w.heap.size w wr) := bel_st3 B1 (bel_st3 B2 B3)
      clear IS SS B1 B2 B3 HAT
      go_wp2_with fail
      refine (drawNameBytes a2 n2 c2 _ (h2.later3 HBr.out)).mono ?_
      rintro e wa ⟨s, hs, rfl, Ba⟩
      obtain ⟨t, o, NS, NI, hcase⟩ := nameAny s
      have HBa : Hid (Below w.heap.size w wa) := bel_st3 HBr.out Ba
      clear Ba HBr hs
      rcases hcase with ⟨rfl, rfl⟩ | ⟨rfl, k, hk, hk2, TN⟩
      · go_wp2_with fail
        refine (NI _).mono ?_
        rintro e wb ⟨rfl, Bb⟩
        go_wp2_with fail
        refine (NS _).mono ?_
        rintro e wc ⟨rfl, Bc⟩
        have HBc : Hid (Below w.heap.size w wc) := bel_st3 (bel_st3 HBa.out Bb) Bc
        clear Bb Bc NI NS HBa
        go_wp2
        go_ret
        exact ⟨rfl, HBc.out⟩
      · go_wp2_with fail
        refine (NI _).mono ?_
        rintro e wb ⟨rfl, Bb⟩
        go_wp2_with fail
        refine (NS _).mono ?_
        rintro e wc ⟨rfl, Bc⟩
        have HBc : Hid (Below w.heap.size w wc) := bel_st3 (bel_st3 HBa.out Bb) Bc
        have hcat : ¬ 9223372036854775807 < t.size + 4 := by omega
        clear Bb Bc NI NS HBa
        go_wp2_with fail
        refine (TN _).mono ?_
        rintro e wd ⟨rfl, Bd⟩
        have HBd : Hid (Below w.heap.size w wd) := bel_st3 HBc.out Bd
        clear Bd TN HBc
        go_wp2
        go_ret
        exact ⟨rfl, HBd.out⟩

end Go.Proofs.Ytnimlkobcginjaa
