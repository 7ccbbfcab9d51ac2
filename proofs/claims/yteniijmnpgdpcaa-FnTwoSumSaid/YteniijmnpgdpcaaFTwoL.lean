/-
  Knuth's sum of two: the law's walk.
-/
import Derived.Test.YteniijmnpgdpcaaFSter
namespace Go.Proofs.Yteniijmnpgdpcaa
open Go.RowKit

/-- All of it over halves: what is reckoned as the error is it, where all is finite. -/
theorem two_out (a b s t p da db e : Int) (ca : cl16 a = 0) (cb : cl16 b = 0) (cs : cl16 s = 0) (ce : cl16 e = 0)
    (h1 : cl16 a = 0 → cl16 b = 0 → ∃ q, s = hv (exa a + exa b) q)
    (h2 : cl16 s = 0 → cl16 a = 0 → ∃ q, t = hv (exa s - exa a) q) (_n2 : cl16 s ≠ 0 ∨ cl16 a ≠ 0 → cl16 t ≠ 0 ∧ 0 ≤ t ∧ t ≤ 65535)
    (h3 : cl16 s = 0 → cl16 t = 0 → ∃ q, p = hv (exa s - exa t) q) (_n3 : cl16 s ≠ 0 ∨ cl16 t ≠ 0 → cl16 p ≠ 0 ∧ 0 ≤ p ∧ p ≤ 65535)
    (h4 : cl16 a = 0 → cl16 p = 0 → ∃ q, da = hv (exa a - exa p) q) (n4 : cl16 a ≠ 0 ∨ cl16 p ≠ 0 → cl16 da ≠ 0 ∧ 0 ≤ da ∧ da ≤ 65535)
    (h5 : cl16 b = 0 → cl16 t = 0 → ∃ q, db = hv (exa b - exa t) q) (n5 : cl16 b ≠ 0 ∨ cl16 t ≠ 0 → cl16 db ≠ 0 ∧ 0 ≤ db ∧ db ≤ 65535)
    (h6 : cl16 da = 0 → cl16 db = 0 → ∃ q, e = hv (exa da + exa db) q) (n6 : cl16 da ≠ 0 ∨ cl16 db ≠ 0 → cl16 e ≠ 0 ∧ 0 ≤ e ∧ e ≤ 65535) :
    exa a + exa b = exa s + exa e := by
  have cda : cl16 da = 0 := Decidable.byContradiction fun h => (n6 (Or.inl h)).1 ce
  have cdb : cl16 db = 0 := Decidable.byContradiction fun h => (n6 (Or.inr h)).1 ce
  have cp : cl16 p = 0 := Decidable.byContradiction fun h => (n4 (Or.inr h)).1 cda
  have ct : cl16 t = 0 := Decidable.byContradiction fun h => (n5 (Or.inr h)).1 cdb
  obtain ⟨Fa, la⟩ := exa_F a ca
  obtain ⟨Fb, lb⟩ := exa_F b cb
  obtain ⟨_, ls⟩ := exa_F s cs
  obtain ⟨_, lt⟩ := exa_F t ct
  obtain ⟨_, lp⟩ := exa_F p cp
  obtain ⟨_, lda⟩ := exa_F da cda
  obtain ⟨_, ldb⟩ := exa_F db cdb
  have O : ∀ (z : Int) (q : Bool) (v : Int), v = hv z q → cl16 v = 0 → z.natAbs ≤ 4398046511104 → exa v = R z := fun z q v hv0 hc hz => by
    subst hv0; exact ((hv_open z q hz).2 hc).1
  obtain ⟨q1, e1⟩ := h1 ca cb
  obtain ⟨q2, e2⟩ := h2 cs ca
  obtain ⟨q3, e3⟩ := h3 cs ct
  obtain ⟨q4, e4⟩ := h4 ca cp
  obtain ⟨q5, e5⟩ := h5 cb ct
  obtain ⟨q6, e6⟩ := h6 cda cdb
  have r1 := O _ _ _ e1 cs (by omega)
  have r2 := O _ _ _ e2 ct (by omega)
  have r3 := O _ _ _ e3 cp (by omega)
  have r4 := O _ _ _ e4 cda (by omega)
  have r5 := O _ _ _ e5 cdb (by omega)
  have r6 := O _ _ _ e6 ce (by omega)
  exact two_sum (exa a) (exa b) (exa s) (exa t) (exa p) (exa da) (exa db) (exa e) Fa Fb (by omega) (by omega) r1 (by omega) r2 (by omega) r3 (by omega) r4 (by omega) r5 (by omega) r6

theorem half_room2 (r : Int) (hr : (cl16 r ≠ 0 ∧ 0 ≤ r ∧ r ≤ 65535) ∨ ∃ z s, z.natAbs ≤ 4398046511104 ∧ r = hv z s) : 0 ≤ r ∧ r ≤ 4294967295 := by
  rcases hr with h | ⟨z, s, hz, rfl⟩
  · omega
  · have := (hv_open z s hz).1; omega
/-- The bounds of what a sum is told as. -/
theorem add_room (a b r : Int) (hf : cl16 a = 0 → cl16 b = 0 → ∃ s, r = hv (exa a + exa b) s) (hn : cl16 a ≠ 0 ∨ cl16 b ≠ 0 → cl16 r ≠ 0 ∧ 0 ≤ r ∧ r ≤ 65535) : 0 ≤ r ∧ r ≤ 4294967295 := by
  refine half_room2 r ?_
  by_cases ca : cl16 a = 0
  · by_cases cb : cl16 b = 0
    · obtain ⟨s, h⟩ := hf ca cb
      have := (exa_F a ca).2
      have := (exa_F b cb).2
      exact Or.inr ⟨_, s, by omega, h⟩
    · exact Or.inl (hn (Or.inr cb))
  · exact Or.inl (hn (Or.inl ca))
theorem sub_room (a b r : Int) (hf : cl16 a = 0 → cl16 b = 0 → ∃ s, r = hv (exa a - exa b) s) (hn : cl16 a ≠ 0 ∨ cl16 b ≠ 0 → cl16 r ≠ 0 ∧ 0 ≤ r ∧ r ≤ 65535) : 0 ≤ r ∧ r ≤ 4294967295 := by
  refine half_room2 r ?_
  by_cases ca : cl16 a = 0
  · by_cases cb : cl16 b = 0
    · obtain ⟨s, h⟩ := hf ca cb
      have := (exa_F a ca).2
      have := (exa_F b cb).2
      exact Or.inr ⟨_, s, by omega, h⟩
    · exact Or.inl (hn (Or.inr cb))
  · exact Or.inl (hn (Or.inl ca))
theorem exV_ok (a : Int) : -4611686018427387904 ≤ exV a ∧ exV a ≤ 4611686018427387904 ∧ (exV a).natAbs ≤ 1098974756864 := by
  unfold exV
  by_cases h : cl16 a = 0
  · rw [if_pos h]; have := (exa_F a h).2; omega
  · rw [if_neg h]; decide

theorem sums_ok (a b : Int) : wrap64 (exV a + exV b) = exV a + exV b := by
  have h1 := exV_ok a
  have h2 := exV_ok b
  exact w64_ok _ (by omega) (by omega)

set_option maxHeartbeats 4000000 in
set_option maxRecDepth 2000000 in
theorem twoSumB (a1 : Option Addr) (n1 c1 : Nat) (w : World) (h1 : Bys w a1 n1 w.heap.size) :
    Calls Try.prog 4 #[.slice a1 n1 c1] w fun e w' => e = .returned (.bool true) ∧ Below w.heap.size w w' := by
  obtain ⟨N, hN⟩ : ∃ N : Int, (n1 : Int) = N := ⟨_, rfl⟩
  by_cases hlen : 1048576 < N
  · go_enter Try.func4, Try.ntmps4
    go_wp2
    go_ret
    exact ⟨rfl, Below.refl _ _⟩
  · go_enter Try.func4, Try.ntmps4
    go_wp2_with fail
    refine (drawFSub a1 n1 c1 w h1).mono ?_
    rintro e w1 ⟨k, a, b, hk, x0, x1, y0, y1, rfl, B1⟩
    clear hlen hN h1
    by_cases h16 : k = 16
    · subst h16
      obtain ⟨s, S1, I1, f1, m1⟩ := addHalf a b x0 x1 y0 y1
      obtain ⟨s0, s1⟩ := add_room a b s f1 m1
      obtain ⟨t, _, I2, f2, m2⟩ := subHalf s a s0 s1 x0 x1
      obtain ⟨t0, t1⟩ := sub_room s a t f2 m2
      obtain ⟨p, _, I3, f3, m3⟩ := subHalf s t s0 s1 t0 t1
      obtain ⟨p0, p1⟩ := sub_room s t p f3 m3
      obtain ⟨da, _, I4, f4, m4⟩ := subHalf a p x0 x1 p0 p1
      obtain ⟨da0, da1⟩ := sub_room a p da f4 m4
      obtain ⟨db, _, I5, f5, m5⟩ := subHalf b t y0 y1 t0 t1
      obtain ⟨db0, db1⟩ := sub_room b t db f5 m5
      obtain ⟨er, _, I6, f6, m6⟩ := addHalf da db da0 da1 db0 db1
      obtain ⟨er0, er1⟩ := add_room da db er f6 m6
      have HM : Hid (cl16 a = 0 → cl16 b = 0 → cl16 s = 0 → cl16 er = 0 → exa a + exa b = exa s + exa er) := fun ca cb cs ce => two_out a b s t p da db er ca cb cs ce f1 f2 m2 f3 m3 f4 m4 f5 m5 f6 m6
      have EA := exactAny a x0 x1
      have EB := exactAny b y0 y1
      have ES := exactAny s s0 s1
      have EE := exactAny er er0 er1
      have q1 := sums_ok a b
      have q2 := sums_ok s er
      have HV : Hid (exB a = true → exB b = true → exB s = true → exB er = true → exV a + exV b = exV s + exV er) := fun g1 g2 g3 g4 => by
        have c1 : cl16 a = 0 := of_decide_eq_true g1
        have c2 : cl16 b = 0 := of_decide_eq_true g2
        have c3 : cl16 s = 0 := of_decide_eq_true g3
        have c4 : cl16 er = 0 := of_decide_eq_true g4
        unfold exV
        rw [if_pos c1, if_pos c2, if_pos c3, if_pos c4]
        exact HM.out c1 c2 c3 c4
      clear f1 f2 f3 f4 f5 f6 m1 m2 m3 m4 m5 m6 x0 x1 y0 y1 s0 s1 t0 t1 p0 p1 da0 da1 db0 db1 er0 er1 HM hk
      go_wp2_with fail
      refine (I1 _).mono ?_
      rintro e w2 ⟨rfl, B2⟩
      go_wp2_with fail
      refine (S1 _).mono ?_
      rintro e w3 ⟨rfl, B3⟩
      have HB3 : Hid (Below w.heap.size w w3) := bel_step (bel_step B1 B2) B3
      clear B1 B2 B3 I1 S1
      go_wp2_with fail
      refine (I2 _).mono ?_
      rintro e w4 ⟨rfl, B4⟩
      go_wp2_with fail
      refine (I3 _).mono ?_
      rintro e w5 ⟨rfl, B5⟩
      go_wp2_with fail
      refine (I4 _).mono ?_
      rintro e w6 ⟨rfl, B6⟩
      go_wp2_with fail
      refine (I5 _).mono ?_
      rintro e w7 ⟨rfl, B7⟩
      go_wp2_with fail
      refine (I6 _).mono ?_
      rintro e w8 ⟨rfl, B8⟩
      have HB8 : Hid (Below w.heap.size w w8) := bel_step (bel_step (bel_step (bel_step (bel_step HB3.out B4) B5) B6) B7) B8
      clear B4 B5 B6 B7 B8 HB3 I2 I3 I4 I5 I6
      go_wp2_with fail
      refine (EA _).mono ?_
      rintro e w9 ⟨rfl, B9⟩
      go_wp2_with fail
      refine (EB _).mono ?_
      rintro e wa ⟨rfl, Ba⟩
      go_wp2_with fail
      refine (ES _).mono ?_
      rintro e wb ⟨rfl, Bb⟩
      go_wp2_with fail
      refine (EE _).mono ?_
      rintro e wc ⟨rfl, Bc⟩
      have HBc : Hid (Below w.heap.size w wc) := bel_step (bel_step (bel_step (bel_step HB8.out B9) Ba) Bb) Bc
      clear B9 Ba Bb Bc HB8 EA EB ES EE
      generalize exB a = ba at *
      generalize exB b = bb at *
      generalize exB s = bs at *
      generalize exB er = be at *
      generalize exV a = va at *
      generalize exV b = vb at *
      generalize exV s = vs at *
      generalize exV er = ve at *
      cases ba
      · clear HV
        go_wp2
        go_ret
        exact ⟨rfl, HBc.out⟩
      · cases bb
        · clear HV
          go_wp2
          go_ret
          exact ⟨rfl, HBc.out⟩
        · cases bs
          · clear HV
            go_wp2
            go_ret
            exact ⟨rfl, HBc.out⟩
          · cases be
            · clear HV
              go_wp2
              go_ret
              exact ⟨rfl, HBc.out⟩
            · have hv := HV.out rfl rfl rfl rfl
              obtain ⟨Q, hQ⟩ : ∃ Q, va + vb = Q := ⟨_, rfl⟩
              rw [hQ] at hv q1
              rw [← hv] at q2
              clear HV
              go_wp2
              go_ret
              exact ⟨rfl, HBc.out⟩
    · obtain ⟨r, S, I⟩ := addAnyK k a b hk x0 x1 y0 y1
      go_wp2_with fail
      refine (I _).mono ?_
      rintro e w2 ⟨rfl, B2⟩
      go_wp2_with fail
      refine (S _).mono ?_
      rintro e w3 ⟨rfl, B3⟩
      have HB : Hid (Below w.heap.size w w3) := bel_step (bel_step B1 B2) B3
      clear B1 B2 B3 S I hk
      go_wp2
      go_ret
      exact ⟨rfl, HB.out⟩

end Go.Proofs.Yteniijmnpgdpcaa
