/-
  Knuth's sum of two, Dekker's and Sterbenz's lemmas over whole numbers rounded to eleven bits. Plain facts.
-/
import Derived.Test.YteniijmnpgdpcaaFHalf
namespace Go.Proofs.Yteniijmnpgdpcaa

/-- The nearest one, with its sign. -/
def R (z : Int) : Int := if z < 0 then -(rN z.natAbs : Int) else (rN z.natAbs : Int)
/-- Numbers of eleven bits and a sign. -/
def isF (z : Int) : Prop := inF z.natAbs
def bigZ (z : Int) : Prop := z.natAbs < 9223372036854775808

theorem bigZ.out {z : Int} (h : bigZ z) : big z.natAbs := by unfold bigZ at h; unfold big; omega
theorem isF_zero : isF 0 := ⟨0, 0, by omega, by simp⟩
theorem inF_zero : inF 0 := ⟨0, 0, by omega, by simp⟩
theorem isF_neg {z : Int} (h : isF z) : isF (-z) := by unfold isF at *; rwa [Int.natAbs_neg]
theorem R_neg (z : Int) : R (-z) = -R z := by
  unfold R
  rw [Int.natAbs_neg]
  rcases Int.lt_trichotomy z 0 with h | h | h
  · rw [if_neg (by omega), if_pos h]; omega
  · subst h
    have : rN 0 = 0 := rN_exact 0 (by unfold big; omega) inF_zero
    simp [this]
  · rw [if_pos (by omega), if_neg (by omega)]
theorem isF_R (z : Int) (hb : bigZ z) : isF (R z) := by
  unfold isF R
  have h := inF_rN z.natAbs hb.out
  split
  · rw [Int.natAbs_neg]; simpa using h
  · simpa using h
theorem R_pos (z : Int) (h : 0 ≤ z) : R z = (rN z.natAbs : Int) := by unfold R; rw [if_neg (by omega)]
theorem R_exact (z : Int) (hb : bigZ z) (h : isF z) : R z = z := by
  have e := rN_exact z.natAbs hb.out h
  unfold R; rw [e]; split <;> omega

/-- No one is nearer. -/
theorem R_near (z f : Int) (hb : bigZ z) (hf : isF f) : (R z + f ≤ 2 * z ∧ f ≤ R z) ∨ (2 * z ≤ R z + f ∧ R z ≤ f) := by
  have h := rN_near z.natAbs f.natAbs hb.out hf
  have h0 := rN_near z.natAbs 0 hb.out inF_zero
  unfold R
  split <;> omega
theorem R_mono (a b : Int) (ha : bigZ a) (hb : bigZ b) (h : a ≤ b) : R a ≤ R b := by
  by_cases e : a = b
  · subst e; exact Int.le_refl _
  · have x := R_near a (R b) ha (isF_R b hb)
    have y := R_near b (R a) hb (isF_R a ha)
    omega

/-- A multiple that is small enough. -/
theorem isF_mult (z : Int) (k E : Nat) (hk : k < 2048) (h : z.natAbs ≤ k * 2 ^ E) (hm : (2 ^ E : Nat) ∣ z.natAbs) : isF z := by
  obtain ⟨j, hj⟩ := hm
  refine ⟨j, E, ?_, by rw [hj, Nat.mul_comm]⟩
  rw [hj, Nat.mul_comm] at h
  have := Nat.le_of_mul_le_mul_right h (Nat.two_pow_pos E)
  omega

theorem dvd_abs {a : Int} {n : Nat} : (n : Int) ∣ a ↔ n ∣ a.natAbs := Int.ofNat_dvd_left

/-- The lesser exponent divides both. -/
theorem low_two (a b : Nat) (ha : inF a) (hb : inF b) : ∃ E, (2 ^ E ∣ a ∧ 2 ^ E ∣ b) ∧ ((∃ k, k < 2048 ∧ a = k * 2 ^ E) ∨ (∃ k, k < 2048 ∧ b = k * 2 ^ E)) := by
  obtain ⟨k1, E1, h1, rfl⟩ := ha
  obtain ⟨k2, E2, h2, rfl⟩ := hb
  rcases Nat.le_total E1 E2 with h | h
  · exact ⟨E1, ⟨Nat.dvd_mul_left _ _, Nat.dvd_trans (Nat.pow_dvd_pow 2 h) (Nat.dvd_mul_left _ _)⟩, Or.inl ⟨k1, h1, rfl⟩⟩
  · exact ⟨E2, ⟨Nat.dvd_trans (Nat.pow_dvd_pow 2 h) (Nat.dvd_mul_left _ _), Nat.dvd_mul_left _ _⟩, Or.inr ⟨k2, h2, rfl⟩⟩

/-- A sum that is no greater than either is exact. -/
theorem isF_less (a b z : Int) (ha : isF a) (hb : isF b) (h1 : z.natAbs ≤ a.natAbs) (h2 : z.natAbs ≤ b.natAbs) (hz : ∀ E : Nat, ((2 ^ E : Nat) : Int) ∣ a → ((2 ^ E : Nat) : Int) ∣ b → ((2 ^ E : Nat) : Int) ∣ z) : isF z := by
  obtain ⟨E, ⟨d1, d2⟩, h⟩ := low_two _ _ ha hb
  have d3 := dvd_abs.1 (hz E (dvd_abs.2 d1) (dvd_abs.2 d2))
  rcases h with ⟨k, hk, e⟩ | ⟨k, hk, e⟩
  · exact isF_mult z k E hk (by omega) d3
  · exact isF_mult z k E hk (by omega) d3

/-- Sterbenz: of two above nought, neither more than twice the other, the difference is exact. -/
theorem sterbenz (a b : Int) (ha : isF a) (hb : isF b) (h0 : 0 < a) (h1 : 0 < b) (h2 : a ≤ 2 * b) (h3 : b ≤ 2 * a) : isF (a - b) :=
  isF_less a b (a - b) ha hb (by omega) (by omega) (fun E d1 d2 => Int.dvd_sub d1 d2)

/-- What a sum is off by. -/
theorem off_is (a b : Int) (ha : isF a) (hb : isF b) (hz : bigZ (a + b)) : isF (a + b - R (a + b)) ∧ (a + b - R (a + b)).natAbs ≤ a.natAbs ∧ (a + b - R (a + b)).natAbs ≤ b.natAbs := by
  have na := R_near (a + b) a hz ha
  have nb := R_near (a + b) b hz hb
  have g1 : (a + b - R (a + b)).natAbs ≤ a.natAbs := by omega
  have g2 : (a + b - R (a + b)).natAbs ≤ b.natAbs := by omega
  refine ⟨isF_less a b _ ha hb g1 g2 (fun E d1 d2 => ?_), g1, g2⟩
  have ds := Int.dvd_add d1 d2
  refine Int.dvd_sub ds ?_
  have dn := dvd_abs.1 ds
  have dr : 2 ^ E ∣ rN (a + b).natAbs := by
    by_cases h : E ≤ cutOf (a + b).natAbs
    · unfold rN
      exact Nat.dvd_trans (Nat.pow_dvd_pow 2 h) (Nat.dvd_mul_left _ _)
    · have e : rN (a + b).natAbs = (a + b).natAbs := by
        refine rN_exact _ hz.out ?_
        obtain ⟨j, hj⟩ := dn
        have hh := cut_hi _ hz.out
        refine ⟨j, E, ?_, by rw [hj, Nat.mul_comm]⟩
        rw [hj] at hh
        have hh2 : 2 ^ E * j < 2 ^ E * 2 ^ 11 := by
          refine Nat.lt_of_lt_of_le hh ?_
          rw [← hj, ← Nat.pow_add]
          exact Nat.pow_le_pow_right (by omega) (by omega)
        have := Nat.lt_of_mul_lt_mul_left hh2
        have e11 : (2 : Nat) ^ 11 = 2048 := by decide
        omega
      rw [e]; exact dn
  unfold R
  split
  · exact Int.dvd_neg.2 (Int.ofNat_dvd.2 dr)
  · exact Int.ofNat_dvd.2 dr

/-- A number and the exponent that it has as it is written. -/
theorem norm_of (n : Nat) (hb : big n) (h : inF n) : ∃ k E, k < 2048 ∧ n = k * 2 ^ E ∧ (E = 0 ∨ 2 ^ (10 + E) ≤ n) := by
  have e := rN_exact n hb h
  by_cases h0 : cutOf n = 0
  · have hh := cut_hi n hb
    rw [h0] at hh
    have e11 : (2 : Nat) ^ (11 + 0) = 2048 := by decide
    exact ⟨n, 0, by omega, by simp, Or.inl rfl⟩
  · refine ⟨keep n, cutOf n, ?_, e.symm, Or.inr (cut_lo n hb h0)⟩
    have hh : keep n * 2 ^ cutOf n < 2 ^ 11 * 2 ^ cutOf n := by
      have h1 := cut_hi n hb
      have h2 : keep n * 2 ^ cutOf n = n := e
      rw [h2, ← Nat.pow_add]; exact h1
    have := Nat.lt_of_mul_lt_mul_right hh
    have e11 : (2 : Nat) ^ 11 = 2048 := by decide
    omega

/-- Dekker: of two of which the first is the greater one, their rounded sum less the first one is exact: the first one above nought. -/
theorem dekker_pos (a b : Int) (ha : isF a) (hb : isF b) (h0 : 0 < a) (hba : b.natAbs ≤ a.natAbs) (bz : bigZ (a + b)) (bb : bigZ a) : isF (R (a + b) - a) := by
  obtain ⟨k, E, hk, hn, hE⟩ := norm_of a.natAbs bb.out ha
  have hpE := Nat.two_pow_pos E
  have da : (2 ^ E : Nat) ∣ a.natAbs := ⟨k, by rw [hn, Nat.mul_comm]⟩
  rcases Int.lt_or_le b 0 with hb0 | hb0
  · rcases Int.lt_or_le (a + 2 * b) 0 with hc | hc
    · -- the lesser one is more than half of the other
      have hs := sterbenz a (-b) ha (isF_neg hb) h0 (by omega) (by omega) (by omega)
      rw [show a - -b = a + b by omega] at hs
      rw [R_exact _ bz hs, show a + b - a = b by omega]
      exact hb
    · rcases hE with rfl | hE
      · have : isF (a + b) := by
          refine ⟨(a + b).natAbs, 0, ?_, by simp⟩
          rw [hn] at hba
          simp at hn
          omega
        rw [R_exact _ bz this, show a + b - a = b by omega]
        exact hb
      · by_cases hE0 : E = 0
        · subst hE0
          have : isF (a + b) := by
            refine ⟨(a + b).natAbs, 0, ?_, by simp⟩
            simp at hn
            omega
          rw [R_exact _ bz this, show a + b - a = b by omega]
          exact hb
        obtain ⟨F, rfl⟩ : ∃ F, E = F + 1 := ⟨E - 1, by omega⟩
        have e2 : 2 ^ (F + 1) = 2 * 2 ^ F := by rw [Nat.pow_succ]; omega
        -- half of the greater one is one of them
        have hh : a.natAbs = 2 * (k * 2 ^ F) := by rw [hn, e2, Nat.mul_left_comm]
        obtain ⟨H, hH⟩ : ∃ H, k * 2 ^ F = H := ⟨_, rfl⟩
        rw [hH] at hh
        have fH : isF (H : Int) := ⟨k, F, hk, by rw [hH]; rfl⟩
        have bH : bigZ (H : Int) := by unfold bigZ at *; omega
        have m1 := R_mono H (a + b) bH bz (by omega)
        rw [R_exact _ bH fH] at m1
        have m2 := R_mono (a + b) a bz bb (by omega)
        rw [R_exact _ bb ha] at m2
        have e3 : 2 ^ (10 + (F + 1)) = 2 * 2 ^ (10 + F) := by rw [← Nat.add_assoc, Nat.pow_succ]; omega
        rw [e3] at hE
        obtain ⟨j, hj⟩ := rN_mult (a + b).natAbs F bz.out (Or.inr (by omega))
        have hR := R_pos (a + b) (by omega)
        refine isF_mult _ k F hk (by rw [hH]; omega) ?_
        refine dvd_abs.1 ?_
        refine Int.dvd_sub ?_ (dvd_abs.2 (Nat.dvd_trans (Nat.pow_dvd_pow 2 (Nat.le_succ F)) da))
        rw [hR, hj]
        exact Int.ofNat_dvd.2 (Nat.dvd_mul_left _ _)
  · have m1 := R_mono a (a + b) bb bz (by omega)
    rw [R_exact _ bb ha] at m1
    have hR := R_pos (a + b) (by omega)
    have nb := R_near (a + b) (2 * a) bz (by
      obtain ⟨k', E', hk', e'⟩ := ha
      exact ⟨k', E' + 1, hk', by rw [Int.natAbs_mul, e', Nat.pow_succ]; simp [Nat.mul_comm, Nat.mul_left_comm]⟩)
    obtain ⟨j, hj⟩ := rN_mult (a + b).natAbs E bz.out (by
      rcases hE with h | h
      · exact Or.inl h
      · exact Or.inr (by omega))
    refine isF_mult _ k E hk (by rw [← hn]; omega) ?_
    refine dvd_abs.1 (Int.dvd_sub ?_ (dvd_abs.2 da))
    rw [hR, hj]
    exact Int.ofNat_dvd.2 (Nat.dvd_mul_left _ _)

theorem dekker (a b : Int) (ha : isF a) (hb : isF b) (hba : b.natAbs ≤ a.natAbs) (bz : bigZ (a + b)) (bb : bigZ a) : isF (R (a + b) - a) := by
  rcases Int.lt_trichotomy a 0 with h | h | h
  · have g := dekker_pos (-a) (-b) (isF_neg ha) (isF_neg hb) (by omega) (by omega) (by unfold bigZ at *; omega) (by unfold bigZ at *; omega)
    rw [show -a + -b = -(a + b) by omega, R_neg] at g
    have := isF_neg g
    rwa [show -(-R (a + b) - -a) = R (a + b) - a by omega] at this
  · subst h
    have : b = 0 := by omega
    subst this
    rw [R_exact _ bz isF_zero]
    exact isF_zero
  · exact dekker_pos a b ha hb h hba bz bb

theorem opposite (a b s : Int) (na : (s + a ≤ 2 * (a + b) ∧ a ≤ s) ∨ (2 * (a + b) ≤ s + a ∧ s ≤ a)) (nm : (s + -a ≤ 2 * (a + b) ∧ -a ≤ s) ∨ (2 * (a + b) ≤ s + -a ∧ s ≤ -a)) (h : s.natAbs < a.natAbs) (hl : a.natAbs < b.natAbs) :
    (0 < a ∧ b < 0 ∧ -b ≤ 2 * a ∧ a ≤ 2 * -b) ∨ (a < 0 ∧ 0 < b ∧ b ≤ 2 * -a ∧ -a ≤ 2 * b) := by
  rcases Int.lt_trichotomy a 0 with h1 | h1 | h1
  · right; omega
  · subst h1; simp at h
  · left; omega

set_option maxHeartbeats 2000000 in
/-- Knuth's sum of two. -/
theorem two_sum (a b s t p da db e : Int) (ha : isF a) (hb : isF b) (la : a.natAbs ≤ 2199023255552) (lb : b.natAbs ≤ 2199023255552) (hs : s = R (a + b)) (ls : s.natAbs ≤ 2199023255552) (ht : t = R (s - a)) (lt : t.natAbs ≤ 2199023255552)
    (hp : p = R (s - t)) (lp : p.natAbs ≤ 2199023255552) (hda : da = R (a - p)) (lda : da.natAbs ≤ 2199023255552) (hdb : db = R (b - t)) (ldb : db.natAbs ≤ 2199023255552) (he : e = R (da + db)) : a + b = s + e := by
  have B : ∀ z : Int, z.natAbs ≤ 4398046511104 → bigZ z := fun z h => by unfold bigZ; omega
  obtain ⟨fd, d1, d2⟩ := off_is a b ha hb (B _ (by omega))
  rw [← hs] at fd d1 d2
  have fs : isF s := by rw [hs]; exact isF_R _ (B _ (by omega))
  obtain ⟨d, hd⟩ : ∃ d, a + b - s = d := ⟨_, rfl⟩
  rw [hd] at fd d1 d2
  have e1 : s - a = b - d := by omega
  have ft : isF t := by rw [ht]; exact isF_R _ (B _ (by omega))
  by_cases hn : s - a = t
  · have x1 : s - t = a := by omega
    rw [x1, R_exact a (B _ (by omega)) ha] at hp
    subst hp
    rw [Int.sub_self, R_exact 0 (B _ (by simp)) isF_zero] at hda
    subst hda
    rw [show b - t = d by omega, R_exact d (B _ (by omega)) fd] at hdb
    subst hdb
    rw [Int.zero_add, R_exact db (B _ (by omega)) fd] at he
    omega
  · -- the first one is less
    have hlt : a.natAbs < b.natAbs := by
      rcases Nat.lt_or_ge a.natAbs b.natAbs with h | h
      · exact h
      · exfalso
        have g := dekker a b ha hb h (B _ (by omega)) (B _ (by omega))
        rw [← hs] at g
        rw [R_exact _ (B _ (by omega)) g] at ht
        exact hn ht.symm
    have hge : a.natAbs ≤ s.natAbs := by
      rcases Nat.lt_or_ge s.natAbs a.natAbs with h | h
      · exfalso
        -- then the sum is exact
        have na := R_near (a + b) a (B _ (by omega)) ha
        have nm := R_near (a + b) (-a) (B _ (by omega)) (isF_neg ha)
        rw [← hs] at na nm
        have ex : isF (a + b) := by
          have o := opposite a b s na nm h hlt
          clear na nm h hlt hn e1 d1 d2 hd ht hp hda hdb he hs ls lt lp lda ldb la lb
          rcases o with ⟨h1, h2, h3, h4⟩ | ⟨h1, h2, h3, h4⟩
          · have g := sterbenz a (-b) ha (isF_neg hb) h1 (by omega) (by omega) (by omega)
            rwa [show a - -b = a + b by omega] at g
          · have g := sterbenz b (-a) hb (isF_neg ha) h2 (by omega) (by omega) (by omega)
            rwa [show b - -a = a + b by omega] at g
        rw [R_exact _ (B _ (by omega)) ex] at hs
        rw [show s - a = b by omega, R_exact b (B _ (by omega)) hb] at ht
        omega
      · exact h
    have g1 := dekker s (-a) fs (isF_neg ha) (by omega) (B _ (by omega)) (B _ (by omega))
    rw [show s + -a = s - a by omega, ← ht] at g1
    have g1' := isF_neg g1
    rw [show -(t - s) = s - t by omega] at g1'
    rw [R_exact _ (B _ (by omega)) g1'] at hp
    have g2 := dekker b (-d) hb (isF_neg fd) (by omega) (B _ (by omega)) (B _ (by omega))
    rw [show b + -d = s - a by omega, ← ht] at g2
    have g2' := isF_neg g2
    rw [show -(t - b) = b - t by omega] at g2'
    rw [R_exact _ (B _ (by omega)) g2'] at hdb
    obtain ⟨g3, _, _⟩ := off_is s (-a) fs (isF_neg ha) (B _ (by omega))
    rw [show s + -a = s - a by omega, ← ht] at g3
    have g4 : a - p = -(s - a - t) := by omega
    rw [g4, R_exact _ (B _ (by omega)) (isF_neg g3)] at hda
    rw [show da + db = d by omega, R_exact d (B _ (by omega)) fd] at he
    omega

end Go.Proofs.Yteniijmnpgdpcaa
