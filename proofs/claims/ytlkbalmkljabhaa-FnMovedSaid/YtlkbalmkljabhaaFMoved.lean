/-
  The law on memories that move.
-/
import Derived.Test.YtlkbalmkljabhaaFMvG
import Derived.Test.YtlkbalmkljabhaaFLoadM
import Derived.Test.YtlkbalmkljabhaaKeep
import Derived.Test.YtlkbalmkljabhaaBel
import Derived.BigQuiet
namespace Go.Proofs.Ytlkbalmkljabhaa
open Go.ChangeShapes Go.WideShapes Go.ChangeAt Go.RowKit

theorem Bys.later {w w' : World} {a : Option Addr} {n : Nat} (h : Bys w a n w.heap.size) (k : Below w.heap.size w w') : Bys w' a n w'.heap.size := fun hn => by
  obtain ⟨b, off, e, hl, hc⟩ := (h.below k) hn
  exact ⟨b, off, e, Nat.lt_of_lt_of_le hl k.size, hc⟩

theorem i64w (n : Int) (h0 : -9223372036854775808 ≤ n) (h1 : n ≤ 9223372036854775807) : IntKind.i64.wrap n = n := by rw [IntKind.wrap_i64]; omega
theorem grown_lo (E : ByteArray) (m : Nat) : (E ++ zeros m).extract 0 E.size = E := by
  apply ba_ext
  rw [ext_list, ByteArray.data_append, Array.toList_append, List.drop_zero, Nat.sub_zero, ← dlen E, List.take_left]
theorem grown_size (E : ByteArray) (m : Nat) : (E ++ zeros m).size = E.size + m := by
  show (E ++ zeros m).data.size = _
  rw [ByteArray.data_append, Array.size_append]
  show E.size + (zeros m).size = _
  rw [zeros_size]
theorem grown_hi (E : ByteArray) (m j : Nat) (hj : j < (E ++ zeros m).size) (h : E.size ≤ j) : (E ++ zeros m)[j] = 0 := by
  have e2 : (E ++ zeros m).data = E.data ++ (zeros m).data := ByteArray.data_append
  have hj2 : j < (E.data ++ (zeros m).data).size := by rw [← e2]; exact hj
  have e3 : (E ++ zeros m).data[j]? = some 0 := by
    rw [e2, Array.getElem?_append_right h]
    show (Array.replicate m (0 : UInt8))[j - E.data.size]? = some 0
    rw [Array.getElem?_replicate, if_pos]
    rw [Array.size_append] at hj2
    have : (zeros m).data.size = m := zeros_size m
    have : E.data.size = E.size := rfl
    omega
  have e4 : (E ++ zeros m).data[j]? = some (E ++ zeros m)[j] := Array.getElem?_eq_getElem hj
  rw [e4] at e3
  simpa using e3

theorem copyAll (M : Int) (D : ByteArray) (h : D.size ≤ 1048576) (t f n : Int) (ht : t ≤ 9223372036854775807) (hf : f ≤ 9223372036854775807) :
    (∃ M' D' c, c ≠ 0 ∧ (∀ w, Calls Try.prog 27 #[.agg #[.int .i64 M, .string D], .int .i64 t, .int .i64 f, .int .i64 n] w fun e w' => e = .returned (.tuple #[.agg #[.int .i64 M', .string D'], .int .i64 c]) ∧ Below w.heap.size w w') ∧
      (∀ w, Calls Try.prog 26 #[.agg #[.int .i64 M, .string D], .int .i64 t, .int .i64 f, .int .i64 n] w fun e w' => e = .returned (.tuple #[.agg #[.int .i64 M', .string D'], .int .i64 c]) ∧ Below w.heap.size w w')) ∨
    (∃ t' f' n' : Nat, t = (t' : Int) ∧ f = (f' : Int) ∧ n = (n' : Int) ∧ t' + n' ≤ D.size ∧ f' + n' ≤ D.size ∧ (∀ w, Calls Try.prog 27 #[.agg #[.int .i64 M, .string D], .int .i64 (t' : Int), .int .i64 (f' : Int), .int .i64 (n' : Int)] w fun e w' => e = .returned (.tuple #[.agg #[.int .i64 M, .string (laidOver D t' (D.extract f' (f' + n')))], .int .i64 0]) ∧ Below w.heap.size w w') ∧
      (∀ w, Calls Try.prog 26 #[.agg #[.int .i64 M, .string D], .int .i64 (t' : Int), .int .i64 (f' : Int), .int .i64 (n' : Int)] w fun e w' => e = .returned (.tuple #[.agg #[.int .i64 M, .string (laidOver D t' (D.extract f' (f' + n')))], .int .i64 0]) ∧ Below w.heap.size w w')) := by
  by_cases hc : codeOf (good M D) D.size [(t, n), (f, n)] = 0
  · have S := copyS M D h t f n ht hf 0 hc M _ (fun _ => ⟨rfl, rfl⟩) (fun h => absurd rfl h)
    obtain ⟨hg, h0, h1, h2, h3, h4⟩ := code2_zero hc
    obtain ⟨t, rfl⟩ : ∃ k : Nat, t = (k : Int) := ⟨t.toNat, by omega⟩
    obtain ⟨f, rfl⟩ : ∃ k : Nat, f = (k : Int) := ⟨f.toNat, by omega⟩
    obtain ⟨n, rfl⟩ : ∃ k : Nat, n = (k : Int) := ⟨n.toNat, by omega⟩
    simp only [Int.toNat_natCast] at S
    exact .inr ⟨t, f, n, rfl, rfl, rfl, by omega, by omega, S, copyI_yes M D h t f n hg (by omega) (by omega)⟩
  · exact .inl ⟨_, _, _, hc, copyS M D h t f n ht hf _ rfl _ _ (fun h => absurd h hc) (fun _ => rfl), copyI_no M D h t f n ht hf _ rfl hc⟩

theorem growAll (U : Int) (E : ByteArray) (h : E.size ≤ 600) (y : Int) (y0 : -1 ≤ y) (y1 : y ≤ 4) :
    (∃ M1 D1 M2 D2, (∀ w, Calls Try.prog 30 #[.agg #[.int .i64 U, .string E], .int .i64 y] w fun e w' => e = .returned (.tuple #[.agg #[.int .i64 M2, .string D2], .int .i64 0, .bool false]) ∧ Below w.heap.size w w') ∧
      (∀ w, Calls Try.prog 29 #[.agg #[.int .i64 U, .string E], .int .i64 y] w fun e w' => e = .returned (.tuple #[.agg #[.int .i64 M1, .string D1], .int .i64 0, .bool false]) ∧ Below w.heap.size w w')) ∨
    ((∀ w, Calls Try.prog 30 #[.agg #[.int .i64 U, .string E], .int .i64 y] w fun e w' => e = .returned (.tuple #[.agg #[.int .i64 U, .string E], .int .i64 (-1), .bool true]) ∧ Below w.heap.size w w') ∧
      (∀ w, Calls Try.prog 29 #[.agg #[.int .i64 U, .string E], .int .i64 y] w fun e w' => e = .returned (.tuple #[.agg #[.int .i64 U, .string E], .int .i64 (-1), .bool true]) ∧ Below w.heap.size w w')) ∨
    (∃ (b : Nat) (k : Int), y = (b : Int) ∧ 0 ≤ k ∧ (∀ w, Calls Try.prog 30 #[.agg #[.int .i64 U, .string E], .int .i64 (b : Int)] w fun e w' => e = .returned (.tuple #[.agg #[.int .i64 U, .string (E ++ zeros (b * 256))], .int .i64 k, .bool true]) ∧ Below w.heap.size w w') ∧
      (∀ w, Calls Try.prog 29 #[.agg #[.int .i64 U, .string E], .int .i64 (b : Int)] w fun e w' => e = .returned (.tuple #[.agg #[.int .i64 U, .string (E ++ zeros (b * 256))], .int .i64 k, .bool true]) ∧ Below w.heap.size w w')) := by
  cases hg : good U E
  · exact .inl ⟨_, _, _, _, growS_bad U E (by omega) y hg, growI_bad U E (by omega) y hg⟩
  · by_cases hy : y < 0
    · exact .inl ⟨_, _, _, _, growS_neg U E (by omega) y hg hy, growI_neg U E (by omega) y hg hy⟩
    · by_cases hf : U < (E.size : Int) / 256 + y
      · exact .inr (.inl ⟨growS_full U E (by omega) y hg (by omega) y1 _ rfl (by omega) (by omega) hf, growI_full U E (by omega) y hg (by omega) y1 _ rfl (by omega) (by omega) hf⟩)
      · obtain ⟨b, rfl⟩ : ∃ b : Nat, y = (b : Int) := ⟨y.toNat, by omega⟩
        exact .inr (.inr ⟨b, (E.size : Int) / 256, rfl, by omega, growS_yes U E h b hg (by omega) _ rfl (by omega) (by omega) (by omega), growI_yes U E h b hg (by omega) _ rfl (by omega) (by omega) (by omega)⟩)

set_option maxHeartbeats 4000000 in
set_option maxRecDepth 2000000 in
theorem movedB (a1 : Option Addr) (n1 c1 : Nat) (a2 : Option Addr) (n2 c2 : Nat) (w : World) (h1 : Bys w a1 n1 w.heap.size) (h2 : Bys w a2 n2 w.heap.size) :
    Calls Try.prog 7 #[.slice a1 n1 c1, .slice a2 n2 c2] w fun e w' => e = .returned (.bool true) ∧ Below w.heap.size w w' := by
  by_cases hlen : 1048576 < wrap64 ((n1 : Int) + n2)
  · go_enter Try.func7, Try.ntmps7
    go_wp2
    go_ret
    exact ⟨rfl, Below.refl _ _⟩
  · go_enter Try.func7, Try.ntmps7
    go_wp2_with fail
    refine (drawCopyWithin a1 n1 c1 w h1).mono ?_
    rintro e w1 ⟨M, p, q, z, D, hD, p1, q1, z1, rfl, B1⟩
    rcases copyAll M D (by omega) p q z p1 q1 with ⟨M', D', c, hc, S, I⟩ | ⟨t, f, n, rfl, rfl, rfl, ht, hf, S, I⟩
    · clear hD p1 q1 z1
      have hcb : (c == 0) = false := by simpa using hc
      go_wp2_with fail
      refine (I _).mono ?_
      rintro e w2 ⟨rfl, B2⟩
      have m0 : w2.cell? ⟨w1.heap.size, 0, none⟩ = some (.int .i64 M) := keepCell B2 (by simp) (newCell rfl rfl)
      have m1 : w2.cell? ⟨w1.heap.size, 1, none⟩ = some (.string D) := keepCell B2 (by simp) (newCell rfl rfl)
      have HB2 : Hid (Below w.heap.size w w2) := bel_step (bel_alloc B1 _) B2
      have ml : w1.heap.size < w2.heap.size := by have := B2.size; simp at this; omega
      have ma0 : (w2.alloc (.cells #[.int .i64 M', .string D'] 40)).cell? ⟨w1.heap.size, 0, none⟩ = some (.int .i64 M) := pastCell ml m0
      have ma1 : (w2.alloc (.cells #[.int .i64 M', .string D'] 40)).cell? ⟨w1.heap.size, 1, none⟩ = some (.string D) := pastCell ml m1
      clear B2 m0 m1 ml
      go_wp2_with fail
      refine (S _).mono ?_
      rintro e w3 ⟨rfl, B3⟩
      have HBA : Below w.heap.size w (w3.alloc (.cells #[.int .i64 M', .string D'] 40)) := bel_alloc (bel_step (bel_alloc HB2.out _) B3) _
      have HBQ : ∀ q, Hid (Below w.heap.size w ((w3.alloc (.cells #[.int .i64 M', .string D'] 40)).drewN q)) := fun q => bel_drewN HBA q
      clear B3 S I B1 HBA hc ma0 ma1
      go_wp2_with fail
      go_quiet (fail)
      go_wp2_with fail
      refine (drawGrowMemory a2 n2 c2 _ (h2.later (HBQ _).out)).mono ?_
      rintro e v1 ⟨U, y, E, hE, y0, y1, rfl, V1⟩
      have HV1 : Hid (Below w.heap.size w v1) := bel_step (HBQ _).out V1
      rcases growAll U E hE y y0 y1 with ⟨M1, D1, M2, D2, S, I⟩ | ⟨S, I⟩ | ⟨b, k, rfl, hk, S, I⟩
      · skip
        clear y0 y1 V1
        go_wp2_with fail
        refine (I _).mono ?_
        rintro e v2 ⟨rfl, V2⟩
        have u0 : v2.cell? ⟨v1.heap.size, 0, none⟩ = some (.int .i64 U) := keepCell V2 (by simp) (newCell rfl rfl)
        have u1 : v2.cell? ⟨v1.heap.size, 1, none⟩ = some (.string E) := keepCell V2 (by simp) (newCell rfl rfl)
        have HV2 : Hid (Below w.heap.size w v2) := bel_step (bel_alloc HV1.out _) V2
        have ul : v1.heap.size < v2.heap.size := by have := V2.size; simp at this; omega
        have ua0 : (v2.alloc (.cells #[.int .i64 M1, .string D1] 40)).cell? ⟨v1.heap.size, 0, none⟩ = some (.int .i64 U) := pastCell ul u0
        have ua1 : (v2.alloc (.cells #[.int .i64 M1, .string D1] 40)).cell? ⟨v1.heap.size, 1, none⟩ = some (.string E) := pastCell ul u1
        clear V2 u0 u1
        go_wp2_with fail
        refine (S _).mono ?_
        rintro e v3 ⟨rfl, V3⟩
        have HV3 : Hid (Below w.heap.size w v3) := bel_step (bel_alloc HV2.out _) V3
        have hs3 : v2.heap.size < v3.heap.size := by have := V3.size; simp at this; omega
        clear V3 hs3 ul ua0 ua1
        go_wp2
        go_ret
        exact ⟨rfl, bel_alloc HV3.out _⟩
      · skip
        clear y0 y1 V1
        go_wp2_with fail
        refine (I _).mono ?_
        rintro e v2 ⟨rfl, V2⟩
        have u0 : v2.cell? ⟨v1.heap.size, 0, none⟩ = some (.int .i64 U) := keepCell V2 (by simp) (newCell rfl rfl)
        have u1 : v2.cell? ⟨v1.heap.size, 1, none⟩ = some (.string E) := keepCell V2 (by simp) (newCell rfl rfl)
        have HV2 : Hid (Below w.heap.size w v2) := bel_step (bel_alloc HV1.out _) V2
        have ul : v1.heap.size < v2.heap.size := by have := V2.size; simp at this; omega
        have ua0 : (v2.alloc (.cells #[.int .i64 U, .string E] 40)).cell? ⟨v1.heap.size, 0, none⟩ = some (.int .i64 U) := pastCell ul u0
        have ua1 : (v2.alloc (.cells #[.int .i64 U, .string E] 40)).cell? ⟨v1.heap.size, 1, none⟩ = some (.string E) := pastCell ul u1
        clear V2 u0 u1
        go_wp2_with fail
        refine (S _).mono ?_
        rintro e v3 ⟨rfl, V3⟩
        have HV3 : Hid (Below w.heap.size w v3) := bel_step (bel_alloc HV2.out _) V3
        have hs3 : v2.heap.size < v3.heap.size := by have := V3.size; simp at this; omega
        have x0 : v3.cell? ⟨v2.heap.size, 0, none⟩ = some (.int .i64 U) := keepCell V3 (by simp) (newCell rfl rfl)
        have x1 : v3.cell? ⟨v2.heap.size, 1, none⟩ = some (.string E) := keepCell V3 (by simp) (newCell rfl rfl)
        have t0 : v3.cell? ⟨v1.heap.size, 0, none⟩ = some (.int .i64 U) := keepCell V3 (by simp; omega) ua0
        have t1 : v3.cell? ⟨v1.heap.size, 1, none⟩ = some (.string E) := keepCell V3 (by simp; omega) ua1
        have xa0 : (v3.alloc (.cells #[.int .i64 U, .string E] 40)).cell? ⟨v2.heap.size, 0, none⟩ = some (.int .i64 U) := pastCell hs3 x0
        have xa1 : (v3.alloc (.cells #[.int .i64 U, .string E] 40)).cell? ⟨v2.heap.size, 1, none⟩ = some (.string E) := pastCell hs3 x1
        have ta0 : (v3.alloc (.cells #[.int .i64 U, .string E] 40)).cell? ⟨v1.heap.size, 0, none⟩ = some (.int .i64 U) := pastCell (by omega) t0
        have ta1 : (v3.alloc (.cells #[.int .i64 U, .string E] 40)).cell? ⟨v1.heap.size, 1, none⟩ = some (.string E) := pastCell (by omega) t1
        clear V3 hs3 ul ua0 ua1 x0 x1 t0 t1 S I hE
        go_wp2
        go_ret
        exact ⟨rfl, bel_alloc HV3.out _⟩
      · skip
        obtain ⟨X, hX⟩ : ∃ X, E ++ zeros (b * 256) = X := ⟨_, rfl⟩
        have hXs : (X.size : Int) = (E.size : Int) + (b : Int) * 256 := by rw [← hX, grown_size]; omega
        have HB4 : Hid (b ≤ 4) := by unfold Hid; omega
        have hXe : X.extract 0 E.size = E := by rw [← hX]; exact grown_lo E _
        have hXz : Hid (∀ j (hj : j < X.size), E.size ≤ j → X[j] = 0) := fun j hj hle => by subst hX; exact grown_hi E _ j hj hle
        rw [hX] at S I
        clear y0 y1 V1
        go_wp2_with fail
        refine (I _).mono ?_
        rintro e v2 ⟨rfl, V2⟩
        have u0 : v2.cell? ⟨v1.heap.size, 0, none⟩ = some (.int .i64 U) := keepCell V2 (by simp) (newCell rfl rfl)
        have u1 : v2.cell? ⟨v1.heap.size, 1, none⟩ = some (.string E) := keepCell V2 (by simp) (newCell rfl rfl)
        have HV2 : Hid (Below w.heap.size w v2) := bel_step (bel_alloc HV1.out _) V2
        have ul : v1.heap.size < v2.heap.size := by have := V2.size; simp at this; omega
        have ua0 : (v2.alloc (.cells #[.int .i64 U, .string X] 40)).cell? ⟨v1.heap.size, 0, none⟩ = some (.int .i64 U) := pastCell ul u0
        have ua1 : (v2.alloc (.cells #[.int .i64 U, .string X] 40)).cell? ⟨v1.heap.size, 1, none⟩ = some (.string E) := pastCell ul u1
        clear V2 u0 u1
        go_wp2_with fail
        refine (S _).mono ?_
        rintro e v3 ⟨rfl, V3⟩
        have HV3 : Hid (Below w.heap.size w v3) := bel_step (bel_alloc HV2.out _) V3
        have hs3 : v2.heap.size < v3.heap.size := by have := V3.size; simp at this; omega
        have x0 : v3.cell? ⟨v2.heap.size, 0, none⟩ = some (.int .i64 U) := keepCell V3 (by simp) (newCell rfl rfl)
        have x1 : v3.cell? ⟨v2.heap.size, 1, none⟩ = some (.string X) := keepCell V3 (by simp) (newCell rfl rfl)
        have t0 : v3.cell? ⟨v1.heap.size, 0, none⟩ = some (.int .i64 U) := keepCell V3 (by simp; omega) ua0
        have t1 : v3.cell? ⟨v1.heap.size, 1, none⟩ = some (.string E) := keepCell V3 (by simp; omega) ua1
        have xa0 : (v3.alloc (.cells #[.int .i64 U, .string X] 40)).cell? ⟨v2.heap.size, 0, none⟩ = some (.int .i64 U) := pastCell hs3 x0
        have xa1 : (v3.alloc (.cells #[.int .i64 U, .string X] 40)).cell? ⟨v2.heap.size, 1, none⟩ = some (.string X) := pastCell hs3 x1
        have ta0 : (v3.alloc (.cells #[.int .i64 U, .string X] 40)).cell? ⟨v1.heap.size, 0, none⟩ = some (.int .i64 U) := pastCell (by omega) t0
        have ta1 : (v3.alloc (.cells #[.int .i64 U, .string X] 40)).cell? ⟨v1.heap.size, 1, none⟩ = some (.string E) := pastCell (by omega) t1
        have hb4 := HB4.out
        have hE0 : (0 : Int) ≤ (E.size : Int) := by omega
        have hE1 : (E.size : Int) ≤ (X.size : Int) := by omega
        have hbw : IntKind.i64.wrap ((b : Int) * 256) = (b : Int) * 256 := i64w _ (by omega) (by omega)
        have hsw : IntKind.i64.wrap ((E.size : Int) + (b : Int) * 256) = (E.size : Int) + (b : Int) * 256 := i64w _ (by omega) (by omega)
        have ha : ∀ w, (Instr.slice 9 (.string X) none (some (.int .i64 (E.size : Int))) none).run Try.prog w = .ok (.string E) w := fun w => by
          rw [run_slice_string_h _ _ _ Try.underlying9 .i64 (E.size : Int) hE0 (by omega), Int.toNat_natCast, hXe]
        obtain ⟨xs, hxs⟩ : ∃ x, X.size = x := ⟨_, rfl⟩
        obtain ⟨es, hes⟩ : ∃ x, E.size = x := ⟨_, rfl⟩
        have hXS : Hid (xs ≤ 10000 ∧ es ≤ xs) := by unfold Hid; omega
        have HXX : Hid (X.size = xs ∧ E.size = es) := ⟨hxs, hes⟩
        rw [hxs, hes] at hXs hE1
        rw [hes] at ha hsw hE0
        have hxq : (X.size : Int) = (xs : Int) := by rw [hxs]
        have heq : (E.size : Int) = (es : Int) := by rw [hes]
        have HV4 : Hid (Below w.heap.size w (v3.alloc (.cells #[.int .i64 U, .string X] 40))) := bel_alloc HV3.out _
        have k1 : (k == -1) = false := by simp; omega
        clear V3 hs3 ul ua0 ua1 x0 x1 t0 t1 S I hX hXe hxs hes hb4
        go_wp2_with fail
        go_quiet (fail)
        obtain ⟨W, hW⟩ : ∃ W, (v3.alloc (.cells #[.int .i64 U, .string X] 40)).drewN nq = W := ⟨_, rfl⟩
        have wx1 : W.cell? ⟨v2.heap.size, 1, none⟩ = some (.string X) := by rw [← hW]; exact xa1
        have wt1 : W.cell? ⟨v1.heap.size, 1, none⟩ = some (.string E) := by rw [← hW]; exact ta1
        have HBW : Hid (Below w.heap.size w W) := by unfold Hid; rw [← hW]; exact bel_drewN HV4.out nq
        rw [hW]
        clear hW xa0 xa1 ta0 ta1 HV1 HV2 HV3 HV4 HBQ
        go_wp2
        clear wt1
        go_loopw [21] (fun i wr => ∃ j : Nat, es ≤ j ∧ j ≤ xs ∧ i = .int .i64 (j : Int) ∧ wr = W) (fun i _ => xs - (intOf i).toNat)
        case atStart => exact ⟨es, Nat.le_refl _, hXS.out.2, rfl, rfl⟩
        case round =>
          obtain ⟨j, hj0, hj1, rfl, rfl⟩ := hrel
          by_cases hlt : j < xs
          · have hjX : j < X.size := by have := HXX.out.1; omega
            have hz : X[j] = 0 := hXz.out j hjX (by have := HXX.out.2; omega)
            have hlt2 : (j : Int) < (xs : Int) := by omega
            have hx4 : (j : Int) + 1 ≤ 20000 := by have := hXS.out; omega
            go_wp2
            go_roundw
            case rel => exact ⟨j + 1, by omega, by omega, by go_num, trivial⟩
            case measure => simp [intOf]; omega
          · go_wp2
            go_ret
            exact ⟨rfl, HBW.out⟩
    · obtain ⟨Y, hY⟩ : ∃ Y, D.extract f (f + n) = Y := ⟨_, rfl⟩
      have hYs : Y.size = n := by rw [← hY, ByteArray.size_extract]; omega
      rw [hY] at S I
      have hto : t + Y.size ≤ D.size := by omega
      have hz := size_laidOver D t Y hto
      have g0 : (laidOver D t Y).extract t (t + n) = Y := by have h := lo_mid D t Y hto; rw [hYs] at h; exact h
      have g1 : (laidOver D t Y).extract 0 t = D.extract 0 t := lo_lo D t Y hto
      have g2 : (laidOver D t Y).extract (t + n) D.size = D.extract (t + n) D.size := by have h := lo_hi D t Y hto D.size; rw [hYs] at h; exact h
      have hk0 : (0 : Int) ≤ (t : Int) := by omega
      have hk2 : (0 : Int) ≤ (t : Int) + (n : Int) := by omega
      have hki : IntKind.i64.wrap ((t : Int) + (n : Int)) = (t : Int) + (n : Int) := i64w _ (by omega) (by omega)
      have hkf : IntKind.i64.wrap ((f : Int) + (n : Int)) = (f : Int) + (n : Int) := i64w _ (by omega) (by omega)
      have hkn : ((t : Int) + (n : Int)).toNat = t + n := by omega
      have hfn : ((f : Int) + (n : Int)).toNat = f + n := by omega
      obtain ⟨X, hX⟩ : ∃ X, laidOver D t Y = X := ⟨_, rfl⟩
      rw [hX] at hz g0 g1 g2 S I
      have hA : ∀ w, (Instr.slice 9 (.string X) (some (.int .i64 (t : Int))) (some (.int .i64 ((t : Int) + (n : Int)))) none).run Try.prog w = .ok (.string Y) w := fun w => by
        rw [run_slice_string _ _ _ .i64 .i64 (t : Int) ((t : Int) + (n : Int)) Try.underlying9 hk0 (by omega) (by omega), Int.toNat_natCast, hkn, g0]
      have hB : ∀ w, (Instr.slice 9 (.string D) (some (.int .i64 (f : Int))) (some (.int .i64 ((f : Int) + (n : Int)))) none).run Try.prog w = .ok (.string Y) w := fun w => by
        rw [run_slice_string _ _ _ .i64 .i64 (f : Int) ((f : Int) + (n : Int)) Try.underlying9 (by omega) (by omega) (by omega), Int.toNat_natCast, hfn, hY]
      have ha : ∀ w, (Instr.slice 9 (.string X) none (some (.int .i64 (t : Int))) none).run Try.prog w = .ok (.string (D.extract 0 t)) w := fun w => by
        rw [run_slice_string_h _ _ _ Try.underlying9 .i64 (t : Int) hk0 (by omega), Int.toNat_natCast, g1]
      have hb : ∀ w, (Instr.slice 9 (.string D) none (some (.int .i64 (t : Int))) none).run Try.prog w = .ok (.string (D.extract 0 t)) w := fun w => by
        rw [run_slice_string_h _ _ _ Try.underlying9 .i64 (t : Int) hk0 (by omega), Int.toNat_natCast]
      have hcc : ∀ w, (Instr.slice 9 (.string X) (some (.int .i64 ((t : Int) + (n : Int)))) none none).run Try.prog w = .ok (.string (D.extract (t + n) D.size)) w := fun w => by
        rw [run_slice_string_l _ _ _ Try.underlying9 .i64 ((t : Int) + (n : Int)) hk2 (by omega), hkn, hz, g2]
      have hdd : ∀ w, (Instr.slice 9 (.string D) (some (.int .i64 ((t : Int) + (n : Int)))) none none).run Try.prog w = .ok (.string (D.extract (t + n) D.size)) w := fun w => by
        rw [run_slice_string_l _ _ _ Try.underlying9 .i64 ((t : Int) + (n : Int)) hk2 (by omega), hkn]
      have hzi : (X.size : Int) = (D.size : Int) := by omega
      clear g0 g1 g2 hk0 hk2 hkn hfn hf ht hD p1 q1 z1 hX hY hYs hto hz
      go_wp2_with fail
      refine (I _).mono ?_
      rintro e w2 ⟨rfl, B2⟩
      have m0 : w2.cell? ⟨w1.heap.size, 0, none⟩ = some (.int .i64 M) := keepCell B2 (by simp) (newCell rfl rfl)
      have m1 : w2.cell? ⟨w1.heap.size, 1, none⟩ = some (.string D) := keepCell B2 (by simp) (newCell rfl rfl)
      have HB2 : Hid (Below w.heap.size w w2) := bel_step (bel_alloc B1 _) B2
      have ml : w1.heap.size < w2.heap.size := by have := B2.size; simp at this; omega
      have ma0 : (w2.alloc (.cells #[.int .i64 M, .string X] 40)).cell? ⟨w1.heap.size, 0, none⟩ = some (.int .i64 M) := pastCell ml m0
      have ma1 : (w2.alloc (.cells #[.int .i64 M, .string X] 40)).cell? ⟨w1.heap.size, 1, none⟩ = some (.string D) := pastCell ml m1
      clear B2 m0 m1
      go_wp2_with fail
      refine (S _).mono ?_
      rintro e w3 ⟨rfl, B3⟩
      have hz3 : w2.heap.size < w3.heap.size := by have := B3.size; simp at this; omega
      have mb1 : w3.cell? ⟨w1.heap.size, 1, none⟩ = some (.string D) := keepCell B3 (by simp; omega) ma1
      have xb1 : (w3.alloc (.cells #[.int .i64 M, .string X] 40)).cell? ⟨w2.heap.size, 1, none⟩ = some (.string X) := pastCell hz3 (keepCell B3 (by simp) (newCell rfl rfl))
      have mc1 : (w3.alloc (.cells #[.int .i64 M, .string X] 40)).cell? ⟨w1.heap.size, 1, none⟩ = some (.string D) := pastCell (by omega) mb1
      have HB3 : Below w.heap.size w (w3.alloc (.cells #[.int .i64 M, .string X] 40)) := bel_alloc (bel_step (bel_alloc HB2.out _) B3) _
      have HBQ : ∀ q, Hid (Below w.heap.size w ((w3.alloc (.cells #[.int .i64 M, .string X] 40)).drewN q)) := fun q => bel_drewN HB3 q
      clear B3 ml hz3 mb1 ma0 ma1 S I B1 HB3
      go_wp2_with fail
      go_quiet (fail)
      clear mc1 xb1 hA hB ha hb hcc hdd hzi hki hkf
      go_wp2_with fail
      refine (drawGrowMemory a2 n2 c2 _ (h2.later (HBQ _).out)).mono ?_
      rintro e v1 ⟨U, y, E, hE, y0, y1, rfl, V1⟩
      have HV1 : Hid (Below w.heap.size w v1) := bel_step (HBQ _).out V1
      rcases growAll U E hE y y0 y1 with ⟨M1, D1, M2, D2, S, I⟩ | ⟨S, I⟩ | ⟨b, k, rfl, hk, S, I⟩
      · skip
        clear y0 y1 V1
        go_wp2_with fail
        refine (I _).mono ?_
        rintro e v2 ⟨rfl, V2⟩
        have u0 : v2.cell? ⟨v1.heap.size, 0, none⟩ = some (.int .i64 U) := keepCell V2 (by simp) (newCell rfl rfl)
        have u1 : v2.cell? ⟨v1.heap.size, 1, none⟩ = some (.string E) := keepCell V2 (by simp) (newCell rfl rfl)
        have HV2 : Hid (Below w.heap.size w v2) := bel_step (bel_alloc HV1.out _) V2
        have ul : v1.heap.size < v2.heap.size := by have := V2.size; simp at this; omega
        have ua0 : (v2.alloc (.cells #[.int .i64 M1, .string D1] 40)).cell? ⟨v1.heap.size, 0, none⟩ = some (.int .i64 U) := pastCell ul u0
        have ua1 : (v2.alloc (.cells #[.int .i64 M1, .string D1] 40)).cell? ⟨v1.heap.size, 1, none⟩ = some (.string E) := pastCell ul u1
        clear V2 u0 u1
        go_wp2_with fail
        refine (S _).mono ?_
        rintro e v3 ⟨rfl, V3⟩
        have HV3 : Hid (Below w.heap.size w v3) := bel_step (bel_alloc HV2.out _) V3
        have hs3 : v2.heap.size < v3.heap.size := by have := V3.size; simp at this; omega
        clear V3 hs3 ul ua0 ua1
        go_wp2
        go_ret
        exact ⟨rfl, bel_alloc HV3.out _⟩
      · skip
        clear y0 y1 V1
        go_wp2_with fail
        refine (I _).mono ?_
        rintro e v2 ⟨rfl, V2⟩
        have u0 : v2.cell? ⟨v1.heap.size, 0, none⟩ = some (.int .i64 U) := keepCell V2 (by simp) (newCell rfl rfl)
        have u1 : v2.cell? ⟨v1.heap.size, 1, none⟩ = some (.string E) := keepCell V2 (by simp) (newCell rfl rfl)
        have HV2 : Hid (Below w.heap.size w v2) := bel_step (bel_alloc HV1.out _) V2
        have ul : v1.heap.size < v2.heap.size := by have := V2.size; simp at this; omega
        have ua0 : (v2.alloc (.cells #[.int .i64 U, .string E] 40)).cell? ⟨v1.heap.size, 0, none⟩ = some (.int .i64 U) := pastCell ul u0
        have ua1 : (v2.alloc (.cells #[.int .i64 U, .string E] 40)).cell? ⟨v1.heap.size, 1, none⟩ = some (.string E) := pastCell ul u1
        clear V2 u0 u1
        go_wp2_with fail
        refine (S _).mono ?_
        rintro e v3 ⟨rfl, V3⟩
        have HV3 : Hid (Below w.heap.size w v3) := bel_step (bel_alloc HV2.out _) V3
        have hs3 : v2.heap.size < v3.heap.size := by have := V3.size; simp at this; omega
        have x0 : v3.cell? ⟨v2.heap.size, 0, none⟩ = some (.int .i64 U) := keepCell V3 (by simp) (newCell rfl rfl)
        have x1 : v3.cell? ⟨v2.heap.size, 1, none⟩ = some (.string E) := keepCell V3 (by simp) (newCell rfl rfl)
        have t0 : v3.cell? ⟨v1.heap.size, 0, none⟩ = some (.int .i64 U) := keepCell V3 (by simp; omega) ua0
        have t1 : v3.cell? ⟨v1.heap.size, 1, none⟩ = some (.string E) := keepCell V3 (by simp; omega) ua1
        have xa0 : (v3.alloc (.cells #[.int .i64 U, .string E] 40)).cell? ⟨v2.heap.size, 0, none⟩ = some (.int .i64 U) := pastCell hs3 x0
        have xa1 : (v3.alloc (.cells #[.int .i64 U, .string E] 40)).cell? ⟨v2.heap.size, 1, none⟩ = some (.string E) := pastCell hs3 x1
        have ta0 : (v3.alloc (.cells #[.int .i64 U, .string E] 40)).cell? ⟨v1.heap.size, 0, none⟩ = some (.int .i64 U) := pastCell (by omega) t0
        have ta1 : (v3.alloc (.cells #[.int .i64 U, .string E] 40)).cell? ⟨v1.heap.size, 1, none⟩ = some (.string E) := pastCell (by omega) t1
        clear V3 hs3 ul ua0 ua1 x0 x1 t0 t1 S I hE
        go_wp2
        go_ret
        exact ⟨rfl, bel_alloc HV3.out _⟩
      · skip
        obtain ⟨X, hX⟩ : ∃ X, E ++ zeros (b * 256) = X := ⟨_, rfl⟩
        have hXs : (X.size : Int) = (E.size : Int) + (b : Int) * 256 := by rw [← hX, grown_size]; omega
        have HB4 : Hid (b ≤ 4) := by unfold Hid; omega
        have hXe : X.extract 0 E.size = E := by rw [← hX]; exact grown_lo E _
        have hXz : Hid (∀ j (hj : j < X.size), E.size ≤ j → X[j] = 0) := fun j hj hle => by subst hX; exact grown_hi E _ j hj hle
        rw [hX] at S I
        clear y0 y1 V1
        go_wp2_with fail
        refine (I _).mono ?_
        rintro e v2 ⟨rfl, V2⟩
        have u0 : v2.cell? ⟨v1.heap.size, 0, none⟩ = some (.int .i64 U) := keepCell V2 (by simp) (newCell rfl rfl)
        have u1 : v2.cell? ⟨v1.heap.size, 1, none⟩ = some (.string E) := keepCell V2 (by simp) (newCell rfl rfl)
        have HV2 : Hid (Below w.heap.size w v2) := bel_step (bel_alloc HV1.out _) V2
        have ul : v1.heap.size < v2.heap.size := by have := V2.size; simp at this; omega
        have ua0 : (v2.alloc (.cells #[.int .i64 U, .string X] 40)).cell? ⟨v1.heap.size, 0, none⟩ = some (.int .i64 U) := pastCell ul u0
        have ua1 : (v2.alloc (.cells #[.int .i64 U, .string X] 40)).cell? ⟨v1.heap.size, 1, none⟩ = some (.string E) := pastCell ul u1
        clear V2 u0 u1
        go_wp2_with fail
        refine (S _).mono ?_
        rintro e v3 ⟨rfl, V3⟩
        have HV3 : Hid (Below w.heap.size w v3) := bel_step (bel_alloc HV2.out _) V3
        have hs3 : v2.heap.size < v3.heap.size := by have := V3.size; simp at this; omega
        have x0 : v3.cell? ⟨v2.heap.size, 0, none⟩ = some (.int .i64 U) := keepCell V3 (by simp) (newCell rfl rfl)
        have x1 : v3.cell? ⟨v2.heap.size, 1, none⟩ = some (.string X) := keepCell V3 (by simp) (newCell rfl rfl)
        have t0 : v3.cell? ⟨v1.heap.size, 0, none⟩ = some (.int .i64 U) := keepCell V3 (by simp; omega) ua0
        have t1 : v3.cell? ⟨v1.heap.size, 1, none⟩ = some (.string E) := keepCell V3 (by simp; omega) ua1
        have xa0 : (v3.alloc (.cells #[.int .i64 U, .string X] 40)).cell? ⟨v2.heap.size, 0, none⟩ = some (.int .i64 U) := pastCell hs3 x0
        have xa1 : (v3.alloc (.cells #[.int .i64 U, .string X] 40)).cell? ⟨v2.heap.size, 1, none⟩ = some (.string X) := pastCell hs3 x1
        have ta0 : (v3.alloc (.cells #[.int .i64 U, .string X] 40)).cell? ⟨v1.heap.size, 0, none⟩ = some (.int .i64 U) := pastCell (by omega) t0
        have ta1 : (v3.alloc (.cells #[.int .i64 U, .string X] 40)).cell? ⟨v1.heap.size, 1, none⟩ = some (.string E) := pastCell (by omega) t1
        have hb4 := HB4.out
        have hE0 : (0 : Int) ≤ (E.size : Int) := by omega
        have hE1 : (E.size : Int) ≤ (X.size : Int) := by omega
        have hbw : IntKind.i64.wrap ((b : Int) * 256) = (b : Int) * 256 := i64w _ (by omega) (by omega)
        have hsw : IntKind.i64.wrap ((E.size : Int) + (b : Int) * 256) = (E.size : Int) + (b : Int) * 256 := i64w _ (by omega) (by omega)
        have ha : ∀ w, (Instr.slice 9 (.string X) none (some (.int .i64 (E.size : Int))) none).run Try.prog w = .ok (.string E) w := fun w => by
          rw [run_slice_string_h _ _ _ Try.underlying9 .i64 (E.size : Int) hE0 (by omega), Int.toNat_natCast, hXe]
        obtain ⟨xs, hxs⟩ : ∃ x, X.size = x := ⟨_, rfl⟩
        obtain ⟨es, hes⟩ : ∃ x, E.size = x := ⟨_, rfl⟩
        have hXS : Hid (xs ≤ 10000 ∧ es ≤ xs) := by unfold Hid; omega
        have HXX : Hid (X.size = xs ∧ E.size = es) := ⟨hxs, hes⟩
        rw [hxs, hes] at hXs hE1
        rw [hes] at ha hsw hE0
        have hxq : (X.size : Int) = (xs : Int) := by rw [hxs]
        have heq : (E.size : Int) = (es : Int) := by rw [hes]
        have HV4 : Hid (Below w.heap.size w (v3.alloc (.cells #[.int .i64 U, .string X] 40))) := bel_alloc HV3.out _
        have k1 : (k == -1) = false := by simp; omega
        clear V3 hs3 ul ua0 ua1 x0 x1 t0 t1 S I hX hXe hxs hes hb4
        go_wp2_with fail
        go_quiet (fail)
        obtain ⟨W, hW⟩ : ∃ W, (v3.alloc (.cells #[.int .i64 U, .string X] 40)).drewN nq = W := ⟨_, rfl⟩
        have wx1 : W.cell? ⟨v2.heap.size, 1, none⟩ = some (.string X) := by rw [← hW]; exact xa1
        have wt1 : W.cell? ⟨v1.heap.size, 1, none⟩ = some (.string E) := by rw [← hW]; exact ta1
        have HBW : Hid (Below w.heap.size w W) := by unfold Hid; rw [← hW]; exact bel_drewN HV4.out nq
        rw [hW]
        clear hW xa0 xa1 ta0 ta1 HV1 HV2 HV3 HV4 HBQ
        go_wp2
        clear wt1
        go_loopw [21] (fun i wr => ∃ j : Nat, es ≤ j ∧ j ≤ xs ∧ i = .int .i64 (j : Int) ∧ wr = W) (fun i _ => xs - (intOf i).toNat)
        case atStart => exact ⟨es, Nat.le_refl _, hXS.out.2, rfl, rfl⟩
        case round =>
          obtain ⟨j, hj0, hj1, rfl, rfl⟩ := hrel
          by_cases hlt : j < xs
          · have hjX : j < X.size := by have := HXX.out.1; omega
            have hz : X[j] = 0 := hXz.out j hjX (by have := HXX.out.2; omega)
            have hlt2 : (j : Int) < (xs : Int) := by omega
            have hx4 : (j : Int) + 1 ≤ 20000 := by have := hXS.out; omega
            go_wp2
            go_roundw
            case rel => exact ⟨j + 1, by omega, by omega, by go_num, trivial⟩
            case measure => simp [intOf]; omega
          · go_wp2
            go_ret
            exact ⟨rfl, HBW.out⟩

end Go.Proofs.Ytlkbalmkljabhaa
