/-
  Good tables: the law's side.
-/
import Derived.Test.YtjielcilcningaaTB3
namespace Go.Proofs.Ytjielcilcningaa
open Go.ChangeShapes Go.WideShapes Go.ChangeAt Go.RowKit

/-- What is known of the first k slots. -/
def SlotsTo (S : List Hd) (k : Nat) : Prop := ∀ j (h : j < S.length), j < k → (S[j].u = true → okH S[j] = true) ∧ (S[j].u = false → isZ S[j] = true)
/-- What is known of the first k free numbers. -/
def FreeTo (S : List Hd) (F : List Int) (k : Nat) : Prop := (F.take k).Nodup ∧ (∀ x ∈ F.take k, 0 ≤ x ∧ x < (S.length : Int)) ∧ ∀ j (h : j < S.length), (j : Int) ∈ F.take k → S[j].u = false
theorem SlotsTo.more {S : List Hd} {k : Nat} (h : SlotsTo S k) {f : Hd} (hk : k < S.length) (hf : S[k] = f) (h1 : f.u = true → okH f = true) (h2 : f.u = false → isZ f = true) : SlotsTo S (k + 1) := fun j hj hjk => by
  by_cases e : j = k
  · subst e; rw [hf]; exact ⟨h1, h2⟩
  · exact h j hj (by omega)
theorem slots_no {S : List Hd} {F : List Int} {k : Nat} {f : Hd} (hk : k < S.length) (hf : S[k] = f) (h : (f.u = true ∧ okH f = false) ∨ (f.u = false ∧ isZ f = false)) : ¬ GoodT S F := fun hg => by
  have h1 := ((good_one S F).2 hg).1 k hk
  rw [hf] at h1
  rcases h with ⟨a, b⟩ | ⟨a, b⟩
  · rw [h1.1 a] at b; cases b
  · rw [h1.2 a] at b; cases b
theorem FreeTo.more {S : List Hd} {F : List Int} {k : Nat} (h : FreeTo S F k) {x : Int} (hk : k < F.length) (hx : F[k] = x) (h1 : 0 ≤ x ∧ x < (S.length : Int)) (h2 : ∀ f, S[x.toNat]? = some f → f.u = false) (h3 : ∀ j (hj : j < F.length), j < k → F[j] ≠ x) : FreeTo S F (k + 1) := by
  have et : F.take (k + 1) = F.take k ++ [x] := by rw [List.take_add_one, List.getElem?_eq_getElem hk, hx]; rfl
  have hnm : x ∉ F.take k := fun hm => by
    obtain ⟨j, hj, he⟩ := List.mem_take_iff_getElem.1 hm
    exact h3 j (by omega) (by omega) he
  refine ⟨?_, ?_, ?_⟩
  · rw [et, List.nodup_append]
    exact ⟨h.1, by simp, fun a ha b hb => by simp at hb; subst hb; exact fun e => hnm (e ▸ ha)⟩
  · intro y hy
    rw [et, List.mem_append] at hy
    rcases hy with hy | hy
    · exact h.2.1 y hy
    · simp at hy; subst hy; exact h1
  · intro j hj hm
    rw [et, List.mem_append] at hm
    rcases hm with hm | hm
    · exact h.2.2 j hj hm
    · simp at hm
      have e : x.toNat = j := by omega
      exact h2 _ (by rw [e]; exact List.getElem?_eq_getElem hj)
theorem free_no1 {S : List Hd} {F : List Int} {k : Nat} {x : Int} (hk : k < F.length) (hx : F[k] = x) (h : ¬ (0 ≤ x ∧ x < (S.length : Int))) : ¬ GoodT S F := fun hg => h (hg.2.2.1 x (hx ▸ List.getElem_mem hk))
theorem free_no2 {S : List Hd} {F : List Int} {k : Nat} {x : Int} {f : Hd} (hk : k < F.length) (hx : F[k] = x) (h0 : 0 ≤ x) (hf : S[x.toNat]? = some f) (hu : f.u = true) : ¬ GoodT S F := fun hg => by
  obtain ⟨hj, he⟩ := List.getElem?_eq_some_iff.1 hf
  have hm : ((x.toNat : Nat) : Int) ∈ F := by rw [show ((x.toNat : Nat) : Int) = x by omega]; exact hx ▸ List.getElem_mem hk
  have := ((good_one S F).2 hg).2.2.2.1 _ hj hm
  rw [he, hu] at this
  cases this
theorem free_no3 {S : List Hd} {F : List Int} {k j : Nat} {x : Int} (hk : k < F.length) (hx : F[k] = x) (hj : j < F.length) (hjk : j < k) (hy : F[j] = x) : ¬ GoodT S F := fun hg => by
  have h := List.pairwise_iff_getElem.1 hg.2.1 j k hj hk hjk
  rw [hx, hy] at h
  exact h rfl
theorem good_end {S : List Hd} {F : List Int} (h1 : SlotsTo S S.length) (h2 : FreeTo S F F.length) : (decide (S.length ≤ 40) && decide (F.length = frees S S.length)) = true ↔ GoodT S F := by
  rw [← good_one]
  unfold FreeTo at h2
  rw [List.take_length] at h2
  constructor
  · intro h
    simp at h
    exact ⟨fun k hk => h1 k hk hk, h2.1, h2.2.1, h2.2.2, h.1, h.2⟩
  · rintro ⟨_, _, _, _, h5, h6⟩
    simp [h5, h6]

/-- What is told is whether p holds. -/
def Tells (e : Ending) (p : Prop) : Prop := ∃ r, e = .returned (.bool r) ∧ (r = true ↔ p)
theorem tells_no {p : Prop} (h : ¬ p) : Tells (.returned (.bool false)) p := ⟨false, rfl, fun h => (by cases h), fun k => absurd k h⟩

set_option maxRecDepth 1000000 in
set_option maxHeartbeats 6400000 in
theorem specGoodT (a b : Option Addr) (c d : Nat) (S : List Hd) (F : List Int) (w : World) (hS : Hid (Hds w a S)) (hF : Hid (Ints w b F)) (lS : S.length ≤ 1048576) (lF : F.length ≤ 1048576) (hd : F.length ≤ d) :
    Calls Try.prog 25 #[tabV a S.length c b F.length d] w fun e w' => Tells e (GoodT S F) ∧ Below w.heap.size w w' := by
  obtain ⟨n, hn⟩ : ∃ n, S.length = n := ⟨_, rfl⟩
  obtain ⟨m, hm⟩ : ∃ m, F.length = m := ⟨_, rfl⟩
  obtain ⟨g, hg⟩ : ∃ g, w.heap.size = g := ⟨_, rfl⟩
  have HN : Hid (S.length = n) := hn
  have HM : Hid (F.length = m) := hm
  have HG : Hid (w.heap.size = g) := hg
  unfold tabV
  rw [hn] at lS ⊢
  rw [hm] at lF hd ⊢
  clear hn hm
  go_enter Try.func25, Try.ntmps25
  go_wp2
  clear hg
  have hb0 : Below w.heap.size w (w.alloc (.cells #[.slice a n c, .slice b m d] 26)) := bel_alloc (Below.refl _ _) _
  go_loopw [3, 13] (fun fr i wr => ∃ (k : Nat) (q : Nat), k ≤ n ∧ i = .int .i64 k ∧ fr = .int .i64 q ∧ q ≤ k ∧ Hid (q = frees S k) ∧ Hid (SlotsTo S k) ∧ Hid (wr.heap[g]? = some (.cells #[.slice a n c, .slice b m d] 26 (0, 0))) ∧ Hid (Below w.heap.size w wr)) (fun _ i _ => n - (intOf i).toNat)
  case atStart => exact ⟨0, 0, by omega, rfl, rfl, by omega, rfl, fun j _ h => absurd h (by omega), by unfold Hid; rw [← HG.out]; exact heap_alloc_new _ _, hb0⟩
  case round =>
    clear hb0
    obtain ⟨k, q, hk, rfl, rfl, hq, hqf, hsl, hx, hB⟩ := hrel
    by_cases hlt : k < n
    · obtain ⟨bb, off, rfl, hb, hc⟩ := hS.out.at k (by have := HN.out; omega)
      obtain ⟨f, hf⟩ : ∃ f, S[k]'(by have := HN.out; omega) = f := ⟨_, rfl⟩
      rw [hf] at hc
      have HF : Hid (S[k]'(by have := HN.out; omega) = f) := hf
      clear hf
      obtain ⟨d0, d1, d2, d3, d4, d5⟩ := hc.kept (w' := wr) (fun j => hB.out.cell (p := ⟨bb, j, none⟩) hb)
      clear hc
      obtain ⟨u, r, p, o, l, s⟩ := f
      simp only at d0 d1 d2 d3 d4 d5
      have HBn : Hid (Below w.heap.size w (wr.alloc (.cells #[.bool u, .int .i64 r, .int .i64 p, .bool o, .int .i64 l, .int .i64 s] 28))) := bel_alloc hB.out _
      have HXn : Hid ((wr.alloc (.cells #[.bool u, .int .i64 r, .int .i64 p, .bool o, .int .i64 l, .int .i64 s] 28)).heap[g]? = some (.cells #[.slice (some ⟨bb, off, none⟩) n c, .slice b m d] 26 (0, 0))) := (Below.heap_alloc _ _ _ (lt_of_block hx.out)).trans hx.out
      cases u
      · have NE := neqH false r p o l s
        obtain ⟨z, hz⟩ : ∃ z, isZ ⟨false, r, p, o, l, s⟩ = z := ⟨_, rfl⟩
        rw [hz] at NE
        have HZ : Hid (isZ ⟨false, r, p, o, l, s⟩ = z) := hz
        clear hz
        cases z
        · go_wp2
          go_ret
          exact ⟨tells_no (slots_no _ HF.out (.inr ⟨rfl, HZ.out⟩)), HBn.out⟩
        · go_wp2
          go_roundw
          case rel =>
            refine ⟨k + 1, q + 1, by omega, by go_num, by go_num, by omega, ?_, ?_, HXn, HBn⟩
            · unfold Hid; simp only [frees]; rw [List.getElem?_eq_getElem (by have := HN.out; omega), HF.out, ← hqf.out]; rfl
            · exact hsl.out.more (by have := HN.out; omega) HF.out (fun h => by cases h) (fun _ => HZ.out)
          case measure => simp [intOf]; omega
      · have SH := specHd ⟨true, r, p, o, l, s⟩
        unfold hdV at SH
        simp only at SH
        obtain ⟨z, hz⟩ : ∃ z, okH ⟨true, r, p, o, l, s⟩ = z := ⟨_, rfl⟩
        rw [hz] at SH
        have HZ : Hid (okH ⟨true, r, p, o, l, s⟩ = z) := hz
        clear hz
        go_wp2_with fail
        refine (SH _).mono ?_
        rintro e w1 ⟨rfl, hb1⟩
        have HB1 : Hid (Below w.heap.size w w1) := bel_step HBn.out hb1
        have HX1 : Hid (w1.heap[g]? = some (.cells #[.slice (some ⟨bb, off, none⟩) n c, .slice b m d] 26 (0, 0))) := (hb1.block g (lt_of_block HXn.out)).trans HXn.out
        have hy1 : w1.cell? ⟨wr.heap.size, 0, none⟩ = some (.bool true) := (hb1.cell (p := ⟨wr.heap.size, 0, none⟩) (by simp)).trans (newCell rfl rfl)
        clear hb1 SH HBn HXn
        cases z
        · go_wp2
          go_ret
          exact ⟨tells_no (slots_no _ HF.out (.inl ⟨rfl, HZ.out⟩)), HB1.out⟩
        · go_wp2
          go_roundw
          case rel =>
            refine ⟨k + 1, q, by omega, by go_num, rfl, by omega, ?_, ?_, HX1, HB1⟩
            · unfold Hid; simp only [frees]; rw [List.getElem?_eq_getElem (by have := HN.out; omega), HF.out, ← hqf.out]; rfl
            · exact hsl.out.more (by have := HN.out; omega) HF.out (fun _ => HZ.out) (fun h => by cases h)
          case measure => simp [intOf]; omega
    · obtain rfl : k = n := by omega
      have x0 : wr.cell? ⟨g, 0, none⟩ = some (.slice a k c) := (cell_of_block hx.out 0).trans rfl
      have x1 : wr.cell? ⟨g, 1, none⟩ = some (.slice b m d) := (cell_of_block hx.out 1).trans rfl
      clear hk
      go_wp2
      go_loopw [43] (fun i wx => ∃ (j : Nat), j ≤ m ∧ i = .int .i64 j ∧ Hid (FreeTo S F j) ∧ wx = wr) (fun i _ => m - (intOf i).toNat)
      case atStart => exact ⟨0, by omega, rfl, ⟨by simp, by simp, by simp⟩, rfl⟩
      case round =>
        obtain ⟨j, hj, rfl, hfr, hwx⟩ := hrel
        obtain rfl := hwx.symm
        clear hwx
        by_cases hjm : j < m
        · obtain ⟨b2, o2, rfl, hb2, hc2⟩ := (hF.out.below hB.out).at j (by have := HM.out; omega)
          obtain ⟨x, hxx⟩ : ∃ x, F[j]'(by have := HM.out; omega) = x := ⟨_, rfl⟩
          rw [hxx] at hc2
          have HXX : Hid (F[j]'(by have := HM.out; omega) = x) := hxx
          clear hxx
          obtain ⟨rb, hrb⟩ : ∃ r, Hid ((decide (0 ≤ x) && decide (x ≤ (k : Int) - 1)) = r) := ⟨_, rfl⟩
          have IN := in_eq x 0 ((k : Int) - 1) rb hrb
          cases rb
          · have hno : Hid (¬ GoodT S F) := by
              refine free_no1 (by have := HM.out; omega) HXX.out (fun h => ?_)
              have h1 := hrb.out
              have h3 := HN.out
              simp at h1
              omega
            clear hrb
            go_wp2_with fail
            refine (IN _).mono ?_
            rintro e w' ⟨rfl, hw⟩
            obtain rfl := hw.symm
            clear hw IN
            go_wp2
            go_ret
            exact ⟨tells_no hno.out, hB.out⟩
          · have h1 := hrb.out
            simp at h1
            obtain ⟨xn, rfl⟩ : ∃ y : Nat, x = (y : Int) := ⟨x.toNat, by omega⟩
            have hxk : xn < k := by omega
            obtain ⟨b3, o3, rfl, hb3, hc3⟩ := (hS.out.below hB.out).at xn (by have := HN.out; omega)
            obtain ⟨f, hf⟩ : ∃ f, S[xn]'(by have := HN.out; omega) = f := ⟨_, rfl⟩
            rw [hf] at hc3
            have HF : Hid (S[xn]? = some f) := by unfold Hid; rw [List.getElem?_eq_getElem (by have := HN.out; omega), hf]
            obtain ⟨d0, _, _, _, _, _⟩ := hc3
            clear hf h1 hrb
            rcases hu : f.u with _ | _
            · rw [hu] at d0
              have HU : Hid (f.u = false) := hu
              clear hu
              go_wp2_with fail
              refine (IN _).mono ?_
              rintro e w' ⟨rfl, hw⟩
              obtain rfl := hw.symm
              clear hw IN
              go_wp2
              go_loopw [68] (fun i wx => ∃ (t : Nat), t ≤ j ∧ i = .int .i64 t ∧ Hid (∀ y (hy : y < F.length), y < t → F[y] ≠ (xn : Int)) ∧ wx = wr) (fun i _ => j - (intOf i).toNat)
              case atStart => exact ⟨0, by omega, rfl, fun y _ h => absurd h (by omega), rfl⟩
              case round =>
                obtain ⟨t, ht, rfl, hne, hwx⟩ := hrel
                obtain rfl := hwx.symm
                clear hwx
                by_cases htj : t < j
                · obtain ⟨b4, o4, hbe, hb4, hc4⟩ := (hF.out.below hB.out).at t (by have := HM.out; omega)
                  simp at hbe
                  obtain ⟨rfl, rfl⟩ := hbe
                  obtain ⟨y, hy⟩ : ∃ x, F[t]'(by have := HM.out; omega) = x := ⟨_, rfl⟩
                  rw [hy] at hc4
                  have HY : Hid (F[t]'(by have := HM.out; omega) = y) := hy
                  clear hy
                  by_cases hyx : y = (xn : Int)
                  · subst hyx
                    go_wp2
                    go_ret
                    exact ⟨tells_no (free_no3 (by have := HM.out; omega) HXX.out (by have := HM.out; omega) htj HY.out), hB.out⟩
                  · go_wp2
                    go_roundw
                    case rel =>
                      refine ⟨t + 1, by omega, by go_num, fun z hz hzt => ?_, by trivial⟩
                      by_cases e : z = t
                      · subst e; rw [HY.out]; exact hyx
                      · exact hne.out z hz (by omega)
                    case measure => simp [intOf]; omega
                · obtain rfl : t = j := by omega
                  go_wp2
                  go_roundw
                  case rel =>
                    refine ⟨t + 1, by omega, by go_num, ?_, by trivial⟩
                    refine hfr.out.more (by have := HM.out; omega) HXX.out ⟨by omega, by have := HN.out; omega⟩ (fun f' h' => ?_) hne.out
                    have := HF.out
                    simp at h'
                    rw [this] at h'
                    cases h'
                    exact HU.out
                  case measure => simp [intOf]; omega
            · rw [hu] at d0
              have HU : Hid (f.u = true) := hu
              clear hu
              go_wp2_with fail
              refine (IN _).mono ?_
              rintro e w' ⟨rfl, hw⟩
              obtain rfl := hw.symm
              clear hw IN
              go_wp2
              go_ret
              exact ⟨tells_no (free_no2 (by have := HM.out; omega) HXX.out (by omega) (by simpa using HF.out) HU.out), hB.out⟩
        · obtain rfl : j = m := by omega
          have HE : Hid ((decide (S.length ≤ 40) && decide (F.length = frees S S.length)) = true ↔ GoodT S F) := good_end (by have h := hsl.out; rw [← HN.out] at h; exact h) (by have h := hfr.out; rw [← HM.out] at h; exact h)
          have HE2 : Hid ((decide (k ≤ 40) && decide (j = q)) = true ↔ GoodT S F) := by
            unfold Hid; have h := HE.out; have h2 := hqf.out; have h3 := HN.out; have h4 := HM.out; rw [h3, h4, ← h2] at h; exact h
          clear HE
          by_cases h40 : k ≤ 40
          · have h41 : decide (k ≤ 40) = true := by simpa using h40
            have hjq : ((j : Int) == (q : Int)) = decide (j = q) := by by_cases h : j = q <;> simp [h]; omega
            go_wp2
            go_ret
            refine ⟨⟨_, rfl, ?_⟩, hB.out⟩
            have h := HE2.out
            rw [h41] at h
            rw [← h]
            simp
          · have h41 : decide (k ≤ 40) = false := by simpa using h40
            go_wp2
            go_ret
            refine ⟨⟨_, rfl, ?_⟩, hB.out⟩
            have h := HE2.out
            rw [h41] at h
            rw [← h]
            simp

end Go.Proofs.Ytjielcilcningaa
