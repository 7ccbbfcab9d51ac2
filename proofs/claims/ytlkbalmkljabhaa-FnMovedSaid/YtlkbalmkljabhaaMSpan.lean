/-
  Spans: none, within, and the code of several.
-/
import Derived.Test.YtlkbalmkljabhaaMGood
namespace Go.Proofs.Ytlkbalmkljabhaa
open Go.ChangeShapes Go.WideShapes Go.ChangeAt Go.RowKit

def spNone (p : Int × Int) : Bool := decide (p.1 < 0) || decide (p.2 < 0)
def spIn (n : Int) (p : Int × Int) : Bool := decide (p.2 ≤ n - p.1)
/-- The code of spans in a memory of n bytes that is good or not. -/
def codeOf (g : Bool) (n : Int) (L : List (Int × Int)) : Int := if g = false then 1 else if L.any spNone = true then 1 else if L.all (spIn n) = true then 0 else 2
def spanAt (w : World) (b : Nat) (L : List (Int × Int)) : Prop :=
  ∀ i (h : i < L.length), w.cell? ⟨b, i * 2, none⟩ = some (.int .i64 L[i].1) ∧ w.cell? ⟨b, i * 2 + 1, none⟩ = some (.int .i64 L[i].2)

theorem isNone (a n : Int) (w : World) :
    Calls Try.prog 89 #[.agg #[.int .i64 a, .int .i64 n]] w fun e w' => e = .returned (.bool (spNone (a, n))) ∧ Below w.heap.size w w' := by
  by_cases h : a < 0
  · rw [show spNone (a, n) = true by simp [spNone, h]]
    go_enter Try.func89, Try.ntmps89
    go_wp2
    go_ret
    refine ⟨rfl, ?_⟩
    (repeat (first | refine Below.alloc ?_ (by first | (simp; done) | (simp; omega)) _ | refine Below.setCell ?_ (by first | (simp; done) | (simp; omega)) _ | refine bel_dN ?_ _ | refine Below.drew ?_ | exact Below.refl _ _))
  · rw [show spNone (a, n) = decide (n < 0) by simp [spNone, h]]
    go_enter Try.func89, Try.ntmps89
    go_wp2
    go_ret
    refine ⟨rfl, ?_⟩
    (repeat (first | refine Below.alloc ?_ (by first | (simp; done) | (simp; omega)) _ | refine Below.setCell ?_ (by first | (simp; done) | (simp; omega)) _ | refine bel_dN ?_ _ | refine Below.drew ?_ | exact Below.refl _ _))

theorem within (a n s : Int) (h0 : 0 ≤ a) (h1 : a ≤ 9223372036854775807) (h2 : 0 ≤ s) (h3 : s ≤ 1048576) (w : World) :
    Calls Try.prog 90 #[.agg #[.int .i64 a, .int .i64 n], .int .i64 s] w fun e w' => e = .returned (.bool (spIn s (a, n))) ∧ Below w.heap.size w w' := by
  have c : wrap64 (s - a) = s - a := by unfold wrap64; omega
  rw [show spIn s (a, n) = decide (n ≤ s - a) by rfl]
  clear h0 h1 h2 h3
  go_enter Try.func90, Try.ntmps90
  go_wp2
  go_ret
  refine ⟨rfl, ?_⟩
  (repeat (first | refine Below.alloc ?_ (by first | (simp; done) | (simp; omega)) _ | refine Below.setCell ?_ (by first | (simp; done) | (simp; omega)) _ | refine bel_dN ?_ _ | refine Below.drew ?_ | exact Below.refl _ _))

set_option maxRecDepth 100000 in
set_option maxHeartbeats 1600000 in
theorem spansCode (M : Int) (D : ByteArray) (h : D.size ≤ 1048576) (b : Nat) (L : List (Int × Int)) (w : World) (hb : b < w.heap.size) (hL : spanAt w b L) (hlen : L.length ≤ 1048576) (hsz : ∀ i (h : i < L.length), L[i].1 ≤ 9223372036854775807) :
    Calls Try.prog 55 #[.agg #[.int .i64 M, .string D], .slice (some ⟨b, 0, none⟩) L.length L.length] w fun e w' => e = .returned (.int .i64 (codeOf (good M D) D.size L)) ∧ Below w.heap.size w w' := by
  have HG := mGoodI M D h
  generalize hg : good M D = G at HG ⊢
  clear hg
  cases G
  · rw [show codeOf false D.size L = 1 by rfl]
    go_enter Try.func55, Try.ntmps55
    go_wp2_with fail
    refine (HG _).mono ?_
    rintro e w1 ⟨rfl, B1⟩
    go_wp2
    go_ret
    refine ⟨rfl, ?_⟩
    ((repeat (first | refine bel_alloc ?_ _ | refine bel_dN ?_ _ | refine Below.drew ?_ | refine Below.setCell ?_ (by first | (simp; done) | (simp; omega)) _)); refine bel_step ?_ B1; (repeat (first | refine bel_alloc ?_ _ | refine bel_dN ?_ _ | refine Below.drew ?_ | refine Below.setCell ?_ (by first | (simp; done) | (simp; omega)) _)); exact Below.refl _ _)
  · obtain ⟨g, hg⟩ : ∃ g, w.heap.size = g := ⟨_, rfl⟩
    obtain ⟨R, hR⟩ : ∃ R, codeOf true D.size L = R := ⟨_, rfl⟩
    rw [hR]
    have HR : Hid (codeOf true D.size L = R) := hR
    clear hR
    go_enter Try.func55, Try.ntmps55
    go_wp2_with fail
    refine (HG _).mono ?_
    rintro e w1 ⟨rfl, B1⟩
    have H1 : Hid (Below g w w1) := by unfold Hid; rw [← hg]; ((repeat (first | refine bel_alloc ?_ _ | refine bel_dN ?_ _ | refine Below.drew ?_ | refine Below.setCell ?_ (by first | (simp; done) | (simp; omega)) _)); refine bel_step ?_ B1; (repeat (first | refine bel_alloc ?_ _ | refine bel_dN ?_ _ | refine Below.drew ?_ | refine Below.setCell ?_ (by first | (simp; done) | (simp; omega)) _)); exact Below.refl _ _)
    have q0 : w1.cell? ⟨g, 0, none⟩ = some (.int .i64 M) := by rw [B1.cell (p := ⟨g, 0, none⟩) (by simp; omega), ← hg]; simp
    have q1 : w1.cell? ⟨g, 1, none⟩ = some (.string D) := by rw [B1.cell (p := ⟨g, 1, none⟩) (by simp; omega), ← hg]; simp
    have hg1 : g < w1.heap.size := by have := B1.size; simp at this; omega
    have l1 : spanAt w1 b L := fun i hi => by
      have := hL i hi
      have e : ∀ o, w1.cell? ⟨b, o, none⟩ = w.cell? ⟨b, o, none⟩ := fun o => H1.out.cell (p := ⟨b, o, none⟩) (by show b < g; omega)
      exact ⟨(e _).trans this.1, (e _).trans this.2⟩
    have hb1 : b < w1.heap.size := by omega
    clear B1 HG hL
    go_wp2
    go_loopw [14] (fun i wr => ∃ k : Nat, k ≤ L.length ∧ i = .int .i64 k ∧ Hid (∀ j (hj : j < L.length), j < k → spNone L[j] = false) ∧ Below w1.heap.size w1 wr) (fun i _ => L.length - (intOf i).toNat)
    case atStart => exact ⟨0, by omega, rfl, by intro j _ hj; omega, Below.refl _ _⟩
    case round =>
      obtain ⟨k, hk, rfl, hq, hnx⟩ := hrel
      have hsr := hnx.size
      by_cases hlt : k < L.length
      · have hc := l1 k hlt
        obtain ⟨x, hx⟩ : ∃ x, x = L[k] := ⟨_, rfl⟩
        rw [← hx] at hc
        have HX : Hid (x = L[k]) := hx
        clear hx
        obtain ⟨a, n⟩ := x
        simp only at hc
        have hc0 : wr.cell? ⟨b, k * 2, none⟩ = some (.int .i64 a) := (hnx.cell (p := ⟨b, k * 2, none⟩) hb1).trans hc.1
        have hc1 : wr.cell? ⟨b, k * 2 + 1, none⟩ = some (.int .i64 n) := (hnx.cell (p := ⟨b, k * 2 + 1, none⟩) hb1).trans hc.2
        clear hc
        have HN := isNone a n
        generalize hS : spNone (a, n) = S at HN
        cases S
        · go_wp2_with fail
          refine (HN _).mono ?_
          rintro e w2 ⟨rfl, B2⟩
          clear HN hc0 hc1
          go_wp2
          go_roundw
          case rel =>
            refine ⟨k + 1, by omega, by go_num, ?_, ?_⟩
            · intro j hj hj2
              by_cases hjk : j = k
              · subst hjk; rw [← HX.out]; exact hS
              · exact hq.out j hj (by omega)
            · refine bel_step (bel_step hnx ?_) B2
              (repeat (first | refine Below.alloc ?_ (by first | (simp; done) | (simp; omega)) _ | refine Below.setCell ?_ (by first | (simp; done) | (simp; omega)) _ | refine bel_dN ?_ _ | refine Below.drew ?_ | exact Below.refl _ _))
          case measure => simp [intOf]; omega
        · go_wp2_with fail
          refine (HN _).mono ?_
          rintro e w2 ⟨rfl, B2⟩
          clear HN hc0 hc1
          go_wp2
          go_ret
          have hR : R = 1 := by
            rw [← HR.out]; unfold codeOf
            have : L.any spNone = true := List.any_eq_true.2 ⟨L[k], List.getElem_mem hlt, by rw [← HX.out]; exact hS⟩
            simp [this]
          refine ⟨by rw [hR]; rfl, ?_⟩
          rw [hg]
          refine H1.out.trans (Below.mono ?_ (by omega : g ≤ w1.heap.size))
          refine bel_step (bel_step hnx ?_) B2
          (repeat (first | refine Below.alloc ?_ (by first | (simp; done) | (simp; omega)) _ | refine Below.setCell ?_ (by first | (simp; done) | (simp; omega)) _ | refine bel_dN ?_ _ | refine Below.drew ?_ | exact Below.refl _ _))
      · have hno : Hid (L.any spNone = false) := by
          unfold Hid; rw [List.any_eq_false]; intro x hx
          obtain ⟨j, hj, rfl⟩ := List.getElem_of_mem hx
          simp [hq.out j hj (by omega)]
        have H2 : Hid (Below g w wr) := H1.out.trans (hnx.mono (by omega))
        replace q0 := (hnx.cell (p := ⟨g, 0, none⟩) hg1).trans q0
        replace q1 := (hnx.cell (p := ⟨g, 1, none⟩) hg1).trans q1
        have l2 : spanAt wr b L := fun i hi => by
          have e : ∀ o, wr.cell? ⟨b, o, none⟩ = w1.cell? ⟨b, o, none⟩ := fun o => hnx.cell (p := ⟨b, o, none⟩) hb1
          exact ⟨(e _).trans (l1 i hi).1, (e _).trans (l1 i hi).2⟩
        have hb2 : b < wr.heap.size := by omega
        have hg2 : g < wr.heap.size := by omega
        obtain ⟨N, hN⟩ : ∃ N : Int, (D.size : Int) = N := ⟨_, rfl⟩
        have hN0 : Hid (0 ≤ N ∧ N ≤ 1048576) := by unfold Hid; omega
        rw [hN] at HR
        clear l1 H1 hnx hq hb1 hg1 hsr hk hb h
        go_wp2
        clear hlt
        obtain ⟨w9, hw9⟩ : ∃ w9, w9 = wr := ⟨_, rfl⟩
        subst hw9
        go_loopw [23] (fun i wx => ∃ k : Nat, k ≤ L.length ∧ i = .int .i64 k ∧ Hid (∀ j (hj : j < L.length), j < k → spIn N L[j] = true) ∧ Below w9.heap.size w9 wx) (fun i _ => L.length - (intOf i).toNat)
        case atStart => exact ⟨0, by omega, rfl, by intro j _ hj; omega, Below.refl _ _⟩
        case round =>
          obtain ⟨k, hk, rfl, hq, hnx⟩ := hrel
          have hsr := hnx.size
          by_cases hlt : k < L.length
          · have hc := l2 k hlt
            have hs1 := hsz k hlt
            have hno1 : spNone L[k] = false := by
              have := List.any_eq_false.1 hno.out L[k] (List.getElem_mem hlt)
              simpa using this
            obtain ⟨x, hx⟩ : ∃ x, x = L[k] := ⟨_, rfl⟩
            rw [← hx] at hc hs1 hno1
            have HX : Hid (x = L[k]) := hx
            clear hx
            obtain ⟨a, n⟩ := x
            simp only at hc hs1
            have ha0 : 0 ≤ a := by simp [spNone] at hno1; omega
            have hc0 : w9.cell? ⟨b, k * 2, none⟩ = some (.int .i64 a) := hc.1
            have hc1 : w9.cell? ⟨b, k * 2 + 1, none⟩ = some (.int .i64 n) := hc.2
            have d0 := (hnx.cell (p := ⟨b, k * 2, none⟩) hb2).trans hc0
            have d1 := (hnx.cell (p := ⟨b, k * 2 + 1, none⟩) hb2).trans hc1
            have p1 := (hnx.cell (p := ⟨g, 1, none⟩) hg2).trans q1
            have hgx : g < wr.heap.size := by omega
            have p2 : ∀ o, (wr.alloc o).cell? ⟨g, 1, none⟩ = some (.string D) := fun o => by simp [World.cell?_alloc_lt, hgx, p1]
            have HN := within a n N ha0 hs1 hN0.out.1 hN0.out.2
            clear hc hc0 hc1 ha0 hs1 hno1
            generalize hS : spIn N (a, n) = S at HN
            cases S
            · go_wp2_with fail
              refine (HN _).mono ?_
              rintro e w2 ⟨rfl, B2⟩
              clear HN d0 d1
              go_wp2
              go_ret
              have hR : R = 2 := by
                rw [← HR.out]; unfold codeOf
                have : ¬ L.all (spIn N) = true := fun h => by
                  have := List.all_eq_true.1 h L[k] (List.getElem_mem hlt)
                  rw [← HX.out, hS] at this; cases this
                simp [this, hno.out]
              refine ⟨by rw [hR]; rfl, ?_⟩
              rw [hg]
              refine H2.out.trans (Below.mono ?_ (by omega : g ≤ w9.heap.size))
              refine bel_step (bel_step hnx ?_) B2
              (repeat (first | refine Below.alloc ?_ (by first | (simp; done) | (simp; omega)) _ | refine Below.setCell ?_ (by first | (simp; done) | (simp; omega)) _ | refine bel_dN ?_ _ | refine Below.drew ?_ | exact Below.refl _ _))
            · go_wp2_with fail
              refine (HN _).mono ?_
              rintro e w2 ⟨rfl, B2⟩
              clear HN d0 d1
              go_wp2
              go_roundw
              case rel =>
                refine ⟨k + 1, by omega, by go_num, ?_, ?_⟩
                · intro j hj hj2
                  by_cases hjk : j = k
                  · subst hjk; rw [← HX.out]; exact hS
                  · exact hq.out j hj (by omega)
                · refine bel_step (bel_step hnx ?_) B2
                  (repeat (first | refine Below.alloc ?_ (by first | (simp; done) | (simp; omega)) _ | refine Below.setCell ?_ (by first | (simp; done) | (simp; omega)) _ | refine bel_dN ?_ _ | refine Below.drew ?_ | exact Below.refl _ _))
              case measure => simp [intOf]; omega
          · go_wp2
            go_ret
            have hR : R = 0 := by
              rw [← HR.out]; unfold codeOf
              have : L.all (spIn N) = true := List.all_eq_true.2 fun x hx => by
                obtain ⟨j, hj, rfl⟩ := List.getElem_of_mem hx
                exact hq.out j hj (by omega)
              simp [this, hno.out]
            refine ⟨by rw [hR]; rfl, ?_⟩
            rw [hg]
            exact H2.out.trans (hnx.mono (by omega))

end Go.Proofs.Ytlkbalmkljabhaa
