/-
  Good states: both sides.
-/
import Derived.Test.YtbliopgdkphoaaaSGoodW
import Derived.Test.YtbliopgdkphoaaaGShapeL
import Derived.Test.YtbliopgdkphoaaaGShapeS
import Derived.Test.YtbliopgdkphoaaaMGood
namespace Go.Proofs.Ytbliopgdkphoaaa
open Go.ChangeShapes Go.WideShapes Go.ChangeAt Go.RowKit

def fitWd (x : Wd8) (g : Glo7) : Bool := decide (x.ty = g.ty) && goodWd x
def okW (x : Wd8) : Prop := 0 ≤ x.bits ∧ x.bits ≤ 18446744073709551615
/-- Words and globals side by side, up to k. -/
def fitUp (L : List Wd8) (G : List Glo7) (k : Nat) : Prop := ∀ j (h : j < L.length) (h' : j < G.length), j < k → fitWd L[j] G[j] = true
def fitAll (L : List Wd8) (G : List Glo7) : Bool := decide (L.length = G.length) && (List.zip L G).all fun p => fitWd p.1 p.2
theorem fitAll_yes {L : List Wd8} {G : List Glo7} (hl : L.length = G.length) (h : fitUp L G L.length) : fitAll L G = true := by
  unfold fitAll
  simp only [hl, decide_true, Bool.true_and, List.all_eq_true]
  intro p hp
  obtain ⟨j, hj, rfl⟩ := List.getElem_of_mem hp
  rw [List.length_zip] at hj
  have h1 : j < L.length := by omega
  have := h j h1 (by omega) h1
  simpa using this
theorem fitAll_no {L : List Wd8} {G : List Glo7} (j : Nat) (h : j < L.length) (h' : j < G.length) (hn : fitWd L[j] G[j] = false) : fitAll L G = false := by
  unfold fitAll
  rw [Bool.and_eq_false_iff]
  right
  rw [List.all_eq_false]
  refine ⟨(L[j], G[j]), ?_, by simp [hn]⟩
  have h2 : j < (List.zip L G).length := by rw [List.length_zip]; omega
  have e : (List.zip L G)[j] = (L[j], G[j]) := by simp
  rw [← e]
  exact List.getElem_mem h2
theorem fitAll_len {L : List Wd8} {G : List Glo7} (h : L.length ≠ G.length) : fitAll L G = false := by unfold fitAll; simp [h]
theorem fitUp_more {L : List Wd8} {G : List Glo7} {k : Nat} (h : fitUp L G k) (hk : k < L.length) (hk' : k < G.length) (hf : fitWd L[k] G[k] = true) : fitUp L G (k + 1) := fun j h1 h2 hj => by
  by_cases e : j = k
  · subst e; exact hf
  · exact h j h1 h2 (by omega)

set_option maxRecDepth 100000 in
set_option maxHeartbeats 1600000 in
theorem implIsWord (ty bits t : Int) (h0 : 0 ≤ bits) (h1 : bits ≤ 18446744073709551615) (w : World) :
    Calls Try.prog 87 #[.agg #[.int .i64 ty, .int .u64 bits], .int .i64 t] w fun e w' => e = .returned (.bool (decide (ty = t) && goodWd ⟨ty, bits⟩)) ∧ Below w.heap.size w w' := by
  have I := implWd ty bits h0 h1
  obtain ⟨R, hR⟩ : ∃ R, goodWd ⟨ty, bits⟩ = R := ⟨_, rfl⟩
  rw [hR] at I ⊢
  clear hR h0 h1
  by_cases e : ty = t
  · subst e
    go_enter Try.func87, Try.ntmps87
    go_wp2_with fail
    refine (I _).mono ?_
    rintro e w1 ⟨rfl, hb1⟩
    have HB : Hid (Below w.heap.size w w1) := bel_step ((Below.refl _ _).alloc (Nat.le_refl _) _) hb1
    clear hb1 I
    go_wp2
    go_ret
    exact ⟨by simp, HB.out⟩
  · have e1 : (ty == t) = false := by simpa using e
    have HD : Hid (decide (ty = t) = false) := by unfold Hid; simpa using e
    clear e I
    go_enter Try.func87, Try.ntmps87
    go_wp2
    go_ret
    exact ⟨by rw [HD.out]; rfl, (Below.refl _ _).alloc (Nat.le_refl _) _⟩

set_option maxRecDepth 100000 in
set_option maxHeartbeats 1600000 in
theorem implIsWordOf (ty bits t b : Int) (fx : Bool) (h0 : 0 ≤ bits) (h1 : bits ≤ 18446744073709551615) (w : World) :
    Calls Try.prog 62 #[.agg #[.int .i64 ty, .int .u64 bits], .agg #[.int .i64 t, .bool fx, .int .u64 b]] w fun e w' => e = .returned (.bool (fitWd ⟨ty, bits⟩ ⟨t, fx, b⟩)) ∧ Below w.heap.size w w' := by
  have I := implIsWord ty bits t h0 h1
  obtain ⟨R, hR⟩ : ∃ R, (decide (ty = t) && goodWd ⟨ty, bits⟩) = R := ⟨_, rfl⟩
  have hR2 : fitWd ⟨ty, bits⟩ ⟨t, fx, b⟩ = R := hR
  rw [hR2]
  rw [hR] at I
  clear hR hR2 h0 h1
  go_enter Try.func62, Try.ntmps62
  go_wp2_with fail
  refine (I _).mono ?_
  rintro e w1 ⟨rfl, hb1⟩
  have HB : Hid (Below w.heap.size w w1) := bel_step (((Below.refl _ _).alloc (Nat.le_refl _) _).alloc (by simp) _) hb1
  clear hb1 I
  go_wp2
  go_ret
  exact ⟨rfl, HB.out⟩

set_option maxRecDepth 100000 in
set_option maxHeartbeats 1600000 in
theorem equalWds (a g : Option Addr) (ac gc : Nat) (L : List Wd8) (G : List Glo7) (w : World) (hL : Hid (Wds w a L)) (hG : Hid (Glos w g G)) (hok : Hid (∀ x ∈ L, okW x)) (hlen : L.length ≤ 1048576) (hlen2 : G.length ≤ 1048576) :
    Calls Try.prog 61 #[.slice a L.length ac, .slice g G.length gc, .func (.func 62) #[] #[]] w fun e w' => e = .returned (.bool (fitAll L G)) ∧ Below w.heap.size w w' := by
  have ef : ∀ args w, (callFunc 62 args).run Try.prog w = .ok (.enter 62 args) w := fun _ _ => rfl
  obtain ⟨n, hn⟩ : ∃ n, L.length = n := ⟨_, rfl⟩
  obtain ⟨m, hm⟩ : ∃ m, G.length = m := ⟨_, rfl⟩
  rw [hn, hm]
  have HN : Hid (L.length = n ∧ G.length = m) := ⟨hn, hm⟩
  have hn2 : n ≤ 1048576 := by omega
  have hm2 : m ≤ 1048576 := by omega
  clear hn hm hlen hlen2
  by_cases hnm : n = m
  · subst hnm
    go_enter Try.func61, Try.ntmps61
    go_wp2
    go_loopw [17] (fun i wr => ∃ (k : Nat), k ≤ n ∧ i = .int .i64 k ∧ Hid (fitUp L G k) ∧ Below w.heap.size w wr) (fun i _ => n - (intOf i).toNat)
    case atStart => exact ⟨0, by omega, rfl, fun j _ _ h => absurd h (by omega), Below.refl _ _⟩
    case round =>
      obtain ⟨k, hk, rfl, hF, hnx⟩ := hrel
      by_cases hlt : k < n
      · have hkL : k < L.length := by have := HN.out.1; omega
        have hkG : k < G.length := by have := HN.out.2; omega
        obtain ⟨b, off, rfl, hb, hc⟩ := hL.out.at k hkL
        obtain ⟨b', off', rfl, hb', hd⟩ := hG.out.at k hkG
        have hx0 := hok.out _ (List.getElem_mem hkL)
        have hyes := fun h => fitUp_more hF.out hkL hkG h
        have hno := fun h => fitAll_no (L := L) (G := G) k hkL hkG h
        obtain ⟨x, hx⟩ : ∃ x, x = L[k] := ⟨_, rfl⟩
        obtain ⟨y, hy⟩ : ∃ y, y = G[k] := ⟨_, rfl⟩
        rw [← hx] at hc hx0 hyes hno
        rw [← hy] at hd hyes hno
        obtain ⟨ty, bits⟩ := x
        obtain ⟨t, fx, bb⟩ := y
        clear hx hy
        obtain ⟨c0, c1⟩ := hc
        obtain ⟨e0, e1, e2⟩ := hd
        simp only at c0 c1 e0 e1 e2
        have hc0 : wr.cell? ⟨b, off + k * 2, none⟩ = some (.int .i64 ty) := (hnx.cell (by exact hb)).trans c0
        have hc1 : wr.cell? ⟨b, off + k * 2 + 1, none⟩ = some (.int .u64 bits) := (hnx.cell (by exact hb)).trans c1
        have hd0 : ∀ o, ((wr.alloc o).cell? ⟨b', off' + k * 3, none⟩) = some (.int .i64 t) := fun o => pastCell (Nat.lt_of_lt_of_le hb' hnx.size) ((hnx.cell (by exact hb')).trans e0)
        have hd1 : ∀ o, ((wr.alloc o).cell? ⟨b', off' + k * 3 + 1, none⟩) = some (.bool fx) := fun o => pastCell (Nat.lt_of_lt_of_le hb' hnx.size) ((hnx.cell (by exact hb')).trans e1)
        have hd2 : ∀ o, ((wr.alloc o).cell? ⟨b', off' + k * 3 + 2, none⟩) = some (.int .u64 bb) := fun o => pastCell (Nat.lt_of_lt_of_le hb' hnx.size) ((hnx.cell (by exact hb')).trans e2)
        have T := implIsWordOf ty bits t bb fx hx0.1 hx0.2
        obtain ⟨R, hR⟩ : ∃ R, fitWd ⟨ty, bits⟩ ⟨t, fx, bb⟩ = R := ⟨_, rfl⟩
        rw [hR] at T hyes hno
        have HY : Hid (R = true → fitUp L G (k + 1)) := hyes
        have HX : Hid (R = false → fitAll L G = false) := hno
        have HB0 : Hid (∀ o o', Below w.heap.size w ((wr.alloc o).alloc o')) := fun o o' => (hnx.alloc hnx.size o).alloc (by have := hnx.size; simp; omega) o'
        clear hR hyes hno hx0 c0 c1 e0 e1 e2
        go_wp2_with fail
        refine (T _).mono ?_
        rintro e w1 ⟨rfl, hb1⟩
        have HB : Hid (Below w.heap.size w w1) := bel_step (HB0.out _ _) hb1
        clear hb1 T hc0 hc1 hd0 hd1 hd2 HB0
        cases R
        · have HXX : Hid (fitAll L G = false) := HX.out rfl
          clear HX HY
          go_wp2
          go_ret
          exact ⟨by rw [HXX.out]; rfl, HB.out⟩
        · have HF2 : Hid (fitUp L G (k + 1)) := HY.out rfl
          go_wp2
          go_roundw
          case rel => exact ⟨k + 1, by omega, by go_num, HF2, HB.out⟩
          case measure => simp [intOf]; omega
      · have HR : Hid (fitAll L G = true) := fitAll_yes (by have := HN.out; omega) (by have h1 := hF.out; have : k = L.length := by have := HN.out; omega
                                                                                       rw [← this]; exact h1)
        go_wp2
        go_ret
        exact ⟨by rw [HR.out]; rfl, hnx⟩
  · have HR : Hid (fitAll L G = false) := fitAll_len (by have := HN.out; omega)
    have e : ((n : Int) != (m : Int)) = true := by simp; omega
    go_enter Try.func61, Try.ntmps61
    go_wp2
    go_ret
    exact ⟨by rw [HR.out]; rfl, Below.refl _ _⟩

end Go.Proofs.Ytbliopgdkphoaaa
