/-
  The law on drawn code. (Made by a generator.)
-/
import Derived.Test.YtdalkbapfjpkoaaG3
import Derived.Test.YtdalkbapfjpkoaaL1
import Derived.Test.YtdalkbapfjpkoaaE5
import Derived.Laws.StructEq
namespace Go.Proofs.Ytdalkbapfjpkoaa
open Go.ChangeShapes Go.WideShapes Go.ChangeAt Go.RowKit

theorem neqSelf (xo xa : Int) (w : World) : (binOp .neq 37 (.agg #[.int .i64 xo, .int .i64 xa]) (.agg #[.int .i64 xo, .int .i64 xa])).run Try.prog w = .ok (.bool false) w := by
  rw [run_neq_struct, run_equalIn_agg w 9999 37 _ _ (by kernel_rfl) (by kernel_rfl)]
  simp only [Program.fieldsOf, Try.underlying37]
  simp [Op.eqFields, go_sem, Try.underlying3]

set_option maxRecDepth 100000 in
set_option maxHeartbeats 1600000 in
theorem sameInss (b b' : Nat) (a a' : Option Addr) (cap cap' : Nat) (L : List (Int × Int)) (w : World) (ha : Hid (L ≠ [] → a = some ⟨b, 0, none⟩ ∧ b < w.heap.size)) (ha' : Hid (L ≠ [] → a' = some ⟨b', 0, none⟩ ∧ b' < w.heap.size)) (hL : Hid (insAt w b 0 L)) (hL' : Hid (insAt w b' 0 L)) (hlen : Hid (L.length ≤ 1048576)) :
    Calls Try.prog 8 #[.slice a L.length cap, .slice a' L.length cap'] w fun e w' => e = .returned (.bool true) ∧ Below w.heap.size w w' := by
  go_enter Try.func8, Try.ntmps8
  go_wp2
  go_loopw [13] (fun i wr => ∃ (k : Nat), k ≤ L.length ∧ i = .int .i64 k ∧ Below w.heap.size w wr) (fun i _ => L.length - (intOf i).toNat)
  case atStart => exact ⟨0, by omega, rfl, Below.refl _ _⟩
  case round =>
    obtain ⟨k, hk, rfl, hnx⟩ := hrel
    by_cases hlt : k < L.length
    · have hne : L ≠ [] := fun e => by rw [e] at hlt; simp at hlt
      obtain ⟨rfl, hb⟩ := ha.out hne
      obtain ⟨rfl, hb'⟩ := ha'.out hne
      have hc := hL.out k hlt
      have hd := hL'.out k hlt
      rw [Nat.zero_add] at hc hd
      obtain ⟨x, hx⟩ : ∃ x, x = L[k].1 := ⟨_, rfl⟩
      obtain ⟨y, hy⟩ : ∃ y, y = L[k].2 := ⟨_, rfl⟩
      rw [← hx, ← hy] at hc hd
      clear hx hy hne
      have c0 : wr.cell? ⟨b, k * 2, none⟩ = some (.int .i64 x) := (hnx.cell (by exact hb)).trans hc.1
      have c1 : wr.cell? ⟨b, k * 2 + 1, none⟩ = some (.int .i64 y) := (hnx.cell (by exact hb)).trans hc.2
      have d0 : wr.cell? ⟨b', k * 2, none⟩ = some (.int .i64 x) := (hnx.cell (by exact hb')).trans hd.1
      have d1 : wr.cell? ⟨b', k * 2 + 1, none⟩ = some (.int .i64 y) := (hnx.cell (by exact hb')).trans hd.2
      have NE := neqSelf x y
      have hlb := hlen.out
      clear hc hd
      go_wp2
      go_quiet (fail)
      go_wp2
      go_roundw
      case rel => exact ⟨k + 1, by omega, by go_num, hnx.trans ⟨rfl, rfl, rfl, Nat.le_refl _, fun _ _ => rfl⟩⟩
      case measure => simp [intOf]; omega
    · go_wp2
      go_ret
      exact ⟨rfl, hnx⟩

set_option maxRecDepth 100000 in
set_option maxHeartbeats 1600000 in
theorem sameIntsH (a a' : Option Addr) (cap cap' : Nat) (L : List Int) (w : World) (hL : Hid (Ints w a L)) (hL' : Hid (Ints w a' L)) (hlen : L.length ≤ 9223372036854775807) :
    Calls Try.prog 12 #[.slice a L.length cap, .slice a' L.length cap'] w fun e w' => e = .returned (.bool true) ∧ Below w.heap.size w w' := by
  go_enter Try.func12, Try.ntmps12
  go_wp2
  go_loopw [13] (fun i wr => ∃ (k : Nat), k ≤ L.length ∧ i = .int .i64 k ∧ Below w.heap.size w wr) (fun i _ => L.length - (intOf i).toNat)
  case atStart => exact ⟨0, by omega, rfl, Below.refl _ _⟩
  case round =>
    obtain ⟨k, hk, rfl, hnx⟩ := hrel
    by_cases hlt : k < L.length
    · obtain ⟨b, off, rfl, hb, hc⟩ := hL.out.at k hlt
      obtain ⟨b', off', rfl, hb', hd⟩ := hL'.out.at k hlt
      obtain ⟨x, hx⟩ : ∃ x, x = L[k] := ⟨_, rfl⟩
      rw [← hx] at hc hd
      clear hx
      have hc0 : wr.cell? ⟨b, off + k, none⟩ = some (.int .i64 x) := (hnx.cell (by exact hb)).trans hc
      have hd0 : wr.cell? ⟨b', off' + k, none⟩ = some (.int .i64 x) := (hnx.cell (by exact hb')).trans hd
      clear hc hd
      go_wp2
      go_quiet (fail)
      go_wp2
      go_roundw
      case rel => exact ⟨k + 1, by omega, by go_num, hnx.trans ⟨rfl, rfl, rfl, Nat.le_refl _, fun _ _ => rfl⟩⟩
      case measure => simp [intOf]; omega
    · go_wp2
      go_ret
      exact ⟨rfl, hnx⟩

theorem bk_size : ∀ (l : List Int) (i : Nat) (st : List (Nat × Bool)), bk i l = some st → st.length ≤ l.length
  | [], i, st, h => by simp [bk] at h; subst h; simp
  | op :: r, i, st, h => by
    obtain ⟨s', hs, hb⟩ := bk_more h
    have ih := bk_size r (i + 1) s' hs
    obtain ⟨h1, h2, h3⟩ := bk_open hb
    simp only [List.length_cons]
    by_cases h11 : op = 11
    · have := h2 h11; omega
    · cases ho : opens op with
      | true => have := (h1 ho).2; omega
      | false => have := h3 ho h11; omega
/-- The state of the loop over the ends. -/
structure OpenAtH (L : List (Int × Int)) (D k q m : Nat) : Prop where
  ex : ∃ st, bk k ((ops L).drop k) = some st ∧ st.length = q
  le : q ≤ m
  mx : max m (bkD k ((ops L).drop k)) = D
  small : q ≤ L.length
theorem openH_first {L : List (Int × Int)} {E : List Nat} {D : Nat} (h : BodyT L E D) : OpenAtH L D 0 1 1 := by
  obtain ⟨st, h1, h2, h3, h4⟩ := h.first
  have hz := bk_size _ 0 st h1
  rw [show (ops L).length = L.length by simp [ops]] at hz
  exact ⟨⟨st, by simpa using h1, h3⟩, Nat.le_refl _, by simpa using h4, by omega⟩
theorem openH_last {L : List (Int × Int)} {D q m : Nat} (h : OpenAtH L D L.length q m) : q = 0 ∧ m = D := by
  obtain ⟨st, h1, h2⟩ := h.ex
  have e : (ops L).drop L.length = [] := List.drop_eq_nil_of_le (by simp [ops])
  have hm := h.mx
  rw [e] at h1 hm
  simp [bk] at h1
  subst h1
  simp only [bkD] at hm
  have h3 : q = 0 := by simpa using h2.symm
  exact ⟨h3, by omega⟩
/-- One instruction on: how many are open then. -/
theorem openH_step {L : List (Int × Int)} {D k q m : Nat} (h : OpenAtH L D k q m) (hk : k < L.length) : ∃ q', OpenAtH L D (k + 1) q' (max m q') ∧ (opens L[k].1 = true → L[k].1 ≠ 11 ∧ q' = q + 1) ∧ (L[k].1 = 11 → q = q' + 1) ∧ (opens L[k].1 = false → L[k].1 ≠ 11 → q' = q) := by
  obtain ⟨st, h1, h2⟩ := h.ex
  have hm := h.mx
  rw [fw_op L k hk] at h1 hm
  obtain ⟨s', hs, hb⟩ := bk_more h1
  obtain ⟨o1, o2, o3⟩ := bk_open hb
  obtain ⟨b1, b2⟩ := bk_most hs hb (by rw [h2]; exact h.le) hm
  have hz := bk_size _ _ s' hs
  rw [List.length_drop, show (ops L).length = L.length by simp [ops]] at hz
  refine ⟨s'.length, ⟨⟨s', hs, rfl⟩, b1, b2, by omega⟩, fun ho => ⟨(o1 ho).1, by have := (o1 ho).2; omega⟩, fun h11 => by have := o2 h11; omega, fun ho h11 => by have := o3 ho h11; omega⟩
theorem measH (k N : Nat) (h : k + 1 ≤ N) : N - (intOf (Value.int .i64 ((k + 1 : Nat) : Int))).toNat < N - (intOf (Value.int .i64 (k : Int))).toNat := by
  simp [intOf]
  omega
theorem ends_is {L : List (Int × Int)} {E : List Nat} {D : Nat} (h : eo L = some (E, D)) : endsOf L = E.map (fun (k : Nat) => (k : Int)) ∧ deepOf L = ((D : Nat) : Int) := by
  unfold endsOf deepOf
  rw [h]
  exact ⟨rfl, rfl⟩
theorem ends_no {L : List (Int × Int)} (h : eo L = none) : endsOf L = [] := by
  unfold endsOf
  rw [h]
  rfl
theorem eo_bad {L : List (Int × Int)} (h : (allG L && decide (L.length ≤ 200)) = false) : eo L = none := by unfold eo; rw [h]; rfl
theorem okI_fits {L : List (Int × Int)} (h : ∀ x ∈ L, OkI x) : fits L := fun i hi => (h L[i] (List.getElem_mem hi)).2

set_option maxRecDepth 1000000 in
set_option maxHeartbeats 3200000 in
theorem codeB (a1 : Option Addr) (n1 c1 : Nat) (w : World) (h1 : Bys w a1 n1 w.heap.size) :
    Calls Try.prog 3 #[.slice a1 n1 c1] w fun e w' => e = .returned (.bool true) ∧ Below w.heap.size w w' := by
  obtain ⟨n, hN⟩ : ∃ n : Int, (n1 : Int) = n := ⟨_, rfl⟩
  by_cases hlen : 1048576 < n
  · go_enter Try.func3, Try.ntmps3
    go_wp2
    go_ret
    exact ⟨rfl, Below.refl _ _⟩
  have DN := drawCode a1 n1 c1 w h1
  clear h1
  go_enter Try.func3, Try.ntmps3
  go_wp2_with fail
  refine DN.mono ?_
  rintro e w1 ⟨v, L, rfl, R, HO, HB⟩
  obtain ⟨av, cv, gl, hv, hgl, hat, _⟩ := owned_ins R.out
  subst hv
  have hfit : Hid (fits L) := okI_fits HO.out.2
  have HL : Hid (L.length ≤ 14001) := HO.out.1
  have HOB : Hid (∀ x ∈ L, OkI x) := HO.out.2
  have SC : Hid (∀ w', Below w1.heap.size w1 w' → Calls Try.prog 6 #[.slice av L.length cv] w' fun e w'' => e = .returned (codeRes L) ∧ Below w'.heap.size w' w'') := fun w' hb => specCode av gl 0 cv L w' (fun h => ⟨(hgl h).1, Nat.lt_of_lt_of_le (hgl h).2 hb.size⟩) (insAt_nil hb (fun h => (hgl h).2) hat) hfit.out (by have := HL.out; omega)
  have IC : Hid (∀ w', Below w1.heap.size w1 w' → Calls Try.prog 5 #[.slice av L.length cv] w' fun e w'' => e = .returned (codeRes L) ∧ Below w'.heap.size w' w'') := fun w' hb => implCode av gl 0 cv L w' (fun h => ⟨(hgl h).1, Nat.lt_of_lt_of_le (hgl h).2 hb.size⟩) (insAt_nil hb (fun h => (hgl h).2) hat) hfit.out (by have := HL.out; omega)
  have SE : Hid (∀ w', Below w1.heap.size w1 w' → Calls Try.prog 10 #[.slice av L.length cv] w' fun e w'' => EndsTold L w' e w'') := fun w' hb => specEndsOf av gl 0 cv L w' (fun h => ⟨(hgl h).1, Nat.lt_of_lt_of_le (hgl h).2 hb.size⟩) (insAt_nil hb (fun h => (hgl h).2) hat) (by have := HL.out; omega)
  have IE : Hid (∀ w', Below w1.heap.size w1 w' → Calls Try.prog 9 #[.slice av L.length cv] w' fun e w'' => EndsTold L w' e w'') := fun w' hb => implEndsOf av gl 0 cv L w' (fun h => ⟨(hgl h).1, Nat.lt_of_lt_of_le (hgl h).2 hb.size⟩) (insAt_nil hb (fun h => (hgl h).2) hat) hfit.out (by have := HL.out; omega)
  have ID : Hid (∀ w', Below w1.heap.size w1 w' → Calls Try.prog 11 #[.slice av L.length cv] w' fun e w'' => e = .returned (.tuple #[.int .i64 (deepOf L), .bool (eo L).isSome]) ∧ Below w'.heap.size w' w'') := fun w' hb => implDeepOf av gl 0 cv L w' (fun h => ⟨(hgl h).1, Nat.lt_of_lt_of_le (hgl h).2 hb.size⟩) (insAt_nil hb (fun h => (hgl h).2) hat) hfit.out (by have := HL.out; omega)
  have HA : Hid (∀ w', Below w1.heap.size w1 w' → (L ≠ [] → av = some ⟨gl, 0, none⟩ ∧ gl < w'.heap.size) ∧ insAt w' gl 0 L) := fun w' hb => ⟨fun h => ⟨(hgl h).1, Nat.lt_of_lt_of_le (hgl h).2 hb.size⟩, insAt_nil hb (fun h => (hgl h).2) hat⟩
  have HK : Hid (Below w1.heap.size w1 w1) := Below.refl _ _
  clear R HO hgl hat DN hN hlen hfit
  obtain ⟨hg, hhg⟩ : ∃ r, (allG L && decide (L.length ≤ 200)) = r := ⟨_, rfl⟩
  cases hg
  · have HR : Hid (codeRes L = .tuple #[.string ⟨#[]⟩, .bool false]) := by unfold Hid codeRes; rw [hhg]; rfl
    have HE : Hid (eo L = none) := eo_bad hhg
    clear hhg HA HOB
    go_wp2_with fail
    refine (IC.out _ HK.out).mono ?_
    rw [HR.out]
    rintro e w2 ⟨rfl, hb⟩
    replace HB : Hid (Below w.heap.size w w2) := below2 HB.out hb
    replace HK : Hid (Below w1.heap.size w1 w2) := below2 HK.out hb
    clear hb IC
    go_wp2_with fail
    refine (SC.out _ HK.out).mono ?_
    rw [HR.out]
    rintro e w3 ⟨rfl, hb⟩
    replace HB : Hid (Below w.heap.size w w3) := below2 HB.out hb
    replace HK : Hid (Below w1.heap.size w1 w3) := below2 HK.out hb
    clear hb SC
    clear HR
    go_wp2_with fail
    refine (IE.out _ HK.out).mono ?_
    rintro e w4 ⟨vi, he, ho, hb⟩
    rw [HE.out] at he
    simp only [Option.isSome_none] at he
    subst he
    obtain ⟨ai, ci, hvi, hi⟩ := ints_of_row ho
    subst hvi
    have Hi : Hid (Ints w4 ai (endsOf L)) := hi
    replace HB : Hid (Below w.heap.size w w4) := below2 HB.out hb
    replace HK : Hid (Below w1.heap.size w1 w4) := below2 HK.out hb
    clear hb ho hi IE
    go_wp2_with fail
    refine (SE.out _ HK.out).mono ?_
    rintro e w5 ⟨vs, he, ho, hb⟩
    rw [HE.out] at he
    simp only [Option.isSome_none] at he
    subst he
    obtain ⟨asx, cs, hvs, hi⟩ := ints_of_row ho
    subst hvs
    have Hs : Hid (Ints w5 asx (endsOf L)) := hi
    replace Hi : Hid (Ints w5 ai (endsOf L)) := Hi.out.below hb
    replace HB : Hid (Below w.heap.size w w5) := below2 HB.out hb
    replace HK : Hid (Below w1.heap.size w1 w5) := below2 HK.out hb
    clear hb ho hi SE
    go_wp2_with fail
    refine (ID.out _ HK.out).mono ?_
    rintro e w6 ⟨he, hb⟩
    rw [HE.out] at he
    simp only [Option.isSome_none] at he
    subst he
    replace Hi : Hid (Ints w6 ai (endsOf L)) := Hi.out.below hb
    replace Hs : Hid (Ints w6 asx (endsOf L)) := Hs.out.below hb
    replace HB : Hid (Below w.heap.size w w6) := below2 HB.out hb
    replace HK : Hid (Below w1.heap.size w1 w6) := below2 HK.out hb
    clear hb ID
    have hel : (endsOf L).length ≤ 200 := ends_len L
    have K := sameIntsH ai asx ci cs (endsOf L) w6 Hi Hs (by omega)
    clear hel
    go_wp2_with fail
    refine K.mono ?_
    rintro e w7 ⟨rfl, hb⟩
    replace Hi : Hid (Ints w7 ai (endsOf L)) := Hi.out.below hb
    replace HB : Hid (Below w.heap.size w w7) := below2 HB.out hb
    replace HK : Hid (Below w1.heap.size w1 w7) := below2 HK.out hb
    clear hb K Hs
    rw [ends_no HE.out] at *
    simp only [List.length_nil] at *
    go_wp2
    go_loopw [16, 17, 88] (fun x y i wr => x = .int .i64 1 ∧ y = .int .i64 1 ∧ i = .int .i64 0 ∧ wr = w7) (fun _ _ _ _ => 0)
    case atStart => exact ⟨rfl, rfl, rfl, rfl⟩
    case round =>
      obtain ⟨rfl, rfl, rfl, rfl⟩ := hrel
      go_wp2
      go_ret
      exact ⟨rfl, HB.out⟩
  · have HR : Hid (codeRes L = .tuple #[.string ⟨(cb L).toArray⟩, .bool true]) := by unfold Hid codeRes; rw [hhg]; rfl
    simp only [Bool.and_eq_true, decide_eq_true_eq] at hhg
    have HG : Hid (allG L = true ∧ L.length ≤ 200) := hhg
    clear hhg
    have hrc := read_cb L HG.out.1 (fun x hx => (HOB.out x hx).2) HG.out.2
    have hsz : (ByteArray.mk (cb L).toArray).size ≤ 1048576 := by have := cb_len L; have := HG.out.2; show (cb L).toArray.size ≤ 1048576; simp; omega
    have RD : Hid (∀ w', Calls Try.prog 7 #[.string ⟨(cb L).toArray⟩] w' fun e w'' => ∃ v, e = .returned (.tuple #[v, .bool true]) ∧ w''.ownsRow w'.heap.size 37 2 v L.length (pv L) ∧ Below w'.heap.size w' w'') := fun w' => by have := implRead ⟨(cb L).toArray⟩ hsz w'; rw [hrc] at this; exact this
    clear hrc hsz
    generalize ByteArray.mk (cb L).toArray = X at *
    go_wp2_with fail
    refine (IC.out _ HK.out).mono ?_
    rw [HR.out]
    rintro e w31 ⟨rfl, hb⟩
    replace HB : Hid (Below w.heap.size w w31) := below2 HB.out hb
    replace HK : Hid (Below w1.heap.size w1 w31) := below2 HK.out hb
    clear hb IC
    go_wp2_with fail
    refine (SC.out _ HK.out).mono ?_
    rw [HR.out]
    rintro e w32 ⟨rfl, hb⟩
    replace HB : Hid (Below w.heap.size w w32) := below2 HB.out hb
    replace HK : Hid (Below w1.heap.size w1 w32) := below2 HK.out hb
    clear hb SC
    go_wp2_with fail
    refine (RD.out _).mono ?_
    rintro e w33 ⟨vr, rfl, ho, hb⟩
    obtain ⟨ar, cr, gr, hv, hgr, hatr, _⟩ := owned_ins ho
    subst hv
    replace HB : Hid (Below w.heap.size w w33) := below2 HB.out hb
    replace HK : Hid (Below w1.heap.size w1 w33) := below2 HK.out hb
    obtain ⟨ha1, ha2⟩ := HA.out _ HK.out
    have K := sameInss gl gr av ar cv cr L w33 ha1 (fun h => ⟨(hgr h).1, (hgr h).2⟩) ha2 hatr (hid_le (by have := HL.out; omega))
    clear hb ho hgr hatr ha1 ha2 RD HR
    go_wp2_with fail
    refine K.mono ?_
    rintro e w34 ⟨rfl, hb⟩
    replace HB : Hid (Below w.heap.size w w34) := below2 HB.out hb
    replace HK : Hid (Below w1.heap.size w1 w34) := below2 HK.out hb
    clear hb K
    rcases he : eo L with _ | ⟨E, D⟩
    · have HE : Hid (eo L = none) := he
      clear he HA HOB HG
      go_wp2_with fail
      refine (IE.out _ HK.out).mono ?_
      rintro e w35 ⟨vi, he, ho, hb⟩
      rw [HE.out] at he
      simp only [Option.isSome_none] at he
      subst he
      obtain ⟨ai, ci, hvi, hi⟩ := ints_of_row ho
      subst hvi
      have Hi : Hid (Ints w35 ai (endsOf L)) := hi
      replace HB : Hid (Below w.heap.size w w35) := below2 HB.out hb
      replace HK : Hid (Below w1.heap.size w1 w35) := below2 HK.out hb
      clear hb ho hi IE
      go_wp2_with fail
      refine (SE.out _ HK.out).mono ?_
      rintro e w36 ⟨vs, he, ho, hb⟩
      rw [HE.out] at he
      simp only [Option.isSome_none] at he
      subst he
      obtain ⟨asx, cs, hvs, hi⟩ := ints_of_row ho
      subst hvs
      have Hs : Hid (Ints w36 asx (endsOf L)) := hi
      replace Hi : Hid (Ints w36 ai (endsOf L)) := Hi.out.below hb
      replace HB : Hid (Below w.heap.size w w36) := below2 HB.out hb
      replace HK : Hid (Below w1.heap.size w1 w36) := below2 HK.out hb
      clear hb ho hi SE
      go_wp2_with fail
      refine (ID.out _ HK.out).mono ?_
      rintro e w37 ⟨he, hb⟩
      rw [HE.out] at he
      simp only [Option.isSome_none] at he
      subst he
      replace Hi : Hid (Ints w37 ai (endsOf L)) := Hi.out.below hb
      replace Hs : Hid (Ints w37 asx (endsOf L)) := Hs.out.below hb
      replace HB : Hid (Below w.heap.size w w37) := below2 HB.out hb
      replace HK : Hid (Below w1.heap.size w1 w37) := below2 HK.out hb
      clear hb ID
      have hel : (endsOf L).length ≤ 200 := ends_len L
      have K := sameIntsH ai asx ci cs (endsOf L) w37 Hi Hs (by omega)
      clear hel
      go_wp2_with fail
      refine K.mono ?_
      rintro e w38 ⟨rfl, hb⟩
      replace Hi : Hid (Ints w38 ai (endsOf L)) := Hi.out.below hb
      replace HB : Hid (Below w.heap.size w w38) := below2 HB.out hb
      replace HK : Hid (Below w1.heap.size w1 w38) := below2 HK.out hb
      clear hb K Hs
      rw [ends_no HE.out] at *
      simp only [List.length_nil] at *
      go_wp2
      go_loopw [16, 17, 88] (fun x y i wr => x = .int .i64 1 ∧ y = .int .i64 1 ∧ i = .int .i64 0 ∧ wr = w38) (fun _ _ _ _ => 0)
      case atStart => exact ⟨rfl, rfl, rfl, rfl⟩
      case round =>
        obtain ⟨rfl, rfl, rfl, rfl⟩ := hrel
        go_wp2
        go_ret
        exact ⟨rfl, HB.out⟩
    · have HE : Hid (eo L = some (E, D)) := he
      have HT : Hid (BodyT L E D) := (body_told he).2.2
      clear he HG
      go_wp2_with fail
      refine (IE.out _ HK.out).mono ?_
      rintro e w61 ⟨vi, he, ho, hb⟩
      rw [HE.out] at he
      simp only [Option.isSome_some] at he
      subst he
      obtain ⟨ai, ci, hvi, hi⟩ := ints_of_row ho
      subst hvi
      have Hi : Hid (Ints w61 ai (endsOf L)) := hi
      replace HB : Hid (Below w.heap.size w w61) := below2 HB.out hb
      replace HK : Hid (Below w1.heap.size w1 w61) := below2 HK.out hb
      clear hb ho hi IE
      go_wp2_with fail
      refine (SE.out _ HK.out).mono ?_
      rintro e w62 ⟨vs, he, ho, hb⟩
      rw [HE.out] at he
      simp only [Option.isSome_some] at he
      subst he
      obtain ⟨asx, cs, hvs, hi⟩ := ints_of_row ho
      subst hvs
      have Hs : Hid (Ints w62 asx (endsOf L)) := hi
      replace Hi : Hid (Ints w62 ai (endsOf L)) := Hi.out.below hb
      replace HB : Hid (Below w.heap.size w w62) := below2 HB.out hb
      replace HK : Hid (Below w1.heap.size w1 w62) := below2 HK.out hb
      clear hb ho hi SE
      go_wp2_with fail
      refine (ID.out _ HK.out).mono ?_
      rintro e w63 ⟨he, hb⟩
      rw [HE.out] at he
      simp only [Option.isSome_some] at he
      subst he
      replace Hi : Hid (Ints w63 ai (endsOf L)) := Hi.out.below hb
      replace Hs : Hid (Ints w63 asx (endsOf L)) := Hs.out.below hb
      replace HB : Hid (Below w.heap.size w w63) := below2 HB.out hb
      replace HK : Hid (Below w1.heap.size w1 w63) := below2 HK.out hb
      clear hb ID
      have hel : (endsOf L).length ≤ 200 := ends_len L
      have K := sameIntsH ai asx ci cs (endsOf L) w63 Hi Hs (by omega)
      clear hel
      go_wp2_with fail
      refine K.mono ?_
      rintro e w64 ⟨rfl, hb⟩
      replace Hi : Hid (Ints w64 ai (endsOf L)) := Hi.out.below hb
      replace HB : Hid (Below w.heap.size w w64) := below2 HB.out hb
      replace HK : Hid (Below w1.heap.size w1 w64) := below2 HK.out hb
      clear hb K Hs
      obtain ⟨hE, hD⟩ := ends_is HE.out
      have HEL : Hid (endsOf L = E.map (fun (k : Nat) => (k : Int)) ∧ (endsOf L).length = L.length) := ⟨hE, by rw [hE, List.length_map]; exact HT.out.len⟩
      rw [hD] at *
      obtain ⟨N, hN⟩ : ∃ N, (endsOf L).length = N := ⟨_, rfl⟩
      have HNL : Hid ((endsOf L).length = N ∧ L.length = N ∧ N ≤ 200) := ⟨hN, by rw [← hN]; exact HEL.out.2.symm, by rw [← hN]; exact ends_len L⟩
      rw [hN]
      clear hE hD hN
      have HCI : Hid (∀ k : Nat, k < N → ∃ (e : Nat) (b off : Nat), ai = some ⟨b, off, none⟩ ∧ w64.cell? ⟨b, off + k, none⟩ = some (.int .i64 (e : Int)) ∧ k ≤ e ∧ e < N ∧ w64.cell? ⟨b, off + e, none⟩ = some (.int .i64 (e : Int)) ∧ w64.cell? ⟨gl, e * 2, none⟩ = some (.int .i64 11) ∧ av = some ⟨gl, 0, none⟩) := fun k hk => by
        have hkE : k < E.length := by rw [HT.out.len, HNL.out.2.1]; exact hk
        obtain ⟨t1, t2, t3, t4⟩ := HT.out.ends k E[k] (List.getElem?_eq_getElem hkE)
        obtain ⟨b, off, ha, hb, hc⟩ := Hi.out.at k (by rw [HNL.out.1]; exact hk)
        obtain ⟨b2, off2, ha2, hb2, hc2⟩ := Hi.out.at E[k] (by rw [HNL.out.1, ← HNL.out.2.1]; exact t2)
        rw [ha] at ha2
        simp only [Option.some.injEq, Addr.mk.injEq, and_true] at ha2
        obtain ⟨rfl, rfl⟩ := ha2
        have hne : L ≠ [] := fun h => by rw [h] at t2; simp at t2
        obtain ⟨hav, hins⟩ := HA.out _ HK.out
        have hi2 := (hins E[k] t2).1
        rw [Nat.zero_add] at hi2
        have hop : L[E[k]].1 = 11 := by simpa [ops, t2] using t3
        rw [hop] at hi2
        have e1 : (endsOf L)[k]'(by rw [HNL.out.1]; exact hk) = ((E[k] : Nat) : Int) := by simp [HEL.out.1]
        have e2 : (endsOf L)[E[k]]'(by rw [HNL.out.1, ← HNL.out.2.1]; exact t2) = ((E[k] : Nat) : Int) := by
          have t5 : E[E[k]]'(by rw [HT.out.len]; exact t2) = E[k] := by rw [List.getElem?_eq_getElem (by rw [HT.out.len]; exact t2)] at t4; exact Option.some.inj t4
          simp [HEL.out.1, t5]
        rw [e1] at hc
        rw [e2] at hc2
        exact ⟨E[k], b, off, ha, hc, t1, by rw [← HNL.out.2.1]; exact t2, hc2, hi2, (hav hne).1⟩
      have HCL : Hid (∀ k : Nat, (h : k < L.length) → w64.cell? ⟨gl, k * 2, none⟩ = some (.int .i64 L[k].1)) := fun k h => by have hx := ((HA.out _ HK.out).2 k h).1; rw [Nat.zero_add] at hx; exact hx
      have HO1 : Hid (OpenAtH L D 0 1 1) := openH_first HT.out
      clear HT HEL Hi HA HOB
      go_wp2
      go_loopw [16, 17, 88] (fun x y i wr => ∃ k q m : Nat, k ≤ N ∧ x = .int .i64 (q : Int) ∧ y = .int .i64 (m : Int) ∧ i = .int .i64 (k : Int) ∧ Hid (OpenAtH L D k q m) ∧ wr = w64) (fun _ _ i _ => N - (intOf i).toNat)
      case atStart => exact ⟨0, 1, 1, by omega, rfl, rfl, rfl, HO1, rfl⟩
      case round =>
        obtain ⟨k, q, m, hk, rfl, rfl, rfl, HO, rfl⟩ := hrel
        clear HO1
        by_cases hlt : k < N
        · obtain ⟨e, b, off, rfl, hc, hke, heN, hce, hcl, hav⟩ := HCI.out k hlt
          have hkL : k < L.length := by rw [HNL.out.2.1]; exact hlt
          have hck := HCL.out k hkL
          obtain ⟨q', HS, h1, h2, h3⟩ := openH_step HO.out hkL
          have hq : q ≤ 200 ∧ q' ≤ 200 := ⟨by have := HO.out.small; have := HNL.out; omega, by have := HS.small; have := HNL.out; omega⟩
          have HSS : Hid _ := HS
          clear HS
          obtain ⟨opk, hopk⟩ : ∃ x, L[k].1 = x := ⟨_, rfl⟩
          rw [hopk] at hck h1 h2 h3
          obtain ⟨NL, hNL⟩ : ∃ x, L.length = x := ⟨_, rfl⟩
          have hNN : NL = N := by rw [← hNL]; exact HNL.out.2.1
          rw [hNL]
          subst hav
          have g1 : ¬ (e : Int) < (k : Int) := by omega
          have g2 : (e : Int) < (N : Int) := by omega
          have g3 : (e : Int) < (NL : Int) := by omega
          have g4 : (k : Int) < (NL : Int) := by omega
          have HKW : Hid (wrap64 ((k : Int) + 1) = ((k + 1 : Nat) : Int) ∧ k + 1 ≤ N) := ⟨by have := HNL.out.2.2; unfold wrap64; omega, by omega⟩
          clear hopk hNL hkL hNN hke heN HO
          have hcase : (opk = 2 ∨ opk = 3 ∨ opk = 4) ∨ opk = 11 ∨ (¬ opk = 2 ∧ ¬ opk = 3 ∧ ¬ opk = 4 ∧ ¬ opk = 11) := by omega
          have HQ : Hid (q ≤ 200 ∧ q' ≤ 200) := hq
          clear hq
          by_cases hmq : (m : Int) < (q' : Int)
          · have hmx : Hid (OpenAtH L D (k + 1) q' q') := by have := HSS.out; rwa [Nat.max_eq_right (by omega)] at this
            clear HSS
            rcases hcase with hc1 | rfl | ⟨n2x, n3x, n4x, n11x⟩
            · have hqq : wrap64 ((q : Int) + 1) = (q' : Int) := by have h4 := (h1 (by rcases hc1 with rfl | rfl | rfl <;> rfl)).2; have := HQ.out; unfold wrap64; omega
              clear h1 h2 h3 HQ
              rcases hc1 with rfl | rfl | rfl
              all_goals
                go_wp2
                go_roundw
                case rel => exact ⟨k + 1, q', q', HKW.out.2, congrArg (Value.int .i64) hqq, congrArg (Value.int .i64) hqq, congrArg (Value.int .i64) HKW.out.1, hmx, trivial⟩
                case measure => rw [HKW.out.1]; exact measH k N HKW.out.2
            · have hqq : wrap64 ((q : Int) - 1) = (q' : Int) := by have h4 := h2 (by rfl); have := HQ.out; unfold wrap64; omega
              clear h1 h2 h3 HQ
              go_wp2
              go_roundw
              case rel => exact ⟨k + 1, q', q', HKW.out.2, congrArg (Value.int .i64) hqq, congrArg (Value.int .i64) hqq, congrArg (Value.int .i64) HKW.out.1, hmx, trivial⟩
              case measure => rw [HKW.out.1]; exact measH k N HKW.out.2
            · have hqq : q' = q := h3 (by simp [opens, n2x, n3x, n4x]) n11x
              clear h1 h2 h3 HQ
              subst hqq
              go_wp2
              go_roundw
              case rel => exact ⟨k + 1, q', q', HKW.out.2, rfl, rfl, congrArg (Value.int .i64) HKW.out.1, hmx, trivial⟩
              case measure => rw [HKW.out.1]; exact measH k N HKW.out.2
          · have hmx : Hid (OpenAtH L D (k + 1) q' m) := by have := HSS.out; rwa [Nat.max_eq_left (by omega)] at this
            clear HSS
            rcases hcase with hc1 | rfl | ⟨n2x, n3x, n4x, n11x⟩
            · have hqq : wrap64 ((q : Int) + 1) = (q' : Int) := by have h4 := (h1 (by rcases hc1 with rfl | rfl | rfl <;> rfl)).2; have := HQ.out; unfold wrap64; omega
              clear h1 h2 h3 HQ
              rcases hc1 with rfl | rfl | rfl
              all_goals
                go_wp2
                go_roundw
                case rel => exact ⟨k + 1, q', m, HKW.out.2, congrArg (Value.int .i64) hqq, rfl, congrArg (Value.int .i64) HKW.out.1, hmx, trivial⟩
                case measure => rw [HKW.out.1]; exact measH k N HKW.out.2
            · have hqq : wrap64 ((q : Int) - 1) = (q' : Int) := by have h4 := h2 (by rfl); have := HQ.out; unfold wrap64; omega
              clear h1 h2 h3 HQ
              go_wp2
              go_roundw
              case rel => exact ⟨k + 1, q', m, HKW.out.2, congrArg (Value.int .i64) hqq, rfl, congrArg (Value.int .i64) HKW.out.1, hmx, trivial⟩
              case measure => rw [HKW.out.1]; exact measH k N HKW.out.2
            · have hqq : q' = q := h3 (by simp [opens, n2x, n3x, n4x]) n11x
              clear h1 h2 h3 HQ
              subst hqq
              go_wp2
              go_roundw
              case rel => exact ⟨k + 1, q', m, HKW.out.2, rfl, rfl, congrArg (Value.int .i64) HKW.out.1, hmx, trivial⟩
              case measure => rw [HKW.out.1]; exact measH k N HKW.out.2
        · have hkN : k = N := by omega
          subst hkN
          have hl := openH_last (by rw [HNL.out.2.1]; exact HO.out : OpenAtH L D L.length q m)
          obtain ⟨rfl, rfl⟩ := hl
          clear HCI HCL HO
          go_wp2
          go_ret
          exact ⟨rfl, HB.out⟩

end Go.Proofs.Ytdalkbapfjpkoaa
