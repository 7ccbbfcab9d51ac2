/-
  A tree told as a row of nodes: the specification's side.
-/
import Derived.Test.YtfepbjkfabmiiaaDoorV1
import Derived.Test.YtfepbjkfabmiiaaDoorRD8
import Derived.Deep.AppendLies
namespace Go.Proofs.YtfepbjkfabmiiaaDoor
open Go.ChangeShapes Go.WideShapes Go.ChangeAt Go.RowKit Go.PlainAid

theorem KRep.get {lo hi : Nat} {w : World} : ∀ (ks : List TT) (a : Option Addr) (j : Nat), KRep lo hi w ks a j → ∀ m (h : m < ks.length), ∃ g sl', a = some ⟨g, 0, none⟩ ∧ lo ≤ g ∧ g < hi ∧ w.cell? ⟨g, (j + m) * 3, none⟩ = some (.int .i64 (kdT ks[m])) ∧ w.cell? ⟨g, (j + m) * 3 + 1, none⟩ = some (.int .i64 (nT ks[m])) ∧ w.cell? ⟨g, (j + m) * 3 + 2, none⟩ = some sl' ∧ TRep lo hi w ks[m] sl'
  | [], _, _, _, m, h => by simp at h
  | t :: r, a, j, h, m, hm => by
    rw [KRep] at h
    obtain ⟨h1, h2⟩ := h
    cases m with
    | zero => simpa using h1
    | succ m =>
      have := KRep.get r a (j + 1) h2 m (by simpa using hm)
      rw [show j + 1 + m = j + (m + 1) by omega] at this
      simpa using this
theorem flK_snoc : ∀ (a : List TT) (t : TT) (p b : Nat), flK (a ++ [t]) p b = flK a p b ++ flT t (p : Int) (b + szK a)
  | [], t, p, b => by simp [flK, szK]
  | x :: a, t, p, b => by
    rw [List.cons_append, flK, flK, flK_snoc a t p (b + szT x), szK, List.append_assoc]
    congr 3
    omega
theorem szK_take (ks : List TT) : ∀ m, szK (ks.take m) ≤ szK ks := by
  induction ks with
  | nil => intro m; simp
  | cons t r ih =>
    intro m
    cases m with
    | zero => simp [szK]
    | succ m =>
      have := ih m
      rw [List.take_succ_cons, szK, szK]
      omega
theorem szT_at : ∀ (ks : List TT) (m : Nat) (h : m < ks.length), szK (ks.take m) + szT ks[m] ≤ szK ks
  | t :: r, 0, _ => by simp [szK]
  | t :: r, m + 1, h => by
    have := szT_at r m (by simpa using h)
    rw [List.take_succ_cons, szK, szK]
    simp only [List.getElem_cons_succ]
    omega
theorem trep_one {lo hi : Nat} {w : World} {t : TT} {sl : Value} (h : TRep lo hi w t sl) : ∃ a n c, sl = .slice a n c := by
  cases t
  rw [TRep] at h
  obtain ⟨a, cap, e, _⟩ := h
  exact ⟨a, _, cap, e⟩

theorem ar1 {l2 l st z sk : Nat} (h2 : l2 = l + 1 + st) (hsz : st + z ≤ sk) (hl : l + (1 + sk) ≤ 2000000) : l2 + z ≤ 2000000 := by omega
theorem ar2 {st z sk n : Nat} (hsz : st + z ≤ sk) (h : 1 + sk ≤ n + 1) : z ≤ n := by omega
theorem ar3 {m k : Nat} (h : m < k) : (m : Int) < (k : Int) ∧ m + 1 ≤ k := by omega
theorem ar4 {m k : Nat} (h : m < k) (hk : k ≤ 2000000) : m ≤ 2000000 := by omega
theorem ar5 {m k : Nat} (h1 : m ≤ k) (h2 : k ≤ m) : m = k ∧ ¬ (m : Int) < (k : Int) := by omega
theorem ar6 {m k : Nat} (h : m < k) : k - (intOf (Value.int .i64 ((m : Int) + 1))).toNat < k - (intOf (Value.int .i64 (m : Int))).toNat := by simp [intOf]; omega
theorem kidsle : ∀ l : List TT, l.length ≤ szK l
  | [] => Nat.le_refl _
  | t :: r => by rw [szK, List.length_cons]; have := szT_pos t; have := kidsle r; omega
theorem ar7 {k sk l : Nat} (h : k ≤ sk) (h2 : l + (1 + sk) ≤ 2000000) : k ≤ 2000000 := by omega
set_option maxRecDepth 100000 in
set_option maxHeartbeats 3200000 in
theorem specFlatT : ∀ (n : Nat) (t : TT), szT t ≤ n → ∀ (B lo hi : Nat) (w : World) (v : Value) (L : List Nd) (up : Int) (sl : Value), NdO B w v L → B ≤ w.heap.size → hi ≤ B → TRep lo hi w t sl → L.length + szT t ≤ 2000000 →
    Calls Tryd.prog 19 #[v, .agg #[.int .i64 (kdT t), .int .i64 (nT t), sl], .int .i64 up] w fun e w' => ∃ v', e = .returned v' ∧ NdO B w' v' (L ++ flT t up L.length) ∧ Below B w w'
  | 0, t, hn => by have := szT_pos t; omega
  | n + 1, .mk kd nn ks, hn => by
    intro B lo hi w v L up sl hO hB hhi hT hl
    rw [TRep] at hT
    obtain ⟨a, cap, rfl, hK⟩ := hT
    rw [szT] at hn hl
    obtain ⟨a0, c0, rfl⟩ := ownsRow_shape hO
    obtain ⟨y, hy⟩ : ∃ y, w.heap.size = y := ⟨_, rfl⟩
    obtain ⟨W, hW⟩ : ∃ W, w.alloc (.cells #[.int .i64 kd, .int .i64 nn, .slice a ks.length cap] 42) = W := ⟨_, rfl⟩
    obtain ⟨X, hX⟩ : ∃ X, W.alloc (.cells #[.int .i64 kd, .int .i64 nn, .int .i64 up] 51) = X := ⟨_, rfl⟩
    have hbW : W.heap[y]? = some (.cells #[.int .i64 kd, .int .i64 nn, .slice a ks.length cap] 42 (0, 0)) := by rw [← hW, ← hy]; exact heap_alloc_new _ _
    have hWs : W.heap.size = y + 1 := by rw [← hW, ← hy]; simp
    obtain ⟨z, hz⟩ : ∃ z, W.heap.size = z := ⟨_, rfl⟩
    have hbX : X.heap[z]? = some (.cells #[.int .i64 kd, .int .i64 nn, .int .i64 up] 51 (0, 0)) := by rw [← hX, ← hz]; exact heap_alloc_new _ _
    have hyX : X.heap[y]? = some (.cells #[.int .i64 kd, .int .i64 nn, .slice a ks.length cap] 42 (0, 0)) := by rw [← hX]; exact (Below.heap_alloc _ _ _ (by omega)).trans hbW
    have HOX : Hid (NdO B X (.slice a0 L.length c0) L) := by unfold Hid; rw [← hX, ← hW]; exact (hO.alloc _).alloc _
    have HBX : Hid (Below B w X ∧ B ≤ X.heap.size) := by
      unfold Hid; rw [← hX, ← hW]
      refine ⟨((Below.refl _ _).alloc hB _).alloc (by simp; omega) _, by simp; omega⟩
    have HYX : Hid (X.heap[y]? = some (.cells #[.int .i64 kd, .int .i64 nn, .slice a ks.length cap] 42 (0, 0)) ∧ X.heap[z]? = some (.cells #[.int .i64 kd, .int .i64 nn, .int .i64 up] 51 (0, 0)) ∧ w.heap.size = y) := ⟨hyX, hbX, hy⟩
    have HK : Hid (KRep lo hi w ks a 0 ∧ hi ≤ B) := ⟨hK, hhi⟩
    have HL : Hid (1 + szK ks ≤ n + 1 ∧ L.length + (1 + szK ks) ≤ 2000000 ∧ B ≤ w.heap.size ∧ ∀ g, (Value.slice a0 L.length c0).ownBlock = some g → g < w.heap.size) := ⟨hn, hl, hB, fun g hg => (hO.lt g hg).2⟩
    have r0 := (cell_of_block hbW 0).trans (show _ = some (Value.int .i64 kd) from rfl)
    have r1 := (cell_of_block hbW 1).trans (show _ = some (Value.int .i64 nn) from rfl)
    clear hO hK hn hl hB hhi hbW hbX hyX hWs
    show Calls Tryd.prog 19 #[.slice a0 L.length c0, .agg #[.int .i64 kd, .int .i64 nn, .slice a ks.length cap], .int .i64 up] w _
    go_enter Tryd.func19, Tryd.ntmps19
    go_wp2_with (at_builtin; refine wpl_appNd _ rfl _ _ rfl B _ L rfl HOX.out z 0 1 [(kd, nn, up)] rfl ?c1 ?c2 ?c3 ?_)
    case c1 =>
      intro j u hu
      have hb := HYX.out.2.1
      have hj : j = 0 ∨ j = 1 ∨ j = 2 := by
        have := (List.getElem?_eq_some_iff.1 hu).1
        simp [ndv] at this
        omega
      rcases hj with rfl | rfl | rfl
      · simp [ndv] at hu; subst hu; exact (cell_of_block hb 0).trans rfl
      · simp [ndv] at hu; subst hu; exact (cell_of_block hb 1).trans rfl
      · simp [ndv] at hu; subst hu; exact (cell_of_block hb 2).trans rfl
    case c2 => have := HL.out.2.1; simp; omega
    case c3 => exact HBX.out.2
    intro v3 w3 hO3 hg3
    obtain ⟨a3, c3, e3⟩ := ownsRow_shape hO3
    subst e3
    have HB3 : Hid (Below B w w3) := HBX.out.1.trans ((Below.refl _ _).grown hg3 HBX.out.2 (fun q hq => (HOX.out.lt q hq).1))
    have hy3 : w3.heap[y]? = some (.cells #[.int .i64 kd, .int .i64 nn, .slice a ks.length cap] 42 (0, 0)) := (hg3.block y (lt_of_block HYX.out.1) (fun e => by
      have h1 := HL.out.2.2.2 y e.symm
      have h2 := HYX.out.2.2
      omega)).trans HYX.out.1
    have q2 := (cell_of_block hy3 2).trans (show _ = some (Value.slice a ks.length cap) from rfl)
    obtain ⟨n3, hn3⟩ : ∃ x, (L ++ [(kd, nn, up)]).length = x := ⟨_, rfl⟩
    have HO3 : Hid (NdO B w3 (.slice a3 n3 c3) (L ++ [(kd, nn, up)])) := by rw [← hn3]; exact hO3
    rw [hn3]
    clear r0 r1 hX hW hy hz hn3 HOX HBX hO3 hg3 hy3
    have HN1 : Hid (∀ k : Nat, k ≤ 2000000 → wrap64 ((k : Int) + 1) = (k : Int) + 1) := fun k hk => by unfold wrap64; omega
    have HKL : Hid (ks.length ≤ 2000000) := ar7 (kidsle ks) HL.out.2.1
    have IH := fun (t : TT) (h : szT t ≤ n) => specFlatT n t h
    go_wp2
    go_loopw [0, 24] (fun v i wr => ∃ m : Nat, m ≤ ks.length ∧ i = .int .i64 (m : Int) ∧ Hid (NdO B wr v (L ++ (kd, nn, up) :: flK (ks.take m) L.length (L.length + 1))) ∧ Hid (Below B w wr)) (fun _ i _ => ks.length - (intOf i).toNat)
    case atStart => exact ⟨0, by omega, rfl, by unfold Hid; rw [List.take_zero, flK]; exact HO3.out, HB3.out⟩
    case round =>
      obtain ⟨m, hm, rfl, HO, HB⟩ := hrel
      obtain ⟨a5, c5, e5⟩ := ownsRow_shape HO.out
      subst e5
      rcases Nat.lt_or_ge m ks.length with hlt | hge
      · obtain ⟨g, sl', rfl, g1, g2, d0, d1, d2, dt⟩ := KRep.get ks _ 0 HK.out.1 m hlt
        rw [Nat.zero_add] at d0 d1 d2
        have hgB : g < B := Nat.lt_of_lt_of_le g2 HK.out.2
        have x0 := (HB.out.cell (p := ⟨g, m * 3, none⟩) hgB).trans d0
        have x1 := (HB.out.cell (p := ⟨g, m * 3 + 1, none⟩) hgB).trans d1
        have x2 := (HB.out.cell (p := ⟨g, m * 3 + 2, none⟩) hgB).trans d2
        obtain ⟨a6, n6, c6, e6⟩ := trep_one dt
        subst e6
        have hsz := szT_at ks m hlt
        have hz6 : szT ks[m] ≤ n := ar2 hsz HL.out.1
        have HT6 : Hid (ks.take (m + 1) = ks.take m ++ [ks[m]]) := (List.take_append_getElem hlt).symm
        obtain ⟨t, htm⟩ : ∃ t, ks[m]'hlt = t := ⟨_, rfl⟩
        rw [htm] at dt hsz hz6 x0 x1 HT6
        obtain ⟨L2, hL2⟩ : ∃ L2, L ++ (kd, nn, up) :: flK (ks.take m) L.length (L.length + 1) = L2 := ⟨_, rfl⟩
        have hl2 : L2.length = L.length + 1 + szK (ks.take m) := by rw [← hL2, List.length_append, List.length_cons, flK_len]; omega
        have HSN : Hid (L2 ++ flT t (L.length : Int) L2.length = L ++ (kd, nn, up) :: flK (ks.take (m + 1)) L.length (L.length + 1)) := by
          unfold Hid
          rw [HT6.out, flK_snoc, hl2, ← hL2, List.append_assoc, List.cons_append]
        have HOL : Hid (NdO B wr (.slice a5 L2.length c5) L2) := by have h := HO.out; rw [hL2] at h; exact h
        have HC : Hid (∀ o, Calls Tryd.prog 19 #[.slice a5 L2.length c5, .agg #[.int .i64 (kdT t), .int .i64 (nT t), .slice a6 n6 c6], .int .i64 (L.length : Int)] (wr.alloc o) fun e w' => ∃ v', e = .returned v' ∧ NdO B w' v' (L2 ++ flT t (L.length : Int) L2.length) ∧ Below B (wr.alloc o) w') := fun o =>
          IH t hz6 B lo hi (wr.alloc o) _ L2 (L.length : Int) _ (HOL.out.alloc _) (Nat.le_trans (Nat.le_trans HL.out.2.2.1 HB.out.size) (by simp)) HK.out.2 (TRep.keep (fun q q1 q2 => (Below.heap_alloc _ _ _ (Nat.lt_of_lt_of_le (Nat.lt_of_lt_of_le q2 HK.out.2) (Nat.le_trans HL.out.2.2.1 HB.out.size))).trans (HB.out.block q (Nat.lt_of_lt_of_le q2 HK.out.2))) t _ dt) (ar1 hl2 hsz HL.out.2.1)
        obtain ⟨kt, hkt⟩ : ∃ x, kdT t = x := ⟨_, rfl⟩
        obtain ⟨nt, hnt⟩ : ∃ x, nT t = x := ⟨_, rfl⟩
        rw [hkt] at x0 HC
        rw [hnt] at x1 HC
        have hmi := (ar3 hlt).1
        have hwm := HN1.out m (ar4 hlt HKL.out)
        rw [hL2]
        clear IH dt hsz hz6 hl2 hL2 HO HT6 hkt hnt htm d0 d1 d2
        go_wp2_with (go_at_call 19; refine (HC.out _).mono ?_; rintro e w5 ⟨v5, rfl, hO5, hb5⟩; clear HC)
        have HO5 : Hid (NdO B w5 v5 (L ++ (kd, nn, up) :: flK (ks.take (m + 1)) L.length (L.length + 1))) := by unfold Hid; rw [← HSN.out]; exact hO5
        have HB5 : Hid (Below B w w5) := HB.out.trans ((bel_alloc (Below.refl _ _) _ |>.mono (Nat.le_trans HL.out.2.2.1 HB.out.size)).trans hb5)
        go_roundw
        case rel => exact ⟨m + 1, (ar3 hlt).2, by go_num, HO5.out, HB5.out⟩
        case measure => first | exact ar6 hlt | (rw [hwm]; exact ar6 hlt)
      · have hme := (ar5 hm hge).1
        obtain ⟨L2, hL2⟩ : ∃ L2, L ++ (kd, nn, up) :: flK (ks.take m) L.length (L.length + 1) = L2 := ⟨_, rfl⟩
        have HOE : Hid (NdO B wr (.slice a5 L2.length c5) (L ++ flT (.mk kd nn ks) up L.length)) := by
          have h := HO.out
          unfold Hid
          rw [hL2] at h
          rw [flT]
          rw [hme, List.take_length] at hL2
          rw [hL2]
          exact h
        have hmi := (ar5 hm hge).2
        rw [hL2]
        clear IH HO hL2 hme
        go_wp2
        go_ret
        exact ⟨_, rfl, HOE.out, HB.out⟩

end Go.Proofs.YtfepbjkfabmiiaaDoor

namespace Go.Proofs.YtfepbjkfabmiiaaDoor
open Go.ChangeShapes Go.WideShapes Go.ChangeAt Go.RowKit Go.PlainAid

/-- A row of trees of one's own, their parts in blocks from B on, apart from the row. -/
def KO (B : Nat) (w : World) (cur : Value) (acc : List TT) : Prop := ∃ xs, w.ownsRow B 42 3 cur acc.length xs ∧
  ∀ i (h : i < acc.length), ∃ lo hi sl', B ≤ lo ∧ hi ≤ w.heap.size ∧ xs[i * 3]? = some (.int .i64 (kdT acc[i])) ∧ xs[i * 3 + 1]? = some (.int .i64 (nT acc[i])) ∧ xs[i * 3 + 2]? = some sl' ∧ TRep lo hi w acc[i] sl' ∧ (∀ g, cur.ownBlock = some g → ¬ (lo ≤ g ∧ g < hi))
theorem KO.nil (B : Nat) (w : World) : KO B w (.slice none 0 0) [] := ⟨[], World.ownsRow_nil _ _ _ _, fun i h => by simp at h⟩
theorem KO.keep {B : Nat} {w w' : World} {cur : Value} {acc : List TT} (h : KO B w cur acc) (hs : w.heap.size ≤ w'.heap.size) (hk : ∀ g, B ≤ g → g < w.heap.size → w'.heap[g]? = w.heap[g]?) : KO B w' cur acc := by
  obtain ⟨xs, h1, h2⟩ := h
  refine ⟨xs, own_keep h1 fun g hg => ?_, fun i hi => ?_⟩
  · obtain ⟨cu, hcu, hb⟩ := own_at h1 hg
    exact hk g hb (lt_of_block hcu)
  · obtain ⟨lo, hh, sl', l1, l2, x1, x2, x3, tr, hne⟩ := h2 i hi
    exact ⟨lo, hh, sl', l1, Nat.le_trans l2 hs, x1, x2, x3, tr.keep (fun g g1 g2 => hk g (by omega) (by omega)), hne⟩
theorem KO.shape {B : Nat} {w : World} {cur : Value} {acc : List TT} (h : KO B w cur acc) : ∃ a cap, cur = .slice a acc.length cap := by
  obtain ⟨xs, h1, _⟩ := h
  exact ownsRow_shape h1
theorem KO.lt {B : Nat} {w : World} {cur : Value} {acc : List TT} (h : KO B w cur acc) : ∀ g, cur.ownBlock = some g → B ≤ g ∧ g < w.heap.size := fun g hg => by
  obtain ⟨xs, h1, _⟩ := h
  obtain ⟨cu, hcu, hb⟩ := own_at h1 hg
  exact ⟨hb, lt_of_block hcu⟩
theorem krep_of {lo hi : Nat} {w : World} : ∀ (ks : List TT) (a : Option Addr) (j : Nat), (∀ m (h : m < ks.length), ∃ g sl', a = some ⟨g, 0, none⟩ ∧ lo ≤ g ∧ g < hi ∧ w.cell? ⟨g, (j + m) * 3, none⟩ = some (.int .i64 (kdT ks[m])) ∧ w.cell? ⟨g, (j + m) * 3 + 1, none⟩ = some (.int .i64 (nT ks[m])) ∧ w.cell? ⟨g, (j + m) * 3 + 2, none⟩ = some sl' ∧ TRep lo hi w ks[m] sl') → KRep lo hi w ks a j
  | [], _, _, _ => by rw [KRep]; trivial
  | t :: r, a, j, h => by
    rw [KRep]
    refine ⟨by have := h 0 (by simp); rw [Nat.add_zero] at this; exact this, krep_of r a (j + 1) fun m hm => ?_⟩
    have := h (m + 1) (by simpa using hm)
    rw [show j + 1 + m = j + (m + 1) by omega]
    exact this
theorem KO.rep {B : Nat} {w : World} {cur : Value} {acc : List TT} {k n : Int} (h : KO B w cur acc) : TRep B w.heap.size w (.mk k n acc) cur := by
  obtain ⟨a, cap, rfl⟩ := h.shape
  have hlt := h.lt
  obtain ⟨xs, h1, h2⟩ := h
  rw [TRep]
  refine ⟨a, cap, rfl, krep_of acc a 0 fun i hi => ?_⟩
  obtain ⟨lo, hh, sl', l1, l2, x1, x2, x3, tr, hne⟩ := h2 i hi
  obtain ⟨g, c, e, _⟩ := own_pos h1 (by omega)
  simp at e
  obtain ⟨rfl, _⟩ := e
  have hl := h1.1
  obtain ⟨g1, g2⟩ := hlt g rfl
  rw [Nat.zero_add]
  exact ⟨g, sl', rfl, g1, g2, (h1.cellAt _ (by omega)).trans x1, (h1.cellAt _ (by omega)).trans x2, (h1.cellAt _ (by omega)).trans x3, TRep.wide l1 l2 _ _ tr⟩
theorem wpl_appT (W : World) {ops : Array Oper} {rest : List Oper} {o : Oper} {a : Act} {Q : Exit → Act → World → Prop} (hgd : o.guard = none) (s x : Operand)
    (ho : o.op = .call { callee := .builtin .append, args := #[s, x], argTypes := #[40, 40] })
    (B : Nat) (v : Value) (acc : List TT) (hs : a.eval s = v) (h : KO B W v acc) (gs c : Nat) (t : TT) (sl : Value) (hx : a.eval x = .slice (some ⟨gs, 0, none⟩) 1 c) (hc : W.heap[gs]? = some (.cells #[.int .i64 (kdT t), .int .i64 (nT t), sl] 42 (0, 0)))
    (lo hi : Nat) (hT : TRep lo hi W t sl) (hlo : B ≤ lo) (hhi : hi ≤ W.heap.size) (hne : ∀ g, v.ownBlock = some g → ¬ (lo ≤ g ∧ g < hi)) (hl : acc.length ≤ 100000) (hb : B ≤ W.heap.size)
    (hk : ∀ v' w', KO B w' v' (acc ++ [t]) → W.grownBy w' v.ownBlock → wpList Tryd.prog ops Q rest (a.put o.dst v') w') : wpList Tryd.prog ops Q (o :: rest) a W := by
  obtain ⟨i0, i0i, i00, i01, i02⟩ := info_parts Tryd.infoTr
  obtain ⟨xs, h1, h2⟩ := h
  have hone : sl.oneCell' = true := by obtain ⟨a, n, c, rfl⟩ := trep_one hT; rfl
  refine wpList_append_lies W hgd s x 40 ho B 42 i0 (.agg #[.int .i64 0, .int .i64 0, .slice none 0 0]) 3 40 Tryd.underlying40 i0i i00 i01 i02 rfl (by decide) v acc.length xs hs h1 ⟨gs, 0, none⟩ 1 c [.int .i64 (kdT t), .int .i64 (nT t), sl] hx rfl (fun j u hu => ?_) (by intro u hu; simp at hu; rcases hu with rfl | rfl | rfl; rfl; rfl; exact hone) (by decide) (by unfold maxLen; omega) (by omega) hb W.heap.size rfl fun g cap w' hown hgrow hg hgs => ?_
  · rw [Addr.add_lit, Nat.zero_add]
    match j, hu with
    | 0, hu => simp at hu; subst hu; exact (cell_of_block hc 0).trans rfl
    | 1, hu => simp at hu; subst hu; exact (cell_of_block hc 1).trans rfl
    | 2, hu => simp at hu; subst hu; exact (cell_of_block hc 2).trans rfl
    | j + 3, hu => simp at hu
  · have hl3 : xs.length = acc.length * 3 := h1.1
    refine hk _ w' ⟨xs ++ [.int .i64 (kdT t), .int .i64 (nT t), sl], by rw [List.length_append]; exact hown, fun i hi2 => ?_⟩ hgrow
    have hsz := hgrow.size
    rcases Nat.lt_or_ge i acc.length with hlt | hge
    · obtain ⟨lo', hh, sl', l1, l2, x1, x2, x3, tr, hne'⟩ := h2 i hlt
      rw [List.getElem_append_left hlt]
      refine ⟨lo', hh, sl', l1, by omega, (row3_left hl3 hlt 0 (by omega)).trans x1, (row3_left hl3 hlt 1 (by omega)).trans x2, (row3_left hl3 hlt 2 (by omega)).trans x3, tr.keep (fun q q1 q2 => hgrow.block q (by omega) (fun e => hne' q e.symm ⟨q1, q2⟩)), ?_⟩
      intro q hq
      simp [Value.ownBlock] at hq
      subst hq
      rcases hg with e | e
      · exact hne' _ e
      · omega
    · have hie : i = acc.length := by simp at hi2; omega
      subst hie
      obtain ⟨x1, x2, x3⟩ := row3_right (x := .int .i64 (kdT t)) (y := .int .i64 (nT t)) (z := sl) hl3
      rw [List.getElem_append_right (by omega)]
      simp only [Nat.sub_self, List.getElem_cons_zero]
      refine ⟨lo, hi, sl, hlo, by omega, x1, x2, x3, hT.keep (fun q q1 q2 => hgrow.block q (by omega) (fun e => hne q e.symm ⟨q1, q2⟩)), ?_⟩
      intro q hq
      simp [Value.ownBlock] at hq
      subst hq
      rcases hg with e | e
      · exact hne _ e
      · omega

theorem appU {B lo g5 : Nat} {Z U : World} {cur sl : Value} {acc : List TT} {t : TT} {gU : Nat} (hg : Z.heap.size = gU) (hU : Z.alloc (.cells #[.int .i64 (kdT t), .int .i64 (nT t), sl] 42) = U) (h1 : KO B Z cur acc) (h2 : TRep lo g5 Z t sl) (h3 : g5 ≤ Z.heap.size) :
    KO B U cur acc ∧ U.heap[gU]? = some (.cells #[.int .i64 (kdT t), .int .i64 (nT t), sl] 42 (0, 0)) ∧ TRep lo g5 U t sl ∧ U.heap.size = gU + 1 ∧ ∀ q, q < Z.heap.size → U.heap[q]? = Z.heap[q]? := by
  subst hU hg
  have hk : ∀ q, q < Z.heap.size → (Z.alloc (.cells #[.int .i64 (kdT t), .int .i64 (nT t), sl] 42)).heap[q]? = Z.heap[q]? := fun q hq => Below.heap_alloc _ _ _ hq
  exact ⟨h1.keep (by simp) (fun q _ hq => hk q hq), heap_alloc_new _ _, h2.keep (fun q _ q2 => hk q (by omega)), by simp, hk⟩
theorem afterApp {r y : Nat} {w Z U w7 W8 : World} {nk : Int} {a a7 : Option Addr} {al cap l7 c7 : Nat} {acc : List TT} {t1 : TT} {ob : Obj} (hry : r < y) (hyZ : Z.heap[y]? = some (.cells #[.int .i64 nk, .int .i64 0, .slice a al cap] 42 (0, 0))) (hrZ : Z.heap[r]? = some ob) (hkU : ∀ q, q < Z.heap.size → U.heap[q]? = Z.heap[q]?) (hsU : Z.heap.size ≤ U.heap.size) (hK : KO (y + 1) U (.slice a al cap) acc) (hB : Below r w Z)
    (hK7 : KO (y + 1) w7 (.slice a7 l7 c7) (acc ++ [t1])) (hg7 : U.grownBy w7 (Value.slice a al cap).ownBlock) (hos : Below r Z U) (hW : w7.setCell ⟨y, 2, none⟩ (.slice a7 l7 c7) = W8) :
    w7.heap[y]? = some (.cells #[.int .i64 nk, .int .i64 0, .slice a al cap] 42 (0, 0)) ∧ Hid (KO (y + 1) W8 (.slice a7 l7 c7) (acc ++ [t1]) ∧ Below r w W8) ∧ W8.heap[y]? = some (.cells #[.int .i64 nk, .int .i64 0, .slice a7 l7 c7] 42 (0, 0)) ∧ W8.heap[r]? = some ob := by
  have hyl := lt_of_block hyZ
  have h7 : ∀ q, q ≤ y → w7.heap[q]? = Z.heap[q]? := fun q hq => (hg7.block q (by omega) (fun e => by have := (hK.lt q e.symm).1; omega)).trans (hkU q (by omega))
  have hy7 := (h7 y (Nat.le_refl _)).trans hyZ
  have hb7 : Below r w w7 := (hB.trans hos).grown hg7 (by omega) (fun q hq => by have := (hK.lt q hq).1; omega)
  subst hW
  refine ⟨hy7, ⟨hK7.keep (by simp) (fun q q1 _ => heap_setCell_other _ _ _ _ (by simp; omega)), hb7.setCell (by simp; omega) _⟩, ?_, (heap_setCell_other _ _ _ _ (by simp; omega)).trans ((h7 r (by omega)).trans hrZ)⟩
  rw [heap_setCell_same _ _ _ _ _ _ hy7]
  rfl
theorem rdL_le {g : List UInt8 → TT × Nat} : ∀ (c : Nat) (r : List UInt8) (n : Nat) (acc : List TT), (rdL g c r n acc).2 ≤ n + r.length
  | 0, _, _, _ => Nat.zero_le _
  | c + 1, r, n, acc => by
    rw [rdL]
    split
    · exact Nat.zero_le _
    · rename_i h
      split
      · simp only; omega
      · split
        · have := rdL_le (g := g) c (r.drop ((g r).2 + 1)) (n + (g r).2 + 1) (acc ++ [(g r).1])
          rw [List.length_drop] at this
          omega
        · exact Nat.zero_le _
theorem rdT_le (f : Nat) (s : List UInt8) : (rdT f s).2 ≤ s.length := by
  have h0 : nLen s ≤ s.length := (List.takeWhile_prefix nc (l := s)).length_le
  cases f with
  | zero => exact Nat.zero_le _
  | succ f =>
    rw [rdT]
    split
    · exact Nat.zero_le _
    · split
      · exact h0
      · split
        · exact Nat.zero_le _
        · rename_i h
          have hl : (s.drop (nLen s + 1)).length = s.length - (nLen s + 1) := List.length_drop
          split
          · unfold rdN
            simp only
            split
            · exact Nat.zero_le _
            · omega
          · have := rdL_le (g := rdT f) 9 (s.drop (nLen s + 1)) (nLen s + 1) []
            simp only
            omega

end Go.Proofs.YtfepbjkfabmiiaaDoor

namespace Go.Proofs.YtfepbjkfabmiiaaDoor

theorem szK_app : ∀ (a : List TT) (t : TT), szK (a ++ [t]) = szK a + szT t
  | [], t => by simp [szK]
  | x :: a, t => by rw [List.cons_append, szK, szK, szK_app a t]; omega
theorem nLen_pos {s : List UInt8} (h : nKind s ≠ 0) : 1 ≤ nLen s := by
  rcases Nat.eq_zero_or_pos (nLen s) with h0 | h0
  · exact absurd (by unfold nKind; rw [h0, List.take_zero]; decide) h
  · exact h0
theorem rdL_sz {g : List UInt8 → TT × Nat} (H : ∀ r, (g r).2 ≠ 0 → szT (g r).1 ≤ (g r).2) : ∀ (c : Nat) (r : List UInt8) (n : Nat) (acc : List TT), 1 + szK acc ≤ n → (rdL g c r n acc).2 ≠ 0 → 1 + szK (rdL g c r n acc).1 ≤ (rdL g c r n acc).2
  | 0, _, _, _, _, h => absurd rfl h
  | c + 1, r, n, acc, hn, h => by
    rw [rdL] at h ⊢
    by_cases h1 : (g r).2 = 0 ∨ r.length ≤ (g r).2
    · rw [if_pos h1] at h
      exact absurd rfl h
    · rw [if_neg h1] at h ⊢
      have hg := H r (fun e => h1 (.inl e))
      have hs := szK_app acc (g r).1
      by_cases h2 : r.getD (g r).2 0 = 62
      · rw [if_pos h2]
        simp only
        omega
      · rw [if_neg h2] at h ⊢
        by_cases h3 : r.getD (g r).2 0 = 44
        · rw [if_pos h3] at h ⊢
          exact rdL_sz H c _ _ _ (by omega) h
        · rw [if_neg h3] at h
          exact absurd rfl h
theorem rdT_sz : ∀ (f : Nat) (s : List UInt8), (rdT f s).2 ≠ 0 → szT (rdT f s).1 ≤ (rdT f s).2
  | 0, _, h => absurd rfl h
  | f + 1, s, h => by
    rw [rdT] at h ⊢
    by_cases h1 : nKind s = 0
    · rw [if_pos h1] at h
      exact absurd rfl h
    · have hp := nLen_pos h1
      rw [if_neg h1] at h ⊢
      by_cases h2 : (shp4 (nKind s)).1 = 0 ∧ (shp4 (nKind s)).2.2.2 = 0
      · rw [if_pos h2]
        simp only [szT, szK]
        omega
      · rw [if_neg h2] at h ⊢
        by_cases h3 : s.length ≤ nLen s ∨ s.getD (nLen s) 0 ≠ 60
        · rw [if_pos h3] at h
          exact absurd rfl h
        · rw [if_neg h3] at h ⊢
          by_cases h4 : (shp4 (nKind s)).1 = 0
          · rw [if_pos h4] at h ⊢
            unfold rdN at h ⊢
            simp only [szT, szK] at h ⊢
            omega
          · rw [if_neg h4] at h ⊢
            simp only at h ⊢
            rw [szT]
            exact rdL_sz (rdT_sz f) 9 _ _ [] (by simp [szK]) h

end Go.Proofs.YtfepbjkfabmiiaaDoor

namespace Go.Proofs.YtfepbjkfabmiiaaDoor

/-- The row of the tree that the specification reads. -/
def rdF (s : List UInt8) : List Nd := flT (rdT 8 s).1 (-1) 0
/-- Whether the specification takes it. -/
def rdOk (s : List UInt8) : Bool := decide ((rdT 8 s).2 ≠ 0) && (decide ((rdT 8 s).2 = s.length) && (goodT (rdF s) && (txt (rdF s) (rdF s).length 0 == s)))
theorem rdOk_row {s : List UInt8} (h : rdOk s = true) : rdB s = true ∧ rdM s = rdF s := by
  unfold rdOk at h
  simp only [Bool.and_eq_true, decide_eq_true_eq, beq_iff_eq] at h
  exact rd_yes h.2.2.1 h.2.2.2
theorem rdOk_eq (s : List UInt8) : rdOk s = rdB s := by
  cases h : rdOk s with
  | true => exact (rdOk_row h).1.symm
  | false =>
    cases hb : rdB s with
    | false => rfl
    | true =>
      obtain ⟨hG, ht⟩ := rd_some hb
      have hT := rdT_type hG
      rw [ht] at hT
      have hF : rdF s = rdM s := by unfold rdF; rw [hT]; exact flT_type hG
      have hU := ups_good hG
      have hlen : s.length ≠ 0 := by
        intro e
        have h0 : s = [] := List.length_eq_zero_iff.1 e
        have hn := node_n hG (show 0 < (rdM s).length by have := hU.1; omega)
        have hp := (nm_ncs hn.1.1 hn.1.2).2
        obtain ⟨g, hg⟩ : ∃ g, (rdM s).length = g + 1 := ⟨(rdM s).length - 1, by have := hU.1; omega⟩
        have h1 := congrArg List.length ht
        rw [hg, txt, List.length_append, e] at h1
        omega
      have hOk : rdOk s = true := by
        unfold rdOk
        rw [hF, hG, ht, hT]
        simp [hlen]
      rw [hOk] at h
      exact absurd h (by decide)

end Go.Proofs.YtfepbjkfabmiiaaDoor
