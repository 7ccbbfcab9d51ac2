/-
  Types read from texts: the specification's reading.
-/
import Derived.Test.YtfepbjkfabmiiaaDoorV2
import Derived.Deep.CutRange
import Derived.Deep.DeepCutAuto
import Derived.Deep.CutBlock
namespace Go.Proofs.YtfepbjkfabmiiaaDoor
open Go.ChangeShapes Go.WideShapes Go.ChangeAt Go.RowKit Go.PlainAid

/-- What is read. -/
def RdP (w : World) (T : TT × Nat) (e : Ending) (w' : World) : Prop := ∃ sl, e = .returned (.tuple #[.agg #[.int .i64 (kdT T.1), .int .i64 (nT T.1), sl], .int .i64 (T.2 : Int)]) ∧ TRep w.heap.size w'.heap.size w' T.1 sl ∧ Below w.heap.size w w'
theorem set3R {w : World} {b : Nat} {x y z : Value} {t : TypeId} (k : w.heap[b]? = some (.cells #[x, y, z] t (0, 0))) (p q u : Value) :
    (((w.setCell ⟨b, 0, none⟩ p).setCell ⟨b, 1, none⟩ q).setCell ⟨b, 2, none⟩ u).cell? ⟨b, 0, none⟩ = some p ∧ (((w.setCell ⟨b, 0, none⟩ p).setCell ⟨b, 1, none⟩ q).setCell ⟨b, 2, none⟩ u).cell? ⟨b, 1, none⟩ = some q ∧ (((w.setCell ⟨b, 0, none⟩ p).setCell ⟨b, 1, none⟩ q).setCell ⟨b, 2, none⟩ u).cell? ⟨b, 2, none⟩ = some u := by
  have e2 : (((w.setCell ⟨b, 0, none⟩ p).setCell ⟨b, 1, none⟩ q).setCell ⟨b, 2, none⟩ u).heap[b]? = some (.cells #[p, q, u] t (0, 0)) := by
    rw [heap_setCell_same _ _ _ _ _ _ (heap_setCell_same _ _ _ _ _ _ (heap_setCell_same _ _ _ _ _ _ k))]
    rfl
  exact ⟨(cell_of_block e2 0).trans rfl, (cell_of_block e2 1).trans rfl, (cell_of_block e2 2).trans rfl⟩
theorem rdp_end {w X : World} {r : Nat} {T : TT} {sl : Value} {k : Nat} {ob : Obj} (hwr : w.heap.size = r) (hX : X.heap[r]? = some ob) (hb : Below r w X) (hT : TRep (r + 1) X.heap.size X T sl) :
    RdP w (T, k) (.returned (.tuple #[.agg #[.int .i64 (kdT T), .int .i64 (nT T), sl], .int .i64 (k : Int)])) (((X.setCell ⟨r, 0, none⟩ (.int .i64 (kdT T))).setCell ⟨r, 1, none⟩ (.int .i64 (nT T))).setCell ⟨r, 2, none⟩ sl) := by
  subst hwr
  refine ⟨sl, rfl, ?_, ((hb.setCell (Nat.le_refl _) _).setCell (Nat.le_refl _) _).setCell (Nat.le_refl _) _⟩
  refine TRep.wide (Nat.le_succ _) (by simp) T sl (TRep.keep (fun g g1 g2 => ?_) T sl hT)
  have hg : g ≠ w.heap.size := by omega
  exact (heap_setCell_other _ _ _ _ (by simpa using hg)).trans ((heap_setCell_other _ _ _ _ (by simpa using hg)).trans (heap_setCell_other _ _ _ _ (by simpa using hg)))
theorem takeW_at {p : UInt8 → Bool} : ∀ (l : List UInt8) (k : Nat), (∀ j (h : j < l.length), j < k → p l[j] = true) → k ≤ l.length → (∀ h : k < l.length, p l[k] = false) → (l.takeWhile p).length = k
  | [], k, _, hk, _ => by simp at hk; simp [hk]
  | c :: l, 0, _, _, h => by
    have := h (by simp)
    simp at this
    simp [this]
  | c :: l, k + 1, h, hk, h2 => by
    have h0 : p c = true := h 0 (by simp) (by omega)
    rw [List.takeWhile_cons, if_pos h0, List.length_cons, takeW_at l k (fun j hj hjk => by
      have := h (j + 1) (by simpa using hj) (by omega)
      simpa using this) (by simpa using hk) (fun hl => by
      have := h2 (by simpa using hl)
      simpa using this)]
theorem nc_int (b : UInt8) : nc b = true ↔ ((97 ≤ (b.toNat : Int) ∧ (b.toNat : Int) ≤ 122) ∨ (48 ≤ (b.toNat : Int) ∧ (b.toNat : Int) ≤ 57)) := by
  unfold nc
  simp only [Bool.or_eq_true, Bool.and_eq_true, decide_eq_true_eq]
  omega
theorem byte_of (s : ByteArray) (k : Nat) (h : k < s.size) : ∃ b : UInt8, (s[k]'h) = b ∧ s.data.toList[k]? = some b := ⟨_, rfl, Lib.data_getElem? s k h⟩
/-- The names of the kinds lie in a block. -/
def NmsAt (w : World) (q : Nat) : Prop := ∀ i (h : i < krow.length), w.cell? ⟨q, i, none⟩ = some (.string (bsY krow[i].1))
theorem nms_of : ∀ j : Fin 22, nm ((j.val : Nat) : Int) = krow[j].1 := by decide +kernel
/-- A name is that of its kind alone. -/
theorem kn_at (l : List UInt8) (m : Nat) (hm : m < krow.length) (h0 : 0 < m) : (krow[m].1 = l ↔ kn l = (m : Int)) := by
  have h22 : krow.length = 22 := rfl
  have hn := nms_of ⟨m, hm⟩
  constructor
  · intro h
    have := (nm_of (x := (m : Int)) (by omega) (by omega)).2.2
    rw [← h]
    have h3 : nm (m : Int) = krow[m].1 := hn
    rw [← h3]
    exact this
  · intro h
    unfold kn at h
    have h5 : krow.findIdx (fun r => r.1 == l) ≤ 22 := by have := List.findIdx_le_length (p := fun r : List UInt8 × Int × Int × Int × Int × Int × Int => r.1 == l) (xs := krow); omega
    have h4 : krow.findIdx (fun r => r.1 == l) = m := by omega
    have h6 := List.findIdx_getElem (p := fun r : List UInt8 × Int × Int × Int × Int × Int × Int => r.1 == l) (xs := krow) (w := by omega)
    simp only [h4] at h6
    exact eq_of_beq h6
theorem wr4 {n z : Nat} (h : n < z) (h2 : z ≤ 1048576) : wrap64 ((n : Int) + 1) = (n : Int) + 1 ∧ wrap64 ((n : Int) + 1 + 4) = (n : Int) + 1 + 4 := ⟨by unfold wrap64; omega, by unfold wrap64; omega⟩
theorem wv1 {v : Int} (h : 0 ≤ v) (h2 : v < 1000) : IntKind.i64.wrap (10 * v) = 10 * v := by rw [IntKind.wrap_i64]; omega
theorem wv2 {x : Int} (h : 48 ≤ x) (h2 : x ≤ 57) : IntKind.i64.wrap (x - 48) = x - 48 := by rw [IntKind.wrap_i64]; omega
theorem wv3 {v x : Int} (h : 0 ≤ v) (h2 : v < 1000) (h3 : 48 ≤ x) (h4 : x ≤ 57) : IntKind.i64.wrap (10 * v + (x - 48)) = 10 * v + (x - 48) := by rw [IntKind.wrap_i64]; omega
theorem wdp {deep dm : Int} {f m : Nat} (h1 : 9 - (f : Int) = deep) (h2 : f = m + 1) (h3 : f ≤ 8) (h4 : 9 - (m : Int) = dm) : wrap64 (deep + 1) = dm := by unfold wrap64; omega
theorem three {w : World} {b : Nat} {x y z : Value} {t : TypeId} (h : w.heap[b]? = some (.cells #[x, y, z] t (0, 0))) : w.cell? ⟨b, 0, none⟩ = some x ∧ w.cell? ⟨b, 1, none⟩ = some y ∧ w.cell? ⟨b, 2, none⟩ = some z :=
  ⟨(cell_of_block h 0).trans rfl, (cell_of_block h 1).trans rfl, (cell_of_block h 2).trans rfl⟩
theorem wsum {k tk q : Nat} {tz : Int} (h1 : (tk : Int) = tz) (h2 : k + tk = q) (h3 : q ≤ 4000000) : wrap64 ((k : Int) + tz) = (q : Int) := by unfold wrap64; omega
theorem wsums {k tk q qn : Nat} {tz tz1 : Int} (h1 : (tk : Int) = tz) (h2 : k + tk = q) (h4 : q + 1 = qn) (h5 : tz + 1 = tz1) (h3 : q ≤ 4000000) : wrap64 ((k : Int) + tz) = (q : Int) ∧ wrap64 (tz + 1) = tz1 ∧ wrap64 ((k : Int) + tz1) = (qn : Int) ∧ wrap64 ((qn : Int) - 1) = (q : Int) := ⟨by unfold wrap64; omega, by unfold wrap64; omega, by unfold wrap64; omega, by unfold wrap64; omega⟩
theorem hidU {B lo g5 : Nat} {Z U : World} {cur sl : Value} {acc : List TT} {t : TT} {gU : Nat} {kd nt : Int} (hkd : kdT t = kd) (hnt : nT t = nt) (hg : Z.heap.size = gU) (hU : Z.alloc (.cells #[.int .i64 kd, .int .i64 nt, sl] 42) = U) (h1 : KO B Z cur acc) (h2 : TRep lo g5 Z t sl) (h3 : g5 ≤ Z.heap.size) :
    Hid (KO B U cur acc ∧ U.heap[gU]? = some (.cells #[.int .i64 (kdT t), .int .i64 (nT t), sl] 42 (0, 0)) ∧ TRep lo g5 U t sl ∧ U.heap.size = gU + 1 ∧ ∀ q, q < Z.heap.size → U.heap[q]? = Z.heap[q]?) := by
  subst hkd hnt
  exact appU hg hU h1 h2 h3
theorem us1 {a b : Nat} (h : a = b + 1) : b ≤ a := by omega
theorem us2 {u g z g5 : Nat} (h1 : u = g + 1) (h2 : z = g) (h3 : z = g5 + 1) : g5 ≤ u := by omega
theorem us3 {g n m : Nat} (h : g < n) : ¬ (n ≤ g ∧ g < m) := by omega
theorem us4 {u g z g5 y n : Nat} (h1 : u = g + 1) (h2 : z = g) (h3 : z = g5 + 1) (h4 : y + 1 ≤ n) (h5 : n ≤ g5) : y + 1 ≤ u := by omega
theorem us5 {u g z : Nat} (h1 : u = g + 1) (h2 : z = g) : z ≤ u := by omega
theorem us6 {q qn n k tk : Nat} (h : q + 1 = qn) (h2 : q < n) (h3 : k + tk = q) : qn ≤ n ∧ n - qn < n - k := by omega
theorem us7 {c a al : Nat} (h : c + 1 + al = 9) (h2 : a = al) : c + (a + 1) = 9 := by omega
theorem dLen_at {q : List UInt8} {j : Nat} (h1 : ∀ i (h : i < q.length), i < j → dgc q[i] = true) (h4 : j ≤ 4) (hl : j ≤ q.length) (h2 : ∀ h : j < q.length, j < 4 → dgc q[j] = false) : dLen q = j := by
  unfold dLen
  refine takeW_at _ j (fun i hi hij => ?_) (by simp; omega) (fun h => ?_)
  · rw [List.getElem_take]
    exact h1 i (by simp at hi; omega) hij
  · rw [List.getElem_take]
    simp at h
    exact h2 (by omega) (by omega)
theorem dval_snoc (l : List UInt8) (c : UInt8) : dval (l ++ [c]) = 10 * dval l + ((c.toNat : Int) - 48) := by
  unfold dval
  rw [List.foldl_append]
  rfl
theorem dgc_int (b : UInt8) : dgc b = true ↔ (48 ≤ (b.toNat : Int) ∧ (b.toNat : Int) ≤ 57) := by
  unfold dgc
  simp only [Bool.and_eq_true, decide_eq_true_eq]
  omega
theorem pw_le : ∀ j : Nat, j < 4 → (10 : Int) ^ j ≤ 1000
  | 0, _ => by decide
  | 1, _ => by decide
  | 2, _ => by decide
  | 3, _ => by decide
  | _ + 4, h => by omega
theorem kstep {nk m : Int} (h : 0 ≤ nk) (h2 : m = 0 ∨ ¬ nk = m) : (if nk < m + 1 then nk else 0) = (if nk < m then nk else 0) := by
  split <;> split <;> omega
theorem ag1 {k n : Nat} (h : k < n) (hn : n ≤ 1048576) : (k : Int) < (n : Int) ∧ wrap64 ((k : Int) + 1) = (k : Int) + 1 ∧ k + 1 ≤ n := ⟨by omega, by unfold wrap64; omega, by omega⟩

set_option maxRecDepth 100000 in
set_option maxHeartbeats 3200000 in
theorem specReadT_step (f : Nat) (hf : f ≤ 8) (IH : ∀ m, f = m + 1 → ∀ (s' : ByteArray) (w' : World), s'.size ≤ 1048576 → Calls Tryd.prog 29 #[.string s', .int .i64 (9 - (m : Int))] w' (RdP w' (rdT m s'.data.toList)))
    (s : ByteArray) (w : World) (hs : s.size ≤ 1048576) : Calls Tryd.prog 29 #[.string s, .int .i64 (9 - (f : Int))] w (RdP w (rdT f s.data.toList)) := by
  obtain ⟨R, hR⟩ : ∃ R, rdT f s.data.toList = R := ⟨_, rfl⟩
  rw [hR]
  obtain ⟨n0, hn0⟩ : ∃ n, nLen s.data.toList = n := ⟨_, rfl⟩
  obtain ⟨r, hr⟩ : ∃ r, w.heap.size = r := ⟨_, rfl⟩
  obtain ⟨W, hW⟩ : ∃ W, w.alloc (.cells #[.int .i64 0, .int .i64 0, .slice none 0 0] 42) = W := ⟨_, rfl⟩
  have HR : Hid (rdT f s.data.toList = R ∧ nLen s.data.toList = n0) := ⟨hR, hn0⟩
  have HW : Hid (W.heap[r]? = some (.cells #[.int .i64 0, .int .i64 0, .slice none 0 0] 42 (0, 0)) ∧ Below w.heap.size w W ∧ w.heap.size = r) := by
    unfold Hid; rw [← hW, ← hr]; exact ⟨heap_alloc_new _ _, (Below.refl _ _).alloc (Nat.le_refl _) _, rfl⟩
  have HS : Hid (s.size ≤ 1048576 ∧ f ≤ 8) := ⟨hs, hf⟩
  obtain ⟨deep, hdeep⟩ : ∃ d : Int, 9 - (f : Int) = d := ⟨_, rfl⟩
  have HD : Hid (9 - (f : Int) = deep) := hdeep
  rw [hdeep]
  clear hR hn0 hdeep hs hf
  go_enter Tryd.func29, Tryd.ntmps29
  go_upto_block 0 with fail
  clear hr hW
  go_cut [6] (fun x wx => x = .int .i64 (n0 : Int) ∧ wx = W)
  case first =>
    go_wp2
    go_loopw [6] (fun i wr => ∃ k : Nat, k ≤ s.size ∧ i = .int .i64 (k : Int) ∧ wr = W ∧ Hid (∀ j (h : j < s.data.toList.length), j < k → nc (s.data.toList[j]) = true)) (fun i _ => s.size - (intOf i).toNat)
    case atStart => exact ⟨0, by omega, rfl, rfl, fun j _ h => by omega⟩
    case round =>
      obtain ⟨k, hk, rfl, hwr, HN⟩ := hrel
      obtain rfl := hwr.symm
      clear hwr
      rcases Nat.lt_or_ge k s.size with hlt | hge
      · obtain ⟨b, hb, hbl⟩ := byte_of s k hlt
        have HBL : Hid (s.data.toList[k]? = some b) := hbl
        have e0 : ((s[k]'hlt).toNat : Int) = (b.toNat : Int) := by rw [hb]
        obtain ⟨a1, a2, a3⟩ := ag1 hlt HS.out.1
        have hni := nc_int b
        have hb8 : (b.toNat : Int) ≤ 255 := by have := UInt8.toNat_lt b; omega
        obtain ⟨x, hx⟩ : ∃ x : Int, (b.toNat : Int) = x := ⟨_, rfl⟩
        rw [hx] at e0 hni hb8
        clear hb hbl hx
        by_cases hm : nc b = true
        · have HM : Hid (∀ j (h : j < s.data.toList.length), j < k + 1 → nc (s.data.toList[j]) = true) := fun j h hjk => by
            rcases Nat.lt_or_ge j k with h2 | h2
            · exact HN.out j h h2
            · have h3 : j = k := by omega
              subst h3
              have h4 := HBL.out
              rw [List.getElem?_eq_getElem h] at h4
              rw [Option.some.inj h4]
              exact hm
          have hc := hni.1 hm
          have hc : (97 ≤ x ∧ x ≤ 122) ∨ (¬ 97 ≤ x ∧ 48 ≤ x ∧ x ≤ 57) := by omega
          clear hni hm hb8
          rcases hc with ⟨h1, h2⟩ | ⟨h1, h2, h3⟩
          all_goals go_wp2
          all_goals go_roundw
          all_goals first
            | (case rel => exact ⟨k + 1, a3, by rw [a2]; rfl, trivial, HM.out⟩)
            | (case measure => rw [a2]; simp [intOf]; omega)
        · have HE : Hid (n0 = k) := by
            unfold Hid
            rw [← HR.out.2]
            unfold nLen
            refine takeW_at _ k HN.out (by simp; omega) (fun h => ?_)
            have h4 := HBL.out
            rw [List.getElem?_eq_getElem h] at h4
            rw [Option.some.inj h4]
            simpa using hm
          have hc : (97 ≤ x ∧ ¬ x ≤ 122 ∧ ¬ x ≤ 57 ∧ 48 ≤ x) ∨ (¬ 97 ≤ x ∧ ¬ 48 ≤ x) ∨ (¬ 97 ≤ x ∧ 48 ≤ x ∧ ¬ x ≤ 57) := by
            have : ¬ ((97 ≤ x ∧ x ≤ 122) ∨ (48 ≤ x ∧ x ≤ 57)) := fun h => hm (hni.2 h)
            omega
          clear hni hm hb8
          rcases hc with ⟨h1, h2, h3, h4⟩ | ⟨h1, h2⟩ | ⟨h1, h2, h3⟩
          all_goals go_wp2
          all_goals go_meet
          all_goals exact ⟨by rw [HE.out], rfl⟩
      · have hkn : ¬ (k : Int) < (s.size : Int) := by omega
        have HE : Hid (n0 = k) := by
          unfold Hid
          rw [← HR.out.2]
          unfold nLen
          exact takeW_at _ k HN.out (by simp; omega) (fun h => by simp at h; omega)
        go_wp2
        go_meet
        exact ⟨by rw [HE.out], rfl⟩
  case rest =>
    obtain ⟨rfl, rfl⟩ := hcut
    obtain ⟨W, hwq⟩ : ∃ X, wc = X := ⟨_, rfl⟩
    rw [hwq] at HW ⊢
    clear hwq
    obtain ⟨y, hy⟩ : ∃ y, W.heap.size = y := ⟨_, rfl⟩
    obtain ⟨Z, hZ⟩ : ∃ Z, W.alloc (.cells #[.int .i64 0, .int .i64 0, .slice none 0 0] 42) = Z := ⟨_, rfl⟩
    have HZ : Hid (Z.heap[y]? = some (.cells #[.int .i64 0, .int .i64 0, .slice none 0 0] 42 (0, 0)) ∧ Below y W Z ∧ W.heap.size = y ∧ Z.heap.size = y + 1) := by
      unfold Hid; rw [← hZ, ← hy]; exact ⟨heap_alloc_new _ _, (Below.refl _ _).alloc (Nat.le_refl _) _, rfl, by simp⟩
    have HZ0 : Hid (W.alloc (.cells #[.int .i64 0, .int .i64 0, .slice none 0 0] 42) = Z) := hZ
    clear hZ
    have HRY : Hid (r < y) := by have h := lt_of_block HW.out.1; rw [HZ.out.2.2.1] at h; exact h
    have HQ : Hid (∀ (e : Ending) (w2 : World), (e = .returned (.slice (some ⟨Z.heap.size, 0, none⟩) 22 22) ∧ (∀ i (h : i < krow.length), w2.cell? ⟨Z.heap.size, i, none⟩ = some (.string (bsY krow[i].1))) ∧ Below Z.heap.size Z w2) → e = .returned (.slice (some ⟨y + 1, 0, none⟩) 22 22) ∧ Hid (NmsAt w2 (y + 1) ∧ w2.heap[y]? = some (.cells #[.int .i64 0, .int .i64 0, .slice none 0 0] 42 (0, 0)) ∧ w2.heap[r]? = some (.cells #[.int .i64 0, .int .i64 0, .slice none 0 0] 42 (0, 0)) ∧ Below r w w2 ∧ y + 2 ≤ w2.heap.size)) := fun e w2 h => by
      obtain ⟨z1, z2, z3, z4⟩ := HZ.out
      obtain ⟨p1, p2, p3⟩ := HW.out
      rw [z4] at h
      obtain ⟨h1, h2, h3⟩ := h
      have hry := lt_of_block p1
      have hsz : y + 1 + 1 ≤ w2.heap.size := by
        have := h2 0 (by decide)
        exact World.block_lt_of_cell? _ _ this
      refine ⟨h1, fun i hi => h2 i hi, (h3.block y (by omega)).trans z1, (h3.block r (by omega)).trans ((z2.block r (by omega)).trans p1), ?_, by omega⟩
      rw [← p3]
      exact p2.trans ((z2.mono (by omega)).trans (h3.mono (by omega)))
    go_upto_block 2 with (go_at_call 39; rw [HZ0.out]; refine (specNames Z).mono ?_; intro e w2 hcc; obtain ⟨rfl, HB2⟩ := HQ.out _ _ hcc; clear hcc HQ)
    go_cut [8, 9, 50] (fun _ _ _ wx => Hid (wx.heap[y]? = some (.cells #[.int .i64 (nKind s.data.toList), .int .i64 0, .slice none 0 0] 42 (0, 0)) ∧ wx.heap[r]? = some (.cells #[.int .i64 0, .int .i64 0, .slice none 0 0] 42 (0, 0)) ∧ Below r w wx ∧ y < wx.heap.size))
    case first =>
      obtain ⟨NB, hNB⟩ : ∃ b, s.extract 0 n0 = b := ⟨_, rfl⟩
      obtain ⟨nk, hnk⟩ : ∃ k, nKind s.data.toList = k := ⟨_, rfl⟩
      have hn0 : (n0 : Int) ≤ (s.size : Int) := by
        have h := HR.out.2
        unfold nLen at h
        have h2 := (List.takeWhile_prefix nc (l := s.data.toList)).length_le
        rw [h] at h2
        simp at h2
        omega
      have HK : Hid (0 ≤ nk ∧ ∀ m (h : m < krow.length), 0 < m → (krow[m].1 = NB.data.toList ↔ nk = (m : Int))) := ⟨by rw [← hnk]; unfold nKind kn; omega, fun m h h0 => by
        rw [kn_at _ m h h0, ← hnk]
        unfold nKind
        rw [HR.out.2]
        have : NB.data.toList = s.data.toList.take n0 := by rw [← hNB]; simp [ByteArray.data_extract]
        rw [this]⟩
      have hnk0 : 0 ≤ nk := HK.out.1
      have HNK : Hid (nKind s.data.toList = nk) := hnk
      clear hnk
      go_wp2
      go_loopw [8, 9, 50] (fun _ _ i wr => ∃ m : Nat, m ≤ 22 ∧ i = .int .i64 (m : Int) ∧ wr.heap[y]? = some (.cells #[.int .i64 (if nk < (m : Int) then nk else 0), .int .i64 0, .slice none 0 0] 42 (0, 0)) ∧ Hid (NmsAt wr (y + 1) ∧ wr.heap[r]? = some (.cells #[.int .i64 0, .int .i64 0, .slice none 0 0] 42 (0, 0)) ∧ Below r w wr ∧ y + 2 ≤ wr.heap.size)) (fun _ _ i _ => 22 - (intOf i).toNat)
      case atStart => exact ⟨0, by omega, rfl, by rw [HB2.out.2.1]; simp; omega, HB2.out.1, HB2.out.2.2⟩
      case round =>
        obtain ⟨m, hm, rfl, hyc, HN⟩ := hrel
        rcases Nat.lt_or_ge m 22 with hlt | hge
        · have hcm := HN.out.1 m hlt
          obtain ⟨NM, hNM⟩ : ∃ b, bsY krow[m].1 = b := ⟨_, rfl⟩
          rw [hNM] at hcm
          have hmi : (m : Int) < 22 := by omega
          have HEQ : Hid (0 < m → ((NM.toList == NB.toList) = true ↔ nk = (m : Int))) := fun h0 => by
            rw [← hNM, bsY_list, ByteArray.toList_eq, ← HK.out.2 m hlt h0, beq_iff_eq]
          have hwm : wrap64 ((m : Int) + 1) = (m : Int) + 1 := by unfold wrap64; omega
          rcases Nat.eq_zero_or_pos m with h0 | h0
          · have h0i : ¬ (0 : Int) < (m : Int) := by omega
            have HKS := kstep (nk := nk) (m := (m : Int)) hnk0 (.inl (by omega))
            clear h0
            go_wp2
            go_roundw
            case rel => exact ⟨m + 1, by omega, by first | rfl | (rw [hwm]; rfl), by rw [hyc, ← HKS]; rfl, HN⟩
            case measure => first | (simp [intOf]; omega) | (rw [hwm]; simp [intOf]; omega)
          · have h0i : (0 : Int) < (m : Int) := by omega
            by_cases hq : nk = (m : Int)
            · have hbq : (NM.toList == NB.toList) = true := (HEQ.out h0).2 hq
              have c0 := (cell_of_block hyc 0).trans (show _ = some (Value.int .i64 (if nk < (m : Int) then nk else 0)) from rfl)
              have fr := free_of_block hyc 0
              go_wp2
              go_roundw
              case rel =>
                refine ⟨m + 1, by omega, by first | rfl | (rw [hwm]; rfl), ?_, ?_⟩
                · rw [heap_setCell_same _ _ _ _ _ _ hyc]
                  rw [show (if nk < ((m + 1 : Nat) : Int) then nk else 0) = (m : Int) by rw [if_pos (by omega)]; exact hq]
                  rfl
                · obtain ⟨n1, n2, n3, n4⟩ := HN.out
                  have hry := HRY.out
                  have ho : ∀ g, g ≠ y → (wr.setCell ⟨y, 0, none⟩ (.int .i64 (m : Int))).heap[g]? = wr.heap[g]? := fun g hg => heap_setCell_other _ _ _ _ (by simpa using hg)
                  exact ⟨fun i hi => (cell_heap (ho _ (by omega)) _).trans (n1 i hi), (ho r (by omega)).trans n2, n3.setCell (by simp; omega) _, by simp; omega⟩
              case measure => first | (simp [intOf]; omega) | (rw [hwm]; simp [intOf]; omega)
            · have hbq : (NM.toList == NB.toList) = false := by
                cases h : NM.toList == NB.toList with
                | false => rfl
                | true => exact absurd ((HEQ.out h0).1 h) hq
              have HKS := kstep (nk := nk) (m := (m : Int)) hnk0 (.inr hq)
              go_wp2
              go_roundw
              case rel => exact ⟨m + 1, by omega, by first | rfl | (rw [hwm]; rfl), by rw [hyc, ← HKS]; rfl, HN⟩
              case measure => first | (simp [intOf]; omega) | (rw [hwm]; simp [intOf]; omega)
        · have hmi : ¬ (m : Int) < 22 := by omega
          go_wp2
          go_meet
          obtain ⟨n1, n2, n3, n4⟩ := HN.out
          refine ⟨?_, n2, n3, by omega⟩
          rw [hyc, HNK.out, if_pos]
          have := HNK.out
          unfold nKind kn at this
          omega
    case rest =>
      obtain ⟨V, hVq⟩ : ∃ X, wc = X := ⟨_, rfl⟩
      obtain ⟨b1, b2, b3, b4⟩ := hcut.out
      rw [hVq] at b1 b2 b3 b4 ⊢
      clear hcut hVq HB2 HZ0 HZ hy
      obtain ⟨nk, hnk⟩ : ∃ k, nKind s.data.toList = k := ⟨_, rfl⟩
      rw [hnk] at b1
      have c0 := (cell_of_block b1 0).trans (show _ = some (Value.int .i64 nk) from rfl)
      have c1 := (cell_of_block b1 1).trans (show _ = some (Value.int .i64 0) from rfl)
      have c2 := (cell_of_block b1 2).trans (show _ = some (Value.slice none 0 0) from rfl)
      have HV : Hid (V.heap[y]? = some (.cells #[.int .i64 nk, .int .i64 0, .slice none 0 0] 42 (0, 0)) ∧ V.heap[r]? = some (.cells #[.int .i64 0, .int .i64 0, .slice none 0 0] 42 (0, 0)) ∧ Below r w V ∧ y < V.heap.size ∧ w.heap.size = r ∧ r < y) := ⟨b1, b2, b3, b4, HW.out.2.2, HRY.out⟩
      have r0 := (cell_of_block b2 0).trans (show _ = some (Value.int .i64 0) from rfl)
      have r1 := (cell_of_block b2 1).trans (show _ = some (Value.int .i64 0) from rfl)
      have r2 := (cell_of_block b2 2).trans (show _ = some (Value.slice none 0 0) from rfl)
      have fr0 := free_of_block b2 0
      have fr1 := free_of_block b2 1
      have fr2 := free_of_block b2 2
      have HNK : Hid (nKind s.data.toList = nk) := hnk
      clear hnk b1 b2 b3 b4 HW
      have HE : Hid (∀ k : Nat, R = (.mk nk 0 [], k) → RdP w R (.returned (.tuple #[.agg #[.int .i64 nk, .int .i64 0, .slice none 0 0], .int .i64 (k : Int)])) (((V.setCell ⟨r, 0, none⟩ (.int .i64 nk)).setCell ⟨r, 1, none⟩ (.int .i64 0)).setCell ⟨r, 2, none⟩ (.slice none 0 0))) := fun k e => by
        obtain ⟨b1, b2, b3, b4, b5, b6⟩ := HV.out
        rw [e]
        exact rdp_end (T := .mk nk 0 []) b5 b2 b3 (by rw [TRep]; exact ⟨none, 0, rfl, by rw [KRep]; trivial⟩)
      obtain ⟨q0, q1, q2⟩ := set3R HV.out.2.1 (.int .i64 nk) (.int .i64 0) (.slice none 0 0)
      by_cases h0 : nk = 0
      · have HRR := HE.out 0 (by rw [← HR.out.1]; cases f with
          | zero => rw [rdT, HNK.out]
          | succ f => rw [rdT, HNK.out, if_pos h0, h0])
        clear HE
        subst h0
        go_wp2
        exact bodyPost_ret (by simp [results, Tryd.results29, go_sem, q0, q1, q2]) rfl HRR
      · cases hf : f with
        | zero =>
          have HRR := HE.out 0 (by rw [← HR.out.1, hf, rdT, HNK.out])
          clear HE
          have hd : ¬ deep ≤ 8 := by have := HD.out; omega
          have hd2 : 8 < deep := by have := HD.out; omega
          go_wp2
          exact bodyPost_ret (by simp [results, Tryd.results29, go_sem, q0, q1, q2]) rfl HRR
        | succ m =>
          have hd2 : ¬ 8 < deep := by have := HD.out; omega
          have HSH := specShape4 nk
          obtain ⟨lo, hlo⟩ : ∃ x, (shp4 nk).1 = x := ⟨_, rfl⟩
          obtain ⟨hi, hhi⟩ : ∃ x, (shp4 nk).2.1 = x := ⟨_, rfl⟩
          obtain ⟨fm, hfm⟩ : ∃ x, (shp4 nk).2.2.1 = x := ⟨_, rfl⟩
          obtain ⟨tz, hto⟩ : ∃ x, (shp4 nk).2.2.2 = x := ⟨_, rfl⟩
          rw [hlo, hhi, hfm, hto] at HSH
          have HS4 : Hid ((shp4 nk).1 = lo ∧ (shp4 nk).2.2.1 = fm ∧ (shp4 nk).2.2.2 = tz) := ⟨hlo, hfm, hto⟩
          clear hlo hhi hfm hto
          by_cases h1 : lo = 0 ∧ tz = 0
          · have HRR := HE.out n0 (by rw [← HR.out.1, hf, rdT, HNK.out, if_neg h0, HS4.out.1, HS4.out.2.2, if_pos h1, HR.out.2])
            clear HE
            obtain ⟨rfl, rfl⟩ := h1
            go_wp2_with (go_at_call 40; refine (HSH _).mono ?_; rintro e w2 ⟨rfl, rfl⟩)
            exact bodyPost_ret (by simp [results, Tryd.results29, go_sem, q0, q1, q2]) rfl HRR
          · have HN1 : Hid (∀ R', R' = (if s.data.toList.length ≤ n0 ∨ s.data.toList.getD n0 0 ≠ 60 then (.mk nk 0 [], 0) else if lo = 0 then rdN nk (s.data.toList.drop (n0 + 1)) n0 else (.mk nk 0 (rdL (rdT m) 9 (s.data.toList.drop (n0 + 1)) (n0 + 1) []).1, (rdL (rdT m) 9 (s.data.toList.drop (n0 + 1)) (n0 + 1) []).2)) → R = R') := fun R' e => by
              rw [e, ← HR.out.1, hf, rdT, HNK.out, if_neg h0, HS4.out.1, HS4.out.2.2, if_neg h1, HR.out.2]
            have hlz : lo = 0 → ¬ tz = 0 := fun h h2 => h1 ⟨h, h2⟩
            clear h1
            rcases Nat.lt_or_ge n0 s.size with hlt | hge
            · obtain ⟨b, hb, hbl⟩ := byte_of s n0 hlt
              have hgd : s.data.toList.getD n0 0 = b := by rw [List.getD_eq_getElem?_getD, hbl]; rfl
              have e0 : ((s[n0]'hlt).toNat : Int) = (b.toNat : Int) := by rw [hb]
              have hlti : (n0 : Int) < (s.size : Int) := by omega
              by_cases h60 : b = 60
              · subst h60
                have e1 : ((60 : UInt8).toNat : Int) = 60 := rfl
                rw [e1] at e0
                have HB0 : Hid (∀ R', R' = (if lo = 0 then rdN nk (s.data.toList.drop (n0 + 1)) n0 else (.mk nk 0 (rdL (rdT m) 9 (s.data.toList.drop (n0 + 1)) (n0 + 1) []).1, (rdL (rdT m) 9 (s.data.toList.drop (n0 + 1)) (n0 + 1) []).2)) → R = R') := fun R' e => by
                  rw [e]
                  refine HN1.out _ (if_neg ?_).symm
                  rintro (h | h)
                  · simp at h; omega
                  · exact h hgd
                clear hb hbl hgd HN1 HE q0 q1 q2
                by_cases hl : lo = 0
                · have htz := hlz hl
                  subst hl
                  clear hlz
                  obtain ⟨q, hq⟩ : ∃ q, s.data.toList.drop (n0 + 1) = q := ⟨_, rfl⟩
                  have HQ3 : Hid (R = rdN nk q n0 ∧ q.length = s.size - (n0 + 1) ∧ (∀ j, q[j]? = s.data.toList[n0 + 1 + j]?) ∧ (shp4 nk).2.2.1 = fm) := by
                    refine ⟨HB0.out _ (by rw [if_pos rfl, hq]), by rw [← hq]; simp, fun j => by rw [← hq, List.getElem?_drop], HS4.out.2.1⟩
                  obtain ⟨D, hD⟩ : ∃ d, dLen q = d := ⟨_, rfl⟩
                  have HDL : Hid (dLen q = D) := hD
                  have HLT : Hid (n0 < s.size ∧ s.size ≤ 1048576) := ⟨hlt, HS.out.1⟩
                  have HWN : Hid (wrap64 ((n0 : Int) + 1) = (n0 : Int) + 1 ∧ wrap64 ((n0 : Int) + 1 + 4) = (n0 : Int) + 1 + 4) := wr4 hlt HS.out.1
                  have hwn := HWN.out.1
                  have htb : (tz == 0) = false := by simpa using htz
                  have hdf : decide (s.size ≤ n0) = false := decide_eq_false (by omega)
                  clear hq hD HB0 HS4 HR
                  go_upto_block 4 with (go_at_call 40; refine (HSH _).mono ?_; rintro e w2 ⟨rfl, rfl⟩)
                  clear HSH IH c0 c1 c2 r0 r1 r2 fr0 fr1 fr2
                  rw [hwn]
                  try rw [hdf]
                  try rw [htb]
                  go_cut [14] (fun k wx => k = .int .i64 ((n0 + 1 + D : Nat) : Int) ∧ Hid (wx.heap[y]? = some (.cells #[.int .i64 nk, .int .i64 (dval (q.take D)), .slice none 0 0] 42 (0, 0)) ∧ wx.heap[r]? = some (.cells #[.int .i64 0, .int .i64 0, .slice none 0 0] 42 (0, 0)) ∧ Below r w wx ∧ y < wx.heap.size ∧ D ≤ q.length ∧ D ≤ 4))
                  case first =>
                    go_wp2
                    go_loopw [14] (fun i wr => ∃ j : Nat, j ≤ 4 ∧ i = .int .i64 ((n0 + 1 + j : Nat) : Int) ∧ wr.heap[y]? = some (.cells #[.int .i64 nk, .int .i64 (dval (q.take j)), .slice none 0 0] 42 (0, 0)) ∧ Hid (wr.heap[r]? = some (.cells #[.int .i64 0, .int .i64 0, .slice none 0 0] 42 (0, 0)) ∧ Below r w wr ∧ y < wr.heap.size ∧ j ≤ q.length ∧ (∀ i (h : i < q.length), i < j → dgc q[i] = true) ∧ 0 ≤ dval (q.take j) ∧ dval (q.take j) < 10 ^ j)) (fun i _ => s.size - (intOf i).toNat)
                    case atStart => exact ⟨0, by omega, by first | rfl | (rw [hwn]; rfl), HV.out.1, HV.out.2.1, HV.out.2.2.1, HV.out.2.2.2.1, by omega, fun i h h2 => by omega, by rw [List.take_zero]; exact Int.le_refl 0, by rw [List.take_zero]; decide⟩
                    case round =>
                      obtain ⟨j, hj, rfl, hyc, HJ⟩ := hrel
                      clear hwn
                      obtain ⟨j1, j2, j3, j4, j5, j6, j7⟩ := HJ.out
                      obtain ⟨K, hK⟩ : ∃ K, n0 + 1 + j = K := ⟨_, rfl⟩
                      obtain ⟨v, hv⟩ : ∃ v, dval (q.take j) = v := ⟨_, rfl⟩
                      rw [hv] at hyc j6 j7
                      rw [hK]
                      have HKN : Hid (n0 + 1 + j = K) := hK
                      have HVD : Hid (dval (q.take j) = v) := hv
                      have hql := HQ3.out.2.1
                      have hqi := HQ3.out.2.2.1 j
                      have hsz := HLT.out
                      have HDJ : Hid (D = j → D ≤ q.length ∧ D ≤ 4 ∧ wr.heap[y]? = some (.cells #[.int .i64 nk, .int .i64 (dval (q.take D)), .slice none 0 0] 42 (0, 0))) := fun e => by
                        subst e
                        exact ⟨j4, hj, by rw [HVD.out]; exact hyc⟩
                      have hdl := fun h2 => dLen_at (q := q) (j := j) j5 hj j4 h2
                      rw [HDL.out] at hdl
                      by_cases hKs : K < s.size
                      · have hKi : (K : Int) < (s.size : Int) := by omega
                        by_cases hj4 : j < 4
                        · have hK4 : (K : Int) < (n0 : Int) + 1 + 4 := by omega
                          obtain ⟨b, hb, hbl⟩ := byte_of s K hKs
                          have hqb : q[j]? = some b := by rw [hqi, hK]; exact hbl
                          have e2 : ((s[K]'hKs).toNat : Int) = (b.toNat : Int) := by rw [hb]
                          have hdg := dgc_int b
                          have hb8 : (b.toNat : Int) ≤ 255 := by have := UInt8.toNat_lt b; omega
                          obtain ⟨x, hx⟩ : ∃ x : Int, (b.toNat : Int) = x := ⟨_, rfl⟩
                          rw [hx] at e2 hdg hb8
                          by_cases hg : dgc b = true
                          · obtain ⟨g1, g2⟩ := hdg.1 hg
                            clear hdl HDJ
                            have hv3 := pw_le j hj4
                            have hvb : v < 1000 := Int.lt_of_lt_of_le j7 hv3
                            have w1 : IntKind.i64.wrap (10 * v) = 10 * v := wv1 j6 hvb
                            have w2x : IntKind.u8.wrap (x - 48) = x - 48 := by rw [IntKind.wrap_u8]; omega
                            have w3 : IntKind.i64.wrap (x - 48) = x - 48 := wv2 g1 g2
                            have w4 : IntKind.i64.wrap (10 * v + (x - 48)) = 10 * v + (x - 48) := wv3 j6 hvb g1 g2
                            have hjq : j < q.length := by omega
                            have HNX : Hid (dval (q.take (j + 1)) = 10 * v + (x - 48) ∧ (∀ i (h : i < q.length), i < j + 1 → dgc q[i] = true) ∧ 0 ≤ 10 * v + (x - 48) ∧ 10 * v + (x - 48) < 10 ^ (j + 1) ∧ j + 1 ≤ q.length ∧ j + 1 ≤ 4 ∧ K + 1 = n0 + 1 + (j + 1) ∧ K < s.size) := by
                              have hqj : q[j] = b := by rw [List.getElem?_eq_getElem hjq] at hqb; exact Option.some.inj hqb
                              refine ⟨?_, fun i h hi => ?_, by omega, ?_, by omega, by omega, by omega, hKs⟩
                              · rw [← List.take_append_getElem hjq, dval_snoc, hqj, hv, hx]
                              · rcases Nat.lt_or_ge i j with h2 | h2
                                · exact j5 i h h2
                                · have h3 : i = j := by omega
                                  subst h3
                                  rw [hqj]
                                  exact hg
                              · rw [Int.pow_succ]
                                omega
                            have HKA : Hid (∀ X, Keeps wr X → X.heap[y]? = some (.cells #[.int .i64 nk, .int .i64 v, .slice none 0 0] 42 (0, 0)) ∧ X.heap[r]? = some (.cells #[.int .i64 0, .int .i64 0, .slice none 0 0] 42 (0, 0)) ∧ Below r w X ∧ y < X.heap.size) := fun X hX => ⟨(hX.below.block y j3).trans hyc, (hX.below.block r (lt_of_block j1)).trans j1, j2.trans (hX.below.mono (Nat.le_of_lt (lt_of_block j1))), Nat.lt_of_lt_of_le j3 hX.below.size⟩
                            clear hdg hg hb hbl hqb hx hb8 hj4 hql hqi hK hv j1 j2 j3 j4 j5 j6 j7 hsz hv3 hvb hjq
                            obtain ⟨hwn, hw4⟩ := HWN.out
                            go_wp2_with fail
                            refine region_qtail (C := Keeps wr) 10 (by kernel_rfl) (by kernel_rfl) (Keeps.drew wr) ?_
                            have k1 : ∀ X, Keeps wr X → X.cell? ⟨y, 1, none⟩ = some (.int .i64 v) := fun X h => (cell_of_block (HKA.out X h).1 1).trans rfl
                            (iterate 10
    (apply wpQuiet_go _ (by rfl)
     · intro wq hq
       go_simp
       first
         | exact rfl
     simp only [Act.put, List.setIfInBounds_toArray, List.set_cons_succ, List.set_cons_zero]))
                            refine wpQuiet_nil ?_
                            intro wz hkz
                            obtain ⟨z1, z2, z3, z4⟩ := HKA.out wz hkz
                            clear k1 hkz HKA
                            simp only [List.drop_succ_cons, List.drop_zero]
                            have d1 := (cell_of_block z1 1).trans (show _ = some (Value.int .i64 v) from rfl)
                            have fd := free_of_block z1 1
                            go_wp2
                            obtain ⟨n1, n2, n3, n4, n5, n6, n7, n8⟩ := HNX.out
                            have hk1 := (ag1 n8 HLT.out.2).2.1
                            have hry := HRY.out
                            go_roundw
                            case rel =>
                              refine ⟨j + 1, n6, by rw [hk1, ← n7]; rfl, ?_, ?_, ?_, ?_, n5, n2, by rw [n1]; exact n3, by rw [n1]; exact n4⟩
                              · rw [heap_setCell_same _ _ _ _ _ _ z1, n1]
                                rfl
                              · exact (heap_setCell_other _ _ _ _ (by simp; omega)).trans z2
                              · exact z3.setCell (by simp; omega) _
                              · simpa using z4
                            case measure => rw [hk1]; clear hk1 n1 n2 n3 n4 hwn hw4; simp [intOf]; omega
                          · have hDj : D = j := hdl (fun h _ => by
                              rw [List.getElem?_eq_getElem h] at hqb
                              rw [Option.some.inj hqb]
                              simpa using hg)
                            obtain ⟨k1, k2, k3⟩ := HDJ.out hDj
                            have hc : (¬ 48 ≤ x) ∨ (48 ≤ x ∧ ¬ x ≤ 57) := by
                              have : ¬ (48 ≤ x ∧ x ≤ 57) := fun h => hg (hdg.2 h)
                              omega
                            have HEN : Hid (Value.int .i64 (K : Int) = .int .i64 ((n0 + 1 + D : Nat) : Int)) := by unfold Hid; rw [hDj, hK]
                            clear hdg hg hb hbl hqb hx hb8 hdl HDJ hj4 hql hqi hDj hK hv j1 j2 j3 j4 j5 j6 j7 hsz
                            obtain ⟨hwn, hw4⟩ := HWN.out
                            rcases hc with h1 | ⟨h1, h2⟩
                            all_goals go_wp2
                            all_goals go_meet
                            all_goals exact ⟨HEN.out, k3, HJ.out.1, HJ.out.2.1, HJ.out.2.2.1, k1, k2⟩
                        · have hDj : D = j := hdl (fun _ h => absurd h hj4)
                          obtain ⟨k1, k2, k3⟩ := HDJ.out hDj
                          have hK4 : ¬ (K : Int) < (n0 : Int) + 1 + 4 := by omega
                          have HEN : Hid (Value.int .i64 (K : Int) = .int .i64 ((n0 + 1 + D : Nat) : Int)) := by unfold Hid; rw [hDj, hK]
                          clear hdl HDJ hj4 hql hqi hDj hK hv j1 j2 j3 j4 j5 j6 j7 hsz
                          obtain ⟨hwn, hw4⟩ := HWN.out
                          go_wp2
                          go_meet
                          exact ⟨HEN.out, k3, HJ.out.1, HJ.out.2.1, HJ.out.2.2.1, k1, k2⟩
                      · have hDj : D = j := hdl (fun h _ => by omega)
                        obtain ⟨k1, k2, k3⟩ := HDJ.out hDj
                        have hKi : ¬ (K : Int) < (s.size : Int) := by omega
                        have HEN : Hid (Value.int .i64 (K : Int) = .int .i64 ((n0 + 1 + D : Nat) : Int)) := by unfold Hid; rw [hDj, hK]
                        clear hdl HDJ hql hqi hDj hK hv j1 j2 j3 j4 j5 j6 j7 hsz
                        obtain ⟨hwn, hw4⟩ := HWN.out
                        go_wp2
                        go_meet
                        exact ⟨HEN.out, k3, HJ.out.1, HJ.out.2.1, HJ.out.2.2.1, k1, k2⟩
                  case rest =>
                    obtain ⟨rfl, HC4⟩ := hcut
                    obtain ⟨X4, hXq⟩ : ∃ X, wc = X := ⟨_, rfl⟩
                    rw [hXq] at HC4 ⊢
                    clear hXq
                    obtain ⟨b1, b2, b3, b4, b5, b6⟩ := HC4.out
                    obtain ⟨v, hv⟩ : ∃ v, dval (q.take D) = v := ⟨_, rfl⟩
                    rw [hv] at b1
                    obtain ⟨K, hK⟩ : ∃ K, n0 + 1 + D = K := ⟨_, rfl⟩
                    rw [hK]
                    have HRN : Hid (∀ k, k = (if D = 0 ∨ q.length ≤ D ∨ q.getD D 0 ≠ 62 ∨ v < fm then 0 else n0 + 1 + D + 1) → R = (.mk nk v [], k)) := fun k e => by
                      rw [HQ3.out.1, e]
                      unfold rdN
                      rw [HDL.out, hv, HQ3.out.2.2.2]
                    have HE3 : Hid (∀ k : Nat, k = (if D = 0 ∨ q.length ≤ D ∨ q.getD D 0 ≠ 62 ∨ v < fm then 0 else n0 + 1 + D + 1) → RdP w R (.returned (.tuple #[.agg #[.int .i64 nk, .int .i64 v, .slice none 0 0], .int .i64 (k : Int)])) (((X4.setCell ⟨r, 0, none⟩ (.int .i64 nk)).setCell ⟨r, 1, none⟩ (.int .i64 v)).setCell ⟨r, 2, none⟩ (.slice none 0 0))) := fun k e => by
                      rw [HRN.out k e]
                      exact rdp_end (T := .mk nk v []) HV.out.2.2.2.2.1 b2 b3 (by rw [TRep]; exact ⟨none, 0, rfl, by rw [KRep]; trivial⟩)
                    obtain ⟨q0, q1, q2⟩ := set3R b2 (.int .i64 nk) (.int .i64 v) (.slice none 0 0)
                    have c0 := (cell_of_block b1 0).trans (show _ = some (Value.int .i64 nk) from rfl)
                    have c1 := (cell_of_block b1 1).trans (show _ = some (Value.int .i64 v) from rfl)
                    have c2 := (cell_of_block b1 2).trans (show _ = some (Value.slice none 0 0) from rfl)
                    have r0 := (cell_of_block b2 0).trans (show _ = some (Value.int .i64 0) from rfl)
                    have r1 := (cell_of_block b2 1).trans (show _ = some (Value.int .i64 0) from rfl)
                    have r2 := (cell_of_block b2 2).trans (show _ = some (Value.slice none 0 0) from rfl)
                    have fr0 := free_of_block b2 0
                    have fr1 := free_of_block b2 1
                    have fr2 := free_of_block b2 2
                    have hql := HQ3.out.2.1
                    have hqi := HQ3.out.2.2.1 D
                    have hsz := HLT.out
                    clear b1 b2 b3 b4 HC4 hv HRN HWN hwn hdf
                    by_cases hD0 : D = 0
                    · have HRR := HE3.out 0 (by rw [if_pos (.inl hD0)])
                      have hkn : (K : Int) = (n0 : Int) + 1 := by omega
                      have hkb : ((K : Int) == (n0 : Int) + 1) = true := by simpa using hkn
                      clear HE3 hkn hK hD0 hql hqi hsz b5 b6
                      go_wp2
                      exact bodyPost_ret (by simp [results, Tryd.results29, go_sem, q0, q1, q2]) rfl HRR
                    · have hkn : ¬ (K : Int) = (n0 : Int) + 1 := by omega
                      have hkb : ((K : Int) == (n0 : Int) + 1) = false := by simpa using hkn
                      rcases Nat.lt_or_ge K s.size with hKs | hKs
                      · obtain ⟨b, hb, hbl⟩ := byte_of s K hKs
                        have hKi : ¬ (s.size : Int) ≤ (K : Int) := by omega
                        have hKj : ¬ s.size ≤ K := by omega
                        have hqd : q.getD D 0 = b := by rw [List.getD_eq_getElem?_getD, hqi, hK, hbl]; rfl
                        have e2 : ((s[K]'hKs).toNat : Int) = (b.toNat : Int) := by rw [hb]
                        by_cases h62 : b = 62
                        · subst h62
                          have e3 : ((62 : UInt8).toNat : Int) = 62 := rfl
                          rw [e3] at e2
                          by_cases hvf : v < fm
                          · have HRR := HE3.out 0 (by rw [if_pos (.inr (.inr (.inr hvf)))])
                            clear HE3 hkn hK hql hqi hsz b5 b6 hb hbl
                            go_wp2
                            exact bodyPost_ret (by simp [results, Tryd.results29, go_sem, q0, q1, q2]) rfl HRR
                          · have HRR := HE3.out (K + 1) (by
                              rw [if_neg, hK]
                              rintro (h | h | h | h)
                              · exact hD0 h
                              · omega
                              · exact h hqd
                              · exact hvf h)
                            have hk1 := (ag1 hKs hsz.2).2.1
                            clear HE3 hkn hK hql hqi hsz b5 b6 hb hbl
                            go_wp2
                            exact bodyPost_ret (by simp [results, Tryd.results29, go_sem, q0, q1, q2]) rfl HRR
                        · have HRR := HE3.out 0 (by rw [if_pos (.inr (.inr (.inl (by rw [hqd]; exact h62))))])
                          have h62i : ¬ (b.toNat : Int) = 62 := fun h => h62 (by
                            apply UInt8.toNat_inj.1
                            have : (62 : UInt8).toNat = 62 := rfl
                            omega)
                          obtain ⟨x, hx⟩ : ∃ x : Int, (b.toNat : Int) = x := ⟨_, rfl⟩
                          rw [hx] at e2 h62i
                          have hxb : (x != 62) = true := by simpa using h62i
                          clear HE3 hkn hK hql hqi hsz b5 b6 hb hbl hqd hx h62
                          go_wp2
                          exact bodyPost_ret (by simp [results, Tryd.results29, go_sem, q0, q1, q2]) rfl HRR
                      · have HRR := HE3.out 0 (by rw [if_pos (.inr (.inl (by omega)))])
                        have hKi : (s.size : Int) ≤ (K : Int) := by omega
                        have hKj : ¬ (K : Int) < (s.size : Int) := by omega
                        clear HE3 hkn hK hql hqi hsz b5 b6
                        go_wp2
                        exact bodyPost_ret (by simp [results, Tryd.results29, go_sem, q0, q1, q2]) rfl HRR
                · clear hlz
                  have hlb : (lo == 0) = false := by simpa using hl
                  have HLT : Hid (n0 < s.size ∧ s.size ≤ 1048576) := ⟨hlt, HS.out.1⟩
                  obtain ⟨n1, hn1⟩ : ∃ x, n0 + 1 = x := ⟨_, rfl⟩
                  have hwn : wrap64 ((n0 : Int) + 1) = (n1 : Int) := by rw [(wr4 hlt HS.out.1).1, ← hn1]; rfl
                  obtain ⟨dm, hdm⟩ : ∃ x, 9 - (m : Int) = x := ⟨_, rfl⟩
                  have hdp : wrap64 (deep + 1) = dm := wdp HD.out hf HS.out.2 hdm
                  have HIH : Hid (∀ (s' : ByteArray) (w' : World), s'.size ≤ 1048576 → Calls Tryd.prog 29 #[.string s', .int .i64 dm] w' (RdP w' (rdT m s'.data.toList))) := by rw [← hdm]; exact IH m hf
                  have HRI : Hid (R = (.mk nk 0 (rdL (rdT m) 9 (s.data.toList.drop n1) n1 []).1, (rdL (rdT m) 9 (s.data.toList.drop n1) n1 []).2)) := by rw [← hn1]; exact HB0.out _ (by rw [if_neg hl])
                  have HN1 : Hid (n1 ≤ s.size) := by rw [← hn1]; exact hlt
                  have hdf : decide (s.size ≤ n0) = false := decide_eq_false (by omega)
                  clear IH HB0 HR HS4 hdm hn1
                  go_upto_block 6 with (go_at_call 40; refine (HSH _).mono ?_; rintro e w2 ⟨rfl, rfl⟩)
                  clear HSH c0 c1 c2 r0 r1 r2 fr0 fr1 fr2
                  rw [hwn]
                  try rw [hdf]
                  try rw [hlb]
                  go_wp2
                  go_loopw [6, 15, 16] (fun n _ _ wr => ∃ (acc : List TT) (k : Nat) (cur : Value), n = .int .i64 (k : Int) ∧ k ≤ s.size ∧ Hid (∃ c, c + acc.length = 9 ∧ R = (.mk nk 0 (rdL (rdT m) c (s.data.toList.drop k) k acc).1, (rdL (rdT m) c (s.data.toList.drop k) k acc).2)) ∧ wr.heap[y]? = some (.cells #[.int .i64 nk, .int .i64 0, cur] 42 (0, 0)) ∧ wr.heap[r]? = some (.cells #[.int .i64 0, .int .i64 0, .slice none 0 0] 42 (0, 0)) ∧ Hid (KO (y + 1) wr cur acc ∧ Below r w wr)) (fun n _ _ _ => s.size - (intOf n).toNat)
                  case atStart => exact ⟨[], n1, _, by first | rfl | rw [hwn], HN1.out, ⟨9, rfl, HRI.out⟩, HV.out.1, HV.out.2.1, KO.nil _ _, HV.out.2.2.1⟩
                  case round =>
                    obtain ⟨acc, k, cur, rfl, hk, HRC, hyc, hrc, HKO⟩ := hrel
                    obtain ⟨a, cap, rfl⟩ := HKO.out.1.shape
                    have HE4 : Hid (∀ (X : World) (cu : Value) (ac : List TT) (j : Nat), KO (y + 1) X cu ac → (∃ ob, X.heap[r]? = some ob) → Below r w X → R = (.mk nk 0 ac, j) → RdP w R (.returned (.tuple #[.agg #[.int .i64 nk, .int .i64 0, cu], .int .i64 (j : Int)])) (((X.setCell ⟨r, 0, none⟩ (.int .i64 nk)).setCell ⟨r, 1, none⟩ (.int .i64 0)).setCell ⟨r, 2, none⟩ cu)) := fun X cu ac j h1 h2 h3 h4 => by
                      obtain ⟨ob, h2⟩ := h2
                      have hry := HRY.out
                      rw [h4]
                      exact rdp_end (T := .mk nk 0 ac) HV.out.2.2.2.2.1 h2 h3 (TRep.wide (by omega) (Nat.le_refl _) _ _ h1.rep)
                    have c0 := (cell_of_block hyc 0).trans (show _ = some (Value.int .i64 nk) from rfl)
                    have c1 := (cell_of_block hyc 1).trans (show _ = some (Value.int .i64 0) from rfl)
                    have c2 := (cell_of_block hyc 2).trans (show _ = some (Value.slice a acc.length cap) from rfl)
                    obtain ⟨c, hc9, hRc⟩ := HRC.out
                    rcases Nat.lt_or_ge 8 acc.length with h8 | h8
                    · have hc0 : c = 0 := by omega
                      subst hc0
                      have HRR := HE4.out wr _ acc 0 HKO.out.1 ⟨_, hrc⟩ HKO.out.2 (by rw [hRc]; rfl)
                      obtain ⟨q0, q1, q2⟩ := set3R hrc (.int .i64 nk) (.int .i64 0) (.slice a acc.length cap)
                      have r0 := (cell_of_block hrc 0).trans (show _ = some (Value.int .i64 0) from rfl)
                      have r1 := (cell_of_block hrc 1).trans (show _ = some (Value.int .i64 0) from rfl)
                      have r2 := (cell_of_block hrc 2).trans (show _ = some (Value.slice none 0 0) from rfl)
                      have fr0 := free_of_block hrc 0
                      have fr1 := free_of_block hrc 1
                      have fr2 := free_of_block hrc 2
                      obtain ⟨al, hal⟩ : ∃ x, acc.length = x := ⟨_, rfl⟩
                      rw [hal] at h8 HRR q0 q1 q2 c2
                      have h8i : ¬ (al : Int) ≤ 8 := by omega
                      clear hRc hc9 HE4 hal
                      go_wp2
                      exact bodyPost_ret (by simp [results, Tryd.results29, go_sem, q0, q1, q2]) rfl HRR
                    · obtain ⟨c, rfl⟩ : ∃ x, c = x + 1 := ⟨c - 1, by omega⟩
                      obtain ⟨sk, hsk⟩ : ∃ b, s.extract k s.size = b := ⟨_, rfl⟩
                      have hskl : sk.data.toList = s.data.toList.drop k := by
                        rw [← hsk, ByteArray.data_extract, Array.toList_extract, List.extract_eq_drop_take', List.take_of_length_le (by simp)]
                      have hsks : sk.size ≤ 1048576 := by
                        have h := congrArg List.length hskl
                        simp at h
                        have := HLT.out.2
                        omega
                      obtain ⟨t1, tk, hrd⟩ : ∃ t n, rdT m (s.data.toList.drop k) = (t, n) := ⟨_, _, rfl⟩
                      have htk : tk ≤ s.size := by
                        have h := rdT_le m (s.data.toList.drop k)
                        rw [hrd] at h
                        simp at h
                        omega
                      rw [rdL, hrd] at hRc
                      obtain ⟨kd1, hkd⟩ : ∃ x, kdT t1 = x := ⟨_, rfl⟩
                      obtain ⟨nt1, hnt⟩ : ∃ x, nT t1 = x := ⟨_, rfl⟩
                      obtain ⟨tz, htz⟩ : ∃ x, (tk : Int) = x := ⟨_, rfl⟩
                      have HC : Hid (∀ X : World, Calls Tryd.prog 29 #[.string sk, .int .i64 dm] X fun e w' => ∃ a6 n6 c6, e = .returned (.tuple #[.agg #[.int .i64 kd1, .int .i64 nt1, .slice a6 n6 c6], .int .i64 tz]) ∧ Hid (TRep X.heap.size w'.heap.size w' t1 (.slice a6 n6 c6)) ∧ Hid (Below X.heap.size X w')) := fun X => (HIH.out sk X hsks).mono fun e w' h => by
                        obtain ⟨sl, h1, h2, h3⟩ := h
                        rw [hskl, hrd] at h1 h2
                        obtain ⟨a6, n6, c6, rfl⟩ := trep_one h2
                        exact ⟨a6, n6, c6, by rw [h1, ← hkd, ← hnt, ← htz], h2, h3⟩
                      have HPZ : Hid (∀ (w5 : World) (a6 : Option Addr) (n6 c6 g5 : Nat) (Z5 : World), w5.heap.size = g5 → w5.alloc (.cells #[.int .i64 kd1, .int .i64 nt1, .slice a6 n6 c6] 42) = Z5 → Hid (TRep wr.heap.size w5.heap.size w5 t1 (.slice a6 n6 c6)) → Hid (Below wr.heap.size wr w5) →
                          Hid (KO (y + 1) Z5 (.slice a acc.length cap) acc ∧ Below r w Z5 ∧ TRep wr.heap.size g5 Z5 t1 (.slice a6 n6 c6) ∧ y + 1 ≤ wr.heap.size ∧ Z5.heap.size = g5 + 1 ∧ wr.heap.size ≤ g5) ∧ Z5.heap[y]? = some (.cells #[.int .i64 nk, .int .i64 0, .slice a acc.length cap] 42 (0, 0)) ∧ Z5.heap[r]? = some (.cells #[.int .i64 0, .int .i64 0, .slice none 0 0] 42 (0, 0)) ∧ Z5.heap[g5]? = some (.cells #[.int .i64 kd1, .int .i64 nt1, .slice a6 n6 c6] 42 (0, 0))) := fun w5 a6 n6 c6 g5 Z5 hg hZ HT HB => by
                        have hyl := lt_of_block hyc
                        have hrl := lt_of_block hrc
                        have hb5 := HB.out
                        have hs5 := hb5.size
                        have hk : ∀ q, q < wr.heap.size → Z5.heap[q]? = wr.heap[q]? := fun q hq => by rw [← hZ]; exact (Below.heap_alloc _ _ _ (by omega)).trans (hb5.block q hq)
                        have hzs : Z5.heap.size = g5 + 1 := by rw [← hZ, ← hg]; simp
                        refine ⟨⟨HKO.out.1.keep (by omega) (fun q _ hq => hk q hq), ?_, ?_, hyl, hzs, by omega⟩, (hk y hyl).trans hyc, (hk r hrl).trans hrc, ?_⟩
                        · rw [← hZ]; exact (HKO.out.2.trans (hb5.mono (Nat.le_of_lt hrl))).alloc (by omega) _
                        · refine TRep.keep (fun q _ q2 => ?_) _ _ (by have := HT.out; rw [hg] at this; exact this)
                          rw [← hZ]; exact Below.heap_alloc _ _ _ (by omega)
                        · rw [← hZ, ← hg]; exact heap_alloc_new _ _
                      have HRI2 : Hid (R = (.mk nk 0 (if tk = 0 ∨ (s.data.toList.drop k).length ≤ tk then (acc, 0) else if (s.data.toList.drop k).getD tk 0 = 62 then (acc ++ [t1], k + tk + 1) else if (s.data.toList.drop k).getD tk 0 = 44 then rdL (rdT m) c ((s.data.toList.drop k).drop (tk + 1)) (k + tk + 1) (acc ++ [t1]) else (acc ++ [t1], 0)).1, (if tk = 0 ∨ (s.data.toList.drop k).length ≤ tk then (acc, 0) else if (s.data.toList.drop k).getD tk 0 = 62 then (acc ++ [t1], k + tk + 1) else if (s.data.toList.drop k).getD tk 0 = 44 then rdL (rdT m) c ((s.data.toList.drop k).drop (tk + 1)) (k + tk + 1) (acc ++ [t1]) else (acc ++ [t1], 0)).2)) := hRc
                      have HKD : Hid (kdT t1 = kd1 ∧ nT t1 = nt1 ∧ c + 1 + acc.length = 9) := ⟨hkd, hnt, hc9⟩
                      have hki : (k : Int) ≤ (s.size : Int) := by omega
                      have hdl : (s.data.toList.drop k).length = s.size - k := by simp
                      have h8i : (acc.length : Int) ≤ 8 := by omega
                      obtain ⟨al, hal⟩ : ∃ x, acc.length = x := ⟨_, rfl⟩
                      rw [hal] at HPZ c2 h8i HKD HKO
                      clear hRc hskl hsks hrd hkd hnt hc9 HRC HIH HRI
                      by_cases hE1 : tk = 0 ∨ s.size - k ≤ tk
                      · have HRE : Hid (R = (.mk nk 0 acc, 0)) := by
                          have h := HRI2.out
                          rw [hdl, if_pos hE1] at h
                          exact h
                        clear HRI2
                        by_cases hz : tk = 0
                        · have hz0 : tz = 0 := by omega
                          clear hE1 hz htz hdl
                          subst hz0
                          go_wp2_with (go_at_call 29; refine (HC.out _).mono ?_; rintro e w5 ⟨a6, n6, c6, rfl, HT5, HB5⟩; clear HC; obtain ⟨g5, hg5⟩ : ∃ g, w5.heap.size = g := ⟨_, rfl⟩; obtain ⟨Z5, hZ5⟩ : ∃ X, w5.alloc (.cells #[.int .i64 kd1, .int .i64 nt1, .slice a6 n6 c6] 42) = X := ⟨_, rfl⟩; obtain ⟨HZ5, y5, r5, z5⟩ := HPZ.out w5 a6 n6 c6 g5 Z5 hg5 hZ5 HT5 HB5; clear HPZ; obtain ⟨d0, d1, d2⟩ := three y5; obtain ⟨e0, e1, e2⟩ := three r5; obtain ⟨x0, x1, x2⟩ := three z5; have fe0 := free_of_block r5 0; have fe1 := free_of_block r5 1; have fe2 := free_of_block r5 2; obtain ⟨q0, q1, q2⟩ := set3R r5 (.int .i64 nk) (.int .i64 0) (.slice a al cap))
                          have HRR := HE4.out Z5 _ acc 0 HZ5.out.1 ⟨_, r5⟩ HZ5.out.2.1 HRE.out
                          exact bodyPost_ret (by simp [results, Tryd.results29, go_sem, q0, q1, q2]) rfl HRR
                        · obtain ⟨q, hq⟩ : ∃ q, k + tk = q := ⟨_, rfl⟩
                          have hsz := HLT.out.2
                          have hzb : (tz == 0) = false := by
                            have : ¬ tz = 0 := by omega
                            simpa using this
                          have hqi : (s.size : Int) ≤ (q : Int) := by omega
                          have hqj : ¬ (q : Int) < (s.size : Int) := by omega
                          have hwq : wrap64 ((k : Int) + tz) = (q : Int) := wsum htz hq (by omega)
                          clear hE1 hz htz hdl hq hsz
                          go_wp2_with (go_at_call 29; refine (HC.out _).mono ?_; rintro e w5 ⟨a6, n6, c6, rfl, HT5, HB5⟩; clear HC; obtain ⟨g5, hg5⟩ : ∃ g, w5.heap.size = g := ⟨_, rfl⟩; obtain ⟨Z5, hZ5⟩ : ∃ X, w5.alloc (.cells #[.int .i64 kd1, .int .i64 nt1, .slice a6 n6 c6] 42) = X := ⟨_, rfl⟩; obtain ⟨HZ5, y5, r5, z5⟩ := HPZ.out w5 a6 n6 c6 g5 Z5 hg5 hZ5 HT5 HB5; clear HPZ; obtain ⟨d0, d1, d2⟩ := three y5; obtain ⟨e0, e1, e2⟩ := three r5; obtain ⟨x0, x1, x2⟩ := three z5; have fe0 := free_of_block r5 0; have fe1 := free_of_block r5 1; have fe2 := free_of_block r5 2; obtain ⟨q0, q1, q2⟩ := set3R r5 (.int .i64 nk) (.int .i64 0) (.slice a al cap))
                          have HRR := HE4.out Z5 _ acc 0 HZ5.out.1 ⟨_, r5⟩ HZ5.out.2.1 HRE.out
                          exact bodyPost_ret (by simp [results, Tryd.results29, go_sem, q0, q1, q2]) rfl HRR
                      · obtain ⟨q, hq⟩ : ∃ q, k + tk = q := ⟨_, rfl⟩
                        obtain ⟨qn, hqn⟩ : ∃ x, q + 1 = x := ⟨_, rfl⟩
                        obtain ⟨tz1, htz1⟩ : ∃ x : Int, tz + 1 = x := ⟨_, rfl⟩
                        have hqs : q < s.size := by omega
                        have hsz := HLT.out.2
                        have hzb : (tz == 0) = false := by
                          have : ¬ tz = 0 := by omega
                          simpa using this
                        have hqi : ¬ (s.size : Int) ≤ (q : Int) := by omega
                        have hqj : (q : Int) < (s.size : Int) := by omega
                        obtain ⟨b, hb, hbl⟩ := byte_of s q hqs
                        have HR3 : Hid (R = (.mk nk 0 (if b = 62 then (acc ++ [t1], qn) else if b = 44 then rdL (rdT m) c (s.data.toList.drop qn) qn (acc ++ [t1]) else (acc ++ [t1], 0)).1, (if b = 62 then (acc ++ [t1], qn) else if b = 44 then rdL (rdT m) c (s.data.toList.drop qn) qn (acc ++ [t1]) else (acc ++ [t1], 0)).2)) := by
                          have h := HRI2.out
                          rw [hdl, if_neg hE1, List.getD_eq_getElem?_getD, List.getElem?_drop, hq, hbl, List.drop_drop, show k + (tk + 1) = qn by omega, hqn] at h
                          exact h
                        have e9 : ((s[q]'hqs).toNat : Int) = (b.toNat : Int) := by rw [hb]
                        have hws := wsums htz hq hqn htz1 (by omega)
                        clear HRI2 hdl hE1 htz
                        have HQN := us6 hqn hqs hq
                        have HC9 : Hid (c + (acc ++ [t1]).length = 9) := by
                          unfold Hid
                          rw [List.length_append]
                          exact us7 HKD.out.2.2 hal
                        by_cases h62 : b = 62
                        · subst h62
                          have HR4 : Hid (R = (.mk nk 0 (acc ++ [t1]), qn)) := HR3.out
                          have e3 : ((62 : UInt8).toNat : Int) = 62 := rfl
                          rw [e3] at e9
                          clear HR3 hb hbl hsz hq hqn htz1
                          obtain ⟨hwq, hw2, hw3, hw4⟩ := hws
                          go_wp2_with (first | (go_at_call 29; refine (HC.out _).mono ?_; rintro e w5 ⟨a6, n6, c6, rfl, HT5, HB5⟩; clear HC; obtain ⟨g5, hg5⟩ : ∃ g, w5.heap.size = g := ⟨_, rfl⟩; obtain ⟨Z5, hZ5⟩ : ∃ X, w5.alloc (.cells #[.int .i64 kd1, .int .i64 nt1, .slice a6 n6 c6] 42) = X := ⟨_, rfl⟩; obtain ⟨HZ5, y5, r5, z5⟩ := HPZ.out w5 a6 n6 c6 g5 Z5 hg5 hZ5 HT5 HB5; clear HPZ; obtain ⟨d0, d1, d2⟩ := three y5; obtain ⟨e0, e1, e2⟩ := three r5; obtain ⟨x0, x1, x2⟩ := three z5; have fe0 := free_of_block r5 0; have fe1 := free_of_block r5 1; have fe2 := free_of_block r5 2; obtain ⟨q0, q1, q2⟩ := set3R r5 (.int .i64 nk) (.int .i64 0) (.slice a al cap); obtain ⟨gU, hgU⟩ : ∃ g, Z5.heap.size = g := ⟨_, rfl⟩; obtain ⟨U, hU⟩ : ∃ X, Z5.alloc (.cells #[.int .i64 kd1, .int .i64 nt1, .slice a6 n6 c6] 42) = X := ⟨_, rfl⟩; have HU := hidU HKD.out.1 HKD.out.2.1 hgU hU HZ5.out.1 HZ5.out.2.2.1 (us1 HZ5.out.2.2.2.2.1)) | (at_builtin; refine wpl_appT U rfl _ _ rfl (y + 1) (.slice a al cap) acc rfl HU.out.1 gU 1 t1 _ rfl HU.out.2.1 wr.heap.size g5 HU.out.2.2.1 HZ5.out.2.2.2.1 (us2 HU.out.2.2.2.1 hgU HZ5.out.2.2.2.2.1) (fun g hg => us3 (HKO.out.1.lt g hg).2) (Nat.le_trans h8 (by decide)) (us4 HU.out.2.2.2.1 hgU HZ5.out.2.2.2.2.1 HZ5.out.2.2.2.1 HZ5.out.2.2.2.2.2) ?_; intro v7 w7 hK7 hg7; obtain ⟨a7, c7, rfl⟩ := hK7.shape; obtain ⟨l7, hl7⟩ : ∃ x, (acc ++ [t1]).length = x := ⟨_, rfl⟩; rw [hl7] at hK7 ⊢; obtain ⟨W8, hW8⟩ : ∃ X, w7.setCell ⟨y, 2, none⟩ (.slice a7 l7 c7) = X := ⟨_, rfl⟩; obtain ⟨y7, HK8, y8, r8⟩ := afterApp HRY.out y5 r5 HU.out.2.2.2.2 (us5 HU.out.2.2.2.1 hgU) HU.out.1 HZ5.out.2.1 hK7 hg7 (by rw [← hU]; exact (Below.refl _ _).alloc (Nat.le_of_lt (lt_of_block r5)) _) hW8; have d72 := (cell_of_block y7 2).trans (show _ = some (Value.slice a al cap) from rfl); have f72 := free_of_block y7 2; clear hK7 hg7 d0 d1 d2 e0 e1 e2 x0 x1 x2 fe0 fe1 fe2 q0 q1 q2 hl7 y7 y5 r5 z5 HU HZ5 hU hgU; obtain ⟨d0, d1, d2⟩ := three y8; obtain ⟨e0, e1, e2⟩ := three r8; have fe0 := free_of_block r8 0; have fe1 := free_of_block r8 1; have fe2 := free_of_block r8 2; obtain ⟨q0, q1, q2⟩ := set3R r8 (.int .i64 nk) (.int .i64 0) (.slice a7 l7 c7)))
                          have HRR := HE4.out W8 _ (acc ++ [t1]) qn HK8.out.1 ⟨_, r8⟩ HK8.out.2 HR4.out
                          exact bodyPost_ret (by simp [results, Tryd.results29, go_sem, q0, q1, q2, hw3]) rfl HRR
                        · by_cases h44 : b = 44
                          · subst h44
                            have HR4 : Hid (R = (.mk nk 0 (rdL (rdT m) c (s.data.toList.drop qn) qn (acc ++ [t1])).1, (rdL (rdT m) c (s.data.toList.drop qn) qn (acc ++ [t1])).2)) := HR3.out
                            have e3 : ((44 : UInt8).toNat : Int) = 44 := rfl
                            rw [e3] at e9
                            clear HR3 hb hbl hsz hq hqn htz1 h62
                            obtain ⟨hwq, hw2, hw3, hw4⟩ := hws
                            go_wp2_with (first | (go_at_call 29; refine (HC.out _).mono ?_; rintro e w5 ⟨a6, n6, c6, rfl, HT5, HB5⟩; clear HC; obtain ⟨g5, hg5⟩ : ∃ g, w5.heap.size = g := ⟨_, rfl⟩; obtain ⟨Z5, hZ5⟩ : ∃ X, w5.alloc (.cells #[.int .i64 kd1, .int .i64 nt1, .slice a6 n6 c6] 42) = X := ⟨_, rfl⟩; obtain ⟨HZ5, y5, r5, z5⟩ := HPZ.out w5 a6 n6 c6 g5 Z5 hg5 hZ5 HT5 HB5; clear HPZ; obtain ⟨d0, d1, d2⟩ := three y5; obtain ⟨e0, e1, e2⟩ := three r5; obtain ⟨x0, x1, x2⟩ := three z5; have fe0 := free_of_block r5 0; have fe1 := free_of_block r5 1; have fe2 := free_of_block r5 2; obtain ⟨q0, q1, q2⟩ := set3R r5 (.int .i64 nk) (.int .i64 0) (.slice a al cap); obtain ⟨gU, hgU⟩ : ∃ g, Z5.heap.size = g := ⟨_, rfl⟩; obtain ⟨U, hU⟩ : ∃ X, Z5.alloc (.cells #[.int .i64 kd1, .int .i64 nt1, .slice a6 n6 c6] 42) = X := ⟨_, rfl⟩; have HU := hidU HKD.out.1 HKD.out.2.1 hgU hU HZ5.out.1 HZ5.out.2.2.1 (us1 HZ5.out.2.2.2.2.1)) | (at_builtin; refine wpl_appT U rfl _ _ rfl (y + 1) (.slice a al cap) acc rfl HU.out.1 gU 1 t1 _ rfl HU.out.2.1 wr.heap.size g5 HU.out.2.2.1 HZ5.out.2.2.2.1 (us2 HU.out.2.2.2.1 hgU HZ5.out.2.2.2.2.1) (fun g hg => us3 (HKO.out.1.lt g hg).2) (Nat.le_trans h8 (by decide)) (us4 HU.out.2.2.2.1 hgU HZ5.out.2.2.2.2.1 HZ5.out.2.2.2.1 HZ5.out.2.2.2.2.2) ?_; intro v7 w7 hK7 hg7; obtain ⟨a7, c7, rfl⟩ := hK7.shape; obtain ⟨l7, hl7⟩ : ∃ x, (acc ++ [t1]).length = x := ⟨_, rfl⟩; rw [hl7] at hK7 ⊢; obtain ⟨W8, hW8⟩ : ∃ X, w7.setCell ⟨y, 2, none⟩ (.slice a7 l7 c7) = X := ⟨_, rfl⟩; obtain ⟨y7, HK8, y8, r8⟩ := afterApp HRY.out y5 r5 HU.out.2.2.2.2 (us5 HU.out.2.2.2.1 hgU) HU.out.1 HZ5.out.2.1 hK7 hg7 (by rw [← hU]; exact (Below.refl _ _).alloc (Nat.le_of_lt (lt_of_block r5)) _) hW8; have d72 := (cell_of_block y7 2).trans (show _ = some (Value.slice a al cap) from rfl); have f72 := free_of_block y7 2; clear hK7 hg7 d0 d1 d2 e0 e1 e2 x0 x1 x2 fe0 fe1 fe2 q0 q1 q2 hl7 y7 y5 r5 z5 HU HZ5 hU hgU; obtain ⟨d0, d1, d2⟩ := three y8; obtain ⟨e0, e1, e2⟩ := three r8; have fe0 := free_of_block r8 0; have fe1 := free_of_block r8 1; have fe2 := free_of_block r8 2; obtain ⟨q0, q1, q2⟩ := set3R r8 (.int .i64 nk) (.int .i64 0) (.slice a7 l7 c7)))
                            go_roundw
                            case rel => exact ⟨acc ++ [t1], qn, _, by rw [hw3], HQN.1, ⟨c, HC9.out, HR4.out⟩, y8, r8, HK8⟩
                            case measure => rw [hw3]; exact HQN.2
                          · have HR4 : Hid (R = (.mk nk 0 (acc ++ [t1]), 0)) := by
                              have h := HR3.out
                              rw [if_neg h62, if_neg h44] at h
                              exact h
                            obtain ⟨x, hx⟩ : ∃ x : Int, (b.toNat : Int) = x := ⟨_, rfl⟩
                            have hx62 : (x == 62) = false := by
                              have : ¬ x = 62 := fun h => h62 (by
                                apply UInt8.toNat_inj.1
                                have : (62 : UInt8).toNat = 62 := rfl
                                omega)
                              simpa using this
                            have hx44 : (x != 44) = true := by
                              have : ¬ x = 44 := fun h => h44 (by
                                apply UInt8.toNat_inj.1
                                have : (44 : UInt8).toNat = 44 := rfl
                                omega)
                              simpa using this
                            rw [hx] at e9
                            clear HR3 hb hbl hsz hq hqn htz1 h62 h44 hx
                            obtain ⟨hwq, hw2, hw3, hw4⟩ := hws
                            go_wp2_with (first | (go_at_call 29; refine (HC.out _).mono ?_; rintro e w5 ⟨a6, n6, c6, rfl, HT5, HB5⟩; clear HC; obtain ⟨g5, hg5⟩ : ∃ g, w5.heap.size = g := ⟨_, rfl⟩; obtain ⟨Z5, hZ5⟩ : ∃ X, w5.alloc (.cells #[.int .i64 kd1, .int .i64 nt1, .slice a6 n6 c6] 42) = X := ⟨_, rfl⟩; obtain ⟨HZ5, y5, r5, z5⟩ := HPZ.out w5 a6 n6 c6 g5 Z5 hg5 hZ5 HT5 HB5; clear HPZ; obtain ⟨d0, d1, d2⟩ := three y5; obtain ⟨e0, e1, e2⟩ := three r5; obtain ⟨x0, x1, x2⟩ := three z5; have fe0 := free_of_block r5 0; have fe1 := free_of_block r5 1; have fe2 := free_of_block r5 2; obtain ⟨q0, q1, q2⟩ := set3R r5 (.int .i64 nk) (.int .i64 0) (.slice a al cap); obtain ⟨gU, hgU⟩ : ∃ g, Z5.heap.size = g := ⟨_, rfl⟩; obtain ⟨U, hU⟩ : ∃ X, Z5.alloc (.cells #[.int .i64 kd1, .int .i64 nt1, .slice a6 n6 c6] 42) = X := ⟨_, rfl⟩; have HU := hidU HKD.out.1 HKD.out.2.1 hgU hU HZ5.out.1 HZ5.out.2.2.1 (us1 HZ5.out.2.2.2.2.1)) | (at_builtin; refine wpl_appT U rfl _ _ rfl (y + 1) (.slice a al cap) acc rfl HU.out.1 gU 1 t1 _ rfl HU.out.2.1 wr.heap.size g5 HU.out.2.2.1 HZ5.out.2.2.2.1 (us2 HU.out.2.2.2.1 hgU HZ5.out.2.2.2.2.1) (fun g hg => us3 (HKO.out.1.lt g hg).2) (Nat.le_trans h8 (by decide)) (us4 HU.out.2.2.2.1 hgU HZ5.out.2.2.2.2.1 HZ5.out.2.2.2.1 HZ5.out.2.2.2.2.2) ?_; intro v7 w7 hK7 hg7; obtain ⟨a7, c7, rfl⟩ := hK7.shape; obtain ⟨l7, hl7⟩ : ∃ x, (acc ++ [t1]).length = x := ⟨_, rfl⟩; rw [hl7] at hK7 ⊢; obtain ⟨W8, hW8⟩ : ∃ X, w7.setCell ⟨y, 2, none⟩ (.slice a7 l7 c7) = X := ⟨_, rfl⟩; obtain ⟨y7, HK8, y8, r8⟩ := afterApp HRY.out y5 r5 HU.out.2.2.2.2 (us5 HU.out.2.2.2.1 hgU) HU.out.1 HZ5.out.2.1 hK7 hg7 (by rw [← hU]; exact (Below.refl _ _).alloc (Nat.le_of_lt (lt_of_block r5)) _) hW8; have d72 := (cell_of_block y7 2).trans (show _ = some (Value.slice a al cap) from rfl); have f72 := free_of_block y7 2; clear hK7 hg7 d0 d1 d2 e0 e1 e2 x0 x1 x2 fe0 fe1 fe2 q0 q1 q2 hl7 y7 y5 r5 z5 HU HZ5 hU hgU; obtain ⟨d0, d1, d2⟩ := three y8; obtain ⟨e0, e1, e2⟩ := three r8; have fe0 := free_of_block r8 0; have fe1 := free_of_block r8 1; have fe2 := free_of_block r8 2; obtain ⟨q0, q1, q2⟩ := set3R r8 (.int .i64 nk) (.int .i64 0) (.slice a7 l7 c7)))
                            have HRR := HE4.out W8 _ (acc ++ [t1]) 0 HK8.out.1 ⟨_, r8⟩ HK8.out.2 HR4.out
                            exact bodyPost_ret (by simp [results, Tryd.results29, go_sem, q0, q1, q2]) rfl HRR
              · have HRR := HE.out 0 (HN1.out _ (by rw [if_pos (.inr (by rw [hgd]; exact h60))]))
                have h60i : ¬ (b.toNat : Int) = 60 := fun h => h60 (by
                  apply UInt8.toNat_inj.1
                  have : (60 : UInt8).toNat = 60 := rfl
                  omega)
                obtain ⟨x, hx⟩ : ∃ x : Int, (b.toNat : Int) = x := ⟨_, rfl⟩
                rw [hx] at e0 h60i
                have hxb : (x != 60) = true := by simpa using h60i
                clear HE HN1 hb hbl hgd h60 hx
                by_cases hl : lo = 0
                · have htz := hlz hl
                  subst hl
                  clear hlz
                  go_wp2_with (go_at_call 40; refine (HSH _).mono ?_; rintro e w2 ⟨rfl, rfl⟩)
                  exact bodyPost_ret (by simp [results, Tryd.results29, go_sem, q0, q1, q2]) rfl HRR
                · clear hlz
                  go_wp2_with (go_at_call 40; refine (HSH _).mono ?_; rintro e w2 ⟨rfl, rfl⟩)
                  exact bodyPost_ret (by simp [results, Tryd.results29, go_sem, q0, q1, q2]) rfl HRR
            · have HRR := HE.out 0 (HN1.out _ (by rw [if_pos (.inl (by simp; omega))]))
              have hgei : (s.size : Int) ≤ (n0 : Int) := by omega
              have hgej : ¬ (n0 : Int) < (s.size : Int) := by omega
              clear HE HN1
              by_cases hl : lo = 0
              · have htz := hlz hl
                subst hl
                clear hlz
                go_wp2_with (go_at_call 40; refine (HSH _).mono ?_; rintro e w2 ⟨rfl, rfl⟩)
                exact bodyPost_ret (by simp [results, Tryd.results29, go_sem, q0, q1, q2]) rfl HRR
              · clear hlz
                go_wp2_with (go_at_call 40; refine (HSH _).mono ?_; rintro e w2 ⟨rfl, rfl⟩)
                exact bodyPost_ret (by simp [results, Tryd.results29, go_sem, q0, q1, q2]) rfl HRR

end Go.Proofs.YtfepbjkfabmiiaaDoor

namespace Go.Proofs.YtfepbjkfabmiiaaDoor

theorem specReadT : ∀ (f : Nat), f ≤ 8 → ∀ (s : ByteArray) (w : World), s.size ≤ 1048576 → Calls Tryd.prog 29 #[.string s, .int .i64 (9 - (f : Int))] w (RdP w (rdT f s.data.toList))
  | 0, hf, s, w, hs => specReadT_step 0 hf (fun m e => absurd e (by omega)) s w hs
  | f + 1, hf, s, w, hs => specReadT_step (f + 1) hf (fun m e s' w' h => by
      obtain rfl : m = f := by omega
      exact specReadT m (by omega) s' w' h) s w hs

end Go.Proofs.YtfepbjkfabmiiaaDoor
