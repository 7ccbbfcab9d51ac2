/-
  The numbers that are free, in a map with their places: looked up, told in order, put, taken out.
-/
import Derived.Test.YtjielcilcningaaTB3
import Derived.Maps.RangeWalk
import Derived.Maps.OwnSet
import Derived.WalkArith
namespace Go.Proofs.Ytjielcilcningaa
open Go.ChangeShapes Go.WideShapes Go.ChangeAt Go.RowKit Go.Maps Go.ChangeMaps

theorem lawI : Keyed Try.prog 3 := int_keyed Try.underlying3
theorem zeroI (w : World) : (zeroValue 3).run Try.prog w = .ok (.int .i64 0) w := by kernel_rfl
/-- The datum has the numbers F as keys, each with its place. -/
structure Places (D : DataW Unit) (F : List Int) : Prop where
  nd : F.Nodup
  sz : Maps.size D = F.length
  has : ∀ n, Maps.has D (.int .i64 n) = decide (n ∈ F)
  spot : ∀ i (h : i < F.length) z, D.atKey (.int .i64 F[i]) z = .lit (.int .i64 (i : Int))
theorem places_nil : Places (.map []) [] := ⟨by simp, rfl, fun n => by simp [Maps.has], fun i h => absurd h (by simp)⟩
theorem litI_ne {a b : Int} (h : a ≠ b) : (Lit.int .i64 a) ≠ (Lit.int .i64 b) := fun e => h (by injection e)
theorem Places.put {D : DataW Unit} {F : List Int} (h : Places D F) (hm : IsMap D) (ht : Tidy D) {n : Int} (hn : n ∉ F) : Places (D.put (.int .i64 n) (.lit (.int .i64 (F.length : Int)))) (F ++ [n]) := by
  have hh : Maps.has D (.int .i64 n) = false := by rw [h.has]; simpa using hn
  refine ⟨?_, ?_, ?_, ?_⟩
  · rw [List.nodup_append]
    exact ⟨h.nd, by simp, fun a ha b hb => by simp at hb; subst hb; exact fun e => hn (e ▸ ha)⟩
  · rw [size_put ht, hh, h.sz]; simp
  · intro x
    by_cases e : x = n
    · subst e
      rw [has_put_same (k := .int .i64 x) hm trivial]
      simp
    · rw [has_put_other (litI_ne e), h.has]
      simp [e]
  · intro i hi z
    by_cases e : i < F.length
    · have hne : F[i] ≠ n := fun e2 => hn (e2 ▸ List.getElem_mem e)
      rw [List.getElem_append_left e, atKey_put_other (litI_ne hne)]
      exact h.spot i e z
    · have e2 : i = F.length := by simp at hi; omega
      subst e2
      rw [List.getElem_append_right (Nat.le_refl _)]
      simp only [Nat.sub_self, List.getElem_cons_zero]
      exact atKey_put_same (k := .int .i64 n) hm trivial _ _
theorem Places.del {D : DataW Unit} {F : List Int} {n : Int} (h : Places D (F ++ [n])) (ht : Tidy D) : Places (D.del (.int .i64 n)) F := by
  have hnd := List.nodup_append.1 h.nd
  have hn : n ∉ F := fun hm => hnd.2.2 n hm n (by simp) rfl
  refine ⟨hnd.1, ?_, ?_, ?_⟩
  · have e := size_del (k := .int .i64 n) ht
    have e2 : Maps.has D (.int .i64 n) = true := by rw [h.has]; simp
    rw [e2, h.sz] at e
    simp at e
    omega
  · intro x
    by_cases e : x = n
    · subst e
      rw [has_del_same]
      simpa using hn
    · rw [has_del_other (litI_ne e), h.has]
      simp [e]
  · intro i hi z
    have hne : F[i] ≠ n := fun e2 => hn (e2 ▸ List.getElem_mem hi)
    rw [atKey_del_other (litI_ne hne)]
    have := h.spot i (by simp; omega) z
    rw [List.getElem_append_left hi] at this
    exact this

/-- The map at block B has the numbers F, each with its place. -/
def FreeM (w : World) (B : Nat) (F : List Int) : Prop := ∃ D : DataW Unit, w.ownsMap Try.prog 3 (plainElem Try.prog 3) B F.length D ∧ Places D F
theorem FreeM.kept {w w' : World} {B : Nat} {F : List Int} (h : FreeM w B F) (hs : w'.heap[B]? = w.heap[B]?) : FreeM w' B F := by
  obtain ⟨D, ⟨es, clock, hb, h1⟩, hp⟩ := h
  exact ⟨D, ⟨es, clock, hs.trans hb, h1⟩, hp⟩
theorem FreeM.lt {w : World} {B : Nat} {F : List Int} (h : FreeM w B F) : B < w.heap.size := by
  obtain ⟨D, ho, hp⟩ := h
  exact ho.lt
theorem own_tight {w : World} {P : Program} {k : TypeId} {R : Value → Option (DataW Unit × List MemPlace)} {b n : Nat} {D : DataW Unit} (h : w.ownsMap P k R b n D) : w.ownsMap P k R b (Maps.size D) D := by
  obtain ⟨es, clock, hb, F, hs, rfl⟩ := h
  exact ⟨es, clock, hb, F, by simp [Maps.size, length_sorted], rfl⟩
theorem freeM_made (w : World) : FreeM (w.alloc (.map #[] 0)) w.heap.size [] := ⟨.map [], World.ownsMap_made w Try.prog 3 (plainElem Try.prog 3), places_nil⟩
theorem FreeM.nd {w : World} {B : Nat} {F : List Int} (h : FreeM w B F) : F.Nodup := by obtain ⟨D, _, hp⟩ := h; exact hp.nd
theorem FreeM.look {w : World} {B : Nat} {F : List Int} (h : FreeM w B F) {n : Int} (hn : (Lit.int .i64 n).wf = true) : ∃ c : Int, (Instr.lookup 61 (.map (some B)) (.int .i64 n) true).run Try.prog w = .ok (.tuple #[.int .i64 c, .bool (decide (n ∈ F))]) w := by
  obtain ⟨D, ho, hp⟩ := h
  obtain ⟨v, ps, hrun, hv⟩ := ho.look_ok lawI Try.underlying61 (zeroI w) (plainElem_int Try.underlying3 (by decide)) (keyOf_int_mk Try.underlying3 hn)
  obtain ⟨c, rfl, _, _⟩ := plainElem_int_inv Try.underlying3 hv
  rw [hp.has] at hrun
  exact ⟨c, hrun⟩
theorem FreeM.len {w : World} {B : Nat} {F : List Int} (h : FreeM w B F) (ty : TypeId) : (Builtin.len_ #[61] ty #[.map (some B)]).run Try.prog w = .ok (.int .i64 (F.length : Int)) w := by
  obtain ⟨D, ho, hp⟩ := h
  have := ho.len (e := 3) Try.underlying61 ty
  rw [hp.sz] at this
  exact this
theorem FreeM.put {w : World} {B : Nat} {F : List Int} (h : FreeM w B F) {n : Int} (hn : (Lit.int .i64 n).wf = true) (hnm : n ∉ F) (hl : F.length ≤ 2000000) : ∃ w', (Instr.mapUpdate 61 (.map (some B)) (.int .i64 n) (.int .i64 (F.length : Int))).run Try.prog w = .ok () w' ∧ FreeM w' B (F ++ [n]) ∧ w.mapTurned w' B := by
  obtain ⟨D, ho, hp⟩ := h
  obtain ⟨w', hrun, h1, h2⟩ := ho.store lawI Try.underlying61 (by unfold maxLen; omega) (keyOf_int_mk Try.underlying3 hn) (plainElem_int Try.underlying3 (a := (F.length : Int)) (WalkArith.wf_i64 (by omega)))
  have hp' := hp.put ho.isMap (ho.tidy lawI) hnm
  refine ⟨w', hrun, ⟨_, ?_, hp'⟩, h2⟩
  have := own_tight h1
  rw [hp'.sz] at this
  exact this
theorem FreeM.del {w : World} {B : Nat} {F : List Int} {n : Int} (h : FreeM w B (F ++ [n])) (hn : (Lit.int .i64 n).wf = true) (ty : TypeId) : ∃ w', (Builtin.delete_ #[61, 3] ty #[.map (some B), .int .i64 n]).run Try.prog w = .ok (.tuple #[]) w' ∧ FreeM w' B F ∧ w.mapTurned w' B := by
  obtain ⟨D, ho, hp⟩ := h
  obtain ⟨w', hrun, h1, h2⟩ := ho.drop (e := 3) lawI Try.underlying61 (keyOf_int_mk Try.underlying3 hn) ty
  have hp' := hp.del (ho.tidy lawI)
  refine ⟨w', hrun, ⟨_, ?_, hp'⟩, h2⟩
  have := own_tight h1
  rw [hp'.sz] at this
  exact this
theorem FreeM.clear {w : World} {B : Nat} {F : List Int} (h : FreeM w B F) (ty : TypeId) : ∃ w', (Builtin.clear_ #[61] ty #[.map (some B)]).run Try.prog w = .ok (.tuple #[]) w' ∧ FreeM w' B [] ∧ w.mapTurned w' B := by
  obtain ⟨D, ⟨es, clock, hb, hF, hs, rfl⟩, hp⟩ := h
  refine ⟨setBlock w B (.map #[] clock), ?_, ⟨.map [], ⟨#[], clock, heap_setBlock_same hb _, ?_, by simp, rfl⟩, places_nil⟩, ⟨es, clock, #[], clock, hb, rfl⟩⟩
  · simp [Builtin.clear_, run_underlying Try.underlying61, MapKept.run_getObj_map hb, setObj, Sem.run, hb, setBlock, Result.andThen]
  · exact ⟨by simp, MapKept.stamped_empty clock, by simp⟩


set_option maxRecDepth 100000 in
set_option maxHeartbeats 800000 in
theorem implFree (x m : Nat) (F : List Int) (n : Int) (w : World) (c1 : w.cell? ⟨x, 1, none⟩ = some (.map (some m))) (hM : Hid (FreeM w m F)) (hn : (Lit.int .i64 n).wf = true) :
    Calls Try.prog 43 #[.pointer (some ⟨x, 0, none⟩), .int .i64 n] w fun e w' => e = .returned (.bool (decide (n ∈ F))) ∧ w' = w := by
  obtain ⟨c, hlk⟩ := hM.out.look hn
  obtain ⟨r, hr⟩ : ∃ r, decide (n ∈ F) = r := ⟨_, rfl⟩
  rw [hr] at hlk ⊢
  clear hM hn hr
  go_enter Try.func43, Try.ntmps43
  go_wp2
  go_ret
  exact ⟨rfl, rfl⟩

theorem grown_set (w : World) (g i : Nat) (v : Value) : w.grownBy (w.setCell ⟨g, i, none⟩ v) (some g) :=
  ⟨rfl, rfl, rfl, by simp, fun k _ hne => heap_setCell_other _ ⟨g, i, none⟩ k _ (fun e => hne (by rw [e]))⟩
/-- What of the row is laid: the places of the numbers that have come. -/
def RowTo (arr : Array Value) (F : List Int) (left : Lit → Bool) : Prop := ∀ i (h : i < F.length), left (.int .i64 F[i]) = false → arr[i]? = some (.int .i64 F[i])
theorem RowTo.more {arr : Array Value} {F : List Int} {left : Lit → Bool} (h : RowTo arr F left) (hs : arr.size = F.length) (hnd : F.Nodup) (i : Nat) (hi : i < F.length) : RowTo (arr.setIfInBounds i (.int .i64 F[i])) F (fun z => left z && !z.sameKey (.int .i64 F[i])) := fun j hj hl => by
  by_cases e : j = i
  · subst e
    exact Array.getElem?_setIfInBounds_self_of_lt (by omega)
  · rw [Array.getElem?_setIfInBounds_ne (by omega)]
    refine h j hj ?_
    have hne : F[j] ≠ F[i] := fun e2 => e ((List.getElem_inj hnd).1 e2)
    simp only at hl
    rw [sameKey_ne (litI_ne hne)] at hl
    simpa using hl

set_option maxRecDepth 100000 in
set_option maxHeartbeats 1600000 in
theorem implOrder (x m : Nat) (F : List Int) (w : World) (c1 : w.cell? ⟨x, 1, none⟩ = some (.map (some m))) (hx : x < w.heap.size) (hM : Hid (FreeM w m F)) (hl : F.length ≤ 1048576) :
    Calls Try.prog 41 #[.pointer (some ⟨x, 0, none⟩)] w fun e w' => ∃ u, e = .returned u ∧ w'.ownsRow w.heap.size 3 1 u F.length (iv F) ∧ Below w.heap.size w w' := by
  have hlen := hM.out.len
  obtain ⟨D, ho, hp⟩ := hM.out
  have hmw := ho.lt
  obtain ⟨i0, hi, hz0, hz1, hz2⟩ := info_parts Try.info3
  obtain ⟨M, hMM⟩ : ∃ M, M = madeCells (Value.int .i64 0).cells (((F.length : Nat) : Int).toNat * i0.size) := ⟨_, rfl⟩
  have hMs : M.size = F.length := by rw [hMM, size_madeCells, hz1]; simp
  have hmk : ∀ W : World, (Instr.makeSlice 24 (.int .i64 (F.length : Int)) (.int .i64 (F.length : Int))).run Try.prog W = .ok (.slice (some ⟨W.heap.size, 0, none⟩) F.length F.length) (W.alloc (.cells M 3)) := fun W => by
    have h := run_make (P := Try.prog) W 24 3 i0 _ Try.underlying24 hi hz0 .i64 .i64 (F.length : Int) (F.length : Int) (by omega) (by omega) (by rw [hz2]; omega) (by omega)
    rw [← hMM] at h
    simpa using h
  obtain ⟨g, hg⟩ : ∃ g, w.heap.size = g := ⟨_, rfl⟩
  have c2 : (w.alloc (.cells M 3)).cell? ⟨x, 1, none⟩ = some (.map (some m)) := pastCell hx c1
  have hsz2 : (w.alloc (.cells M 3)).heap.size = g + 1 := by rw [← hg]; simp
  clear hMM
  go_enter Try.func41, Try.ntmps41
  go_wp2_with (first
    | (at_range; refine wpList_range_own _ rfl _ 61 rfl 3 3 lawI Try.underlying61 _ m F.length D rfl (ho.alloc _) ?_; intro w0 hrg0 hg0 hs0)
    | go_in)
  rw [hsz2] at hrg0 hs0 ⊢
  have hgb : w0.heap[g]? = some (.cells M 3 (0, 0)) := (hg0.block g (by omega) (by simp)).trans (by rw [← hg]; exact heap_alloc_new _ _)
  have hB0 : Below w.heap.size w w0 := (bel_alloc (Below.refl _ _) _).grown hg0 (by simp) (by simp)
  have HP : Hid (Places D F) := hp
  have HSZ : Hid (w.heap.size = g) := hg
  clear hp hmk c2 hsz2 hg0 hlen hM c1 hi hz0 hz1 hz2 hs0 hg
  go_frame
  go_loopw [17] (fun _ wr => ∃ (left : Lit → Bool) (cnt : Nat) (arr : Array Value), Hid (wr.ranges Try.prog 3 (plainElem Try.prog 3) m (g + 1) F.length D left cnt) ∧ wr.heap[g]? = some (.cells arr 3 (0, 0)) ∧ Hid (arr.size = F.length) ∧ Hid (RowTo arr F left) ∧ Hid (Below w.heap.size w wr)) (fun _ wr => wr.rangeLeft m (g + 1))
  case atStart => exact ⟨_, _, M, hrg0, hgb, hMs, fun i hi h => by rw [HP.out.has] at h; simp at h, hB0⟩
  case round =>
    clear hrg0 hgb hB0 hMs
    obtain ⟨left, cnt, arr, hrg, harr, hsz, hrow, hB⟩ := hrel
    go_wp2_with (first
      | (at_next; refine wpList_next_ranges_ii _ rfl _ rfl 3 3 .i64 .i64 lawI Try.underlying3 Try.underlying3 m (g + 1) F.length D left cnt rfl hrg.out ?_ ?_)
      | go_in)
    · intro _ hl0
      go_wp2
      go_ret
      refine ⟨_, rfl, ?_, hB.out⟩
      refine LaidTo.whole (n := F.length) (sz := 1) (fun j hj => ?_) (by rw [iv_len, Nat.mul_one]) (by rw [Nat.mul_one]; exact hsz.out) (Nat.le_refl _) (by unfold maxLen; omega) harr (by have := HSZ.out; omega)
      rw [Nat.mul_one] at hj
      rw [hrow.out j hj (hl0 _)]
      simp [iv, hj]
    · intro y c w1 cnt1 hwx hwc hlx hat hrg1 hlt hg1 hs1 hen
      have hyF : y ∈ F := by
        have h := has_true_of_atKey hat
        rw [HP.out.has] at h
        simpa using h
      obtain ⟨i, hi, rfl⟩ := List.getElem_of_mem hyF
      have hci : c = (i : Int) := by
        have h1 := HP.out.spot i hi (.lit (.bool false))
        rw [hat] at h1
        injection h1 with h1
        injection h1
      subst hci
      have harr1 : w1.heap[g]? = some (.cells arr 3 (0, 0)) := (hg1.block g (lt_of_block harr) (by simp)).trans harr
      have HB1 : Hid (Below w.heap.size w w1) := hB.out.grown hg1 hB.out.size (fun k hk => by cases hk; have := HSZ.out; omega)
      have HRG1 : Hid (w1.ranges Try.prog 3 (plainElem Try.prog 3) m (g + 1) F.length D (fun z => left z && !z.sameKey (.int .i64 F[i])) cnt1) := hrg1
      have HRG : Hid (wr.ranges Try.prog 3 (plainElem Try.prog 3) m (g + 1) F.length D left cnt ∧ cnt1 < cnt) := ⟨hrg.out, hlt⟩
      have HROW : Hid (RowTo (arr.setIfInBounds i (.int .i64 F[i])) F (fun z => left z && !z.sameKey (.int .i64 F[i]))) := hrow.out.more hsz.out HP.out.nd i hi
      obtain ⟨o0, ho0⟩ : ∃ o, arr[i]? = some o := ⟨_, Array.getElem?_eq_getElem (by have := hsz.out; omega)⟩
      have d0 := (cell_of_block harr1 i).trans ho0
      have f0 := free_of_block harr1 i
      obtain ⟨y, hy⟩ : ∃ y, F[i] = y := ⟨_, rfl⟩
      rw [hy] at hen
      have HY : Hid (F[i] = y) := hy
      clear hrg1 hlt hg1 hs1 hrg harr hB hwx hwc hlx hat hyF hrow hy ho0
      go_wp2
      go_roundw
      case rel =>
        have e := HY.out
        subst e
        refine ⟨_, cnt1, _, HRG1.out.kept (grown_set w1 g i _) ?_ (by simp), heap_setCell_same _ _ _ _ _ _ harr1, by unfold Hid; simpa using hsz.out, HROW, HB1.out.setCell (by have := HSZ.out; exact Nat.le_of_eq this) _⟩
        have hne : m ≠ g := by have := HSZ.out; omega
        simpa using hne
      case measure =>
        have h := (HRG1.out.kept (grown_set w1 g i (.int .i64 y)) (by have hne : m ≠ g := by have := HSZ.out; omega
                                                                      simpa using hne) (by simp)).left_eq
        rw [h, HRG.out.1.left_eq]
        exact HRG.out.2

end Go.Proofs.Ytjielcilcningaa
