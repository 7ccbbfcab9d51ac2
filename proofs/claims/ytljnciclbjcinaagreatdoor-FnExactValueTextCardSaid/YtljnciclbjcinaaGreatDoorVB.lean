/-
  A row of one element as often as is asked, and the types of a value's parts: the program's side.
-/
import Derived.Test.YtljnciclbjcinaaGreatDoorVA
import Derived.Test.YtljnciclbjcinaaGreatDoorQPick
import Derived.Laws.CopyOwn
import Derived.Laws.Rows
import Derived.Shelf.Lays
import Derived.Shelf.Bits.Mul64
namespace Go.Proofs.YtljnciclbjcinaaGreatDoor
open Go.ChangeShapes Go.WideShapes Go.ChangeAt Go.RowKit

def mulRenV : Go.Shelf.Ren := ⟨fun | 264 => 131 | n => n, fun | 46 => 118 | 53 => 116 | n => n, fun n => n⟩
theorem mulLaidV : Go.Proofs.Lays.n264 Tryz.prog mulRenV := {
  mixed := by kernel_rfl
  f264 := Tryz.func131.trans (congrArg some (by kernel_rfl))
  t46 := Tryz.underlying118
  a46 := Tryz.isAgg118
  z46 := Tryz.sizeOf118
  v46 := Tryz.zeroValue118
  t53 := Tryz.underlying116
  a53 := Tryz.isAgg116
  z53 := Tryz.sizeOf116
  v53 := Tryz.zeroValue116 }

theorem libMulV (c : Nat) (hc : c ≤ 100) (w : World) : Calls Tryz.prog 131 #[.int .u64 1, .int .u64 (c : Int)] w fun e w' => e = .returned (.tuple #[.int .u64 0, .int .u64 (c : Int)]) ∧ w' = w := by
  have h := Any.bits_Mul64 mulLaidV 1 c (by omega) (by omega) w
  have e0 : ((1 * c / 18446744073709551616 : Nat) : Int) = 0 := by omega
  have e1 : ((1 * c % 18446744073709551616 : Nat) : Int) = (c : Int) := by omega
  rw [e0, e1] at h
  exact h

set_option maxRecDepth 100000 in
theorem bitsMulV (c : Nat) (hc : c ≤ 100) (w : World) : Calls Tryz.prog 111 #[.int .u64 1, .int .u64 (c : Int)] w fun e w' => e = .returned (.tuple #[.int .u64 0, .int .u64 (c : Int)]) ∧ w' = w := by
  have H := libMulV c hc
  have hc0 : (0 : Int) ≤ (c : Int) := by omega
  obtain ⟨C, hC⟩ : ∃ C : Int, (c : Int) = C := ⟨_, rfl⟩
  rw [hC] at H ⊢
  go_enter Tryz.func111, Tryz.ntmps111
  go_wp2_with (go_at_call 131; refine (H _).mono ?_; rintro e w' ⟨rfl, hw⟩; obtain rfl := hw.symm)
  go_ret2
  exact ⟨rfl, rfl⟩

theorem run_copy_row4 {P : Program} (w : World) (dT sT ty elem : TypeId) (g o dLen dCap : Nat) (a : Addr) (sLen sCap : Nat) (cur : Array Value) (t : TypeId) (cs : List Value)
    (hu : P.underlying dT = some (.slice elem)) (hs : (P.info? elem).map (·.size) = some 4)
    (hg : w.heap[g]? = some (.cells cur t (0, 0))) (m : Nat) (hm : Nat.min sLen dLen = m) (hn : cs.length = m * 4)
    (hsrc : ∀ j v, cs[j]? = some v → w.cell? (a.add j) = some v) (hfit : o + cs.length ≤ cur.size) (h1 : ∀ v ∈ cs, v.oneCell' = true) :
    (Builtin.copy_ #[dT, sT] ty #[.slice (some ⟨g, o, none⟩) dLen dCap, .slice (some a) sLen sCap]).run P w =
      .ok (goInt m) (w.setRow g (cur.toList.take o ++ cs ++ cur.toList.drop (o + cs.length)).toArray) := by
  have hl := run_loadCells_list (P := P) w a cs hsrc
  have hst := run_storeCells_at P g o t cs 0 cur w hg (by simpa using hfit) h1
  rw [hn] at hl
  cases hq : P.info? elem with
  | none => simp [hq] at hs
  | some i =>
    have hi : i.size = 4 := by simpa [hq] using hs
    simp [Builtin.copy_, run_underlying hu, Builtin.lenOf, Builtin.firstCells, sizeOf, typeInfo, hq, hi, hm, hl, hst]

/-- An element's four cells, so often. -/
def rep (E : List Value) (n : Nat) : List Value := (List.replicate n E).flatten
theorem rep_len {E : List Value} (hE : E.length = 4) (n : Nat) : (rep E n).length = n * 4 := by
  unfold rep
  induction n with
  | zero => rfl
  | succ n ih => rw [List.replicate_succ, List.flatten_cons, List.length_append, ih, hE]; omega
theorem rep_app (E : List Value) (n m : Nat) : rep E n ++ rep E m = rep E (n + m) := by
  unfold rep
  rw [← List.flatten_append, List.replicate_append_replicate]
theorem rep_mem {E : List Value} {n : Nat} {v : Value} (h : v ∈ rep E n) : v ∈ E := by
  unfold rep at h
  obtain ⟨l, h1, h2⟩ := List.mem_flatten.1 h
  rw [(List.mem_replicate.1 h1).2] at h2
  exact h2
theorem rep_get {E : List Value} (hE : E.length = 4) : ∀ (n j i : Nat), j < n → i < 4 → (rep E n)[j * 4 + i]? = E[i]?
  | 0, _, _, h, _ => by omega
  | n + 1, 0, i, _, hi => by
    show (E ++ rep E n)[0 * 4 + i]? = _
    rw [List.getElem?_append_left (by omega), Nat.zero_mul, Nat.zero_add]
  | n + 1, j + 1, i, h, hi => by
    show (E ++ rep E n)[(j + 1) * 4 + i]? = _
    rw [List.getElem?_append_right (by omega), show (j + 1) * 4 + i - E.length = j * 4 + i by omega]
    exact rep_get hE n j i (by omega) hi
theorem rep_pre {E : List Value} {n m j : Nat} {v : Value} (hm : m ≤ n) (h : (rep E m)[j]? = some v) : (rep E n)[j]? = some v := by
  have hj : j < (rep E m).length := by
    rcases Nat.lt_or_ge j (rep E m).length with h' | h'
    · exact h'
    · rw [List.getElem?_eq_none h'] at h; cases h
  rw [show n = m + (n - m) by omega, ← rep_app, List.getElem?_append_left hj]
  exact h
theorem rep_copy {E : List Value} (hE : E.length = 4) {arr A : Array Value} {c n m : Nat} (hs : arr.size = c * 4) (ht : arr.toList.take (n * 4) = rep E n) (hm : n + m ≤ c) (hA : A = (arr.toList.take (n * 4) ++ rep E m ++ arr.toList.drop (n * 4 + (rep E m).length)).toArray) :
    A.size = c * 4 ∧ A.toList.take ((n + m) * 4) = rep E (n + m) := by
  subst hA
  rw [ht, rep_app, rep_len hE]
  have hl := rep_len hE (n + m)
  refine ⟨?_, ?_⟩
  · simp [hl, hs]; omega
  · show List.take ((n + m) * 4) (rep E (n + m) ++ _) = _
    rw [List.take_append_of_le_length (by omega), List.take_of_length_le (by omega)]

end Go.Proofs.YtljnciclbjcinaaGreatDoor

namespace Go.Proofs.YtljnciclbjcinaaGreatDoor
open Go.ChangeShapes Go.WideShapes Go.ChangeAt Go.RowKit

theorem infoT4 : (Tryz.prog.info? 61).map (·.size) = some 4 := by kernel_rfl

set_option maxRecDepth 100000 in
set_option maxHeartbeats 3200000 in
theorem libRepeat (w : World) (g0 off0 cap0 c : Nat) (hc : c ≤ 100) (v0 v1 v2 v3 : Value) (h1 : Hid (∀ v ∈ [v0, v1, v2, v3], v.oneCell' = true)) (hg : g0 < w.heap.size)
    (HE : Hid (∀ j v, [v0, v1, v2, v3][j]? = some v → w.cell? ⟨g0, off0 + j, none⟩ = some v)) :
    Calls Tryz.prog 92 #[.slice (some ⟨g0, off0, none⟩) 1 cap0, .int .i64 (c : Int)] w fun e w' => ∃ arr : Array Value, e = .returned (.slice (some ⟨w.heap.size, 0, none⟩) c c) ∧ w'.heap[w.heap.size]? = some (.cells arr 61 (0, 0)) ∧ arr.toList.take (c * 4) = rep [v0, v1, v2, v3] c ∧ Below w.heap.size w w' := by
  obtain ⟨i0, hi, hz0, hz1, hz2⟩ := info_parts Tryz.infoTN
  obtain ⟨M, hM⟩ : ∃ M, M = madeCells (Value.agg #[.int .i64 0, .int .i64 0, .int .i64 0, .slice none 0 0]).cells (((c : Nat) : Int).toNat * i0.size) := ⟨_, rfl⟩
  have hMs : M.size = c * 4 := by rw [hM, size_madeCells, hz1]; simp
  have hmk : ∀ W : World, (Instr.makeSlice 59 (.int .i64 (c : Int)) (.int .i64 (c : Int))).run Tryz.prog W = .ok (.slice (some ⟨W.heap.size, 0, none⟩) c c) (W.alloc (.cells M 61)) := fun W => by
    have h := run_make (P := Tryz.prog) W 59 61 i0 _ Tryz.underlying59 hi hz0 .i64 .i64 (c : Int) (c : Int) (by omega) (by omega) (by rw [hz2]; omega) (by omega)
    rw [← hM] at h
    simpa using h
  clear hM
  obtain ⟨E, hE⟩ : ∃ E, [v0, v1, v2, v3] = E := ⟨_, rfl⟩
  have HE4 : Hid (E.length = 4) := by rw [← hE]; rfl
  rw [hE] at h1 HE ⊢
  obtain ⟨m0, hm0⟩ : ∃ m0, Nat.min 1 c = m0 := ⟨_, rfl⟩
  have hm0' : m0 ≤ 1 ∧ m0 ≤ c ∧ (0 < c → m0 = 1) := by have : m0 = min 1 c := hm0.symm; omega
  have hwM : (w.alloc (.cells M 61)).heap[w.heap.size]? = some (.cells M 61 (0, 0)) := heap_alloc_new _ _
  have hrun := run_copy_row4 (P := Tryz.prog) (w.alloc (.cells M 61)) 59 59 3 61 w.heap.size 0 c c ⟨g0, off0, none⟩ 1 cap0 M 61 (rep E m0) Tryz.underlying59 infoT4 hwM m0 hm0 (rep_len HE4.out m0) (fun j v hj => by
    have := HE.out j v (by
      have h9 : (rep E 1)[j]? = some v := rep_pre (by omega) hj
      simpa [rep] using h9)
    rw [Addr.add_lit]
    exact pastCell hg this) (by rw [rep_len HE4.out, hMs]; omega) (fun v hv => h1.out v (rep_mem hv))
  obtain ⟨A0, hA0⟩ : ∃ A, (M.toList.take 0 ++ rep E m0 ++ M.toList.drop (0 + (rep E m0).length)).toArray = A := ⟨_, rfl⟩
  rw [hA0] at hrun
  obtain ⟨a9, b9⟩ := rep_copy (n := 0) (m := m0) (A := A0) HE4.out hMs (by simp [rep]) (by omega) (by rw [← hA0, Nat.zero_mul])
  rw [Nat.zero_add] at b9
  obtain ⟨W1, hW1⟩ : ∃ W1, (w.alloc (.cells M 61)).setRow w.heap.size A0 = W1 := ⟨_, rfl⟩
  rw [hW1] at hrun
  have hq1 : W1.heap[w.heap.size]? = some (.cells A0 61 (0, 0)) := by rw [← hW1]; exact setRow_heap _ _ _ _ _ _ hwM
  have hb1 : Below w.heap.size w W1 := by
    rw [← hW1]
    exact ⟨rfl, rfl, rfl, by simp [World.setRow], fun k hk => (setRow_other _ _ k _ (by omega)).trans (Below.heap_alloc _ _ _ hk)⟩
  clear hW1 hA0 hwM
  have HB9 : Hid (A0.toList.take (m0 * 4) = rep E m0) := b9
  have HM0 : Hid (m0 ≤ 1 ∧ m0 ≤ c ∧ (0 < c → m0 = 1)) := hm0'
  clear b9 hm0 hm0' hE
  have HMU := bitsMulV c hc
  have hc0 : ¬ (c : Int) < 0 := by omega
  have hcm : ¬ (9223372036854775807 : Int) < (c : Int) := by omega
  go_enter Tryz.func92, Tryz.ntmps92
  go_wp2_with (go_at_call 111; refine (HMU _).mono ?_; rintro e w' ⟨rfl, hw⟩; obtain rfl := hw.symm)
  go_loopw [8] (fun i wr => ∃ (n : Nat) (arr : Array Value), n ≤ c ∧ (0 < c → 0 < n) ∧ i = .int .i64 (n : Int) ∧ wr.heap[w.heap.size]? = some (.cells arr 61 (0, 0)) ∧ arr.size = c * 4 ∧ Hid (arr.toList.take (n * 4) = rep E n) ∧ Below w.heap.size w wr) (fun i _ => c - (intOf i).toNat)
  case atStart => exact ⟨m0, A0, HM0.out.2.1, fun h => by have := HM0.out.2.2 h; omega, by simp, hq1, a9, HB9, hb1⟩
  case round =>
    clear hrun hmk hq1 a9 HB9 hb1 HMU
    obtain ⟨n, arr, hn, hn0, rfl, hq, hs, ht, hnx⟩ := hrel
    by_cases hlt : n < c
    · have hltI : (n : Int) < (c : Int) := by omega
      have hpos := hn0 (by omega)
      obtain ⟨m, hm⟩ : ∃ m, Nat.min n (c - n) = m := ⟨_, rfl⟩
      have hm' : m ≤ n ∧ n + m ≤ c ∧ 0 < m := by have : m = min n (c - n) := hm.symm; omega
      have hrun := run_copy_row4 (P := Tryz.prog) wr.drew 59 59 3 61 w.heap.size (n * 4) (c - n) (c - n) ⟨w.heap.size, 0, none⟩ n c arr 61 (rep E m) Tryz.underlying59 infoT4 hq m hm (rep_len HE4.out m) (fun j v hj => by
        have h9 : (rep E n)[j]? = some v := rep_pre hm'.1 hj
        rw [← ht.out] at h9
        rw [Addr.add_lit, Nat.zero_add, cell_of_block (w := wr.drew) hq]
        rw [List.getElem?_take] at h9
        split at h9
        · rw [← Array.getElem?_toList]; exact h9
        · cases h9) (by rw [rep_len HE4.out, hs]; omega) (fun v hv => h1.out v (rep_mem hv))
      obtain ⟨A1, hA1⟩ : ∃ A, (arr.toList.take (n * 4) ++ rep E m ++ arr.toList.drop (n * 4 + (rep E m).length)).toArray = A := ⟨_, rfl⟩
      rw [hA1] at hrun
      obtain ⟨a9, b9⟩ := rep_copy (n := n) (m := m) (A := A1) HE4.out hs ht.out hm'.2.1 hA1.symm
      obtain ⟨W1, hW1⟩ : ∃ W1, wr.drew.setRow w.heap.size A1 = W1 := ⟨_, rfl⟩
      rw [hW1] at hrun
      have hq1 : W1.heap[w.heap.size]? = some (.cells A1 61 (0, 0)) := by rw [← hW1]; exact setRow_heap _ _ _ _ _ _ hq
      have hb1 : Below w.heap.size w W1 := by
        rw [← hW1]
        exact hnx.trans ⟨rfl, rfl, rfl, by simp [World.setRow], fun k hk => setRow_other _ _ k _ (by omega)⟩
      have HB9 : Hid (A1.toList.take ((n + m) * 4) = rep E (n + m)) := b9
      have hsum : IntKind.i64.wrap ((n : Int) + (m : Int)) = ((n + m : Nat) : Int) := by rw [IntKind.wrap_i64]; omega
      clear hW1 hA1 b9 hm
      have hnI : ¬ (c : Int) < (n : Int) := by omega
      go_wp2_with fail
      refine wh_begin (fun _ => True) (by kernel_rfl) ?_
      refine wh_take 0 (some 38) (.int .i64 (n : Int)) rfl rfl (by kernel_rfl) (by kernel_rfl) (by kernel_rfl) (fun _ _ _ h => h) trivial (by rfl) (fun w' _ => by first | rfl | (go_simp; done) | (go_simp; omega)) ?_
      simp only [Act.put, List.setIfInBounds_toArray, List.set_cons_zero, List.set_cons_succ]
      refine wh_take 1 (some 39) (.slice (some ⟨w.heap.size, 0, none⟩) c c) rfl rfl (by kernel_rfl) (by kernel_rfl) (by kernel_rfl) (fun _ _ _ h => h) trivial (by rfl) (fun w' _ => by first | rfl | (go_simp; done) | (go_simp; omega)) ?_
      simp only [Act.put, List.setIfInBounds_toArray, List.set_cons_zero, List.set_cons_succ]
      refine wh_take 2 (some 40) (.int .i64 (n : Int)) rfl rfl (by kernel_rfl) (by kernel_rfl) (by kernel_rfl) (fun _ _ _ h => h) trivial (by rfl) (fun w' _ => by first | rfl | (go_simp; done) | (go_simp; omega)) ?_
      simp only [Act.put, List.setIfInBounds_toArray, List.set_cons_zero, List.set_cons_succ]
      refine wh_take 4 (some 42) (.slice (some ⟨w.heap.size, 0, none⟩) c c) rfl rfl (by kernel_rfl) (by kernel_rfl) (by kernel_rfl) (fun _ _ _ h => h) trivial (by rfl) (fun w' _ => by first | rfl | (go_simp; done) | (go_simp; omega)) ?_
      simp only [Act.put, List.setIfInBounds_toArray, List.set_cons_zero, List.set_cons_succ]
      refine wh_take 5 (some 43) (.int .i64 (n : Int)) rfl rfl (by kernel_rfl) (by kernel_rfl) (by kernel_rfl) (fun _ _ _ h => h) trivial (by rfl) (fun w' _ => by first | rfl | (go_simp; done) | (go_simp; omega)) ?_
      simp only [Act.put, List.setIfInBounds_toArray, List.set_cons_zero, List.set_cons_succ]
      refine wh_take 3 (some 41) (.slice (some ⟨w.heap.size, n * 4, none⟩) (c - n) (c - n)) rfl rfl (by kernel_rfl) (by kernel_rfl) (by kernel_rfl) (fun _ _ _ h => h) trivial (by rfl) (fun w' _ => by first | rfl | (go_simp; done) | (go_simp; omega)) ?_
      simp only [Act.put, List.setIfInBounds_toArray, List.set_cons_zero, List.set_cons_succ]
      refine wh_take 6 (some 44) (.slice (some ⟨w.heap.size, 0, none⟩) n c) rfl rfl (by kernel_rfl) (by kernel_rfl) (by kernel_rfl) (fun _ _ _ h => h) trivial (by rfl) (fun w' _ => by first | rfl | (go_simp; done) | (go_simp; omega)) ?_
      simp only [Act.put, List.setIfInBounds_toArray, List.set_cons_zero, List.set_cons_succ]
      refine wh_val 7 (some 45) (.int .i64 (m : Int)) W1 (by kernel_rfl) rfl rfl (by rfl) (by simp [execOp, resolve, invoke, builtin, Act.eval, hrun, Result.andThen, goInt]) trivial ?_
      simp only [Act.put, List.setIfInBounds_toArray, List.set_cons_zero, List.set_cons_succ]
      refine wh_take 8 (some 46) (.int .i64 (IntKind.i64.wrap ((n : Int) + (m : Int)))) rfl rfl (by kernel_rfl) (by kernel_rfl) (by kernel_rfl) (fun _ _ _ h => h) trivial (by rfl) (fun w' _ => by first | rfl | (go_simp; done)) ?_
      simp only [Act.put, List.setIfInBounds_toArray, List.set_cons_zero, List.set_cons_succ]
      refine wh_val 9 (some 8) (.int .i64 (IntKind.i64.wrap ((n : Int) + (m : Int)))) W1 (by kernel_rfl) rfl rfl (by rfl) (by first | rfl | (go_simp; done)) trivial ?_
      simp only [Act.put, List.setIfInBounds_toArray, List.set_cons_zero, List.set_cons_succ]
      refine wh_done (by kernel_rfl) ?_
      rw [hsum]
      clear hrun hq hs ht hnx
      go_wp2
      go_roundw
      case rel => exact ⟨n + m, A1, hm'.2.1, fun _ => by omega, rfl, hq1, a9, HB9, hb1⟩
      case measure => simp [intOf]; omega
    · obtain rfl : n = c := by omega
      have hltI : ¬ (n : Int) < (n : Int) := by omega
      go_wp2
      go_ret
      exact ⟨rfl, arr, hq, ht.out, hnx⟩

end Go.Proofs.YtljnciclbjcinaaGreatDoor

namespace Go.Proofs.YtljnciclbjcinaaGreatDoor
open Go.ChangeShapes Go.WideShapes Go.ChangeAt Go.RowKit

theorem Row4.keep {c0 c1 c2 : Nat → Value} {kids : Nat → List Nat} {lo hi lo' hi' f : Nat} {w w' : World} {ks : List Nat} {sl : Value} (h : Row4 c0 c1 c2 (R4 c0 c1 c2 kids lo hi f) lo hi w ks sl) (h1 : lo' ≤ lo) (h2 : hi ≤ hi') (hk : ∀ g, lo ≤ g → g < hi → w'.heap[g]? = w.heap[g]?) : Row4 c0 c1 c2 (R4 c0 c1 c2 kids lo' hi' f) lo' hi' w' ks sl := by
  obtain ⟨a, cap, e, hc, hh⟩ := h
  refine ⟨a, cap, e, hc, fun j hj => ?_⟩
  obtain ⟨g, off, sl', h3, h4, h5, h6, h7, h8, h8', h9⟩ := hh j hj
  have hg := hk g h4 h5
  exact ⟨g, off, sl', h3, by omega, by omega, (cell_heap hg _).trans h6, (cell_heap hg _).trans h7, (cell_heap hg _).trans h8, (cell_heap hg _).trans h8', R4.wide h1 h2 (R4.keep h9 hk)⟩
theorem Row4.up {c0 c1 c2 : Nat → Value} {kids : Nat → List Nat} {lo hi f : Nat} {w w' : World} {ks : List Nat} {sl : Value} (h : Row4 c0 c1 c2 (R4 c0 c1 c2 kids lo hi f) lo hi w ks sl) (hh : hi ≤ w.heap.size) (hb : Below w.heap.size w w') : Row4 c0 c1 c2 (R4 c0 c1 c2 kids (min lo w.heap.size) w'.heap.size f) (min lo w.heap.size) w'.heap.size w' ks sl :=
  h.keep (by omega) (by have := hb.size; omega) (fun g _ h2 => hb.block g (by omega))
theorem Row4.cut {c0 c1 c2 : Nat → Value} {T : World → Nat → Value → Prop} {lo hi : Nat} {w : World} {ks : List Nat} {a : Option Addr} {cap : Nat} (H : ∀ j (h : j < ks.length), ∃ g off sl', a = some ⟨g, off, none⟩ ∧ lo ≤ g ∧ g < hi ∧
    w.cell? ⟨g, off + j * 4, none⟩ = some (c0 ks[j]) ∧ w.cell? ⟨g, off + j * 4 + 1, none⟩ = some (c1 ks[j]) ∧ w.cell? ⟨g, off + j * 4 + 2, none⟩ = some (c2 ks[j]) ∧ w.cell? ⟨g, off + j * 4 + 3, none⟩ = some sl' ∧ T w ks[j] sl') (n m : Nat) (g off : Nat) (ha : a = some ⟨g, off, none⟩) (hm : n + m ≤ ks.length) (hc : m ≤ cap) :
    Row4 c0 c1 c2 T lo hi w ((ks.drop n).take m) (.slice (some ⟨g, off + n * 4, none⟩) m cap) := by
  have hl : ((ks.drop n).take m).length = m := by rw [List.length_take, List.length_drop]; omega
  refine ⟨_, cap, by rw [hl], by omega, fun j hj => ?_⟩
  have hj' : j < m := by omega
  obtain ⟨g', off', sl', h3, h4, h5, h6, h7, h8, h8', h9⟩ := H (n + j) (by omega)
  rw [ha] at h3
  simp at h3
  obtain ⟨rfl, rfl⟩ := h3
  have hget : ((ks.drop n).take m)[j] = ks[n + j]'(by omega) := by rw [List.getElem_take, List.getElem_drop]
  have e0 : off + n * 4 + j * 4 = off + (n + j) * 4 := by omega
  rw [hget]
  exact ⟨g, off + n * 4, sl', rfl, h4, h5, by rw [e0]; exact h6, by rw [e0]; exact h7, by rw [e0]; exact h8, by rw [e0]; exact h8', h9⟩

def KidsB (L : List Nd) (f k : Nat) : Prop := ∀ (w : World) (lo hi : Nat) (a : Option Addr) (cap : Nat) (n : Int) (c : Nat), (kidsOf L k).length ≤ cap →
  Hid (∀ j (h : j < (kidsOf L k).length), ∃ g off sl', a = some ⟨g, off, none⟩ ∧ lo ≤ g ∧ g < hi ∧
    w.cell? ⟨g, off + j * 4, none⟩ = some (.int .i64 (kdAt L (kidsOf L k)[j])) ∧ w.cell? ⟨g, off + j * 4 + 1, none⟩ = some (.int .i64 (nAt L (kidsOf L k)[j])) ∧ w.cell? ⟨g, off + j * 4 + 2, none⟩ = some (.int .i64 (upAt L (kidsOf L k)[j])) ∧ w.cell? ⟨g, off + j * 4 + 3, none⟩ = some sl' ∧ RN L lo hi f w (kidsOf L k)[j] sl') → hi ≤ w.heap.size → tkOk (kdAt L k) (kidsOf L k) n c → (kdAt L k ≠ 13 → kdAt L k ≠ 14 → kdAt L k ≠ 15 → kdAt L k ≠ 17 → kdAt L k ≠ 18 → kidsOf L k = []) →
  Calls Tryz.prog 73 #[.int .i64 (kdAt L k), .slice a (kidsOf L k).length cap, .int .i64 n, .int .i64 (c : Int)] w fun e w' => ∃ sl, e = .returned sl ∧ Row4 (fun k => .int .i64 (kdAt L k)) (fun k => .int .i64 (nAt L k)) (fun k => .int .i64 (upAt L k)) (R4 (fun k => .int .i64 (kdAt L k)) (fun k => .int .i64 (nAt L k)) (fun k => .int .i64 (upAt L k)) (kidsOf L) (min lo w.heap.size) w'.heap.size f) (min lo w.heap.size) w'.heap.size w' (tk (kdAt L k) (kidsOf L k) n c) sl ∧ Below w.heap.size w w'

def KidsP (L : List Nd) (f k : Nat) : Prop := ∀ (w : World) (lo hi : Nat) (a : Option Addr) (cap : Nat) (u n : Int) (c : Nat), (kidsOf L k).length ≤ cap →
  Hid (∀ j (h : j < (kidsOf L k).length), ∃ g off sl', a = some ⟨g, off, none⟩ ∧ lo ≤ g ∧ g < hi ∧
    w.cell? ⟨g, off + j * 4, none⟩ = some (.int .i64 (kdAt L (kidsOf L k)[j])) ∧ w.cell? ⟨g, off + j * 4 + 1, none⟩ = some (.int .i64 (nAt L (kidsOf L k)[j])) ∧ w.cell? ⟨g, off + j * 4 + 2, none⟩ = some (.int .i64 (upAt L (kidsOf L k)[j])) ∧ w.cell? ⟨g, off + j * 4 + 3, none⟩ = some sl' ∧ RN L lo hi f w (kidsOf L k)[j] sl') → hi ≤ w.heap.size → tkOk (kdAt L k) (kidsOf L k) n c → (kdAt L k ≠ 13 → kdAt L k ≠ 14 → kdAt L k ≠ 15 → kdAt L k ≠ 17 → kdAt L k ≠ 18 → kidsOf L k = []) →
  Calls Tryz.prog 46 #[.agg #[.int .i64 (kdAt L k), .int .i64 (nAt L k), .int .i64 u, .slice a (kidsOf L k).length cap], .int .i64 n, .int .i64 (c : Int)] w fun e w' => ∃ sl, e = .returned sl ∧ Row4 (fun k => .int .i64 (kdAt L k)) (fun k => .int .i64 (nAt L k)) (fun k => .int .i64 (upAt L k)) (R4 (fun k => .int .i64 (kdAt L k)) (fun k => .int .i64 (nAt L k)) (fun k => .int .i64 (upAt L k)) (kidsOf L) (min lo w.heap.size) w'.heap.size f) (min lo w.heap.size) w'.heap.size w' (tk (kdAt L k) (kidsOf L k) n c) sl ∧ Below w.heap.size w w'

set_option maxRecDepth 100000 in
set_option maxHeartbeats 3200000 in
theorem implKids_rest (L : List Nd) (f k : Nat) (h13 : kdAt L k ≠ 13) : KidsB L f k := by
  intro w lo hi a cap n c hcap H hhi hok hnil
  obtain ⟨_, _, o15, o17, o40⟩ := hok
  obtain ⟨K, hK⟩ : ∃ K, kidsOf L k = K := ⟨_, rfl⟩
  have HROW : Hid (Row4 (fun k => .int .i64 (kdAt L k)) (fun k => .int .i64 (nAt L k)) (fun k => .int .i64 (upAt L k)) (R4 (fun k => .int .i64 (kdAt L k)) (fun k => .int .i64 (nAt L k)) (fun k => .int .i64 (upAt L k)) (kidsOf L) lo hi f) lo hi w K (.slice a K.length cap)) := by
    subst hK
    exact ⟨a, cap, rfl, hcap, H.out⟩
  have HH : Hid (∀ j (h : j < K.length), ∃ g off sl', a = some ⟨g, off, none⟩ ∧ lo ≤ g ∧ g < hi ∧
    w.cell? ⟨g, off + j * 4, none⟩ = some (.int .i64 (kdAt L K[j])) ∧ w.cell? ⟨g, off + j * 4 + 1, none⟩ = some (.int .i64 (nAt L K[j])) ∧ w.cell? ⟨g, off + j * 4 + 2, none⟩ = some (.int .i64 (upAt L K[j])) ∧ w.cell? ⟨g, off + j * 4 + 3, none⟩ = some sl' ∧ RN L lo hi f w K[j] sl') := by
    subst hK; exact H.out
  rw [hK] at hcap o15 o17 o40 hnil ⊢
  obtain ⟨x, hx⟩ : ∃ x, kdAt L k = x := ⟨_, rfl⟩
  rw [hx] at h13 o15 o17 hnil ⊢
  clear hx hK H
  have e13 : (x == 13) = false := by rw [beq_eq_false_iff_ne]; exact h13
  by_cases h15 : x = 15 ∨ x = 18
  · obtain ⟨n0, n1⟩ := o15 h15
    obtain ⟨N, hN⟩ : ∃ N : Nat, n = (N : Int) := ⟨n.toNat, by omega⟩
    subst hN
    have hNK : N < K.length := by omega
    obtain ⟨g, off, _, hga, _, _, _⟩ := HH.out N hNK
    have ht : tk x K (N : Int) c = (K.drop N).take 1 := by
      unfold tk; rw [if_neg h13, if_neg (by omega), if_pos h15]; rfl
    have HCUT : Hid (Row4 (fun k => .int .i64 (kdAt L k)) (fun k => .int .i64 (nAt L k)) (fun k => .int .i64 (upAt L k)) (R4 (fun k => .int .i64 (kdAt L k)) (fun k => .int .i64 (nAt L k)) (fun k => .int .i64 (upAt L k)) (kidsOf L) lo hi f) lo hi w ((K.drop N).take 1) (.slice (some ⟨g, off + N * 4, none⟩) 1 (cap - N))) := Row4.cut HH.out N 1 g off hga (by omega) (by omega)
    subst hga
    rw [ht]
    have hw1 : wrap64 ((N : Int) + 1) = (N : Int) + 1 := w64v (by omega) (by omega)
    have hNc : ¬ (cap : Int) < (N : Int) + 1 := by omega
    clear ht
    rcases h15 with rfl | rfl
    all_goals
      go_enter Tryz.func73, Tryz.ntmps73
      go_wp2
      go_ret
      refine ⟨_, rfl, HCUT.out.up hhi ?_, ?_⟩ <;> (repeat (first | refine Below.alloc ?_ (by first | (simp; done) | (simp; omega)) _ | refine Below.setCell ?_ (by first | (simp; done) | (simp; omega)) _ | refine bel_dN ?_ _ | refine Below.drew ?_ | exact Below.refl _ _))
  · have e15 : (x == 15) = false := by rw [beq_eq_false_iff_ne]; exact fun h => h15 (Or.inl h)
    have e18 : (x == 18) = false := by rw [beq_eq_false_iff_ne]; exact fun h => h15 (Or.inr h)
    by_cases h17 : x = 17
    · obtain ⟨n0, n1, n2⟩ := o17 h17
      obtain ⟨N, hN⟩ : ∃ N : Nat, n = (N : Int) := ⟨n.toNat, by omega⟩
      subst hN
      obtain ⟨g, off, _, hga, _, _, _⟩ := HH.out 0 n2
      have ht : tk x K (N : Int) c = (K.drop 0).take N := by
        unfold tk; rw [if_neg h13, if_neg (by omega), if_neg h15, if_pos h17]; rfl
      have HCUT : Hid (Row4 (fun k => .int .i64 (kdAt L k)) (fun k => .int .i64 (nAt L k)) (fun k => .int .i64 (upAt L k)) (R4 (fun k => .int .i64 (kdAt L k)) (fun k => .int .i64 (nAt L k)) (fun k => .int .i64 (upAt L k)) (kidsOf L) lo hi f) lo hi w ((K.drop 0).take N) (.slice (some ⟨g, off + 0 * 4, none⟩) N cap)) := Row4.cut HH.out 0 N g off hga (by omega) (by omega)
      rw [Nat.zero_mul, Nat.add_zero] at HCUT
      subst hga h17
      rw [ht]
      have hNc : ¬ (cap : Int) < (N : Int) := by omega
      clear ht
      go_enter Tryz.func73, Tryz.ntmps73
      go_wp2
      go_ret
      refine ⟨_, rfl, HCUT.out.up hhi ?_, ?_⟩ <;> (repeat (first | refine Below.alloc ?_ (by first | (simp; done) | (simp; omega)) _ | refine Below.setCell ?_ (by first | (simp; done) | (simp; omega)) _ | refine bel_dN ?_ _ | refine Below.drew ?_ | exact Below.refl _ _))
    · have e17 : (x == 17) = false := by rw [beq_eq_false_iff_ne]; exact h17
      have ht : tk x K n c = K := by
        unfold tk
        rw [if_neg h13]
        by_cases h14 : x = 14
        · rw [if_pos h14]
        · rw [if_neg h14, if_neg h15, if_neg h17, hnil h13 h14 (fun h => h15 (Or.inl h)) h17 (fun h => h15 (Or.inr h))]
      rw [ht]
      clear ht hnil
      go_enter Tryz.func73, Tryz.ntmps73
      go_wp2
      go_ret
      refine ⟨_, rfl, HROW.out.up hhi ?_, ?_⟩ <;> (repeat (first | refine Below.alloc ?_ (by first | (simp; done) | (simp; omega)) _ | refine Below.setCell ?_ (by first | (simp; done) | (simp; omega)) _ | refine bel_dN ?_ _ | refine Below.drew ?_ | exact Below.refl _ _))

set_option maxRecDepth 100000 in
set_option maxHeartbeats 3200000 in
theorem implKids_list (L : List Nd) (f k : Nat) (h13 : kdAt L k = 13) : KidsB L f k := by
  intro w lo hi a cap n c hcap H hhi hok _
  obtain ⟨hc100, o13, _, _, _⟩ := hok
  have hK1 := o13 h13
  obtain ⟨K0, hK⟩ : ∃ K0, kidsOf L k = [K0] := List.length_eq_one_iff.1 hK1
  obtain ⟨g, off, sl', rfl, g1, g2, c0, c1, c2, c3, tr⟩ := H.out 0 (by omega)
  simp only [hK] at c0 c1 c2 c3 tr
  simp only [List.getElem_cons_zero, Nat.zero_mul, Nat.add_zero] at c0 c1 c2 c3 tr
  rw [h13, hK]
  have ht : tk 13 [K0] n c = List.replicate c K0 := by simp [tk]
  rw [ht]
  obtain ⟨sa, sn, sc, rfl⟩ := R4.form tr
  have HTR : Hid (RN L lo hi f w K0 (.slice sa sn sc)) := tr
  rw [hK] at hcap
  have HE0 : Hid (∀ j v, [Value.int .i64 (kdAt L K0), .int .i64 (nAt L K0), .int .i64 (upAt L K0), .slice sa sn sc][j]? = some v → w.cell? ⟨g, off + j, none⟩ = some v) := fun j v hj => by
    match j, hj with
    | 0, hj => simp at hj; subst hj; exact c0
    | 1, hj => simp at hj; subst hj; exact c1
    | 2, hj => simp at hj; subst hj; exact c2
    | 3, hj => simp at hj; subst hj; exact c3
  have HREP : Hid (∀ W, Below w.heap.size w W → Calls Tryz.prog 92 #[.slice (some ⟨g, off, none⟩) 1 cap, .int .i64 (c : Int)] W fun e w' => ∃ arr : Array Value, e = .returned (.slice (some ⟨W.heap.size, 0, none⟩) c c) ∧ w'.heap[W.heap.size]? = some (.cells arr 61 (0, 0)) ∧ arr.toList.take (c * 4) = rep [Value.int .i64 (kdAt L K0), .int .i64 (nAt L K0), .int .i64 (upAt L K0), .slice sa sn sc] c ∧ Below W.heap.size W w') := fun W hW =>
    libRepeat W g off cap c hc100 _ _ _ _ (by intro v hv; simp at hv; rcases hv with rfl | rfl | rfl | rfl <;> rfl) (Nat.lt_of_lt_of_le (Nat.lt_of_lt_of_le g2 hhi) hW.size) (fun j v hj => (hW.cell (p := ⟨g, off + j, none⟩) (Nat.lt_of_lt_of_le g2 hhi)).trans (HE0.out j v hj))
  clear H ht o13 hK1 hK h13 tr HE0 c0 c1 c2 c3
  simp only [List.length_singleton] at hcap ⊢
  go_enter Tryz.func73, Tryz.ntmps73
  go_wp2_with fail
  refine (HREP.out _ (Below.refl _ _)).mono ?_
  rintro e w1 ⟨arr, rfl, hq, ht, hbw⟩
  have HROW : Hid (Row4 (fun k => .int .i64 (kdAt L k)) (fun k => .int .i64 (nAt L k)) (fun k => .int .i64 (upAt L k)) (R4 (fun k => .int .i64 (kdAt L k)) (fun k => .int .i64 (nAt L k)) (fun k => .int .i64 (upAt L k)) (kidsOf L) (min lo w.heap.size) w1.heap.size f) (min lo w.heap.size) w1.heap.size w1 (List.replicate c K0) (.slice (some ⟨w.heap.size, 0, none⟩) c c)) := by
    refine ⟨_, c, by rw [List.length_replicate], by rw [List.length_replicate]; exact Nat.le_refl _, fun j hj => ?_⟩
    rw [List.length_replicate] at hj
    have e9 : (List.replicate c K0)[j]'(by rw [List.length_replicate]; exact hj) = K0 := List.getElem_replicate _
    rw [e9]
    have hX : ∀ i v, i < 4 → [Value.int .i64 (kdAt L K0), .int .i64 (nAt L K0), .int .i64 (upAt L K0), .slice sa sn sc][i]? = some v → w1.cell? ⟨w.heap.size, 0 + j * 4 + i, none⟩ = some v := fun i v hi hv => by
      rw [Nat.zero_add, cell_of_block hq, ← Array.getElem?_toList]
      have h9 := rep_get (E := [Value.int .i64 (kdAt L K0), .int .i64 (nAt L K0), .int .i64 (upAt L K0), .slice sa sn sc]) rfl c j i hj hi
      rw [← ht, List.getElem?_take, if_pos (by omega)] at h9
      rw [h9]; exact hv
    exact ⟨w.heap.size, 0, .slice sa sn sc, rfl, by omega, lt_of_block hq, hX 0 _ (by omega) rfl, hX 1 _ (by omega) rfl, hX 2 _ (by omega) rfl, hX 3 _ (by omega) rfl, R4.wide (by omega) (by have := hbw.size; omega) (R4.keep HTR.out fun k _ h2 => hbw.block k (by omega))⟩
  have HB : Hid (Below w.heap.size w w1) := hbw
  clear hq ht hbw HREP
  go_wp2
  go_ret
  exact ⟨_, rfl, HROW.out, HB.out⟩

theorem implBeside (L : List Nd) (f k : Nat) : KidsB L f k := by
  by_cases h13 : kdAt L k = 13
  · exact implKids_list L f k h13
  · exact implKids_rest L f k h13

set_option maxRecDepth 100000 in
set_option maxHeartbeats 1600000 in
theorem implKids (L : List Nd) (f k : Nat) : KidsP L f k := by
  intro w lo hi a cap u n c hcap H hhi hok hnil
  have HBS : Hid (∀ W, Below w.heap.size w W → Calls Tryz.prog 73 #[.int .i64 (kdAt L k), .slice a (kidsOf L k).length cap, .int .i64 n, .int .i64 (c : Int)] W fun e w' => ∃ sl, e = .returned sl ∧ Row4 (fun k => .int .i64 (kdAt L k)) (fun k => .int .i64 (nAt L k)) (fun k => .int .i64 (upAt L k)) (R4 (fun k => .int .i64 (kdAt L k)) (fun k => .int .i64 (nAt L k)) (fun k => .int .i64 (upAt L k)) (kidsOf L) (min lo w.heap.size) w'.heap.size f) (min lo w.heap.size) w'.heap.size w' (tk (kdAt L k) (kidsOf L k) n c) sl ∧ Below w.heap.size w w') := fun W hW => by
    refine (implBeside L f k W lo hi a cap n c hcap (fun j h => ?_) (Nat.le_trans hhi hW.size) hok hnil).mono ?_
    · obtain ⟨g, off, sl', h0, h1, h2, h3, h4, h5, h6, h7⟩ := H.out j h
      have hg : g < w.heap.size := Nat.lt_of_lt_of_le h2 hhi
      exact ⟨g, off, sl', h0, h1, h2, (hW.cell (p := ⟨g, _, none⟩) hg).trans h3, (hW.cell (p := ⟨g, _, none⟩) hg).trans h4, (hW.cell (p := ⟨g, _, none⟩) hg).trans h5, (hW.cell (p := ⟨g, _, none⟩) hg).trans h6, R4.below h7 hW hhi⟩
    · rintro e w1 ⟨sl, rfl, hr, hb⟩
      have hs := hW.size
      exact ⟨sl, rfl, hr.keep (by omega) (Nat.le_refl _) (fun _ _ _ => rfl), below2 hW hb⟩
  have HAL : Hid (∀ o, Below w.heap.size w (w.alloc o)) := fun o => (Below.refl _ _).alloc (Nat.le_refl _) o
  clear H hok hnil hcap hhi
  obtain ⟨K, hK⟩ : ∃ K, kidsOf L k = K := ⟨_, rfl⟩
  obtain ⟨x, hx⟩ : ∃ x, kdAt L k = x := ⟨_, rfl⟩
  obtain ⟨y, hy⟩ : ∃ y, nAt L k = y := ⟨_, rfl⟩
  rw [hx, hK] at HBS ⊢
  rw [hy]
  clear hx hy hK
  go_enter Tryz.func46, Tryz.ntmps46
  go_wp2_with fail
  refine (HBS.out _ (HAL.out _)).mono ?_
  rintro e w1 ⟨sl, rfl, hr, hb⟩
  have HR : Hid (Row4 (fun k => .int .i64 (kdAt L k)) (fun k => .int .i64 (nAt L k)) (fun k => .int .i64 (upAt L k)) (R4 (fun k => .int .i64 (kdAt L k)) (fun k => .int .i64 (nAt L k)) (fun k => .int .i64 (upAt L k)) (kidsOf L) (min lo w.heap.size) w1.heap.size f) (min lo w.heap.size) w1.heap.size w1 (tk x K n c) sl) := hr
  have HB : Hid (Below w.heap.size w w1) := hb
  clear hr hb HBS HAL
  go_wp2
  go_ret
  exact ⟨_, rfl, HR.out, HB.out⟩

end Go.Proofs.YtljnciclbjcinaaGreatDoor
