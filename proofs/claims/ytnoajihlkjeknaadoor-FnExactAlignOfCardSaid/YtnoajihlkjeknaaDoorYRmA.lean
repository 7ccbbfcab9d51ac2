/-
  A copy of rows of nodes, and the array that is a key.
-/
import Derived.Test.YtnoajihlkjeknaaDoorYRm9
import Derived.Laws.CopyOwn
import Derived.Laws.Rows
namespace Go.Proofs.YtnoajihlkjeknaaDoor
open Go.ChangeShapes Go.WideShapes Go.ChangeAt Go.RowKit
open Go.Maps (Keyed IsMap)

theorem run_copy_row3 {P : Program} (w : World) (dT sT ty elem : TypeId) (g o dLen dCap : Nat) (a : Addr) (sLen sCap : Nat) (cur : Array Value) (t : TypeId) (cs : List Value)
    (hu : P.underlying dT = some (.slice elem)) (hs : (P.info? elem).map (·.size) = some 3)
    (hg : w.heap[g]? = some (.cells cur t (0, 0))) (m : Nat) (hm : Nat.min sLen dLen = m) (hn : cs.length = m * 3)
    (hsrc : ∀ j v, cs[j]? = some v → w.cell? (a.add j) = some v) (hfit : o + cs.length ≤ cur.size) (h1 : ∀ v ∈ cs, v.oneCell' = true) :
    (Builtin.copy_ #[dT, sT] ty #[.slice (some ⟨g, o, none⟩) dLen dCap, .slice (some a) sLen sCap]).run P w =
      .ok (goInt m) (w.setRow g (cur.toList.take o ++ cs ++ cur.toList.drop (o + cs.length)).toArray) := by
  have hl := run_loadCells_list (P := P) w a cs hsrc
  have hst := run_storeCells_at P g o t cs 0 cur w hg (by simpa using hfit) h1
  rw [hn] at hl
  cases hq : P.info? elem with
  | none => simp [hq] at hs
  | some i =>
    have hi : i.size = 3 := by simpa [hq] using hs
    simp [Builtin.copy_, run_underlying hu, Builtin.lenOf, Builtin.firstCells, sizeOf, typeInfo, hq, hi, hm, hl, hst]

theorem wpList_copy_own3 {P : Program} {w : World} {ops : Array Oper} {rest : List Oper} {o : Oper} {a : Act} {Q : Exit → Act → World → Prop} (hgd : o.guard = none) (d s : Operand) (dT sT : TypeId)
    (ho : o.op = .call { callee := .builtin .copy, args := #[d, s], argTypes := #[dT, sT] }) (elem : TypeId) (hu : P.underlying dT = some (.slice elem)) (hsz : (P.info? elem).map (·.size) = some 3)
    (g off dLen dCap : Nat) (ad : Addr) (sLen sCap : Nat) (hd : a.eval d = .slice (some ⟨g, off, none⟩) dLen dCap) (hs : a.eval s = .slice (some ad) sLen sCap)
    (cur : Array Value) (t : TypeId) (hg : w.heap[g]? = some (.cells cur t (0, 0))) (cs : List Value) (m : Nat) (hm : Nat.min sLen dLen = m) (hn : cs.length = m * 3)
    (hsrc : ∀ j v, cs[j]? = some v → w.cell? (ad.add j) = some v) (hfit : off + cs.length ≤ cur.size) (h1 : ∀ v ∈ cs, v.oneCell' = true)
    (h : ∀ w', w'.heap[g]? = some (.cells (cur.toList.take off ++ cs ++ cur.toList.drop (off + cs.length)).toArray t (0, 0)) → w.grownBy w' (some g) → wpList P ops Q rest (a.put o.dst (goInt m)) w') : wpList P ops Q (o :: rest) a w := by
  refine wpList_plain hgd fun K hK => ?_
  have hrun := run_copy_row3 (P := P) w dT sT o.type elem g off dLen dCap ad sLen sCap cur t cs hu hsz hg m hm hn hsrc hfit h1
  unfold Oper.wp
  simp [execOp, ho, resolve, invoke, builtin, hd, hs, hrun, Result.andThen]
  refine hK _ _ (h _ ?_ ?_)
  · have := setRow_heap w g _ (cur.toList.take off ++ cs ++ cur.toList.drop (off + cs.length)).toArray t _ hg
    simpa using this
  · exact ⟨rfl, rfl, rfl, by simp [World.setRow], fun k _ hk => setRow_other w g k _ (fun e => hk (by rw [e]))⟩

theorem cellsN_one (X : List Nd) : ∀ v ∈ cellsN X, v.oneCell' = true := by
  induction X with
  | nil => intro v hv; simp [cellsN] at hv
  | cons x r ih =>
    intro v hv
    rcases List.mem_append.1 (show v ∈ ndC x ++ cellsN r from hv) with h | h
    · simp [ndC] at h
      rcases h with rfl | rfl | rfl <;> rfl
    · exact ih v h
theorem cellsN_get : ∀ (X : List Nd) (i : Nat) (h : i < X.length), (cellsN X)[i * 3]? = some (.int .i64 X[i].1) ∧ (cellsN X)[i * 3 + 1]? = some (.int .i64 X[i].2.1) ∧ (cellsN X)[i * 3 + 2]? = some (.int .i64 X[i].2.2)
  | [], _, h => by simp at h
  | x :: r, 0, _ => ⟨rfl, rfl, rfl⟩
  | x :: r, i + 1, h => by
    have := cellsN_get r i (by simpa using h)
    rw [List.getElem_cons_succ, show (i + 1) * 3 = i * 3 + 3 by omega, show i * 3 + 3 + 1 = i * 3 + 1 + 3 by omega, show i * 3 + 3 + 2 = i * 3 + 2 + 3 by omega]
    exact this
/-- Nodes in memory are their cells. -/
theorem nd_cells {w : World} {b off : Nat} {X : List Nd} (h : ndAt w b off X) : ∀ j v, (cellsN X)[j]? = some v → w.cell? ((⟨b, off, none⟩ : Addr).add j) = some v := by
  intro j v hv
  rw [Addr.add_lit]
  have hj : j < X.length * 3 := by
    rcases Nat.lt_or_ge j (X.length * 3) with h | h
    · exact h
    · rw [List.getElem?_eq_none (by rw [cellsN_len]; exact h)] at hv; simp at hv
  have hi : j / 3 < X.length := by omega
  obtain ⟨c0, c1, c2⟩ := h (j / 3) hi
  obtain ⟨g0, g1, g2⟩ := cellsN_get X (j / 3) hi
  have hc : j = j / 3 * 3 ∨ j = j / 3 * 3 + 1 ∨ j = j / 3 * 3 + 2 := by omega
  rcases hc with hc | hc | hc
  · rw [hc, g0] at hv; rw [hc, ← hv]; first | exact c0 | (rw [← c0]; congr 2; omega)
  · rw [hc, g1] at hv; rw [hc, ← hv]; first | exact c1 | (rw [← c1]; congr 2; omega)
  · rw [hc, g2] at hv; rw [hc, ← hv]; first | exact c2 | (rw [← c2]; congr 2; omega)
theorem cellsN_rep : ∀ m : Nat, cellsN (List.replicate m (0, 0, 0)) = List.replicate (m * 3) (.int .i64 0)
  | 0 => rfl
  | m + 1 => by
    rw [List.replicate_succ, show (m + 1) * 3 = m * 3 + 1 + 1 + 1 by omega, List.replicate_succ, List.replicate_succ, List.replicate_succ, ← cellsN_rep m]
    rfl
/-- The array behind the copy. -/
theorem whole_laid {X : List Nd} (h : X.length ≤ 40) : (List.replicate 120 (Value.int .i64 0)).take 0 ++ cellsN X ++ (List.replicate 120 (Value.int .i64 0)).drop (0 + (cellsN X).length) = cellsN (padN X) := by
  unfold padN
  rw [cellsN_app, cellsN_rep, List.drop_replicate, cellsN_len]
  simp
  congr 1
  omega

end Go.Proofs.YtnoajihlkjeknaaDoor
