/-
  Rows that lie apart: what the specification's way through a body keeps in memory.
-/
import Derived.Test.YtljnciclbjcinaaGreatDoorRows
import Derived.Test.YtljnciclbjcinaaGreatDoorOwn
import Derived.Deep.AppendLies
namespace Go.Proofs.YtljnciclbjcinaaGreatDoor
open Go.RowKit

def nv (l : List Nat) : List Value := l.map fun (k : Nat) => Value.int .i64 (k : Int)
theorem nv_app (l m : List Nat) : nv l ++ nv m = nv (l ++ m) := by simp [nv]
theorem nv_len (l : List Nat) : (nv l).length = l.length := by simp [nv]
def outRow (o : Nat → Nat) (n : Nat) : Array Value := ((List.range n).map fun (k : Nat) => Value.int .i64 ((o k : Nat) : Int)).toArray
theorem outRow_set (o : Nat → Nat) (n k e : Nat) : (outRow o n).setIfInBounds k (.int .i64 (e : Int)) = outRow (fun j => if j = k then e else o j) n := by
  apply Array.ext
  · simp [outRow]
  · intro i h1 h2
    simp only [outRow, List.setIfInBounds_toArray, List.getElem_toArray, List.getElem_set, List.getElem_map, List.getElem_range]
    by_cases h : k = i
    · subst h; simp
    · have : ¬ i = k := fun e => h e.symm
      simp [h, this]

theorem made_i64 (n : Nat) : madeCells (Value.int .i64 0).cells n = outRow (fun _ => 0) n := by
  apply Array.ext
  · simp [madeCells, outRow]
  · intro i h1 h2
    have hn : i < n := by simpa [outRow] using h2
    have e1 : (madeCells (Value.int .i64 0).cells n)[i]? = some (.int .i64 0) := by simp [madeCells, Value.cells, hn, Nat.mod_one]
    have e2 : (outRow (fun _ => 0) n)[i]? = some (.int .i64 0) := by simp [outRow, hn]
    rw [Array.getElem?_eq_getElem h1] at e1
    rw [Array.getElem?_eq_getElem h2] at e2
    simp only [Option.some.injEq] at e1 e2
    rw [e1, e2]
/-- A row of one cell that is new. -/
theorem own_new (w : World) (B : Nat) (e : TypeId) (u : Value) (hB : B ≤ w.heap.size) : (w.alloc (.cells #[u] e)).ownsRow B e 1 (.slice (some ⟨w.heap.size, 0, none⟩) 1 1) 1 [u] :=
  ⟨rfl, Or.inr ⟨w.heap.size, 1, #[u], rfl, hB, heap_alloc_new _ _, by omega, by unfold maxLen; omega, rfl, rfl⟩⟩
theorem one_new (w : World) (x : Value) (t : TypeId) (g : Nat) (hg : g = w.heap.size) : ∀ j u, [x][j]? = some u → (w.alloc (.cells #[x] t)).cell? ((⟨g, 0, none⟩ : Addr).add j) = some u := by subst hg; exact cell_one_new w x t
theorem own_alloc {w : World} {B : Nat} {e : TypeId} {s n : Nat} {v : Value} {xs : List Value} (h : w.ownsRow B e s v n xs) (o : Obj) : (w.alloc o).ownsRow B e s v n xs := h.alloc o

/-- A block of an owned row. -/
theorem own_at {w : World} {B : Nat} {e : TypeId} {s n : Nat} {v : Value} {xs : List Value} (h : w.ownsRow B e s v n xs) {g : Nat} (hg : v.ownBlock = some g) : ∃ cur, w.heap[g]? = some (.cells cur e (0, 0)) ∧ B ≤ g := by
  rcases h.2 with ⟨rfl, _⟩ | ⟨g', cap, cur, rfl, hB, hh, _⟩
  · simp [Value.ownBlock] at hg
  · simp [Value.ownBlock] at hg; subst hg; exact ⟨cur, hh, hB⟩
theorem own_keep {w w' : World} {B : Nat} {e : TypeId} {s n : Nat} {v : Value} {xs : List Value} (h : w.ownsRow B e s v n xs) (hk : ∀ g, v.ownBlock = some g → w'.heap[g]? = w.heap[g]?) : w'.ownsRow B e s v n xs := by
  refine ⟨h.1, ?_⟩
  rcases h.2 with h0 | ⟨g, cap, cur, h1, h2, h3, h4⟩
  · exact Or.inl h0
  · exact Or.inr ⟨g, cap, cur, h1, h2, (hk g (by rw [h1]; rfl)).trans h3, h4⟩
theorem own_pos {w : World} {B : Nat} {e : TypeId} {s n : Nat} {v : Value} {xs : List Value} (h : w.ownsRow B e s v n xs) (hn : 0 < n) : ∃ g cap, v = .slice (some ⟨g, 0, none⟩) n cap ∧ n ≤ cap := by
  rcases h.2 with ⟨_, h0⟩ | ⟨g, cap, cur, rfl, _, _, hc, _⟩
  · omega
  · exact ⟨g, cap, rfl, hc⟩
theorem own_take {w : World} {B : Nat} {e : TypeId} {s n g cap : Nat} {xs : List Value} (h : w.ownsRow B e s (.slice (some ⟨g, 0, none⟩) (n + 1) cap) (n + 1) xs) : w.ownsRow B e s (.slice (some ⟨g, 0, none⟩) n cap) n (xs.take (n * s)) := by
  have hl := h.1
  have e1 : (n + 1) * s = n * s + s := Nat.succ_mul n s
  refine ⟨by rw [List.length_take, hl]; omega, Or.inr ?_⟩
  rcases h.2 with ⟨h0, _⟩ | ⟨g', cap', cur, h1, h2, h3, h4, h5, h6, h7⟩
  · simp at h0
  · simp only [Value.slice.injEq, Option.some.injEq, Addr.mk.injEq] at h1
    obtain ⟨⟨rfl, _⟩, _, rfl⟩ := h1
    refine ⟨g, cap, cur, rfl, h2, h3, by omega, h5, h6, ?_⟩
    rw [← h7, List.take_take]
    congr 1; omega
theorem own_set {w : World} {B : Nat} {e : TypeId} {s n g cap : Nat} {xs : List Value} (h : w.ownsRow B e s (.slice (some ⟨g, 0, none⟩) n cap) n xs) (j : Nat) (u : Value) : (w.setCell ⟨g, j, none⟩ u).ownsRow B e s (.slice (some ⟨g, 0, none⟩) n cap) n (xs.set j u) := by
  refine ⟨by rw [List.length_set]; exact h.1, Or.inr ?_⟩
  rcases h.2 with ⟨h0, _⟩ | ⟨g', cap', cur, h1, h2, h3, h4, h5, h6, h7⟩
  · simp at h0
  · simp only [Value.slice.injEq, Option.some.injEq, Addr.mk.injEq] at h1
    obtain ⟨⟨rfl, _⟩, _, rfl⟩ := h1
    refine ⟨g, cap, _, rfl, h2, heap_setCell_same _ _ _ _ _ _ h3, h4, h5, by simpa using h6, ?_⟩
    rw [← h7]
    simp only [Array.toList_setIfInBounds, List.take_set]
theorem apart_types {w : World} {g h : Nat} {a b : Array Value} {t u : TypeId} (hg : w.heap[g]? = some (.cells a t (0, 0))) (hh : w.heap[h]? = some (.cells b u (0, 0))) (hne : t ≠ u) : g ≠ h := by
  intro e; subst e; rw [hg] at hh; simp at hh; exact hne hh.2

/-- The rows of the way from the front: what is told, the open blocks, which have no else any more, what lies in each. -/
structure SI (w : World) (B gout n : Nat) (o : Nat → Nat) (lo : Nat) (E : List Bool) (X : List (List Nat)) (vo ve vi : Value) (vs : List Value) : Prop where
  out : w.heap[gout]? = some (.cells (outRow o n) 3 (0, 0))
  outB : B ≤ gout
  op : ∃ xs, w.ownsRow B 3 1 vo lo xs
  el : w.ownsRow B 4 1 ve E.length (E.map Value.bool)
  ins : w.ownsRow B 90 1 vi X.length vs
  each : ∀ (j : Nat) (v : Value) (x : List Nat), vs[j]? = some v → X[j]? = some x → w.ownsRow B 3 1 v x.length (nv x)
  apart : List.Pairwise (fun a b => a = none ∨ a ≠ b) (some gout :: vo.ownBlock :: vs.map Value.ownBlock)

theorem SI.vsLen {w : World} {B gout n : Nat} {o : Nat → Nat} {lo : Nat} {E : List Bool} {X : List (List Nat)} {vo ve vi : Value} {vs : List Value} (h : SI w B gout n o lo E X vo ve vi vs) : vs.length = X.length := by
  have := h.ins.1; omega

theorem SI.keep {w w' : World} {B gout n : Nat} {o : Nat → Nat} {lo : Nat} {E : List Bool} {X : List (List Nat)} {vo ve vi : Value} {vs : List Value} (h : SI w B gout n o lo E X vo ve vi vs) (hb : Below w.heap.size w w') : SI w' B gout n o lo E X vo ve vi vs := by
  obtain ⟨xs, hx⟩ := h.op
  have K : ∀ {e : TypeId} {s k : Nat} {v : Value} {ys : List Value}, w.ownsRow B e s v k ys → w'.ownsRow B e s v k ys := fun h2 => own_keep h2 fun g hg => by
    obtain ⟨cur, hc, _⟩ := own_at h2 hg
    exact hb.block g (lt_of_block hc)
  exact ⟨(hb.block gout (lt_of_block h.out)).trans h.out, h.outB, ⟨xs, K hx⟩, K h.el, K h.ins, fun j v x hv hx => K (h.each j v x hv hx), h.apart⟩

theorem vs_mem {vs : List Value} {X : List (List Nat)} (hl : vs.length = X.length) {j : Nat} {v : Value} (hv : vs[j]? = some v) : ∃ x, X[j]? = some x := by
  have : j < vs.length := by
    rcases Nat.lt_or_ge j vs.length with h | h
    · exact h
    · rw [List.getElem?_eq_none h] at hv; simp at hv
  exact ⟨X[j]'(by omega), List.getElem?_eq_getElem (by omega)⟩

/-- One more number behind the open blocks. -/
theorem SI.appOpen {w w' : World} {B gout n : Nat} {o : Nat → Nat} {lo : Nat} {E : List Bool} {X : List (List Nat)} {vo ve vi : Value} {vs : List Value} (h : SI w B gout n o lo E X vo ve vi vs)
    {g cap : Nat} {ys : List Value} (hown : w'.ownsRow B 3 1 (.slice (some ⟨g, 0, none⟩) (lo + 1) cap) (lo + 1) ys) (hg : w.grownBy w' vo.ownBlock) (hl : vo.ownBlock = some g ∨ g = w.heap.size) :
    SI w' B gout n o (lo + 1) E X (.slice (some ⟨g, 0, none⟩) (lo + 1) cap) ve vi vs := by
  obtain ⟨xs, hx⟩ := h.op
  have hp := h.apart
  simp only [List.pairwise_cons, List.mem_cons, forall_eq_or_imp] at hp
  obtain ⟨⟨p1, p2⟩, p3, p4⟩ := hp
  have K : ∀ k, k < w.heap.size → some k ≠ vo.ownBlock → w'.heap[k]? = w.heap[k]? := hg.block
  have kout : w'.heap[gout]? = w.heap[gout]? := K gout (lt_of_block h.out) (by simpa using p1)
  have KT : ∀ {e : TypeId} {s k : Nat} {v : Value} {ys : List Value}, 3 ≠ e → w.ownsRow B e s v k ys → w'.ownsRow B e s v k ys := fun hne h2 => own_keep h2 fun b hb => by
    obtain ⟨cur, hc, _⟩ := own_at h2 hb
    refine K b (lt_of_block hc) fun e => ?_
    obtain ⟨cur', hc', _⟩ := own_at hx e.symm
    exact apart_types hc' hc hne rfl
  have hfresh : ∀ b, b < w.heap.size → some b ≠ vo.ownBlock → b ≠ g := fun b hb hne e => by
    subst e
    rcases hl with h1 | h1
    · exact hne h1.symm
    · omega
  refine ⟨kout.trans h.out, h.outB, ⟨ys, hown⟩, KT (by decide) h.el, KT (by decide) h.ins, fun j v x hv hX => own_keep (h.each j v x hv hX) fun b hb => ?_, ?_⟩
  · obtain ⟨cur, hc, _⟩ := own_at (h.each j v x hv hX) hb
    refine K b (lt_of_block hc) fun e => ?_
    have hm : v.ownBlock ∈ vs.map Value.ownBlock := List.mem_map.2 ⟨v, List.mem_of_getElem? hv, rfl⟩
    rcases p3 _ hm with h1 | h1
    · rw [h1] at e; simp at e
    · exact h1 (by rw [hb, e])
  · simp only [List.pairwise_cons, List.mem_cons, forall_eq_or_imp]
    refine ⟨⟨Or.inr ?_, p2⟩, fun a ha => ?_, p4⟩
    · simp only [Value.ownBlock, ne_eq, Option.some.injEq]
      exact hfresh gout (lt_of_block h.out) (by simpa using p1)
    · right
      intro e
      obtain ⟨v, hv, rfl⟩ := List.mem_map.1 ha
      obtain ⟨j, hj⟩ := List.getElem?_of_mem hv
      obtain ⟨x, hX⟩ := vs_mem h.vsLen hj
      have hb : v.ownBlock = some g := by rw [← e]; rfl
      obtain ⟨cur, hc, _⟩ := own_at (h.each j v x hj hX) hb
      have hlt := lt_of_block hc
      refine hfresh g hlt (fun e2 => ?_) rfl
      rcases p3 _ ha with h1 | h1
      · rw [h1] at e2; simp at e2
      · exact h1 (by rw [hb, e2])

/-- All its blocks lie in the world. -/
theorem SI.lt {w : World} {B gout n : Nat} {o : Nat → Nat} {lo : Nat} {E : List Bool} {X : List (List Nat)} {vo ve vi : Value} {vs : List Value} (h : SI w B gout n o lo E X vo ve vi vs) : ∀ a ∈ some gout :: vo.ownBlock :: vs.map Value.ownBlock, a ≠ some w.heap.size := by
  intro a ha e
  obtain ⟨xs, hx⟩ := h.op
  simp only [List.mem_cons] at ha
  rcases ha with rfl | rfl | ha
  · simp only [Option.some.injEq] at e; have := lt_of_block h.out; omega
  · obtain ⟨cur, hc, _⟩ := own_at hx e; have := lt_of_block hc; omega
  · obtain ⟨v, hv, rfl⟩ := List.mem_map.1 ha
    obtain ⟨j, hj⟩ := List.getElem?_of_mem hv
    obtain ⟨x, hX⟩ := vs_mem h.vsLen hj
    obtain ⟨cur, hc, _⟩ := own_at (h.each j v x hj hX) e; have := lt_of_block hc; omega

theorem SI.appElse {w w' : World} {B gout n : Nat} {o : Nat → Nat} {lo : Nat} {E : List Bool} {X : List (List Nat)} {vo ve vi : Value} {vs : List Value} (h : SI w B gout n o lo E X vo ve vi vs)
    {g cap : Nat} {b : Bool} (hown : w'.ownsRow B 4 1 (.slice (some ⟨g, 0, none⟩) (E.length + 1) cap) (E.length + 1) (E.map Value.bool ++ [.bool b])) (hg : w.grownBy w' ve.ownBlock) :
    SI w' B gout n o lo (E ++ [b]) X vo (.slice (some ⟨g, 0, none⟩) (E.length + 1) cap) vi vs := by
  obtain ⟨xs, hx⟩ := h.op
  have KT : ∀ {e : TypeId} {s k : Nat} {v : Value} {ys : List Value}, 4 ≠ e → w.ownsRow B e s v k ys → w'.ownsRow B e s v k ys := fun hne h2 => own_keep h2 fun b hb => by
    obtain ⟨cur, hc, _⟩ := own_at h2 hb
    refine hg.block b (lt_of_block hc) fun e => ?_
    obtain ⟨cur', hc', _⟩ := own_at h.el e.symm
    exact apart_types hc' hc hne rfl
  have kout : w'.heap[gout]? = w.heap[gout]? := hg.block gout (lt_of_block h.out) fun e => by
    obtain ⟨cur', hc', _⟩ := own_at h.el e.symm
    exact apart_types hc' h.out (by decide) rfl
  exact ⟨kout.trans h.out, h.outB, ⟨xs, KT (by decide) hx⟩, by simpa using hown, KT (by decide) h.ins, fun j v x hv hX => KT (by decide) (h.each j v x hv hX), h.apart⟩

theorem SI.appIns {w w' : World} {B gout n : Nat} {o : Nat → Nat} {lo : Nat} {E : List Bool} {X : List (List Nat)} {vo ve vi : Value} {vs : List Value} (h : SI w B gout n o lo E X vo ve vi vs)
    {g cap : Nat} {v : Value} {x : List Nat} (hown : w'.ownsRow B 90 1 (.slice (some ⟨g, 0, none⟩) (X.length + 1) cap) (X.length + 1) (vs ++ [v])) (hg : w.grownBy w' vi.ownBlock)
    (hv : w.ownsRow B 3 1 v x.length (nv x)) (hap : ∀ a ∈ some gout :: vo.ownBlock :: vs.map Value.ownBlock, a = none ∨ a ≠ v.ownBlock) :
    SI w' B gout n o lo E (X ++ [x]) vo ve (.slice (some ⟨g, 0, none⟩) (X.length + 1) cap) (vs ++ [v]) := by
  obtain ⟨xs, hx⟩ := h.op
  have KT : ∀ {e : TypeId} {s k : Nat} {v : Value} {ys : List Value}, 90 ≠ e → w.ownsRow B e s v k ys → w'.ownsRow B e s v k ys := fun hne h2 => own_keep h2 fun b hb => by
    obtain ⟨cur, hc, _⟩ := own_at h2 hb
    refine hg.block b (lt_of_block hc) fun e => ?_
    obtain ⟨cur', hc', _⟩ := own_at h.ins e.symm
    exact apart_types hc' hc hne rfl
  have kout : w'.heap[gout]? = w.heap[gout]? := hg.block gout (lt_of_block h.out) fun e => by
    obtain ⟨cur', hc', _⟩ := own_at h.ins e.symm
    exact apart_types hc' h.out (by decide) rfl
  have hl := h.vsLen
  refine ⟨kout.trans h.out, h.outB, ⟨xs, KT (by decide) hx⟩, KT (by decide) h.el, by simpa using hown, fun j u y hu hy => ?_, ?_⟩
  · rcases Nat.lt_or_ge j vs.length with hj | hj
    · rw [List.getElem?_append_left hj] at hu
      rw [List.getElem?_append_left (by omega)] at hy
      exact KT (by decide) (h.each j u y hu hy)
    · have hj0 : j = vs.length := by
        have : j < (vs ++ [v]).length := by
          rcases Nat.lt_or_ge j (vs ++ [v]).length with h1 | h1
          · exact h1
          · rw [List.getElem?_eq_none h1] at hu; simp at hu
        simp at this; omega
      subst hj0
      rw [List.getElem?_append_right (by omega)] at hu
      rw [List.getElem?_append_right (by omega)] at hy
      simp [hl] at hu hy
      subst hu hy
      exact KT (by decide) hv
  · have hp := h.apart
    rw [List.map_append]
    show List.Pairwise _ ((some gout :: vo.ownBlock :: vs.map Value.ownBlock) ++ [v.ownBlock])
    rw [List.pairwise_append]
    refine ⟨hp, by simp, fun a ha c hc => ?_⟩
    simp only [List.mem_singleton] at hc
    subst hc
    exact hap a ha

theorem SI.setElse {w : World} {B gout n : Nat} {o : Nat → Nat} {lo : Nat} {E : List Bool} {b b' : Bool} {X : List (List Nat)} {vo vi : Value} {g k cap : Nat} {vs : List Value} (h : SI w B gout n o lo (E ++ [b]) X vo (.slice (some ⟨g, 0, none⟩) k cap) vi vs) (hk : k = E.length + 1) :
    SI (w.setCell ⟨g, E.length, none⟩ (.bool b')) B gout n o lo (E ++ [b']) X vo (.slice (some ⟨g, 0, none⟩) k cap) vi vs := by
  obtain ⟨xs, hx⟩ := h.op
  obtain ⟨cg, hcg, _⟩ := own_at h.el (g := g) rfl
  have K : ∀ j, j ≠ g → (w.setCell ⟨g, E.length, none⟩ (.bool b')).heap[j]? = w.heap[j]? := fun j hj => heap_setCell_other _ _ _ _ hj
  have KT : ∀ {e : TypeId} {s k : Nat} {v : Value} {ys : List Value}, 4 ≠ e → w.ownsRow B e s v k ys → (w.setCell ⟨g, E.length, none⟩ (.bool b')).ownsRow B e s v k ys := fun hne h2 => own_keep h2 fun b hb => by
    obtain ⟨cur, hc, _⟩ := own_at h2 hb
    exact K b fun e => apart_types hcg hc hne e.symm
  have hel := h.el
  simp only [List.length_append, List.length_cons, List.length_nil, Nat.zero_add] at hel
  subst hk
  have h2 := own_set hel E.length (.bool b')
  have e2 : ((E ++ [b]).map Value.bool).set E.length (.bool b') = (E ++ [b']).map Value.bool := by
    simp
  rw [e2] at h2
  exact ⟨(K gout fun e => apart_types hcg h.out (by decide) e.symm).trans h.out, h.outB, ⟨xs, KT (by decide) hx⟩, by simpa using h2, KT (by decide) h.ins, fun j v x hv hX => KT (by decide) (h.each j v x hv hX), h.apart⟩

/-- One more number in the innermost block. -/
theorem SI.setIns {w w' : World} {B gout n : Nat} {o : Nat → Nat} {lo : Nat} {E : List Bool} {Y : List (List Nat)} {x : List Nat} {vo ve : Value} {gi k cap : Nat} {us : List Value} {v : Value} (h : SI w B gout n o lo E (Y ++ [x]) vo ve (.slice (some ⟨gi, 0, none⟩) k cap) (us ++ [v])) (hk : k = Y.length + 1)
    {g c i : Nat} (hown : w'.ownsRow B 3 1 (.slice (some ⟨g, 0, none⟩) (x.length + 1) c) (x.length + 1) (nv x ++ [.int .i64 (i : Int)])) (hg : w.grownBy w' v.ownBlock) (hl : v.ownBlock = some g ∨ g = w.heap.size) :
    SI (w'.setCell ⟨gi, Y.length, none⟩ (.slice (some ⟨g, 0, none⟩) (x.length + 1) c)) B gout n o lo E (Y ++ [x ++ [i]]) vo ve (.slice (some ⟨gi, 0, none⟩) k cap) (us ++ [.slice (some ⟨g, 0, none⟩) (x.length + 1) c]) := by
  obtain ⟨xs, hx⟩ := h.op
  have hvl := h.vsLen
  simp only [List.length_append, List.length_cons, List.length_nil, Nat.zero_add] at hvl
  have hul : us.length = Y.length := by omega
  have hrow : w.ownsRow B 3 1 v x.length (nv x) := h.each us.length v x (by simp) (by rw [hul]; simp)
  have hins := h.ins
  simp only [List.length_append, List.length_cons, List.length_nil, Nat.zero_add] at hins
  subst hk
  obtain ⟨cg, hcg, _⟩ := own_at hins (g := gi) rfl
  have hp := h.apart
  rw [List.map_append] at hp
  have hp' : List.Pairwise (fun a b => a = none ∨ a ≠ b) ((some gout :: vo.ownBlock :: us.map Value.ownBlock) ++ [v.ownBlock]) := hp
  rw [List.pairwise_append] at hp'
  obtain ⟨q1, _, q2⟩ := hp'
  have hfar : ∀ a ∈ some gout :: vo.ownBlock :: us.map Value.ownBlock, ∀ b, a = some b → some b ≠ v.ownBlock := fun a ha b hb e => by
    rcases q2 a ha v.ownBlock (by simp) with h1 | h1
    · rw [h1] at hb; simp at hb
    · exact h1 (by rw [hb, e])
  -- what an append to v keeps
  have KI : ∀ b, b < w.heap.size → some b ≠ v.ownBlock → w'.heap[b]? = w.heap[b]? := hg.block
  have keepT : ∀ {e : TypeId} {s k : Nat} {u : Value} {ys : List Value}, 3 ≠ e → w.ownsRow B e s u k ys → w'.ownsRow B e s u k ys := fun hne h2 => own_keep h2 fun b hb => by
    obtain ⟨cur, hc, _⟩ := own_at h2 hb
    refine KI b (lt_of_block hc) fun e => ?_
    obtain ⟨cur', hc', _⟩ := own_at hrow e.symm
    exact apart_types hc' hc hne rfl
  have keepF : ∀ {s k : Nat} {u : Value} {ys : List Value}, u.ownBlock ∈ some gout :: vo.ownBlock :: us.map Value.ownBlock → w.ownsRow B 3 s u k ys → w'.ownsRow B 3 s u k ys := fun hm h2 => own_keep h2 fun b hb => by
    obtain ⟨cur, hc, _⟩ := own_at h2 hb
    exact KI b (lt_of_block hc) (hfar _ hm b hb)
  have hout' : w'.heap[gout]? = some (.cells (outRow o n) 3 (0, 0)) := (KI gout (lt_of_block h.out) (hfar _ (List.mem_cons_self ..) gout rfl)).trans h.out
  have hins' := keepT (by decide) hins
  obtain ⟨cg', hcg', _⟩ := own_at hins' (g := gi) rfl
  -- what the store keeps
  have K2 : ∀ j, j ≠ gi → (w'.setCell ⟨gi, Y.length, none⟩ (.slice (some ⟨g, 0, none⟩) (x.length + 1) c)).heap[j]? = w'.heap[j]? := fun j hj => heap_setCell_other _ _ _ _ hj
  have keep2 : ∀ {e : TypeId} {s k : Nat} {u : Value} {ys : List Value}, 90 ≠ e → w'.ownsRow B e s u k ys → (w'.setCell ⟨gi, Y.length, none⟩ (.slice (some ⟨g, 0, none⟩) (x.length + 1) c)).ownsRow B e s u k ys := fun hne h2 => own_keep h2 fun b hb => by
    obtain ⟨cur, hc, _⟩ := own_at h2 hb
    exact K2 b fun e => apart_types hcg' hc hne e.symm
  have hset := own_set hins' Y.length (.slice (some ⟨g, 0, none⟩) (x.length + 1) c)
  have e2 : (us ++ [v]).set Y.length (.slice (some ⟨g, 0, none⟩) (x.length + 1) c) = us ++ [.slice (some ⟨g, 0, none⟩) (x.length + 1) c] := by
    rw [← hul]; simp
  rw [e2] at hset
  refine ⟨(K2 gout fun e => apart_types hcg' hout' (by decide) e.symm).trans hout', h.outB, ⟨xs, keep2 (by decide) (keepF (by simp) hx)⟩, keep2 (by decide) (keepT (by decide) h.el), by simpa using hset, fun j u y hu hy => ?_, ?_⟩
  · rcases Nat.lt_or_ge j us.length with hj | hj
    · rw [List.getElem?_append_left hj] at hu
      rw [List.getElem?_append_left (by omega)] at hy
      refine keep2 (by decide) (keepF ?_ (h.each j u y (by rw [List.getElem?_append_left hj]; exact hu) (by rw [List.getElem?_append_left (by omega)]; exact hy)))
      exact List.mem_cons_of_mem _ (List.mem_cons_of_mem _ (List.mem_map.2 ⟨u, List.mem_of_getElem? hu, rfl⟩))
    · have hj0 : j = us.length := by
        rcases Nat.lt_or_ge j (us.length + 1) with h1 | h1
        · omega
        · rw [List.getElem?_eq_none (by simp; omega)] at hu; simp at hu
      subst hj0
      rw [List.getElem?_append_right (by omega)] at hu
      rw [List.getElem?_append_right (by omega)] at hy
      simp [hul] at hu hy
      subst hu hy
      refine keep2 (by decide) ?_
      have e3 : nv (x ++ [i]) = nv x ++ [.int .i64 (i : Int)] := by simp [nv]
      rw [e3, List.length_append]; exact hown
  · rw [List.map_append]
    show List.Pairwise _ ((some gout :: vo.ownBlock :: us.map Value.ownBlock) ++ [some g])
    rw [List.pairwise_append]
    refine ⟨q1, by simp, fun a ha c hc => ?_⟩
    simp only [List.mem_singleton] at hc
    subst hc
    by_cases hn : a = none
    · exact Or.inl hn
    · right
      intro e
      rcases hl with h1 | h1
      · exact hfar a ha g e h1.symm
      · refine h.lt a ?_ (by rw [e, h1])
        rw [List.map_append]
        show a ∈ (some gout :: vo.ownBlock :: us.map Value.ownBlock) ++ [v.ownBlock]
        exact List.mem_append_left _ ha

theorem SI.setOut {w : World} {B gout n : Nat} {o : Nat → Nat} {lo : Nat} {E : List Bool} {X : List (List Nat)} {vo ve vi : Value} {vs : List Value} (h : SI w B gout n o lo E X vo ve vi vs) (k e : Nat) :
    SI (w.setCell ⟨gout, k, none⟩ (.int .i64 (e : Int))) B gout n (fun j => if j = k then e else o j) lo E X vo ve vi vs := by
  obtain ⟨xs, hx⟩ := h.op
  have hp := h.apart
  simp only [List.pairwise_cons] at hp
  have K : ∀ j, j ≠ gout → (w.setCell ⟨gout, k, none⟩ (.int .i64 (e : Int))).heap[j]? = w.heap[j]? := fun j hj => heap_setCell_other _ _ _ _ hj
  have keepT : ∀ {t : TypeId} {s k' : Nat} {u : Value} {ys : List Value}, 3 ≠ t → w.ownsRow B t s u k' ys → (w.setCell ⟨gout, k, none⟩ (.int .i64 (e : Int))).ownsRow B t s u k' ys := fun hne h2 => own_keep h2 fun b hb => by
    obtain ⟨cur, hc, _⟩ := own_at h2 hb
    exact K b fun e => apart_types h.out hc hne e.symm
  have keepF : ∀ {s k' : Nat} {u : Value} {ys : List Value}, u.ownBlock ∈ vo.ownBlock :: vs.map Value.ownBlock → w.ownsRow B 3 s u k' ys → (w.setCell ⟨gout, k, none⟩ (.int .i64 (e : Int))).ownsRow B 3 s u k' ys := fun hm h2 => own_keep h2 fun b hb => by
    refine K b fun eb => ?_
    rcases hp.1 _ hm with h1 | h1
    · simp at h1
    · exact h1 (by rw [hb, eb])
  refine ⟨?_, h.outB, ⟨xs, keepF (List.mem_cons_self ..) hx⟩, keepT (by decide) h.el, keepT (by decide) h.ins, fun j v x hv hX => keepF (List.mem_cons_of_mem _ (List.mem_map.2 ⟨v, List.mem_of_getElem? hv, rfl⟩)) (h.each j v x hv hX), h.apart⟩
  rw [← outRow_set]
  exact heap_setCell_same _ _ _ _ _ _ h.out

/-- A cell of another kind of block, behind an append. -/
theorem grown_other {w w' : World} {B : Nat} {e t : TypeId} {s n : Nat} {v : Value} {xs : List Value} {g : Nat} {A : Array Value} (hown : w.ownsRow B e s v n xs) (hg : w.grownBy w' v.ownBlock) (hb : w.heap[g]? = some (.cells A t (0, 0))) (hne : e ≠ t) : w'.heap[g]? = some (.cells A t (0, 0)) := by
  rw [hg.block g (lt_of_block hb) fun e2 => ?_]
  · exact hb
  · obtain ⟨cur, hc, _⟩ := own_at hown e2.symm
    exact apart_types hc hb hne rfl
theorem own_cell {w : World} {B : Nat} {e : TypeId} {s n g cap : Nat} {xs : List Value} (h : w.ownsRow B e s (.slice (some ⟨g, 0, none⟩) n cap) n xs) {j : Nat} {u : Value} (hu : xs[j]? = some u) : w.cell? ⟨g, j, none⟩ = some u ∧ w.frozen? ⟨g, j, none⟩ = false := by
  rcases h.2 with ⟨h0, _⟩ | ⟨g', cap', cur, h1, h2, h3, h4, h5, h6, h7⟩
  · simp at h0
  · simp only [Value.slice.injEq, Option.some.injEq, Addr.mk.injEq] at h1
    obtain ⟨⟨rfl, _⟩, _, rfl⟩ := h1
    refine ⟨?_, by simp [World.frozen?, h3]⟩
    rw [← h7, List.getElem?_take] at hu
    have hj : j < n * s := by
      rcases Nat.lt_or_ge j (n * s) with h8 | h8
      · exact h8
      · rw [if_neg (by omega)] at hu; simp at hu
    rw [if_pos hj, Array.getElem?_toList] at hu
    simp [World.cell?, h3, hu]

/-- The innermost block is over. -/
theorem SI.pop {w : World} {B gout n : Nat} {o : Nat → Nat} {lo : Nat} {E : List Bool} {b : Bool} {Y : List (List Nat)} {x : List Nat} {go_ ge gi k2 k3 co ce ci : Nat} {vs : List Value}
    (h : SI w B gout n o (lo + 1) (E ++ [b]) (Y ++ [x]) (.slice (some ⟨go_, 0, none⟩) (lo + 1) co) (.slice (some ⟨ge, 0, none⟩) k2 ce) (.slice (some ⟨gi, 0, none⟩) k3 ci) vs) (hk2 : k2 = E.length + 1) (hk3 : k3 = Y.length + 1) :
    SI w B gout n o lo E Y (.slice (some ⟨go_, 0, none⟩) lo co) (.slice (some ⟨ge, 0, none⟩) E.length ce) (.slice (some ⟨gi, 0, none⟩) Y.length ci) (vs.take Y.length) := by
  obtain ⟨xs, hx⟩ := h.op
  have hel := h.el
  have hins := h.ins
  simp only [List.length_append, List.length_cons, List.length_nil, Nat.zero_add] at hel hins
  subst hk2 hk3
  have h1 := own_take hx
  have h2 := own_take hel
  have h3 := own_take hins
  rw [Nat.mul_one] at h2 h3
  have e2 : ((E ++ [b]).map Value.bool).take E.length = E.map Value.bool := by
    rw [← List.map_take]; simp
  rw [e2] at h2
  refine ⟨h.out, h.outB, ⟨_, h1⟩, h2, h3, fun j v y hv hy => ?_, ?_⟩
  · have hj : j < Y.length := by
      rcases Nat.lt_or_ge j Y.length with h4 | h4
      · exact h4
      · rw [List.getElem?_eq_none h4] at hy; simp at hy
    refine h.each j v y ?_ (by rw [List.getElem?_append_left hj]; exact hy)
    rw [List.getElem?_take] at hv; simpa [hj] using hv
  · refine h.apart.sublist ?_
    refine List.Sublist.cons_cons _ (List.Sublist.cons_cons _ ?_)
    rw [List.map_take]; exact List.take_sublist _ _

end Go.Proofs.YtljnciclbjcinaaGreatDoor
