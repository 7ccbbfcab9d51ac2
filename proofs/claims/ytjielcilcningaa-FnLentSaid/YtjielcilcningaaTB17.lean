/-
  A handle is lent, and given back: both sides. (Made by a generator.)
-/
import Derived.Test.YtjielcilcningaaTB16
namespace Go.Proofs.Ytjielcilcningaa
open Go.ChangeShapes Go.WideShapes Go.ChangeAt Go.RowKit Go.Maps

theorem hv_get (S : List Hd) (i : Nat) : (hv S)[i]? = (S[i / 6]?).bind (fun h => (hdC h)[i % 6]?) := by
  by_cases h : i / 6 < S.length
  · rw [List.getElem?_eq_getElem h]
    have := hv_at S (i / 6) h (i % 6) (by omega)
    rw [show i / 6 * 6 + i % 6 = i by omega] at this
    exact this
  · rw [List.getElem?_eq_none (l := hv S) (by rw [hv_len]; omega), List.getElem?_eq_none (l := S) (by omega)]
    rfl
/-- A handle lent as often as said. -/
def lendH (h : Hd) (x : Int) : Hd := ⟨h.u, h.r, h.p, h.o, x, h.s⟩
theorem hv_setL (S : List Hd) (k : Nat) (hk : k < S.length) (x : Int) : (hv S).set (k * 6 + 4) (.int .i64 x) = hv (S.set k (lendH S[k] x)) := by
  apply List.ext_getElem?
  intro i
  rw [List.getElem?_set, hv_get, hv_get, List.getElem?_set]
  by_cases e : k = i / 6
  · subst e
    rw [List.getElem?_eq_getElem hk]
    have hm : i % 6 = 0 ∨ i % 6 = 1 ∨ i % 6 = 2 ∨ i % 6 = 3 ∨ i % 6 = 4 ∨ i % 6 = 5 := by omega
    rcases hm with hm | hm | hm | hm | hm | hm
    all_goals
      rw [hm]
      simp only [hk, if_true, Option.bind_some]
      first
        | (rw [if_neg (by omega)]; rfl)
        | (rw [if_pos (by omega), if_pos (by rw [hv_len]; omega)]; rfl)
  · rw [if_neg (by omega), if_neg e]
theorem row_pos {w : World} {B : Nat} {e : TypeId} {s n : Nat} {a : Option Addr} {c : Nat} {xs : List Value} (h : w.ownsRow B e s (.slice a n c) n xs) (hn : 0 < n) : ∃ q, a = some ⟨q, 0, none⟩ ∧ B ≤ q ∧ q < w.heap.size := by
  rcases h.2 with ⟨h0, h1⟩ | ⟨q, cap, cur, h0, h1, h2, _⟩
  · omega
  · simp only [Value.slice.injEq] at h0
    exact ⟨q, h0.1, h1, lt_of_block h2⟩
theorem OT.setL {B : Nat} {w : World} {y m q n c : Nat} {S : List Hd} {F : List Int} (h : OT B w y m S F (.slice (some ⟨q, 0, none⟩) n c)) (hn : S.length = n) (k : Nat) (hk : k < S.length) (x : Int) : OT B (w.setCell ⟨q, k * 6 + 4, none⟩ (.int .i64 x)) y m (S.set k (lendH S[k] x)) F (.slice (some ⟨q, 0, none⟩) n c) := by
  have hq := own_at h.row rfl
  obtain ⟨cur, hc, _⟩ := hq
  refine ⟨h.xB, h.mB, (heap_setCell_other _ ⟨q, _, none⟩ y _ (fun e => ?_)).trans h.xb, ?_, h.free.kept (heap_setCell_other _ ⟨q, _, none⟩ m _ (fun e => map_ne hc h.free e.symm))⟩
  · have e' : y = q := e
    have hx := h.xb
    rw [e', hc] at hx
    simp at hx
  · have h2 := h.row
    rw [hn] at h2
    rw [List.length_set, ← hv_setL, hn]
    exact own_set h2 _ _
theorem TabO.setL {B : Nat} {w : World} {q n c : Nat} {u : Value} {S : List Hd} {F : List Int} (h : TabO B w (.slice (some ⟨q, 0, none⟩) n c) u S F) (hn : S.length = n) (k : Nat) (hk : k < S.length) (x : Int) : TabO B (w.setCell ⟨q, k * 6 + 4, none⟩ (.int .i64 x)) (.slice (some ⟨q, 0, none⟩) n c) u (S.set k (lendH S[k] x)) F := by
  obtain ⟨cur, hc, _⟩ := own_at h.hds rfl
  refine ⟨?_, own_keep h.ints (fun g hg => heap_setCell_other _ ⟨q, _, none⟩ g _ (fun e => ?_))⟩
  · have h2 := h.hds
    rw [hn] at h2
    rw [List.length_set, ← hv_setL, hn]
    exact own_set h2 _ _
  · obtain ⟨cur', hc', _⟩ := own_at h.ints hg
    have e' : g = q := e
    rw [e', hc] at hc'
    simp at hc'
theorem find_ok {S : List Hd} {x res : Int} {H : Hd} (h : FindIs S x res H 0) : ∃ k, ∃ h : k < S.length, x = (k : Int) ∧ S[k] = H ∧ H.u = true := by
  rcases h with ⟨_, _, h⟩ | ⟨k, f, hk, hx, hf, ⟨_, _, h⟩ | ⟨_, _, _, h⟩ | ⟨h1, _, rfl, _⟩⟩
  · cases h
  · cases h
  · cases h
  · exact ⟨k, hk, hx, hf, h1⟩

set_option maxRecDepth 100000 in
set_option maxHeartbeats 1600000 in
theorem implTold (B y m : Nat) (v : Value) (S : List Hd) (F : List Int) (w : World) (hot : Hid (OT B w y m S F v)) (lF : F.length ≤ 1048576) :
    Calls Try.prog 22 #[.pointer (some ⟨y, 0, none⟩)] w fun e w' => ∃ v u, e = .returned (.agg #[v, u]) ∧ Hid (TabO B w' v u S F) ∧ Below w.heap.size w w' := by
  obtain ⟨ad, cp, rfl, _, _⟩ := own_hds hot.out.row
  obtain ⟨g, hg⟩ : ∃ g, w.heap.size = g := ⟨_, rfl⟩
  obtain ⟨V, hV⟩ : ∃ W, (w.alloc (.cells #[.slice none 0 0, .slice none 0 0] 26)) = W := ⟨_, rfl⟩
  have hbV : Below w.heap.size w V := by rw [← hV]; exact (bel_alloc (Below.refl _ _) _)
  have hzV : V.heap.size = g + 1 := by rw [← hV, ← hg]; simp
  have br : V.heap[g]? = some (.cells #[.slice none 0 0, .slice none 0 0] 26 (0, 0)) := by
    have h := heap_alloc_new w (.cells #[.slice none 0 0, .slice none 0 0] 26)
    have e : w.heap.size = g := by exact hg
    rw [e] at h
    rw [← hV]
    exact h
  have HBV : Hid (Below w.heap.size w V ∧ w.heap.size = g) := ⟨hbV, hg⟩
  have HB : Hid (Below w.heap.size w V) := hbV
  have LB : Hid (g + 1 ≤ V.heap.size) := Nat.le_of_eq hzV.symm
  have by_ : V.heap[y]? = some (.cells #[.slice ad S.length cp, .map (some m)] 63 (0, 0)) := (hbV.block y (lt_of_block hot.out.xb)).trans hot.out.xb
  have HY : Hid (y < g) := by unfold Hid; rw [← hg]; exact lt_of_block hot.out.xb
  have HLT : Hid (∀ q, (Value.slice ad S.length cp).ownBlock = some q → q < g) := fun q hq => by rw [← hg]; exact (hot.out.row.lt q hq).2
  have RV : Hid (V.ownsRow B 28 6 (.slice ad S.length cp) S.length (hv S)) := ownT_kept hot.out.row hbV
  have OR : Hid (∀ w', Below w.heap.size w w' → Calls Try.prog 41 #[.pointer (some ⟨y, 0, none⟩)] w' fun e w'' => ∃ u, e = .returned u ∧ w''.ownsRow w'.heap.size 3 1 u F.length (iv F) ∧ Below w'.heap.size w' w'') := fun w' hb => by
    have h := hot.out.below hb
    exact implOrder y m F w' ((cell_of_block h.xb 1).trans rfl) (lt_of_block h.xb) h.free lF
  have HBB : Hid (B ≤ w.heap.size) := by unfold Hid; have h1 := hot.out.xB; have h2 := lt_of_block hot.out.xb; omega
  clear hot hbV hzV
  go_enter Try.func22, Try.ntmps22
  go_wp2
  clear hV hg
  refine wh_begin (fun w' : World => w'.heap[y]? = some (.cells #[.slice ad S.length cp, .map (some m)] 63 (0, 0))) (by kernel_rfl) ?_
  obtain ⟨w1, hD⟩ : ∃ W, V.drew = W := ⟨_, rfl⟩
  have hb : Below V.heap.size V w1 := by rw [← hD]; exact (Below.refl _ _).drew
  rw [hD]
  replace br := (hb.block (g) (lt_of_block br)).trans br
  replace by_ := (hb.block (y) (lt_of_block by_)).trans by_
  replace RV : Hid (w1.ownsRow B 28 6 (.slice ad S.length cp) S.length (hv S)) := ownT_kept RV.out hb
  replace HB : Hid (Below w.heap.size w w1) := bel_step HB.out hb
  replace LB : Hid (g + 1 ≤ w1.heap.size) := Nat.le_trans LB.out hb.size
  clear hb hD
  refine wh_take 0 (some 3) (.pointer (some ⟨y, 0, none⟩)) rfl rfl (by kernel_rfl) (by kernel_rfl) (by kernel_rfl) (fun _ _ _ h => h) by_ (by rfl) (fun _ _ => by kernel_rfl) ?_
  simp only [Act.put, List.setIfInBounds_toArray, List.set_cons_zero, List.set_cons_succ]
  refine wh_take 1 (some 4) (.pointer (some ⟨y, 0, none⟩)) rfl rfl (by kernel_rfl) (by kernel_rfl) (by kernel_rfl) (fun _ _ _ h => h) by_ (by rfl) (fun _ _ => by kernel_rfl) ?_
  simp only [Act.put, List.setIfInBounds_toArray, List.set_cons_zero, List.set_cons_succ]
  refine wh_take 2 (some 5) (.pointer (some ⟨y, 0, none⟩)) rfl rfl (by kernel_rfl) (by kernel_rfl) (by kernel_rfl) (fun _ _ _ h => h) by_ (by rfl) (fun _ _ => by kernel_rfl) ?_
  simp only [Act.put, List.setIfInBounds_toArray, List.set_cons_zero, List.set_cons_succ]
  refine wh_take 3 (some 6) (.slice ad S.length cp) rfl rfl (by kernel_rfl) (by kernel_rfl) (by kernel_rfl) (fun _ _ _ h => h) by_ (by rfl) (fun w' hS => by have hq : w'.heap[y]? = some (.cells #[.slice ad S.length cp, .map (some m)] 63 (0, 0)) := hS; have q0 : w'.cell? ⟨y, 0, none⟩ = some (.slice ad S.length cp) := (cell_of_block hq 0).trans rfl; clear hq hS; go_simp) ?_
  simp only [Act.put, List.setIfInBounds_toArray, List.set_cons_zero, List.set_cons_succ]
  refine wh_take 4 (some 7) (.pointer (some ⟨y, 0, none⟩)) rfl rfl (by kernel_rfl) (by kernel_rfl) (by kernel_rfl) (fun _ _ _ h => h) by_ (by rfl) (fun _ _ => by kernel_rfl) ?_
  simp only [Act.put, List.setIfInBounds_toArray, List.set_cons_zero, List.set_cons_succ]
  refine wh_call 5 (some 8) 41 #[.pointer (some ⟨y, 0, none⟩)] (by kernel_rfl) rfl rfl (by rfl) (by kernel_rfl) ?_
  refine (OR.out w1 HB.out).mono ?_
  rintro e w2 ⟨u, rfl, hu, hb⟩
  obtain ⟨bd, dp, rfl, _⟩ := ownT_shape hu
  have RU : Hid (w2.ownsRow (g + 1) 3 1 (.slice bd F.length dp) F.length (iv F)) := ownT_base hu LB.out
  clear hu
  replace br := (hb.block (g) (lt_of_block br)).trans br
  replace by_ := (hb.block (y) (lt_of_block by_)).trans by_
  replace RV : Hid (w2.ownsRow B 28 6 (.slice ad S.length cp) S.length (hv S)) := ownT_kept RV.out hb
  replace HB : Hid (Below w.heap.size w w2) := bel_step HB.out hb
  replace LB : Hid (g + 1 ≤ w2.heap.size) := Nat.le_trans LB.out hb.size
  clear hb
  refine ⟨_, rfl, by_, ?_⟩
  simp only [Act.put, List.setIfInBounds_toArray, List.set_cons_zero, List.set_cons_succ]
  refine wh_val 6 (some 9) (.agg #[.slice ad S.length cp, .slice bd F.length dp]) w2 (by kernel_rfl) rfl rfl (by rfl) (by first | rfl | (go_simp; rfl) | go_simp) by_ ?_
  simp only [Act.put, List.setIfInBounds_toArray, List.set_cons_zero, List.set_cons_succ]
  have pr0 : w2.cell? ⟨g, 0, none⟩ = some (.slice none 0 0) := (cell_of_block br 0).trans rfl
  have pr1 : w2.cell? ⟨g, 1, none⟩ = some (.slice none 0 0) := (cell_of_block br 1).trans rfl
  have fr0 := free_of_block br 0
  have fr1 := free_of_block br 1
  obtain ⟨w3, hNw3⟩ : ∃ G, ((w2.setCell ⟨g, 0, none⟩ (.slice ad S.length cp)).setCell ⟨g, 1, none⟩ (.slice bd F.length dp)) = G := ⟨_, rfl⟩
  obtain ⟨s1, s2, s3, s4⟩ := set2T br _ _ hNw3
  replace by_ := (s2 (y) (by have := HY.out; omega)).trans by_
  replace RV : Hid (w3.ownsRow B 28 6 (.slice ad S.length cp) S.length (hv S)) := own_keep RV.out (fun q hq => s2 q (by have := HLT.out q hq; omega))
  replace RU : Hid (w3.ownsRow (g + 1) 3 1 (.slice bd F.length dp) F.length (iv F)) := own_keep RU.out (fun q hq => s2 q (by have := (RU.out.lt q hq).1; omega))
  replace HB : Hid (Below w.heap.size w w3) := s4 _ _ (by have := HBV.out.2; omega) HB.out
  replace LB : Hid (g + 1 ≤ w3.heap.size) := by unfold Hid; rw [s3]; exact LB.out
  replace br := s1
  clear s1 s2 s3 s4
  refine wh_skip 7 none w3 (by kernel_rfl) rfl rfl (by rfl) (by rw [← hNw3]; go_simp) by_ ?_
  simp only [Act.put]
  clear pr0 pr1 fr0 fr1 hNw3
  refine wh_done (by kernel_rfl) ?_
  clear OR
  have zr0 : w3.cell? ⟨g, 0, none⟩ = some (.slice ad S.length cp) := (cell_of_block br 0).trans rfl
  have zr1 : w3.cell? ⟨g, 1, none⟩ = some (.slice bd F.length dp) := (cell_of_block br 1).trans rfl
  go_wp2
  exact bodyPost_ret (v := .agg #[.slice ad S.length cp, .slice bd F.length dp]) (by simp [results, Try.results22, go_sem, zr0, zr1]) rfl ⟨_, _, rfl, ⟨RV.out, ownT_base RU.out (by have := HBB.out; have := HBV.out.2; omega)⟩, HB.out⟩

end Go.Proofs.Ytjielcilcningaa
