/-
  A table is opened for one of its handles: the program's side; the laws on good tables and on what is found. (Made by a generator.)
-/
import Derived.Test.YtjielcilcningaaTB15
namespace Go.Proofs.Ytjielcilcningaa
open Go.ChangeShapes Go.WideShapes Go.ChangeAt Go.RowKit Go.Maps

theorem OT.same {B : Nat} {w w' : World} {x m : Nat} {S : List Hd} {F : List Int} {v : Value} (h : OT B w x m S F v) (hs : ∀ q, B ≤ q → w'.heap[q]? = w.heap[q]?) : OT B w' x m S F v :=
  ⟨h.xB, h.mB, (hs x h.xB).trans h.xb, own_keep h.row (fun g hg => hs g (h.row.lt g hg).1), h.free.kept (hs m h.mB)⟩
/-- What is found, by what stands there. -/
def FindBy (res : Int) (H0 : Hd) (C0 : Int) (H : Hd) (C : Int) : Prop := (C0 = 2 ∧ H0 = zH ∧ H = zH ∧ C = 2) ∨ (C0 = 0 ∧ H0.r ≠ res ∧ H = zH ∧ C = 3) ∨ (C0 = 0 ∧ H0.r = res ∧ H = H0 ∧ C = 0)
theorem find_by {S : List Hd} {x res : Int} {H : Hd} {C : Int} (h : FindIs S x res H C) : ∃ H0 C0, UsedIs S x H0 C0 ∧ FindBy res H0 C0 H C := by
  rcases h with ⟨h0, rfl, rfl⟩ | ⟨k, f, hk, rfl, hf, ⟨h1, rfl, rfl⟩ | ⟨h1, h2, rfl, rfl⟩ | ⟨h1, h2, rfl, rfl⟩⟩
  · exact ⟨zH, 2, .inl ⟨h0, rfl, rfl⟩, .inl ⟨rfl, rfl, rfl, rfl⟩⟩
  · exact ⟨zH, 2, .inr ⟨k, f, hk, rfl, hf, .inl ⟨h1, rfl, rfl⟩⟩, .inl ⟨rfl, rfl, rfl, rfl⟩⟩
  · exact ⟨f, 0, .inr ⟨k, f, hk, rfl, hf, .inr ⟨h1, rfl, rfl⟩⟩, .inr (.inl ⟨rfl, h2, rfl, rfl⟩)⟩
  · exact ⟨_, 0, .inr ⟨k, _, hk, rfl, hf, .inr ⟨h1, rfl, rfl⟩⟩, .inr (.inr ⟨rfl, h2, rfl, rfl⟩)⟩
/-- What handleOf tells, and what it leaves. -/
def HofPost (w : World) (S : List Hd) (F : List Int) (x res : Int) (H : Hd) (C : Int) (e : Ending) (w' : World) : Prop :=
  Below w.heap.size w w' ∧ ∃ y m, e = .returned (.tuple #[.pointer (some ⟨y, 0, none⟩), hdV H, .int .i64 C]) ∧ ((GoodT S F ∧ FindIs S x res H C ∧ ∃ v, OT w.heap.size w' y m S F v) ∨ (¬ GoodT S F ∧ H = zH ∧ C = 1 ∧ OT w.heap.size w' y m [] [] (.slice none 0 0)))

theorem OT.base {B B' : Nat} {w : World} {x m : Nat} {S : List Hd} {F : List Int} {v : Value} (h : OT B w x m S F v) (hb : B' ≤ B) : OT B' w x m S F v := ⟨Nat.le_trans hb h.xB, Nat.le_trans hb h.mB, h.xb, ownT_base h.row hb, h.free⟩

set_option maxRecDepth 100000 in
set_option maxHeartbeats 3200000 in
theorem implHof (a b : Option Addr) (c d : Nat) (S : List Hd) (F : List Int) (x res : Int) (H : Hd) (C : Int) (w : World) (hS : Hid (Hds w a S)) (hF : Hid (Ints w b F)) (lS : S.length ≤ 1048576) (lF : F.length ≤ 1048576) (okF : Hid (∀ x ∈ F, -9223372036854775808 ≤ x ∧ x ≤ 9223372036854775807)) (hf : FindR S F x res H C) :
    Calls Try.prog 29 #[tabV a S.length c b F.length d, .int .i64 x, .int .i64 res] w fun e w' => HofPost w S F x res H C e w' := by
  obtain ⟨g, hg⟩ : ∃ g, w.heap.size = g := ⟨_, rfl⟩
  obtain ⟨V, hV⟩ : ∃ W, ((w.alloc (.cells #[.slice a S.length c, .slice b F.length d] 26)).alloc (.cells #[.bool false, .int .i64 0, .int .i64 0, .bool false, .int .i64 0, .int .i64 0] 28)) = W := ⟨_, rfl⟩
  have hbV : Below w.heap.size w V := by rw [← hV]; exact (bel_alloc (bel_alloc (Below.refl _ _) _) _)
  have hzV : V.heap.size = g + 1 + 1 := by rw [← hV, ← hg]; simp
  have bt : V.heap[g]? = some (.cells #[.slice a S.length c, .slice b F.length d] 26 (0, 0)) := by
    have h := heap_alloc_new w (.cells #[.slice a S.length c, .slice b F.length d] 26)
    have e : w.heap.size = g := by exact hg
    rw [e] at h
    rw [← hV]
    replace h := (Below.heap_alloc _ (.cells #[.bool false, .int .i64 0, .int .i64 0, .bool false, .int .i64 0, .int .i64 0] 28) _ (lt_of_block h)).trans h
    exact h
  have br : V.heap[g + 1]? = some (.cells #[.bool false, .int .i64 0, .int .i64 0, .bool false, .int .i64 0, .int .i64 0] 28 (0, 0)) := by
    have h := heap_alloc_new (w.alloc (.cells #[.slice a S.length c, .slice b F.length d] 26)) (.cells #[.bool false, .int .i64 0, .int .i64 0, .bool false, .int .i64 0, .int .i64 0] 28)
    have e : (w.alloc (.cells #[.slice a S.length c, .slice b F.length d] 26)).heap.size = g + 1 := by simp [hg]
    rw [e] at h
    rw [← hV]
    exact h
  have HBV : Hid (Below w.heap.size w V ∧ w.heap.size = g) := ⟨hbV, hg⟩
  have HB : Hid (Below w.heap.size w V) := hbV
  have LB : Hid (g + 1 + 1 ≤ V.heap.size) := Nat.le_of_eq hzV.symm
  have OP := implOpen a b c d S F V (hS.out.below hbV) (hF.out.below hbV) lS lF okF
  have HZV : Hid (V.heap.size = g + 1 + 1 ∧ g + 1 + 1 = w.heap.size + 1 + 1) := ⟨hzV, by omega⟩
  unfold tabV at OP ⊢
  clear hbV hzV hS hF lS lF okF
  have pt0 : V.cell? ⟨g, 0, none⟩ = some (.slice a S.length c) := (cell_of_block bt 0).trans rfl
  have pt1 : V.cell? ⟨g, 1, none⟩ = some (.slice b F.length d) := (cell_of_block bt 1).trans rfl
  go_enter Try.func29, Try.ntmps29
  go_wp2_with fail
  clear hV hg pt0 pt1
  refine (OP).mono ?_
  rintro e w1 ⟨hb, y, m, h⟩
  replace bt := (hb.block (g) (lt_of_block bt)).trans bt
  replace br := (hb.block (g + 1) (lt_of_block br)).trans br
  replace HB : Hid (Below w.heap.size w w1) := bel_step HB.out hb
  replace LB : Hid (g + 1 + 1 ≤ w1.heap.size) := Nat.le_trans LB.out hb.size
  clear hb
  clear OP
  rcases h with ⟨rfl, hgd, v, hot⟩ | ⟨rfl, hgd, hot⟩
  · rw [HZV.out.1] at hot
    have HO : Hid (OT (g + 1 + 1) w1 y m S F v) := hot
    have HF : Hid (GoodT S F ∧ FindIs S x res H C) := by
      rcases hf with h | h
      · exact h
      · exact absurd hgd h.1
    obtain ⟨H0, C0, hu, hby⟩ := find_by HF.out.2
    have US := implUsed (g + 1 + 1) y m v S F x H0 C0 w1 HO HF.out.1 hu
    unfold hdV at US
    clear hot hgd hf hu
    go_wp2_with fail
    refine (US).mono ?_
    rintro e w2 ⟨rfl, hb⟩
    replace bt := (hb.block (g) (lt_of_block bt)).trans bt
    replace br := (hb.block (g + 1) (lt_of_block br)).trans br
    replace HO : Hid (OT (g + 1 + 1) w2 y m S F v) := HO.out.below hb
    replace HB : Hid (Below w.heap.size w w2) := bel_step HB.out hb
    replace LB : Hid (g + 1 + 1 ≤ w2.heap.size) := Nat.le_trans LB.out hb.size
    clear hb
    clear US
    rcases hby with ⟨rfl, rfl, rfl, rfl⟩ | ⟨rfl, hne, rfl, rfl⟩ | ⟨rfl, heq, rfl, rfl⟩
    · obtain ⟨yh, hyh⟩ : ∃ z, w2.heap.size = z := ⟨_, rfl⟩
      obtain ⟨w3, hNw3⟩ : ∃ W, w2.alloc (.cells #[.bool zH.u, .int .i64 zH.r, .int .i64 zH.p, .bool zH.o, .int .i64 zH.l, .int .i64 zH.s] 28) = W := ⟨_, rfl⟩
      have hb : Below w2.heap.size w2 w3 := by rw [← hNw3]; exact bel_alloc (Below.refl _ _) _
      have hleyh : Hid (g + 1 + 1 ≤ yh) := by unfold Hid; rw [← hyh]; exact LB.out
      replace bt := (hb.block (g) (lt_of_block bt)).trans bt
      replace br := (hb.block (g + 1) (lt_of_block br)).trans br
      replace HO : Hid (OT (g + 1 + 1) w3 y m S F v) := HO.out.below hb
      replace HB : Hid (Below w.heap.size w w3) := bel_step HB.out hb
      replace LB : Hid (g + 1 + 1 ≤ w3.heap.size) := Nat.le_trans LB.out hb.size
      have bh : w3.heap[yh]? = some (.cells #[.bool zH.u, .int .i64 zH.r, .int .i64 zH.p, .bool zH.o, .int .i64 zH.l, .int .i64 zH.s] 28 (0, 0)) := by rw [← hNw3, ← hyh]; exact heap_alloc_new _ _
      clear hb
      have ph0 : w3.cell? ⟨yh, 0, none⟩ = some (.bool zH.u) := (cell_of_block bh 0).trans rfl
      have ph1 : w3.cell? ⟨yh, 1, none⟩ = some (.int .i64 zH.r) := (cell_of_block bh 1).trans rfl
      have ph2 : w3.cell? ⟨yh, 2, none⟩ = some (.int .i64 zH.p) := (cell_of_block bh 2).trans rfl
      have ph3 : w3.cell? ⟨yh, 3, none⟩ = some (.bool zH.o) := (cell_of_block bh 3).trans rfl
      have ph4 : w3.cell? ⟨yh, 4, none⟩ = some (.int .i64 zH.l) := (cell_of_block bh 4).trans rfl
      have ph5 : w3.cell? ⟨yh, 5, none⟩ = some (.int .i64 zH.s) := (cell_of_block bh 5).trans rfl
      go_wp2
      clear hNw3 hyh ph0 ph1 ph2 ph3 ph4 ph5
      refine wh_begin (fun w' : World => w'.heap[yh]? = some (.cells #[.bool zH.u, .int .i64 zH.r, .int .i64 zH.p, .bool zH.o, .int .i64 zH.l, .int .i64 zH.s] 28 (0, 0))) (by kernel_rfl) ?_
      obtain ⟨w4, hD⟩ : ∃ W, w3.drew = W := ⟨_, rfl⟩
      have hb : Below w3.heap.size w3 w4 := by rw [← hD]; exact (Below.refl _ _).drew
      rw [hD]
      replace bt := (hb.block (g) (lt_of_block bt)).trans bt
      replace br := (hb.block (g + 1) (lt_of_block br)).trans br
      replace bh := (hb.block (yh) (lt_of_block bh)).trans bh
      replace HO : Hid (OT (g + 1 + 1) w4 y m S F v) := HO.out.below hb
      replace HB : Hid (Below w.heap.size w w4) := bel_step HB.out hb
      replace LB : Hid (g + 1 + 1 ≤ w4.heap.size) := Nat.le_trans LB.out hb.size
      clear hb hD
      refine wh_take 0 (some 38) (.pointer (some ⟨y, 0, none⟩)) rfl rfl (by kernel_rfl) (by kernel_rfl) (by kernel_rfl) (fun _ _ _ h => h) bh (by rfl) (fun _ _ => by kernel_rfl) ?_
      simp only [Act.put, List.setIfInBounds_toArray, List.set_cons_zero, List.set_cons_succ]
      refine wh_take 1 (some 39) (.agg #[.bool zH.u, .int .i64 zH.r, .int .i64 zH.p, .bool zH.o, .int .i64 zH.l, .int .i64 zH.s]) rfl rfl (by kernel_rfl) (by kernel_rfl) (by kernel_rfl) (fun _ _ _ h => h) bh (by rfl) (fun w' hS => by have hq : w'.heap[yh]? = some (.cells #[.bool zH.u, .int .i64 zH.r, .int .i64 zH.p, .bool zH.o, .int .i64 zH.l, .int .i64 zH.s] 28 (0, 0)) := hS; have q0 : w'.cell? ⟨yh, 0, none⟩ = some (.bool zH.u) := (cell_of_block hq 0).trans rfl; have q1 : w'.cell? ⟨yh, 1, none⟩ = some (.int .i64 zH.r) := (cell_of_block hq 1).trans rfl; have q2 : w'.cell? ⟨yh, 2, none⟩ = some (.int .i64 zH.p) := (cell_of_block hq 2).trans rfl; have q3 : w'.cell? ⟨yh, 3, none⟩ = some (.bool zH.o) := (cell_of_block hq 3).trans rfl; have q4 : w'.cell? ⟨yh, 4, none⟩ = some (.int .i64 zH.l) := (cell_of_block hq 4).trans rfl; have q5 : w'.cell? ⟨yh, 5, none⟩ = some (.int .i64 zH.s) := (cell_of_block hq 5).trans rfl; clear hq hS; go_simp) ?_
      simp only [Act.put, List.setIfInBounds_toArray, List.set_cons_zero, List.set_cons_succ]
      refine wh_take 2 (some 40) (.int .i64 2) rfl rfl (by kernel_rfl) (by kernel_rfl) (by kernel_rfl) (fun _ _ _ h => h) bh (by rfl) (fun _ _ => by kernel_rfl) ?_
      simp only [Act.put, List.setIfInBounds_toArray, List.set_cons_zero, List.set_cons_succ]
      refine wh_val 3 (some 6) (.pointer (some ⟨y, 0, none⟩)) w4 (by kernel_rfl) rfl rfl (by rfl) (by rfl) bh ?_
      simp only [Act.put, List.setIfInBounds_toArray, List.set_cons_zero, List.set_cons_succ]
      have pr0 : w4.cell? ⟨g + 1, 0, none⟩ = some (.bool false) := (cell_of_block br 0).trans rfl
      have pr1 : w4.cell? ⟨g + 1, 1, none⟩ = some (.int .i64 0) := (cell_of_block br 1).trans rfl
      have pr2 : w4.cell? ⟨g + 1, 2, none⟩ = some (.int .i64 0) := (cell_of_block br 2).trans rfl
      have pr3 : w4.cell? ⟨g + 1, 3, none⟩ = some (.bool false) := (cell_of_block br 3).trans rfl
      have pr4 : w4.cell? ⟨g + 1, 4, none⟩ = some (.int .i64 0) := (cell_of_block br 4).trans rfl
      have pr5 : w4.cell? ⟨g + 1, 5, none⟩ = some (.int .i64 0) := (cell_of_block br 5).trans rfl
      have fr0 := free_of_block br 0
      have fr1 := free_of_block br 1
      have fr2 := free_of_block br 2
      have fr3 := free_of_block br 3
      have fr4 := free_of_block br 4
      have fr5 := free_of_block br 5
      obtain ⟨w5, hNw5⟩ : ∃ G, ((((((w4.setCell ⟨g + 1, 0, none⟩ (.bool zH.u)).setCell ⟨g + 1, 1, none⟩ (.int .i64 zH.r)).setCell ⟨g + 1, 2, none⟩ (.int .i64 zH.p)).setCell ⟨g + 1, 3, none⟩ (.bool zH.o)).setCell ⟨g + 1, 4, none⟩ (.int .i64 zH.l)).setCell ⟨g + 1, 5, none⟩ (.int .i64 zH.s)) = G := ⟨_, rfl⟩
      obtain ⟨s1, s2, s3, s4⟩ := set6T br _ _ _ _ _ _ hNw5
      replace bt := (s2 (g) (by omega)).trans bt
      replace bh := (s2 (yh) (by have := hleyh.out; omega)).trans bh
      replace HO : Hid (OT (g + 1 + 1) w5 y m S F v) := HO.out.same (fun q hq => s2 q (by omega))
      replace HB : Hid (Below w.heap.size w w5) := s4 _ _ (by have := HBV.out.2; omega) HB.out
      replace LB : Hid (g + 1 + 1 ≤ w5.heap.size) := by unfold Hid; rw [s3]; exact LB.out
      replace br := s1
      clear s1 s2 s3 s4
      refine wh_skip 4 none w5 (by kernel_rfl) rfl rfl (by rfl) (by rw [← hNw5]; go_simp) bh ?_
      simp only [Act.put]
      clear pr0 pr1 pr2 pr3 pr4 pr5 fr0 fr1 fr2 fr3 fr4 fr5 hNw5
      refine wh_val 5 (some 8) (.int .i64 2) w5 (by kernel_rfl) rfl rfl (by rfl) (by rfl) bh ?_
      simp only [Act.put, List.setIfInBounds_toArray, List.set_cons_zero, List.set_cons_succ]
      refine wh_done (by kernel_rfl) ?_
      have hpost : HofPost w S F x res zH 2 (.returned (.tuple #[.pointer (some ⟨y, 0, none⟩), .agg #[.bool zH.u, .int .i64 zH.r, .int .i64 zH.p, .bool zH.o, .int .i64 zH.l, .int .i64 zH.s], .int .i64 2])) w5 := ⟨HB.out, y, m, rfl, .inl ⟨HF.out.1, HF.out.2, v, HO.out.base (by have := HZV.out; omega)⟩⟩
      have zr0 : w5.cell? ⟨g + 1, 0, none⟩ = some (.bool zH.u) := (cell_of_block br 0).trans rfl
      have zr1 : w5.cell? ⟨g + 1, 1, none⟩ = some (.int .i64 zH.r) := (cell_of_block br 1).trans rfl
      have zr2 : w5.cell? ⟨g + 1, 2, none⟩ = some (.int .i64 zH.p) := (cell_of_block br 2).trans rfl
      have zr3 : w5.cell? ⟨g + 1, 3, none⟩ = some (.bool zH.o) := (cell_of_block br 3).trans rfl
      have zr4 : w5.cell? ⟨g + 1, 4, none⟩ = some (.int .i64 zH.l) := (cell_of_block br 4).trans rfl
      have zr5 : w5.cell? ⟨g + 1, 5, none⟩ = some (.int .i64 zH.s) := (cell_of_block br 5).trans rfl
      go_wp2
      exact bodyPost_ret (v := .tuple #[.pointer (some ⟨y, 0, none⟩), .agg #[.bool zH.u, .int .i64 zH.r, .int .i64 zH.p, .bool zH.o, .int .i64 zH.l, .int .i64 zH.s], .int .i64 2]) (by simp [results, Try.results29, go_sem, zr0, zr1, zr2, zr3, zr4, zr5]) rfl hpost
    · obtain ⟨yh, hyh⟩ : ∃ z, w2.heap.size = z := ⟨_, rfl⟩
      obtain ⟨w3, hNw3⟩ : ∃ W, w2.alloc (.cells #[.bool H0.u, .int .i64 H0.r, .int .i64 H0.p, .bool H0.o, .int .i64 H0.l, .int .i64 H0.s] 28) = W := ⟨_, rfl⟩
      have hb : Below w2.heap.size w2 w3 := by rw [← hNw3]; exact bel_alloc (Below.refl _ _) _
      have hleyh : Hid (g + 1 + 1 ≤ yh) := by unfold Hid; rw [← hyh]; exact LB.out
      replace bt := (hb.block (g) (lt_of_block bt)).trans bt
      replace br := (hb.block (g + 1) (lt_of_block br)).trans br
      replace HO : Hid (OT (g + 1 + 1) w3 y m S F v) := HO.out.below hb
      replace HB : Hid (Below w.heap.size w w3) := bel_step HB.out hb
      replace LB : Hid (g + 1 + 1 ≤ w3.heap.size) := Nat.le_trans LB.out hb.size
      have bh : w3.heap[yh]? = some (.cells #[.bool H0.u, .int .i64 H0.r, .int .i64 H0.p, .bool H0.o, .int .i64 H0.l, .int .i64 H0.s] 28 (0, 0)) := by rw [← hNw3, ← hyh]; exact heap_alloc_new _ _
      clear hb
      have hr2 : (H0.r == res) = false := by simpa using hne
      clear hne
      have ph0 : w3.cell? ⟨yh, 0, none⟩ = some (.bool H0.u) := (cell_of_block bh 0).trans rfl
      have ph1 : w3.cell? ⟨yh, 1, none⟩ = some (.int .i64 H0.r) := (cell_of_block bh 1).trans rfl
      have ph2 : w3.cell? ⟨yh, 2, none⟩ = some (.int .i64 H0.p) := (cell_of_block bh 2).trans rfl
      have ph3 : w3.cell? ⟨yh, 3, none⟩ = some (.bool H0.o) := (cell_of_block bh 3).trans rfl
      have ph4 : w3.cell? ⟨yh, 4, none⟩ = some (.int .i64 H0.l) := (cell_of_block bh 4).trans rfl
      have ph5 : w3.cell? ⟨yh, 5, none⟩ = some (.int .i64 H0.s) := (cell_of_block bh 5).trans rfl
      have pr0 : w3.cell? ⟨g + 1, 0, none⟩ = some (.bool false) := (cell_of_block br 0).trans rfl
      have pr1 : w3.cell? ⟨g + 1, 1, none⟩ = some (.int .i64 0) := (cell_of_block br 1).trans rfl
      have pr2 : w3.cell? ⟨g + 1, 2, none⟩ = some (.int .i64 0) := (cell_of_block br 2).trans rfl
      have pr3 : w3.cell? ⟨g + 1, 3, none⟩ = some (.bool false) := (cell_of_block br 3).trans rfl
      have pr4 : w3.cell? ⟨g + 1, 4, none⟩ = some (.int .i64 0) := (cell_of_block br 4).trans rfl
      have pr5 : w3.cell? ⟨g + 1, 5, none⟩ = some (.int .i64 0) := (cell_of_block br 5).trans rfl
      have fr0 := free_of_block br 0
      have fr1 := free_of_block br 1
      have fr2 := free_of_block br 2
      have fr3 := free_of_block br 3
      have fr4 := free_of_block br 4
      have fr5 := free_of_block br 5
      obtain ⟨w4, hNw4⟩ : ∃ G, ((((((w3.setCell ⟨g + 1, 0, none⟩ (.bool false)).setCell ⟨g + 1, 1, none⟩ (.int .i64 0)).setCell ⟨g + 1, 2, none⟩ (.int .i64 0)).setCell ⟨g + 1, 3, none⟩ (.bool false)).setCell ⟨g + 1, 4, none⟩ (.int .i64 0)).setCell ⟨g + 1, 5, none⟩ (.int .i64 0)) = G := ⟨_, rfl⟩
      obtain ⟨s1, s2, s3, s4⟩ := set6T br _ _ _ _ _ _ hNw4
      replace bt := (s2 (g) (by omega)).trans bt
      replace bh := (s2 (yh) (by have := hleyh.out; omega)).trans bh
      replace HO : Hid (OT (g + 1 + 1) w4 y m S F v) := HO.out.same (fun q hq => s2 q (by omega))
      replace HB : Hid (Below w.heap.size w w4) := s4 _ _ (by have := HBV.out.2; omega) HB.out
      replace LB : Hid (g + 1 + 1 ≤ w4.heap.size) := by unfold Hid; rw [s3]; exact LB.out
      replace br := s1
      clear s1 s2 s3 s4
      have hpost : HofPost w S F x res zH 3 (.returned (.tuple #[.pointer (some ⟨y, 0, none⟩), .agg #[.bool false, .int .i64 0, .int .i64 0, .bool false, .int .i64 0, .int .i64 0], .int .i64 3])) w4 := ⟨HB.out, y, m, rfl, .inl ⟨HF.out.1, HF.out.2, v, HO.out.base (by have := HZV.out; omega)⟩⟩
      have zr0 : w4.cell? ⟨g + 1, 0, none⟩ = some (.bool false) := (cell_of_block br 0).trans rfl
      have zr1 : w4.cell? ⟨g + 1, 1, none⟩ = some (.int .i64 0) := (cell_of_block br 1).trans rfl
      have zr2 : w4.cell? ⟨g + 1, 2, none⟩ = some (.int .i64 0) := (cell_of_block br 2).trans rfl
      have zr3 : w4.cell? ⟨g + 1, 3, none⟩ = some (.bool false) := (cell_of_block br 3).trans rfl
      have zr4 : w4.cell? ⟨g + 1, 4, none⟩ = some (.int .i64 0) := (cell_of_block br 4).trans rfl
      have zr5 : w4.cell? ⟨g + 1, 5, none⟩ = some (.int .i64 0) := (cell_of_block br 5).trans rfl
      go_wp2
      exact bodyPost_ret (v := .tuple #[.pointer (some ⟨y, 0, none⟩), .agg #[.bool false, .int .i64 0, .int .i64 0, .bool false, .int .i64 0, .int .i64 0], .int .i64 3]) (by simp [results, Try.results29, go_sem, zr0, zr1, zr2, zr3, zr4, zr5]) rfl hpost
    · obtain ⟨yh, hyh⟩ : ∃ z, w2.heap.size = z := ⟨_, rfl⟩
      obtain ⟨w3, hNw3⟩ : ∃ W, w2.alloc (.cells #[.bool H.u, .int .i64 H.r, .int .i64 H.p, .bool H.o, .int .i64 H.l, .int .i64 H.s] 28) = W := ⟨_, rfl⟩
      have hb : Below w2.heap.size w2 w3 := by rw [← hNw3]; exact bel_alloc (Below.refl _ _) _
      have hleyh : Hid (g + 1 + 1 ≤ yh) := by unfold Hid; rw [← hyh]; exact LB.out
      replace bt := (hb.block (g) (lt_of_block bt)).trans bt
      replace br := (hb.block (g + 1) (lt_of_block br)).trans br
      replace HO : Hid (OT (g + 1 + 1) w3 y m S F v) := HO.out.below hb
      replace HB : Hid (Below w.heap.size w w3) := bel_step HB.out hb
      replace LB : Hid (g + 1 + 1 ≤ w3.heap.size) := Nat.le_trans LB.out hb.size
      have bh : w3.heap[yh]? = some (.cells #[.bool H.u, .int .i64 H.r, .int .i64 H.p, .bool H.o, .int .i64 H.l, .int .i64 H.s] 28 (0, 0)) := by rw [← hNw3, ← hyh]; exact heap_alloc_new _ _
      clear hb
      have hr2 : (H.r == res) = true := by simpa using heq
      clear heq
      have ph0 : w3.cell? ⟨yh, 0, none⟩ = some (.bool H.u) := (cell_of_block bh 0).trans rfl
      have ph1 : w3.cell? ⟨yh, 1, none⟩ = some (.int .i64 H.r) := (cell_of_block bh 1).trans rfl
      have ph2 : w3.cell? ⟨yh, 2, none⟩ = some (.int .i64 H.p) := (cell_of_block bh 2).trans rfl
      have ph3 : w3.cell? ⟨yh, 3, none⟩ = some (.bool H.o) := (cell_of_block bh 3).trans rfl
      have ph4 : w3.cell? ⟨yh, 4, none⟩ = some (.int .i64 H.l) := (cell_of_block bh 4).trans rfl
      have ph5 : w3.cell? ⟨yh, 5, none⟩ = some (.int .i64 H.s) := (cell_of_block bh 5).trans rfl
      go_wp2
      clear hNw3 hyh ph0 ph1 ph2 ph3 ph4 ph5
      refine wh_begin (fun w' : World => w'.heap[yh]? = some (.cells #[.bool H.u, .int .i64 H.r, .int .i64 H.p, .bool H.o, .int .i64 H.l, .int .i64 H.s] 28 (0, 0))) (by kernel_rfl) ?_
      obtain ⟨w4, hD⟩ : ∃ W, w3.drew = W := ⟨_, rfl⟩
      have hb : Below w3.heap.size w3 w4 := by rw [← hD]; exact (Below.refl _ _).drew
      rw [hD]
      replace bt := (hb.block (g) (lt_of_block bt)).trans bt
      replace br := (hb.block (g + 1) (lt_of_block br)).trans br
      replace bh := (hb.block (yh) (lt_of_block bh)).trans bh
      replace HO : Hid (OT (g + 1 + 1) w4 y m S F v) := HO.out.below hb
      replace HB : Hid (Below w.heap.size w w4) := bel_step HB.out hb
      replace LB : Hid (g + 1 + 1 ≤ w4.heap.size) := Nat.le_trans LB.out hb.size
      clear hb hD
      refine wh_take 0 (some 38) (.pointer (some ⟨y, 0, none⟩)) rfl rfl (by kernel_rfl) (by kernel_rfl) (by kernel_rfl) (fun _ _ _ h => h) bh (by rfl) (fun _ _ => by kernel_rfl) ?_
      simp only [Act.put, List.setIfInBounds_toArray, List.set_cons_zero, List.set_cons_succ]
      refine wh_take 1 (some 39) (.agg #[.bool H.u, .int .i64 H.r, .int .i64 H.p, .bool H.o, .int .i64 H.l, .int .i64 H.s]) rfl rfl (by kernel_rfl) (by kernel_rfl) (by kernel_rfl) (fun _ _ _ h => h) bh (by rfl) (fun w' hS => by have hq : w'.heap[yh]? = some (.cells #[.bool H.u, .int .i64 H.r, .int .i64 H.p, .bool H.o, .int .i64 H.l, .int .i64 H.s] 28 (0, 0)) := hS; have q0 : w'.cell? ⟨yh, 0, none⟩ = some (.bool H.u) := (cell_of_block hq 0).trans rfl; have q1 : w'.cell? ⟨yh, 1, none⟩ = some (.int .i64 H.r) := (cell_of_block hq 1).trans rfl; have q2 : w'.cell? ⟨yh, 2, none⟩ = some (.int .i64 H.p) := (cell_of_block hq 2).trans rfl; have q3 : w'.cell? ⟨yh, 3, none⟩ = some (.bool H.o) := (cell_of_block hq 3).trans rfl; have q4 : w'.cell? ⟨yh, 4, none⟩ = some (.int .i64 H.l) := (cell_of_block hq 4).trans rfl; have q5 : w'.cell? ⟨yh, 5, none⟩ = some (.int .i64 H.s) := (cell_of_block hq 5).trans rfl; clear hq hS; go_simp) ?_
      simp only [Act.put, List.setIfInBounds_toArray, List.set_cons_zero, List.set_cons_succ]
      refine wh_take 2 (some 40) (.int .i64 0) rfl rfl (by kernel_rfl) (by kernel_rfl) (by kernel_rfl) (fun _ _ _ h => h) bh (by rfl) (fun _ _ => by kernel_rfl) ?_
      simp only [Act.put, List.setIfInBounds_toArray, List.set_cons_zero, List.set_cons_succ]
      refine wh_val 3 (some 6) (.pointer (some ⟨y, 0, none⟩)) w4 (by kernel_rfl) rfl rfl (by rfl) (by rfl) bh ?_
      simp only [Act.put, List.setIfInBounds_toArray, List.set_cons_zero, List.set_cons_succ]
      have pr0 : w4.cell? ⟨g + 1, 0, none⟩ = some (.bool false) := (cell_of_block br 0).trans rfl
      have pr1 : w4.cell? ⟨g + 1, 1, none⟩ = some (.int .i64 0) := (cell_of_block br 1).trans rfl
      have pr2 : w4.cell? ⟨g + 1, 2, none⟩ = some (.int .i64 0) := (cell_of_block br 2).trans rfl
      have pr3 : w4.cell? ⟨g + 1, 3, none⟩ = some (.bool false) := (cell_of_block br 3).trans rfl
      have pr4 : w4.cell? ⟨g + 1, 4, none⟩ = some (.int .i64 0) := (cell_of_block br 4).trans rfl
      have pr5 : w4.cell? ⟨g + 1, 5, none⟩ = some (.int .i64 0) := (cell_of_block br 5).trans rfl
      have fr0 := free_of_block br 0
      have fr1 := free_of_block br 1
      have fr2 := free_of_block br 2
      have fr3 := free_of_block br 3
      have fr4 := free_of_block br 4
      have fr5 := free_of_block br 5
      obtain ⟨w5, hNw5⟩ : ∃ G, ((((((w4.setCell ⟨g + 1, 0, none⟩ (.bool H.u)).setCell ⟨g + 1, 1, none⟩ (.int .i64 H.r)).setCell ⟨g + 1, 2, none⟩ (.int .i64 H.p)).setCell ⟨g + 1, 3, none⟩ (.bool H.o)).setCell ⟨g + 1, 4, none⟩ (.int .i64 H.l)).setCell ⟨g + 1, 5, none⟩ (.int .i64 H.s)) = G := ⟨_, rfl⟩
      obtain ⟨s1, s2, s3, s4⟩ := set6T br _ _ _ _ _ _ hNw5
      replace bt := (s2 (g) (by omega)).trans bt
      replace bh := (s2 (yh) (by have := hleyh.out; omega)).trans bh
      replace HO : Hid (OT (g + 1 + 1) w5 y m S F v) := HO.out.same (fun q hq => s2 q (by omega))
      replace HB : Hid (Below w.heap.size w w5) := s4 _ _ (by have := HBV.out.2; omega) HB.out
      replace LB : Hid (g + 1 + 1 ≤ w5.heap.size) := by unfold Hid; rw [s3]; exact LB.out
      replace br := s1
      clear s1 s2 s3 s4
      refine wh_skip 4 none w5 (by kernel_rfl) rfl rfl (by rfl) (by rw [← hNw5]; go_simp) bh ?_
      simp only [Act.put]
      clear pr0 pr1 pr2 pr3 pr4 pr5 fr0 fr1 fr2 fr3 fr4 fr5 hNw5
      refine wh_val 5 (some 8) (.int .i64 0) w5 (by kernel_rfl) rfl rfl (by rfl) (by rfl) bh ?_
      simp only [Act.put, List.setIfInBounds_toArray, List.set_cons_zero, List.set_cons_succ]
      refine wh_done (by kernel_rfl) ?_
      have hpost : HofPost w S F x res H 0 (.returned (.tuple #[.pointer (some ⟨y, 0, none⟩), .agg #[.bool H.u, .int .i64 H.r, .int .i64 H.p, .bool H.o, .int .i64 H.l, .int .i64 H.s], .int .i64 0])) w5 := ⟨HB.out, y, m, rfl, .inl ⟨HF.out.1, HF.out.2, v, HO.out.base (by have := HZV.out; omega)⟩⟩
      have zr0 : w5.cell? ⟨g + 1, 0, none⟩ = some (.bool H.u) := (cell_of_block br 0).trans rfl
      have zr1 : w5.cell? ⟨g + 1, 1, none⟩ = some (.int .i64 H.r) := (cell_of_block br 1).trans rfl
      have zr2 : w5.cell? ⟨g + 1, 2, none⟩ = some (.int .i64 H.p) := (cell_of_block br 2).trans rfl
      have zr3 : w5.cell? ⟨g + 1, 3, none⟩ = some (.bool H.o) := (cell_of_block br 3).trans rfl
      have zr4 : w5.cell? ⟨g + 1, 4, none⟩ = some (.int .i64 H.l) := (cell_of_block br 4).trans rfl
      have zr5 : w5.cell? ⟨g + 1, 5, none⟩ = some (.int .i64 H.s) := (cell_of_block br 5).trans rfl
      go_wp2
      exact bodyPost_ret (v := .tuple #[.pointer (some ⟨y, 0, none⟩), .agg #[.bool H.u, .int .i64 H.r, .int .i64 H.p, .bool H.o, .int .i64 H.l, .int .i64 H.s], .int .i64 0]) (by simp [results, Try.results29, go_sem, zr0, zr1, zr2, zr3, zr4, zr5]) rfl hpost
  · rw [HZV.out.1] at hot
    have HN : Hid (¬ GoodT S F ∧ H = zH ∧ C = 1) := by
      rcases hf with h | h
      · exact absurd h.1 hgd
      · exact h
    obtain ⟨_, rfl, rfl⟩ := HN.out
    have HO : Hid (OT (g + 1 + 1) w1 y m [] [] (.slice none 0 0)) := hot
    clear hot hgd hf
    have pr0 : w1.cell? ⟨g + 1, 0, none⟩ = some (.bool false) := (cell_of_block br 0).trans rfl
    have pr1 : w1.cell? ⟨g + 1, 1, none⟩ = some (.int .i64 0) := (cell_of_block br 1).trans rfl
    have pr2 : w1.cell? ⟨g + 1, 2, none⟩ = some (.int .i64 0) := (cell_of_block br 2).trans rfl
    have pr3 : w1.cell? ⟨g + 1, 3, none⟩ = some (.bool false) := (cell_of_block br 3).trans rfl
    have pr4 : w1.cell? ⟨g + 1, 4, none⟩ = some (.int .i64 0) := (cell_of_block br 4).trans rfl
    have pr5 : w1.cell? ⟨g + 1, 5, none⟩ = some (.int .i64 0) := (cell_of_block br 5).trans rfl
    have fr0 := free_of_block br 0
    have fr1 := free_of_block br 1
    have fr2 := free_of_block br 2
    have fr3 := free_of_block br 3
    have fr4 := free_of_block br 4
    have fr5 := free_of_block br 5
    obtain ⟨w2, hNw2⟩ : ∃ G, ((((((w1.setCell ⟨g + 1, 0, none⟩ (.bool false)).setCell ⟨g + 1, 1, none⟩ (.int .i64 0)).setCell ⟨g + 1, 2, none⟩ (.int .i64 0)).setCell ⟨g + 1, 3, none⟩ (.bool false)).setCell ⟨g + 1, 4, none⟩ (.int .i64 0)).setCell ⟨g + 1, 5, none⟩ (.int .i64 0)) = G := ⟨_, rfl⟩
    obtain ⟨s1, s2, s3, s4⟩ := set6T br _ _ _ _ _ _ hNw2
    replace bt := (s2 (g) (by omega)).trans bt
    replace HO : Hid (OT (g + 1 + 1) w2 y m [] [] (.slice none 0 0)) := HO.out.same (fun q hq => s2 q (by omega))
    replace HB : Hid (Below w.heap.size w w2) := s4 _ _ (by have := HBV.out.2; omega) HB.out
    replace LB : Hid (g + 1 + 1 ≤ w2.heap.size) := by unfold Hid; rw [s3]; exact LB.out
    replace br := s1
    clear s1 s2 s3 s4
    have zr0 : w2.cell? ⟨g + 1, 0, none⟩ = some (.bool false) := (cell_of_block br 0).trans rfl
    have zr1 : w2.cell? ⟨g + 1, 1, none⟩ = some (.int .i64 0) := (cell_of_block br 1).trans rfl
    have zr2 : w2.cell? ⟨g + 1, 2, none⟩ = some (.int .i64 0) := (cell_of_block br 2).trans rfl
    have zr3 : w2.cell? ⟨g + 1, 3, none⟩ = some (.bool false) := (cell_of_block br 3).trans rfl
    have zr4 : w2.cell? ⟨g + 1, 4, none⟩ = some (.int .i64 0) := (cell_of_block br 4).trans rfl
    have zr5 : w2.cell? ⟨g + 1, 5, none⟩ = some (.int .i64 0) := (cell_of_block br 5).trans rfl
    go_wp2
    exact bodyPost_ret (v := .tuple #[.pointer (some ⟨y, 0, none⟩), .agg #[.bool false, .int .i64 0, .int .i64 0, .bool false, .int .i64 0, .int .i64 0], .int .i64 1]) (by simp [results, Try.results29, go_sem, zr0, zr1, zr2, zr3, zr4, zr5]) rfl ⟨HB.out, y, m, rfl, .inr ⟨HN.out.1, rfl, rfl, HO.out.base (by have := HZV.out; omega)⟩⟩

set_option maxRecDepth 100000 in
set_option maxHeartbeats 1600000 in
theorem implFindH (a b : Option Addr) (c d : Nat) (S : List Hd) (F : List Int) (x res : Int) (H : Hd) (C : Int) (w : World) (hS : Hid (Hds w a S)) (hF : Hid (Ints w b F)) (lS : S.length ≤ 1048576) (lF : F.length ≤ 1048576) (okF : Hid (∀ x ∈ F, -9223372036854775808 ≤ x ∧ x ≤ 9223372036854775807)) (hf : FindR S F x res H C) :
    Calls Try.prog 9 #[tabV a S.length c b F.length d, .int .i64 x, .int .i64 res] w fun e w' => e = .returned (.tuple #[hdV H, .int .i64 C]) ∧ Below w.heap.size w w' := by
  obtain ⟨g, hg⟩ : ∃ g, w.heap.size = g := ⟨_, rfl⟩
  obtain ⟨V, hV⟩ : ∃ W, ((w.alloc (.cells #[.slice a S.length c, .slice b F.length d] 26)).alloc (.cells #[.bool false, .int .i64 0, .int .i64 0, .bool false, .int .i64 0, .int .i64 0] 28)) = W := ⟨_, rfl⟩
  have hbV : Below w.heap.size w V := by rw [← hV]; exact (bel_alloc (bel_alloc (Below.refl _ _) _) _)
  have hzV : V.heap.size = g + 1 + 1 := by rw [← hV, ← hg]; simp
  have bt : V.heap[g]? = some (.cells #[.slice a S.length c, .slice b F.length d] 26 (0, 0)) := by
    have h := heap_alloc_new w (.cells #[.slice a S.length c, .slice b F.length d] 26)
    have e : w.heap.size = g := by exact hg
    rw [e] at h
    rw [← hV]
    replace h := (Below.heap_alloc _ (.cells #[.bool false, .int .i64 0, .int .i64 0, .bool false, .int .i64 0, .int .i64 0] 28) _ (lt_of_block h)).trans h
    exact h
  have br : V.heap[g + 1]? = some (.cells #[.bool false, .int .i64 0, .int .i64 0, .bool false, .int .i64 0, .int .i64 0] 28 (0, 0)) := by
    have h := heap_alloc_new (w.alloc (.cells #[.slice a S.length c, .slice b F.length d] 26)) (.cells #[.bool false, .int .i64 0, .int .i64 0, .bool false, .int .i64 0, .int .i64 0] 28)
    have e : (w.alloc (.cells #[.slice a S.length c, .slice b F.length d] 26)).heap.size = g + 1 := by simp [hg]
    rw [e] at h
    rw [← hV]
    exact h
  have HBV : Hid (Below w.heap.size w V ∧ w.heap.size = g) := ⟨hbV, hg⟩
  have HB : Hid (Below w.heap.size w V) := hbV
  have LB : Hid (g + 1 + 1 ≤ V.heap.size) := Nat.le_of_eq hzV.symm
  have OP := implHof a b c d S F x res H C V (hS.out.below hbV) (hF.out.below hbV) lS lF okF hf
  unfold tabV at OP ⊢
  unfold hdV
  clear hbV hzV hS hF lS lF okF hf
  have pt0 : V.cell? ⟨g, 0, none⟩ = some (.slice a S.length c) := (cell_of_block bt 0).trans rfl
  have pt1 : V.cell? ⟨g, 1, none⟩ = some (.slice b F.length d) := (cell_of_block bt 1).trans rfl
  go_enter Try.func9, Try.ntmps9
  go_wp2_with fail
  clear hV hg pt0 pt1
  refine (OP).mono ?_
  rintro e w1 ⟨hb, y, m, h⟩
  obtain ⟨rfl, _⟩ := h
  replace bt := (hb.block (g) (lt_of_block bt)).trans bt
  replace br := (hb.block (g + 1) (lt_of_block br)).trans br
  replace HB : Hid (Below w.heap.size w w1) := bel_step HB.out hb
  replace LB : Hid (g + 1 + 1 ≤ w1.heap.size) := Nat.le_trans LB.out hb.size
  clear hb
  clear OP
  obtain ⟨yh, hyh⟩ : ∃ z, w1.heap.size = z := ⟨_, rfl⟩
  obtain ⟨w2, hNw2⟩ : ∃ W, w1.alloc (.cells #[.bool H.u, .int .i64 H.r, .int .i64 H.p, .bool H.o, .int .i64 H.l, .int .i64 H.s] 28) = W := ⟨_, rfl⟩
  have hb : Below w1.heap.size w1 w2 := by rw [← hNw2]; exact bel_alloc (Below.refl _ _) _
  have hleyh : Hid (g + 1 + 1 ≤ yh) := by unfold Hid; rw [← hyh]; exact LB.out
  replace bt := (hb.block (g) (lt_of_block bt)).trans bt
  replace br := (hb.block (g + 1) (lt_of_block br)).trans br
  replace HB : Hid (Below w.heap.size w w2) := bel_step HB.out hb
  replace LB : Hid (g + 1 + 1 ≤ w2.heap.size) := Nat.le_trans LB.out hb.size
  have bh : w2.heap[yh]? = some (.cells #[.bool H.u, .int .i64 H.r, .int .i64 H.p, .bool H.o, .int .i64 H.l, .int .i64 H.s] 28 (0, 0)) := by rw [← hNw2, ← hyh]; exact heap_alloc_new _ _
  clear hb
  have ph0 : w2.cell? ⟨yh, 0, none⟩ = some (.bool H.u) := (cell_of_block bh 0).trans rfl
  have ph1 : w2.cell? ⟨yh, 1, none⟩ = some (.int .i64 H.r) := (cell_of_block bh 1).trans rfl
  have ph2 : w2.cell? ⟨yh, 2, none⟩ = some (.int .i64 H.p) := (cell_of_block bh 2).trans rfl
  have ph3 : w2.cell? ⟨yh, 3, none⟩ = some (.bool H.o) := (cell_of_block bh 3).trans rfl
  have ph4 : w2.cell? ⟨yh, 4, none⟩ = some (.int .i64 H.l) := (cell_of_block bh 4).trans rfl
  have ph5 : w2.cell? ⟨yh, 5, none⟩ = some (.int .i64 H.s) := (cell_of_block bh 5).trans rfl
  have pr0 : w2.cell? ⟨g + 1, 0, none⟩ = some (.bool false) := (cell_of_block br 0).trans rfl
  have pr1 : w2.cell? ⟨g + 1, 1, none⟩ = some (.int .i64 0) := (cell_of_block br 1).trans rfl
  have pr2 : w2.cell? ⟨g + 1, 2, none⟩ = some (.int .i64 0) := (cell_of_block br 2).trans rfl
  have pr3 : w2.cell? ⟨g + 1, 3, none⟩ = some (.bool false) := (cell_of_block br 3).trans rfl
  have pr4 : w2.cell? ⟨g + 1, 4, none⟩ = some (.int .i64 0) := (cell_of_block br 4).trans rfl
  have pr5 : w2.cell? ⟨g + 1, 5, none⟩ = some (.int .i64 0) := (cell_of_block br 5).trans rfl
  have fr0 := free_of_block br 0
  have fr1 := free_of_block br 1
  have fr2 := free_of_block br 2
  have fr3 := free_of_block br 3
  have fr4 := free_of_block br 4
  have fr5 := free_of_block br 5
  obtain ⟨w3, hNw3⟩ : ∃ G, ((((((w2.setCell ⟨g + 1, 0, none⟩ (.bool H.u)).setCell ⟨g + 1, 1, none⟩ (.int .i64 H.r)).setCell ⟨g + 1, 2, none⟩ (.int .i64 H.p)).setCell ⟨g + 1, 3, none⟩ (.bool H.o)).setCell ⟨g + 1, 4, none⟩ (.int .i64 H.l)).setCell ⟨g + 1, 5, none⟩ (.int .i64 H.s)) = G := ⟨_, rfl⟩
  obtain ⟨s1, s2, s3, s4⟩ := set6T br _ _ _ _ _ _ hNw3
  replace bt := (s2 (g) (by omega)).trans bt
  replace bh := (s2 (yh) (by have := hleyh.out; omega)).trans bh
  replace HB : Hid (Below w.heap.size w w3) := s4 _ _ (by have := HBV.out.2; omega) HB.out
  replace LB : Hid (g + 1 + 1 ≤ w3.heap.size) := by unfold Hid; rw [s3]; exact LB.out
  replace br := s1
  clear s1 s2 s3 s4
  unfold hdV
  have zr0 : w3.cell? ⟨g + 1, 0, none⟩ = some (.bool H.u) := (cell_of_block br 0).trans rfl
  have zr1 : w3.cell? ⟨g + 1, 1, none⟩ = some (.int .i64 H.r) := (cell_of_block br 1).trans rfl
  have zr2 : w3.cell? ⟨g + 1, 2, none⟩ = some (.int .i64 H.p) := (cell_of_block br 2).trans rfl
  have zr3 : w3.cell? ⟨g + 1, 3, none⟩ = some (.bool H.o) := (cell_of_block br 3).trans rfl
  have zr4 : w3.cell? ⟨g + 1, 4, none⟩ = some (.int .i64 H.l) := (cell_of_block br 4).trans rfl
  have zr5 : w3.cell? ⟨g + 1, 5, none⟩ = some (.int .i64 H.s) := (cell_of_block br 5).trans rfl
  go_wp2
  exact bodyPost_ret (v := .tuple #[.agg #[.bool H.u, .int .i64 H.r, .int .i64 H.p, .bool H.o, .int .i64 H.l, .int .i64 H.s], .int .i64 C]) (by simp [results, Try.results9, go_sem, zr0, zr1, zr2, zr3, zr4, zr5]) rfl ⟨rfl, HB.out⟩

end Go.Proofs.Ytjielcilcningaa
