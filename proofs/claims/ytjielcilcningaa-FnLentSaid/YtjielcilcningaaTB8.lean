/-
  A table is opened, or found not good: the program's side, whole.
-/
import Derived.Test.YtjielcilcningaaTB7
namespace Go.Proofs.Ytjielcilcningaa
open Go.ChangeShapes Go.WideShapes Go.ChangeAt Go.RowKit Go.Maps

set_option maxRecDepth 100000 in
set_option maxHeartbeats 800000 in
theorem implEmpty (B x m : Nat) (v : Value) (F : List Int) (w : World) (hxb : Hid (w.heap[x]? = some (.cells #[v, .map (some m)] 63 (0, 0)))) (hfm : Hid (FreeM w m F)) (hx : Hid (B ≤ x)) (hm : Hid (B ≤ m)) (hBw : B ≤ w.heap.size) :
    Calls Try.prog 39 #[.pointer (some ⟨x, 0, none⟩)] w fun e w' => e = .returned (.tuple #[]) ∧ OT B w' x m [] [] (.slice none 0 0) ∧ Below B w w' := by
  have c0 : w.cell? ⟨x, 0, none⟩ = some v := (cell_of_block hxb.out 0).trans rfl
  have f0 := free_of_block hxb.out 0
  obtain ⟨W, hW⟩ : ∃ W, w.setCell ⟨x, 0, none⟩ (.slice none 0 0) = W := ⟨_, rfl⟩
  have hxW : W.heap[x]? = some (.cells #[.slice none 0 0, .map (some m)] 63 (0, 0)) := by rw [← hW]; exact heap_setCell_same _ _ _ _ _ _ hxb.out
  have hfW : FreeM W m F := by rw [← hW]; exact hfm.out.kept (heap_setCell_other _ ⟨x, 0, none⟩ m _ (fun e => map_ne hxb.out hfm.out e.symm))
  have c1 : W.cell? ⟨x, 1, none⟩ = some (.map (some m)) := (cell_of_block hxW 1).trans rfl
  obtain ⟨w2, hcl, hf2, ht2⟩ := hfW.clear 0
  have HO : Hid (OT B w2 x m [] [] (.slice none 0 0)) := by
    have h : OT B W x m [] F (.slice none 0 0) := ⟨hx.out, hm.out, hxW, World.ownsRow_nil _ _ _ _, hfW⟩
    exact h.turned ht2 hf2
  have HB : Hid (Below B w w2) := turned_below (B := B) (by rw [← hW]; exact (Below.refl _ _).setCell hx.out _) ht2 hm.out (by rw [← hW]; simpa using hBw)
  clear hxW hfW hf2 ht2 hxb hfm
  go_enter Try.func39, Try.ntmps39
  go_wp2
  go_end0
  exact ⟨rfl, HO.out, HB.out⟩

/-- What the opening of a table tells, and what it leaves. -/
def OpenPost (w : World) (S : List Hd) (F : List Int) (e : Ending) (w' : World) : Prop :=
  Below w.heap.size w w' ∧ ∃ x m, (e = .returned (.tuple #[.pointer (some ⟨x, 0, none⟩), .bool true]) ∧ GoodT S F ∧ ∃ v, OT w.heap.size w' x m S F v) ∨ (e = .returned (.tuple #[.pointer (some ⟨x, 0, none⟩), .bool false]) ∧ ¬ GoodT S F ∧ OT w.heap.size w' x m [] [] (.slice none 0 0))

set_option maxRecDepth 100000 in
set_option maxHeartbeats 1600000 in
theorem implOpen (a b : Option Addr) (c d : Nat) (S : List Hd) (F : List Int) (w : World) (hS : Hid (Hds w a S)) (hF : Hid (Ints w b F)) (lS : S.length ≤ 1048576) (lF : F.length ≤ 1048576) (okF : Hid (∀ x ∈ F, -9223372036854775808 ≤ x ∧ x ≤ 9223372036854775807)) :
    Calls Try.prog 20 #[tabV a S.length c b F.length d] w fun e w' => OpenPost w S F e w' := by
  have hmm := @run_makeMap Try.prog
  obtain ⟨g, hg⟩ : ∃ g, w.heap.size = g := ⟨_, rfl⟩
  obtain ⟨W, hW⟩ : ∃ W, ((w.alloc (.cells #[.slice a S.length c, .slice b F.length d] 26)).alloc (.map #[] 0)).alloc (.cells #[.slice none 0 0, .map (some (g + 1))] 63) = W := ⟨_, rfl⟩
  have hbW : Below w.heap.size w W := by rw [← hW]; exact bel_alloc (bel_alloc (bel_alloc (Below.refl _ _) _) _) _
  have hpW : W.heap[g]? = some (.cells #[.slice a S.length c, .slice b F.length d] 26 (0, 0)) := by
    rw [← hW, ← hg]; exact ((Below.heap_alloc _ _ _ (by simp; omega)).trans (Below.heap_alloc _ _ _ (by simp))).trans (heap_alloc_new _ _)
  have hfW : FreeM W (g + 1) [] := by
    have h := freeM_made (w.alloc (.cells #[.slice a S.length c, .slice b F.length d] 26))
    have e : (w.alloc (.cells #[.slice a S.length c, .slice b F.length d] 26)).heap.size = g + 1 := by rw [← hg]; simp
    rw [e] at h
    rw [← hW]
    exact h.kept (Below.heap_alloc _ _ _ h.lt)
  have hxW : W.heap[g + 1 + 1]? = some (.cells #[.slice none 0 0, .map (some (g + 1))] 63 (0, 0)) := by
    have h := heap_alloc_new ((w.alloc (.cells #[.slice a S.length c, .slice b F.length d] 26)).alloc (.map #[] 0)) (.cells #[.slice none 0 0, .map (some (g + 1))] 63)
    rw [← hW]
    have e : ((w.alloc (.cells #[.slice a S.length c, .slice b F.length d] 26)).alloc (.map #[] 0)).heap.size = g + 1 + 1 := by rw [← hg]; simp
    rw [e] at h
    exact h
  have R := implRead w (g + 1 + 1) (g + 1) a b c d S F W hS hF lS lF okF hbW (by unfold Hid; omega) (by unfold Hid; omega) hxW hfW
  have p0 : W.cell? ⟨g, 0, none⟩ = some (.slice a S.length c) := (cell_of_block hpW 0).trans rfl
  have p1 : W.cell? ⟨g, 1, none⟩ = some (.slice b F.length d) := (cell_of_block hpW 1).trans rfl
  have HG : Hid (w.heap.size = g) := hg
  unfold tabV at R ⊢
  obtain ⟨n, hn⟩ : ∃ n, S.length = n := ⟨_, rfl⟩
  obtain ⟨k0, hk0⟩ : ∃ m, F.length = m := ⟨_, rfl⟩
  rw [hn] at R p0 hW ⊢
  rw [hk0] at R p1 hW ⊢
  clear hS hF lS lF okF hbW hpW hfW hxW hn hk0
  go_enter Try.func20, Try.ntmps20
  go_wp2_with fail
  clear hW hmm p0 p1
  refine R.mono ?_
  rintro e w1 ⟨hb1, h⟩
  have HB1 : Hid (Below w.heap.size w w1) := hb1
  rcases h with ⟨rfl, hgd, v, hot⟩ | ⟨rfl, hgd, v, F', hxb, hfm⟩
  · have H1 : Hid (GoodT S F ∧ OT w.heap.size w1 (g + 1 + 1) (g + 1) S F v) := ⟨hgd, hot⟩
    clear hgd hot hb1 R hg
    go_wp2
    go_ret2
    exact ⟨HB1.out, _, _, .inl ⟨rfl, H1.out.1, v, H1.out.2⟩⟩
  · have E := implEmpty w.heap.size (g + 1 + 1) (g + 1) v F' w1 hxb hfm (by unfold Hid; omega) (by unfold Hid; omega) hb1.size
    have HN : Hid (¬ GoodT S F) := hgd
    clear hgd hb1 R hg hxb hfm
    go_wp2_with fail
    refine E.mono ?_
    rintro e w2 ⟨rfl, hot, hb2⟩
    have H2 : Hid (OT w.heap.size w2 (g + 1 + 1) (g + 1) [] [] (.slice none 0 0) ∧ Below w.heap.size w w2) := ⟨hot, HB1.out.trans hb2⟩
    clear hot hb2 E
    go_wp2
    go_ret2
    exact ⟨H2.out.2, _, _, .inr ⟨rfl, HN.out, H2.out.1⟩⟩

set_option maxRecDepth 100000 in
set_option maxHeartbeats 1600000 in
theorem implGoodT (a b : Option Addr) (c d : Nat) (S : List Hd) (F : List Int) (w : World) (hS : Hid (Hds w a S)) (hF : Hid (Ints w b F)) (lS : S.length ≤ 1048576) (lF : F.length ≤ 1048576) (okF : Hid (∀ x ∈ F, -9223372036854775808 ≤ x ∧ x ≤ 9223372036854775807)) :
    Calls Try.prog 11 #[tabV a S.length c b F.length d] w fun e w' => Tells e (GoodT S F) ∧ Below w.heap.size w w' := by
  obtain ⟨g, hg⟩ : ∃ g, w.heap.size = g := ⟨_, rfl⟩
  have hbW : Below w.heap.size w (w.alloc (.cells #[.slice a S.length c, .slice b F.length d] 26)) := bel_alloc (Below.refl _ _) _
  have O := implOpen a b c d S F _ (hS.out.below hbW) (hF.out.below hbW) lS lF okF
  have HB0 : Hid (Below w.heap.size w (w.alloc (.cells #[.slice a S.length c, .slice b F.length d] 26))) := hbW
  unfold tabV at O ⊢
  obtain ⟨n, hn⟩ : ∃ n, S.length = n := ⟨_, rfl⟩
  obtain ⟨k0, hk0⟩ : ∃ m, F.length = m := ⟨_, rfl⟩
  rw [hn] at O HB0 ⊢
  rw [hk0] at O HB0 ⊢
  clear hS hF lS lF okF hbW hn hk0
  go_enter Try.func11, Try.ntmps11
  go_wp2_with fail
  refine O.mono ?_
  rintro e w1 ⟨hb1, x, m, h⟩
  have HB1 : Hid (Below w.heap.size w w1) := bel_step HB0.out hb1
  rcases h with ⟨rfl, hgd, v, hot⟩ | ⟨rfl, hgd, hot⟩
  · have H1 : Hid (GoodT S F) := hgd
    clear hgd hot hb1 O hg HB0
    go_wp2
    go_ret
    exact ⟨⟨true, rfl, fun _ => H1.out, fun _ => rfl⟩, HB1.out⟩
  · have H1 : Hid (¬ GoodT S F) := hgd
    clear hgd hot hb1 O hg HB0
    go_wp2
    go_ret
    exact ⟨tells_no H1.out, HB1.out⟩

end Go.Proofs.Ytjielcilcningaa
